/- Sound: allowed. -/
import Derived.Test.YtdbjifpnbghbaaaA15
namespace Go.Proofs.Ytdbjifpnbghbaaa
set_option linter.unusedSimpArgs false
set_option linter.unusedVariables false
open Go.RowKit Go.Maps Go.BigFrame

theorem first_in {l : List Pi} (h : lineOk l = true) (x y : Int) (e : Bool) (gr : Int) : 0 ≤ firstF l x y e gr ∧ firstF l x y e gr ≤ endF l + 1 := by
  have h1 := end_in h
  have h2 := search_le (p := foundF l x y e gr) 20 0 (endF l + 1).toNat (Nat.zero_le _)
  unfold firstF
  omega
theorem heard_in {l : List Pi} {h : He} (k : hearOk l h = true) : (0 ≤ h.a ∧ h.a ≤ h.b ∧ h.b ≤ endF l) ∧ -1099511627776 ≤ h.lo ∧ h.lo ≤ h.hi ∧ h.hi ≤ 1099511627776 := by
  unfold hearOk at k
  rw [Bool.and_eq_true, earsF_iff, withinF_iff] at k
  exact k
/-- what allowed has after k rounds -/
def allowUp (l : List Pi) (hs : List He) (k : Nat) : List (Int × Int) := (allowedF l hs).take k ++ List.replicate (hs.length - k) (0, 0)
theorem allowUp_len {l : List Pi} {hs : List He} {k : Nat} (h : k ≤ hs.length) : (allowUp l hs k).length = hs.length := by simp [allowUp, allowedF]; omega
theorem allowUp_0 (l : List Pi) (hs : List He) : allowUp l hs 0 = List.replicate hs.length (0, 0) := by simp [allowUp]
theorem allowUp_all (l : List Pi) (hs : List He) : allowUp l hs hs.length = allowedF l hs := by
  unfold allowUp
  rw [Nat.sub_self, List.replicate_zero, List.append_nil, List.take_of_length_le (by simp [allowedF])]
theorem allowUp_next {l : List Pi} {hs : List He} {k : Nat} (h : k < hs.length) : allowUp l hs (k + 1) = (allowUp l hs k).set k (allowF l (hs.getD k default)) := by
  unfold allowUp allowedF
  have e1 : hs.length - k = (hs.length - (k + 1)) + 1 := by omega
  rw [List.set_append, if_neg (by simp; omega), e1, List.replicate_succ]
  have e2 : k - (List.take k (List.map (allowF l) hs)).length = 0 := by simp; omega
  rw [e2, List.set_cons_zero, List.take_add_one, List.append_assoc]
  simp [List.getD, List.getElem?_eq_getElem h]
set_option maxRecDepth 100000 in
set_option maxHeartbeats 6400000 in
theorem allowed_any (l : List Pi) (hok : lineOk l = true) (v : Value) (hs : List He) (h8 : hs.length ≤ 8) (hho : hs.all (hearOk l) = true) (v2 : Value) (w : World) (hl : TabAt 3 piC w v l) (hh : TabAt 4 heC w v2 hs) : Calls Try.prog 49 #[v, v2] w fun e w' => ∃ R, e = .returned (.slice (some ⟨R, 0, none⟩) hs.length hs.length) ∧ w.heap.size ≤ R ∧ w'.heap[R]? = some (.cells (flatK 2 spC (allowedF l hs)).toArray 24 (0, 0)) ∧ Below w.heap.size w w' := by
  obtain ⟨a, c, rfl⟩ := hl.shape
  obtain ⟨la, lc, rfl⟩ := hh.shape
  have HL := Lib.hid hl
  have HH := Lib.hid hh
  have HHO := Lib.hid (all_iff.1 hho)
  have hei := end_in hok
  have hmk := make_spans h8 w
  obtain ⟨W0, hW0⟩ : ∃ X, X = w.alloc (.cells (flatK 2 spC (List.replicate hs.length (0, 0))).toArray 24) := ⟨_, rfl⟩
  have hr0 : W0.heap[w.heap.size]? = some (.cells (flatK 2 spC (allowUp l hs 0)).toArray 24 (0, 0)) := by rw [allowUp_0, hW0]; exact alloc_heap w _
  have hb0 : Below w.heap.size w W0 := by rw [hW0]; exact (Below.refl _ _).alloc (Nat.le_refl _) _
  rw [← hW0] at hmk
  obtain ⟨R, hR⟩ : ∃ x, w.heap.size = x := ⟨_, rfl⟩
  rw [hR] at hr0 hmk
  have HR := Lib.hid hR
  have H0 := Lib.hid hr0
  have HB0 := Lib.hid hb0
  clear hl hh hho hW0 hr0 hb0 hR
  go_enter Try.func49, Try.ntmps49
  go_wp2_with fail
  clear hmk
  go_loopw [14] (fun i wr => ∃ k : Nat, k ≤ hs.length ∧ i = .int .i64 k ∧ Below w.heap.size w wr ∧ wr.heap[R]? = some (.cells (flatK 2 spC (allowUp l hs k)).toArray 24 (0, 0))) (fun i _ => hs.length - (intOf i).toNat)
  case atStart => exact ⟨0, by omega, rfl, HB0.out, H0.out⟩
  case round =>
    obtain ⟨k, hk, rfl, hbw, hr⟩ := hrel
    by_cases hlt : k < hs.length
    · obtain ⟨lb, lo', e1, hlb, hlx⟩ := HH.out.at (by omega)
      subst e1
      have x0 := (hbw.cell (p := ⟨lb, lo' + k * 4 + 0, none⟩) hlb).trans (hlx k hlt 0 (by omega))
      have x1 := (hbw.cell (p := ⟨lb, lo' + k * 4 + 1, none⟩) hlb).trans (hlx k hlt 1 (by omega))
      have x2 := (hbw.cell (p := ⟨lb, lo' + k * 4 + 2, none⟩) hlb).trans (hlx k hlt 2 (by omega))
      have x3 := (hbw.cell (p := ⟨lb, lo' + k * 4 + 3, none⟩) hlb).trans (hlx k hlt 3 (by omega))
      have hnx := allowUp_next (l := l) hlt
      have hoi := heard_in (HHO.out k hlt)
      obtain ⟨⟨p, q, lo, hi⟩, hrow⟩ : ∃ x : He, hs.getD k default = x := ⟨_, rfl⟩
      rw [hrow] at x0 x1 x2 x3 hnx hoi
      simp only [Nat.add_zero, heC] at x0 x1 x2 x3
      simp only [] at hoi
      have hlen := allowUp_len (l := l) (hs := hs) (k := k) (by omega)
      have haf : allowF l ⟨p, q, lo, hi⟩ = (firstF l p q true lo, firstF l p q false (hi + 1) - 1) := rfl
      rw [haf] at hnx
      have K1 := Lib.hid (fun X hX => first_greatest l hok a c p q lo X hX)
      have K2 := Lib.hid (fun X hX => first_least l hok a c p q (hi + 1) X hX)
      have hf1 := first_in hok p q true lo
      have hf2 := first_in hok p q false (hi + 1)
      obtain ⟨f1, hff1⟩ : ∃ f, firstF l p q true lo = f := ⟨_, rfl⟩
      obtain ⟨f2, hff2⟩ : ∃ f, firstF l p q false (hi + 1) = f := ⟨_, rfl⟩
      rw [hff1] at hnx hf1 K1
      rw [hff2] at hnx hf2 K2
      have w1 : IntKind.i64.wrap (hi + 1) = hi + 1 := IntWalk.i64_in _ (by omega)
      have w2 : IntKind.i64.wrap (f2 - 1) = f2 - 1 := IntWalk.i64_in _ (by omega)
      have w3 : IntKind.i64.wrap ((k : Int) + 1) = (k : Int) + 1 := IntWalk.i64_in _ (by omega)
      have ij1 : (k : Int) < (hs.length : Int) := Int.ofNat_lt.2 hlt
      obtain ⟨W1, hW1⟩ : ∃ X, X = (wr.alloc (.cells #[.int .i64 p, .int .i64 q, .int .i64 lo, .int .i64 hi] 26)).alloc (.cells #[.slice a l.length c, .int .i64 p, .int .i64 q] 70) := ⟨_, rfl⟩
      have hal : W1 = al wr [(.cells #[.int .i64 p, .int .i64 q, .int .i64 lo, .int .i64 hi] 26), (.cells #[.slice a l.length c, .int .i64 p, .int .i64 q] 70)] := hW1
      have hbb : Below wr.heap.size wr W1 := by rw [hal]; exact al_below wr _ (Nat.le_refl _)
      have h7 : W1.heap[wr.heap.size]? = some (.cells #[.int .i64 p, .int .i64 q, .int .i64 lo, .int .i64 hi] 26 (0, 0)) := by rw [hal]; exact al_get wr _ 0 _ rfl
      have h8' : W1.heap[wr.heap.size + 1]? = some (.cells #[.slice a l.length c, .int .i64 p, .int .i64 q] 70 (0, 0)) := by rw [hal]; exact al_get wr _ 1 _ rfl
      have hrR := box_step (w0 := w) hr hbb
      have hB1 := hbw.trans (hbb.mono hbw.size)
      obtain ⟨d0, d1, d2, d3⟩ := four_cells (show (wr.alloc (.cells #[.int .i64 p, .int .i64 q, .int .i64 lo, .int .i64 hi] 26)).heap[wr.heap.size]? = _ from alloc_heap wr _)
      have HB1 := Lib.hid hB1
      have HNX := Lib.hid hnx
      have HLEN := Lib.hid hlen
      have HLT := Lib.hid hlt
      obtain ⟨P, hP⟩ : ∃ x, wr.heap.size = x := ⟨_, rfl⟩
      rw [hP] at h7 h8'
      obtain ⟨Q, hQ⟩ : ∃ x, P + 1 = x := ⟨_, rfl⟩
      rw [hQ] at h8'
      have HF := Lib.hid (And.intro h7 (And.intro h8' hrR))
      have HL1 := Lib.hid (HL.out.below hB1)
      clear hlx hrow hnx hal hbb hrR hB1 hbw hr hlb hlen haf hf1 hf2 hff1 hff2 h7 h8' hoi
      go_upto_region 6 with fail
      try rw [← hW1]
      clear hW1 hP hQ x0 x1 x2 x3 d0 d1 d2 d3
      refine wp_region_last (fun w' => w'.heap[P]? = some (.cells #[.int .i64 p, .int .i64 q, .int .i64 lo, .int .i64 hi] 26 (0, 0)) ∧ w'.heap[Q]? = some (.cells #[.slice a l.length c, .int .i64 p, .int .i64 q] 70 (0, 0)) ∧ w'.heap[R]? = some (.cells (flatK 2 spC (allowUp l hs k)).toArray 24 (0, 0))) 22 (by kernel_rfl) HF.out (fun hHeld => ?_)
      obtain ⟨Y0, hY0⟩ : ∃ X, X = W1.drew := ⟨_, rfl⟩
      have hbX : Below w.heap.size w Y0 := by rw [hY0]; exact HB1.out.drew
      have hbL : Below W1.heap.size W1 Y0 := by rw [hY0]; exact (Below.refl _ _).drew
      rw [← hY0] at hHeld ⊢
      have hH := Lib.hid hHeld
      clear hY0 hHeld
      refine wpLast_take (i := 0) (oi := _) (v := ?_) rfl (by kernel_rfl) (by kernel_rfl) (by decide) (by kernel_rfl) (by kernel_rfl) (fun _ _ _ h => h) (Or.inl ⟨by rfl, ?_⟩) hH.out ?_
      rotate_left
      · intro w1 hSw
        obtain ⟨e1, e2, e3⟩ := hSw
        obtain ⟨d0, d1, d2, d3⟩ := four_cells e1
        obtain ⟨d4, d5, d6⟩ := three_cells e2
        clear e1 e2 e3
        go_simp; with_reducible rfl
      simp only [List.getElem_toArray, List.getElem_cons_succ, List.getElem_cons_zero, Act.put, List.setIfInBounds_toArray, List.set_cons_zero, List.set_cons_succ]
      refine wpLast_take (i := 1) (oi := _) (v := ?_) rfl (by kernel_rfl) (by kernel_rfl) (by decide) (by kernel_rfl) (by kernel_rfl) (fun _ _ _ h => h) (Or.inl ⟨by rfl, ?_⟩) hH.out ?_
      rotate_left
      · intro w1 hSw
        obtain ⟨e1, e2, e3⟩ := hSw
        obtain ⟨d0, d1, d2, d3⟩ := four_cells e1
        obtain ⟨d4, d5, d6⟩ := three_cells e2
        clear e1 e2 e3
        go_simp; with_reducible rfl
      simp only [List.getElem_toArray, List.getElem_cons_succ, List.getElem_cons_zero, Act.put, List.setIfInBounds_toArray, List.set_cons_zero, List.set_cons_succ]
      refine wpLast_take (i := 2) (oi := _) (v := ?_) rfl (by kernel_rfl) (by kernel_rfl) (by decide) (by kernel_rfl) (by kernel_rfl) (fun _ _ _ h => h) (Or.inl ⟨by rfl, ?_⟩) hH.out ?_
      rotate_left
      · intro w1 hSw
        obtain ⟨e1, e2, e3⟩ := hSw
        obtain ⟨d0, d1, d2, d3⟩ := four_cells e1
        obtain ⟨d4, d5, d6⟩ := three_cells e2
        clear e1 e2 e3
        go_simp; with_reducible rfl
      simp only [List.getElem_toArray, List.getElem_cons_succ, List.getElem_cons_zero, Act.put, List.setIfInBounds_toArray, List.set_cons_zero, List.set_cons_succ]
      refine wpLast_take (i := 3) (oi := _) (v := ?_) rfl (by kernel_rfl) (by kernel_rfl) (by decide) (by kernel_rfl) (by kernel_rfl) (fun _ _ _ h => h) (Or.inl ⟨by rfl, ?_⟩) hH.out ?_
      rotate_left
      · intro w1 hSw
        obtain ⟨e1, e2, e3⟩ := hSw
        obtain ⟨d0, d1, d2, d3⟩ := four_cells e1
        obtain ⟨d4, d5, d6⟩ := three_cells e2
        clear e1 e2 e3
        go_simp; with_reducible rfl
      simp only [List.getElem_toArray, List.getElem_cons_succ, List.getElem_cons_zero, Act.put, List.setIfInBounds_toArray, List.set_cons_zero, List.set_cons_succ]
      refine wpLast_take (i := 4) (oi := _) (v := ?_) rfl (by kernel_rfl) (by kernel_rfl) (by decide) (by kernel_rfl) (by kernel_rfl) (fun _ _ _ h => h) (Or.inl ⟨by rfl, ?_⟩) hH.out ?_
      rotate_left
      · intro w1 hSw
        obtain ⟨e1, e2, e3⟩ := hSw
        obtain ⟨d0, d1, d2, d3⟩ := four_cells e1
        obtain ⟨d4, d5, d6⟩ := three_cells e2
        clear e1 e2 e3
        go_simp; with_reducible rfl
      simp only [List.getElem_toArray, List.getElem_cons_succ, List.getElem_cons_zero, Act.put, List.setIfInBounds_toArray, List.set_cons_zero, List.set_cons_succ]
      refine wpLast_take (i := 5) (oi := _) (v := ?_) rfl (by kernel_rfl) (by kernel_rfl) (by decide) (by kernel_rfl) (by kernel_rfl) (fun _ _ _ h => h) (Or.inl ⟨by rfl, ?_⟩) hH.out ?_
      rotate_left
      · intro w1 hSw
        obtain ⟨e1, e2, e3⟩ := hSw
        obtain ⟨d0, d1, d2, d3⟩ := four_cells e1
        obtain ⟨d4, d5, d6⟩ := three_cells e2
        clear e1 e2 e3
        go_simp; with_reducible rfl
      simp only [List.getElem_toArray, List.getElem_cons_succ, List.getElem_cons_zero, Act.put, List.setIfInBounds_toArray, List.set_cons_zero, List.set_cons_succ]
      refine wpLast_take (i := 6) (oi := _) (v := ?_) rfl (by kernel_rfl) (by kernel_rfl) (by decide) (by kernel_rfl) (by kernel_rfl) (fun _ _ _ h => h) (Or.inl ⟨by rfl, ?_⟩) hH.out ?_
      rotate_left
      · intro w1 hSw
        obtain ⟨e1, e2, e3⟩ := hSw
        obtain ⟨d0, d1, d2, d3⟩ := four_cells e1
        obtain ⟨d4, d5, d6⟩ := three_cells e2
        clear e1 e2 e3
        go_simp; with_reducible rfl
      simp only [List.getElem_toArray, List.getElem_cons_succ, List.getElem_cons_zero, Act.put, List.setIfInBounds_toArray, List.set_cons_zero, List.set_cons_succ]
      refine wpLast_take (i := 7) (oi := _) (v := ?_) rfl (by kernel_rfl) (by kernel_rfl) (by decide) (by kernel_rfl) (by kernel_rfl) (fun _ _ _ h => h) (Or.inl ⟨by rfl, ?_⟩) hH.out ?_
      rotate_left
      · intro w1 hSw
        obtain ⟨e1, e2, e3⟩ := hSw
        obtain ⟨d0, d1, d2, d3⟩ := four_cells e1
        obtain ⟨d4, d5, d6⟩ := three_cells e2
        clear e1 e2 e3
        go_simp; with_reducible rfl
      simp only [List.getElem_toArray, List.getElem_cons_succ, List.getElem_cons_zero, Act.put, List.setIfInBounds_toArray, List.set_cons_zero, List.set_cons_succ]
      refine wpLast_take (i := 8) (oi := _) (v := ?_) rfl (by kernel_rfl) (by kernel_rfl) (by decide) (by kernel_rfl) (by kernel_rfl) (fun _ _ _ h => h) (Or.inl ⟨by rfl, ?_⟩) hH.out ?_
      rotate_left
      · intro w1 hSw
        obtain ⟨e1, e2, e3⟩ := hSw
        obtain ⟨d0, d1, d2, d3⟩ := four_cells e1
        obtain ⟨d4, d5, d6⟩ := three_cells e2
        clear e1 e2 e3
        go_simp; with_reducible rfl
      simp only [List.getElem_toArray, List.getElem_cons_succ, List.getElem_cons_zero, Act.put, List.setIfInBounds_toArray, List.set_cons_zero, List.set_cons_succ]
      refine wpLast_take (i := 10) (oi := _) (v := ?_) rfl (by kernel_rfl) (by kernel_rfl) (by decide) (by kernel_rfl) (by kernel_rfl) (fun _ _ _ h => h) (Or.inl ⟨by rfl, ?_⟩) hH.out ?_
      rotate_left
      · intro w1 hSw
        obtain ⟨e1, e2, e3⟩ := hSw
        obtain ⟨d0, d1, d2, d3⟩ := four_cells e1
        obtain ⟨d4, d5, d6⟩ := three_cells e2
        clear e1 e2 e3
        go_simp; with_reducible rfl
      simp only [List.getElem_toArray, List.getElem_cons_succ, List.getElem_cons_zero, Act.put, List.setIfInBounds_toArray, List.set_cons_zero, List.set_cons_succ]
      refine wpLast_take (i := 11) (oi := _) (v := ?_) rfl (by kernel_rfl) (by kernel_rfl) (by decide) (by kernel_rfl) (by kernel_rfl) (fun _ _ _ h => h) (Or.inl ⟨by rfl, ?_⟩) hH.out ?_
      rotate_left
      · intro w1 hSw
        obtain ⟨e1, e2, e3⟩ := hSw
        obtain ⟨d0, d1, d2, d3⟩ := four_cells e1
        obtain ⟨d4, d5, d6⟩ := three_cells e2
        clear e1 e2 e3
        go_simp; with_reducible rfl
      simp only [List.getElem_toArray, List.getElem_cons_succ, List.getElem_cons_zero, Act.put, List.setIfInBounds_toArray, List.set_cons_zero, List.set_cons_succ]
      refine wpLast_take (i := 12) (oi := _) (v := ?_) rfl (by kernel_rfl) (by kernel_rfl) (by decide) (by kernel_rfl) (by kernel_rfl) (fun _ _ _ h => h) (Or.inl ⟨by rfl, ?_⟩) hH.out ?_
      rotate_left
      · intro w1 hSw
        obtain ⟨e1, e2, e3⟩ := hSw
        obtain ⟨d0, d1, d2, d3⟩ := four_cells e1
        obtain ⟨d4, d5, d6⟩ := three_cells e2
        clear e1 e2 e3
        go_simp; with_reducible rfl
      simp only [List.getElem_toArray, List.getElem_cons_succ, List.getElem_cons_zero, Act.put, List.setIfInBounds_toArray, List.set_cons_zero, List.set_cons_succ]
      refine wpLast_take (i := 13) (oi := _) (v := ?_) rfl (by kernel_rfl) (by kernel_rfl) (by decide) (by kernel_rfl) (by kernel_rfl) (fun _ _ _ h => h) (Or.inl ⟨by rfl, ?_⟩) hH.out ?_
      rotate_left
      · intro w1 hSw
        obtain ⟨e1, e2, e3⟩ := hSw
        obtain ⟨d0, d1, d2, d3⟩ := four_cells e1
        obtain ⟨d4, d5, d6⟩ := three_cells e2
        clear e1 e2 e3
        go_simp; with_reducible rfl
      simp only [List.getElem_toArray, List.getElem_cons_succ, List.getElem_cons_zero, Act.put, List.setIfInBounds_toArray, List.set_cons_zero, List.set_cons_succ]
      refine wpLast_take (i := 14) (oi := _) (v := ?_) rfl (by kernel_rfl) (by kernel_rfl) (by decide) (by kernel_rfl) (by kernel_rfl) (fun _ _ _ h => h) (Or.inl ⟨by rfl, ?_⟩) hH.out ?_
      rotate_left
      · intro w1 hSw
        obtain ⟨e1, e2, e3⟩ := hSw
        obtain ⟨d0, d1, d2, d3⟩ := four_cells e1
        obtain ⟨d4, d5, d6⟩ := three_cells e2
        clear e1 e2 e3
        go_simp; with_reducible rfl
      simp only [List.getElem_toArray, List.getElem_cons_succ, List.getElem_cons_zero, Act.put, List.setIfInBounds_toArray, List.set_cons_zero, List.set_cons_succ]
      refine wpLast_take (i := 15) (oi := _) (v := ?_) rfl (by kernel_rfl) (by kernel_rfl) (by decide) (by kernel_rfl) (by kernel_rfl) (fun _ _ _ h => h) (Or.inl ⟨by rfl, ?_⟩) hH.out ?_
      rotate_left
      · intro w1 hSw
        obtain ⟨e1, e2, e3⟩ := hSw
        obtain ⟨d0, d1, d2, d3⟩ := four_cells e1
        obtain ⟨d4, d5, d6⟩ := three_cells e2
        clear e1 e2 e3
        go_simp; with_reducible rfl
      simp only [List.getElem_toArray, List.getElem_cons_succ, List.getElem_cons_zero, Act.put, List.setIfInBounds_toArray, List.set_cons_zero, List.set_cons_succ]
      refine wpLast_take (i := 16) (oi := _) (v := ?_) rfl (by kernel_rfl) (by kernel_rfl) (by decide) (by kernel_rfl) (by kernel_rfl) (fun _ _ _ h => h) (Or.inl ⟨by rfl, ?_⟩) hH.out ?_
      rotate_left
      · intro w1 hSw
        obtain ⟨e1, e2, e3⟩ := hSw
        obtain ⟨d0, d1, d2, d3⟩ := four_cells e1
        obtain ⟨d4, d5, d6⟩ := three_cells e2
        clear e1 e2 e3
        go_simp; with_reducible rfl
      simp only [List.getElem_toArray, List.getElem_cons_succ, List.getElem_cons_zero, Act.put, List.setIfInBounds_toArray, List.set_cons_zero, List.set_cons_succ]
      refine wpLast_take (i := 17) (oi := _) (v := ?_) rfl (by kernel_rfl) (by kernel_rfl) (by decide) (by kernel_rfl) (by kernel_rfl) (fun _ _ _ h => h) (Or.inl ⟨by rfl, ?_⟩) hH.out ?_
      rotate_left
      · intro w1 hSw
        obtain ⟨e1, e2, e3⟩ := hSw
        obtain ⟨d0, d1, d2, d3⟩ := four_cells e1
        obtain ⟨d4, d5, d6⟩ := three_cells e2
        clear e1 e2 e3
        go_simp; with_reducible rfl
      simp only [List.getElem_toArray, List.getElem_cons_succ, List.getElem_cons_zero, Act.put, List.setIfInBounds_toArray, List.set_cons_zero, List.set_cons_succ]
      refine wpLast_ready (rs := [9]) (by kernel_rfl) (by simp) ?_
      intro i hi; obtain rfl := List.mem_singleton.1 hi; clear hi
      refine wpOp_step rfl (fun K3 hK3 => ?_)
      have HK3 := Lib.hid hK3
      clear hK3
      rw [if_pos (by rfl)]
      go_simp
      refine (K1.out Y0 (HL1.out.below hbL)).mono ?_
      rintro e Y1 ⟨rfl, hbn⟩
      have hH2 := And.intro (box_step (w0 := w) hH.out.1 hbn) (And.intro (box_step (w0 := w) hH.out.2.1 hbn) (box_step (w0 := w) hH.out.2.2 hbn))
      replace hbX := hbX.trans (hbn.mono hbX.size)
      replace hbL := hbL.trans (hbn.mono hbL.size)
      clear hH hbn
      have hH := Lib.hid hH2
      clear hH2
      refine HK3.out _ _ ⟨fun _ => hH.out, fun _ => ?_⟩
      clear HK3 K3
      try simp only [List.getElem_toArray, List.getElem_cons_succ, List.getElem_cons_zero, Act.put, List.setIfInBounds_toArray, List.set_cons_zero, List.set_cons_succ]
      refine wpLast_ready (rs := [18]) (by kernel_rfl) (by simp) ?_
      intro i hi; obtain rfl := List.mem_singleton.1 hi; clear hi
      refine wpOp_step rfl (fun K3 hK3 => ?_)
      have HK3 := Lib.hid hK3
      clear hK3
      rw [if_pos (by rfl)]
      go_simp
      refine (K2.out Y1 (HL1.out.below hbL)).mono ?_
      rintro e Y2 ⟨rfl, hbn⟩
      have hH2 := And.intro (box_step (w0 := w) hH.out.1 hbn) (And.intro (box_step (w0 := w) hH.out.2.1 hbn) (box_step (w0 := w) hH.out.2.2 hbn))
      replace hbX := hbX.trans (hbn.mono hbX.size)
      replace hbL := hbL.trans (hbn.mono hbL.size)
      clear hH hbn
      have hH := Lib.hid hH2
      clear hH2
      refine HK3.out _ _ ⟨fun _ => hH.out, fun _ => ?_⟩
      clear HK3 K3
      try simp only [List.getElem_toArray, List.getElem_cons_succ, List.getElem_cons_zero, Act.put, List.setIfInBounds_toArray, List.set_cons_zero, List.set_cons_succ]
      refine wpLast_take (i := 19) (oi := _) (v := ?_) rfl (by kernel_rfl) (by kernel_rfl) (by decide) (by kernel_rfl) (by kernel_rfl) (fun _ _ _ h => h) (Or.inl ⟨by rfl, ?_⟩) hH.out ?_
      rotate_left
      · intro w1 hSw
        obtain ⟨e1, e2, e3⟩ := hSw
        obtain ⟨d0, d1, d2, d3⟩ := four_cells e1
        obtain ⟨d4, d5, d6⟩ := three_cells e2
        clear e1 e2 e3
        go_simp; with_reducible rfl
      simp only [List.getElem_toArray, List.getElem_cons_succ, List.getElem_cons_zero, Act.put, List.setIfInBounds_toArray, List.set_cons_zero, List.set_cons_succ]
      refine wpLast_take (i := 20) (oi := _) (v := ?_) rfl (by kernel_rfl) (by kernel_rfl) (by decide) (by kernel_rfl) (by kernel_rfl) (fun _ _ _ h => h) (Or.inl ⟨by rfl, ?_⟩) hH.out ?_
      rotate_left
      · intro w1 hSw
        obtain ⟨e1, e2, e3⟩ := hSw
        obtain ⟨d0, d1, d2, d3⟩ := four_cells e1
        obtain ⟨d4, d5, d6⟩ := three_cells e2
        clear e1 e2 e3
        go_simp; with_reducible rfl
      simp only [List.getElem_toArray, List.getElem_cons_succ, List.getElem_cons_zero, Act.put, List.setIfInBounds_toArray, List.set_cons_zero, List.set_cons_succ]
      refine wpLast_ready (rs := [21]) (by kernel_rfl) (by simp) ?_
      intro i hi; obtain rfl := List.mem_singleton.1 hi; clear hi
      refine wpOp_step rfl (fun K3 hK3 => ?_)
      have HK3 := Lib.hid hK3
      clear hK3
      rw [if_pos (by rfl)]
      go_simp
      refine HK3.out _ _ ⟨fun _ => hH.out, fun _ => ?_⟩
      clear HK3 K3
      try simp only [List.getElem_toArray, List.getElem_cons_succ, List.getElem_cons_zero, Act.put, List.setIfInBounds_toArray, List.set_cons_zero, List.set_cons_succ]
      have hrR := hH.out.2.2
      have hkL : k < (allowUp l hs k).length := by rw [HLEN.out]; exact HLT.out
      have c0 := row_cell hrR (i := k) (j := 0) hkL (by omega)
      have c1 := row_cell hrR (i := k) (j := 1) hkL (by omega)
      rw [Nat.add_zero] at c0
      have g0 : Y2.frozen? ⟨R, k * 2, none⟩ = false := frozen_of hrR
      have g1 : Y2.frozen? ⟨R, k * 2 + 1, none⟩ = false := frozen_of hrR
      have hz := row_set2 hrR (i := k) hkL f1 (f2 - 1)
      rw [← HNX.out] at hz
      have HZ := Lib.hid hz
      have HBZ := Lib.hid ((hbX.setCell (p := ⟨R, k * 2, none⟩) (by rw [← HR.out]; exact Nat.le_refl _) (.int .i64 f1)).setCell (p := ⟨R, k * 2 + 1, none⟩) (by rw [← HR.out]; exact Nat.le_refl _) (.int .i64 (f2 - 1)))
      clear hrR hkL hz hbX hbL
      refine wpLast_ready (rs := [22]) (by kernel_rfl) (by simp) ?_
      intro i hi; obtain rfl := List.mem_singleton.1 hi; clear hi
      refine wpOp_step rfl (fun K3 hK3 => ?_)
      have HK3 := Lib.hid hK3
      clear hK3
      rw [if_pos (by rfl)]
      go_simp
      refine HK3.out _ _ ⟨fun h => absurd rfl h, fun _ => ?_⟩
      clear HK3 K3
      try simp only [List.getElem_toArray, List.getElem_cons_succ, List.getElem_cons_zero, Act.put, List.setIfInBounds_toArray, List.set_cons_zero, List.set_cons_succ]
      refine wpLast_done (by kernel_rfl) ?_ _
      clear c0 c1 g0 g1
      go_wp2
      go_roundw
      case rel => exact ⟨k + 1, by omega, by go_num, HBZ.out, HZ.out⟩
      case measure => simp [intOf]; omega
    · have i1 : ¬ (k : Int) < (hs.length : Int) := by omega
      have hkl : k = hs.length := by omega
      rw [hkl, allowUp_all] at hr
      have HRr := Lib.hid hr
      have HBW := Lib.hid hbw
      clear hr hbw
      go_wp2
      go_ret
      exact ⟨R, rfl, by rw [HR.out]; exact Nat.le_refl _, HRr.out, HBW.out⟩
end Go.Proofs.Ytdbjifpnbghbaaa
