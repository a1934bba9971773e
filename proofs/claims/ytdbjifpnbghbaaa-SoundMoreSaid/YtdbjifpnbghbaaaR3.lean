/- Sound: the reference of. -/
import Derived.Test.YtdbjifpnbghbaaaR2
namespace Go.Proofs.Ytdbjifpnbghbaaa
set_option linter.unusedSimpArgs false
set_option linter.unusedVariables false
open Go.RowKit Go.Maps Go.BigFrame

theorem lagUp_next (e : Bool) (l : List Pi) (a b p : Int) (k : Nat) : lagUp e l a b p (k + 1) = lagUp e l a b p k + ofF e (shareF l a b p k) (l.getD k default).lo (l.getD k default).hi := rfl
set_option maxRecDepth 100000 in
set_option maxHeartbeats 3200000 in
theorem of_any (l : List Pi) (hok : lineOk l = true) (v : Value) (a b t : Int) (hab : a ≤ b) (ha : -1000000000 ≤ a) (hb : b ≤ 1000000000) (w : World) (hl : TabAt 3 piC w v l) : Calls Try.prog 38 #[v, .int .i64 a, .int .i64 b, .int .i64 t] w fun e w' => e = .returned (spV (lagsF l a b t)) ∧ Below w.heap.size w w' := by
  obtain ⟨a0, c, rfl⟩ := hl.shape
  have h8 := line_few hok
  have KT := Lib.hid term_any
  have HO := Lib.hid hok
  obtain ⟨W0, hW0⟩ : ∃ X, X = w.alloc (.cells #[.int .i64 0, .int .i64 0] 24) := ⟨_, rfl⟩
  have hb0 : Below w.heap.size w W0 := by rw [hW0]; exact (Below.refl _ _).alloc (Nat.le_refl _) _
  have hs0 : W0.heap.size = w.heap.size + 1 := by rw [hW0]; simp
  have hr0 : W0.heap[w.heap.size]? = some (.cells #[.int .i64 0, .int .i64 0] 24 (0, 0)) := by rw [hW0]; exact alloc_heap w _
  have KC := Lib.hid (counts_any l hok (.slice a0 l.length c) a b t hab ha hb W0 (hl.below hb0))
  obtain ⟨R, hR⟩ : ∃ x, w.heap.size = x := ⟨_, rfl⟩
  rw [hR] at hr0 hs0
  have HR := Lib.hid (show w.heap.size = R ∧ W0.heap.size = R + 1 from ⟨hR, hs0⟩)
  have HB0 := Lib.hid hb0
  have H0 := Lib.hid hr0
  have HL := Lib.hid (hl.below hb0)
  clear hb0 hs0 hr0 hl hok
  go_enter Try.func38, Try.ntmps38
  go_upto_region 1 with fail
  rw [← hW0]
  try rw [hR]
  clear hW0 hR
  go_wp2_with (go_at_call 31; fail)
  refine KC.out.mono ?_
  rintro e W1 ⟨v', rfl, hown, hb1⟩
  have ht := tab_of_own hown (cnt_len l a b t l.length).symm (by rw [cnt_len]; unfold maxLen; omega)
  obtain ⟨a1, c1, rfl⟩ : ∃ a1 c1, v' = .slice a1 l.length c1 := by
    have := ht.shape
    rw [cnt_len] at this
    exact this
  obtain ⟨gb, go, e1, hgb, hgx⟩ := ht.at (by rw [cnt_len]; omega)
  subst e1
  obtain ⟨lb, lo, e2, hlb, hlx⟩ := (HL.out.below hb1).at (by omega)
  subst e2
  obtain ⟨W2, hW2⟩ : ∃ X, X = W1.alloc (.cells #[.int .i64 0, .int .i64 0] 24) := ⟨_, rfl⟩
  have hb2 : Below W1.heap.size W1 W2 := by rw [hW2]; exact (Below.refl _ _).alloc (Nat.le_refl _) _
  have hr2 : W2.heap[W1.heap.size]? = some (.cells #[.int .i64 0, .int .i64 0] 24 (0, 0)) := by rw [hW2]; exact alloc_heap W1 _
  have hs1 := hb1.size
  obtain ⟨Q, hQ⟩ : ∃ x, W1.heap.size = x := ⟨_, rfl⟩
  rw [hQ] at hr2 hgb hlb
  have HS := Lib.hid (show w.heap.size = R ∧ R < Q ∧ W1.heap.size = Q ∧ gb < Q ∧ lb < Q from by have := HR.out; omega)
  have HB2 := Lib.hid hb2
  have HB1 := Lib.hid (HB0.out.trans (hb1.mono (by have := HR.out; omega)))
  have H1 := Lib.hid ((hb1.block R (by have := HR.out; omega)).trans H0.out)
  have H2 := Lib.hid hr2
  have HGX := Lib.hid hgx
  have HLX := Lib.hid hlx
  clear hown ht hb2 hr2 hs1 hgb hlb hgx hlx hb1 KC HL
  go_upto_region 3 with fail
  rw [← hW2]
  try rw [hQ]
  clear hW2 hQ
  go_wp2_with fail
  go_loopw [11] (fun i wr => ∃ k : Nat, k ≤ l.length ∧ i = .int .i64 k ∧ Below W1.heap.size W1 wr ∧ wr.heap[Q]? = some (.cells #[.int .i64 (lagUp false l a b (nearF (a, b) t) k), .int .i64 (lagUp true l a b (nearF (a, b) t) k)] 24 (0, 0))) (fun i _ => l.length - (intOf i).toNat)
  case atStart => exact ⟨0, by omega, rfl, HB2.out, H2.out⟩
  case round =>
    obtain ⟨k, hk, rfl, hbw, hr⟩ := hrel
    by_cases hlt : k < l.length
    · have x0 := (hbw.cell (p := ⟨gb, go + k * 1 + 0, none⟩) (by have := HS.out; show gb < _; omega)).trans (HGX.out k (by rw [cnt_len]; exact hlt) 0 (by omega))
      have x1 := (hbw.cell (p := ⟨lb, lo + k * 3 + 1, none⟩) (by have := HS.out; show lb < _; omega)).trans (HLX.out k hlt 1 (by omega))
      have x2 := (hbw.cell (p := ⟨lb, lo + k * 3 + 2, none⟩) (by have := HS.out; show lb < _; omega)).trans (HLX.out k hlt 2 (by omega))
      rw [cnt_at l a b t hlt] at x0
      have hp := pipe_in HO.out hlt
      have hsh := share_in HO.out hlt a b (nearF (a, b) t)
      have n0 := lagUp_next false l a b (nearF (a, b) t) k
      have n1 := lagUp_next true l a b (nearF (a, b) t) k
      have g0 := lagUp_in HO.out false a b (nearF (a, b) t) k hk
      have g1 := lagUp_in HO.out true a b (nearF (a, b) t) k hk
      obtain ⟨⟨t0, t1, t2⟩, hrow⟩ : ∃ x : Pi, l.getD k default = x := ⟨_, rfl⟩
      rw [hrow] at x1 x2 hp n0 n1
      simp only [Nat.add_zero, Nat.mul_one, piC, inC] at x0 x1 x2 hp n0 n1
      obtain ⟨sh, hse⟩ : ∃ x, shareF l a b (nearF (a, b) t) k = x := ⟨_, rfl⟩
      rw [hse] at x0 hsh n0 n1
      have o0 := of_in (e := false) hsh hp.2.2.1 hp.2.2.2.1 hp.2.2.2.2
      have o1 := of_in (e := true) hsh hp.2.2.1 hp.2.2.2.1 hp.2.2.2.2
      have hct := fun X => KT.out sh t1 t2 hsh hp.2.2.1 hp.2.2.2.1 hp.2.2.2.2 X
      obtain ⟨s0, hs0⟩ : ∃ x, ofF false sh t1 t2 = x := ⟨_, rfl⟩
      obtain ⟨s1, hs1⟩ : ∃ x, ofF true sh t1 t2 = x := ⟨_, rfl⟩
      obtain ⟨u0, hu0⟩ : ∃ x, lagUp false l a b (nearF (a, b) t) k = x := ⟨_, rfl⟩
      obtain ⟨u1, hu1⟩ : ∃ x, lagUp true l a b (nearF (a, b) t) k = x := ⟨_, rfl⟩
      rw [hs0] at n0 o0 hct
      rw [hs1] at n1 o1 hct
      rw [hu0] at n0 g0 hr
      rw [hu1] at n1 g1 hr
      have w1 : IntKind.i64.wrap (u0 + s0) = u0 + s0 := IntWalk.i64_in _ (by omega)
      have w2 : IntKind.i64.wrap (u1 + s1) = u1 + s1 := IntWalk.i64_in _ (by omega)
      have w3 : IntKind.i64.wrap ((k : Int) + 1) = (k : Int) + 1 := IntWalk.i64_in _ (by omega)
      have ij1 : (k : Int) < (l.length : Int) := Int.ofNat_lt.2 hlt
      have ij0 : (0 : Int) ≤ (k : Int) := by omega
      have HCT := Lib.hid hct
      have HN := Lib.hid (And.intro n0 n1)
      have HBW := Lib.hid hbw
      have HRQ := Lib.hid hr
      have HX := Lib.hid (And.intro x0 (And.intro x1 x2))
      have hsz := hbw.size
      have HZQ := Lib.hid (show Q < wr.heap.size ∧ gb < wr.heap.size ∧ lb < wr.heap.size from by have h5 := HS.out; have : Q < wr.heap.size := (Array.getElem?_eq_some_iff.1 hr).1; omega)
      clear hp hsh n0 n1 g0 g1 hrow hse o0 o1 hct hs0 hs1 hu0 hu1 hbw hr x0 x1 x2 hsz
      go_upto_region 6 with fail
      refine wp_region_last (fun w' => w'.cell? ⟨gb, go + k, none⟩ = some (.int .i64 sh) ∧ w'.cell? ⟨lb, lo + k * 3 + 1, none⟩ = some (.int .i64 t1) ∧ w'.cell? ⟨lb, lo + k * 3 + 2, none⟩ = some (.int .i64 t2)) 11 (by kernel_rfl) HX.out (fun hHeld => ?_)
      obtain ⟨Y0, hY0⟩ : ∃ X, X = wr.drew := ⟨_, rfl⟩
      have hbX : Below wr.heap.size wr Y0 := by rw [hY0]; exact (Below.refl _ _).drew
      rw [← hY0] at hHeld ⊢
      have hH := Lib.hid hHeld
      clear hY0 hHeld
      refine wpLast_take (i := 0) (oi := _) (v := ?_) rfl (by kernel_rfl) (by kernel_rfl) (by decide) (by kernel_rfl) (by kernel_rfl) (fun _ _ _ h => h) (Or.inl ⟨by rfl, ?_⟩) hH.out ?_
      rotate_left
      · intro w1 hSw
        obtain ⟨e0, e1, e2⟩ := hSw
        go_simp; with_reducible rfl
      simp only [List.getElem_toArray, List.getElem_cons_succ, List.getElem_cons_zero, Act.put, List.setIfInBounds_toArray, List.set_cons_zero, List.set_cons_succ]
      refine wpLast_take (i := 1) (oi := _) (v := ?_) rfl (by kernel_rfl) (by kernel_rfl) (by decide) (by kernel_rfl) (by kernel_rfl) (fun _ _ _ h => h) (Or.inl ⟨by rfl, ?_⟩) hH.out ?_
      rotate_left
      · intro w1 hSw
        obtain ⟨e0, e1, e2⟩ := hSw
        go_simp; with_reducible rfl
      simp only [List.getElem_toArray, List.getElem_cons_succ, List.getElem_cons_zero, Act.put, List.setIfInBounds_toArray, List.set_cons_zero, List.set_cons_succ]
      refine wpLast_take (i := 2) (oi := _) (v := ?_) rfl (by kernel_rfl) (by kernel_rfl) (by decide) (by kernel_rfl) (by kernel_rfl) (fun _ _ _ h => h) (Or.inl ⟨by rfl, ?_⟩) hH.out ?_
      rotate_left
      · intro w1 hSw
        obtain ⟨e0, e1, e2⟩ := hSw
        go_simp; with_reducible rfl
      simp only [List.getElem_toArray, List.getElem_cons_succ, List.getElem_cons_zero, Act.put, List.setIfInBounds_toArray, List.set_cons_zero, List.set_cons_succ]
      refine wpLast_take (i := 3) (oi := _) (v := ?_) rfl (by kernel_rfl) (by kernel_rfl) (by decide) (by kernel_rfl) (by kernel_rfl) (fun _ _ _ h => h) (Or.inl ⟨by rfl, ?_⟩) hH.out ?_
      rotate_left
      · intro w1 hSw
        obtain ⟨e0, e1, e2⟩ := hSw
        go_simp; with_reducible rfl
      simp only [List.getElem_toArray, List.getElem_cons_succ, List.getElem_cons_zero, Act.put, List.setIfInBounds_toArray, List.set_cons_zero, List.set_cons_succ]
      refine wpLast_take (i := 4) (oi := _) (v := ?_) rfl (by kernel_rfl) (by kernel_rfl) (by decide) (by kernel_rfl) (by kernel_rfl) (fun _ _ _ h => h) (Or.inl ⟨by rfl, ?_⟩) hH.out ?_
      rotate_left
      · intro w1 hSw
        obtain ⟨e0, e1, e2⟩ := hSw
        go_simp; with_reducible rfl
      simp only [List.getElem_toArray, List.getElem_cons_succ, List.getElem_cons_zero, Act.put, List.setIfInBounds_toArray, List.set_cons_zero, List.set_cons_succ]
      refine wpLast_take (i := 5) (oi := _) (v := ?_) rfl (by kernel_rfl) (by kernel_rfl) (by decide) (by kernel_rfl) (by kernel_rfl) (fun _ _ _ h => h) (Or.inl ⟨by rfl, ?_⟩) hH.out ?_
      rotate_left
      · intro w1 hSw
        obtain ⟨e0, e1, e2⟩ := hSw
        go_simp; with_reducible rfl
      simp only [List.getElem_toArray, List.getElem_cons_succ, List.getElem_cons_zero, Act.put, List.setIfInBounds_toArray, List.set_cons_zero, List.set_cons_succ]
      refine wpLast_take (i := 6) (oi := _) (v := ?_) rfl (by kernel_rfl) (by kernel_rfl) (by decide) (by kernel_rfl) (by kernel_rfl) (fun _ _ _ h => h) (Or.inl ⟨by rfl, ?_⟩) hH.out ?_
      rotate_left
      · intro w1 hSw
        obtain ⟨e0, e1, e2⟩ := hSw
        go_simp; with_reducible rfl
      simp only [List.getElem_toArray, List.getElem_cons_succ, List.getElem_cons_zero, Act.put, List.setIfInBounds_toArray, List.set_cons_zero, List.set_cons_succ]
      refine wpLast_take (i := 7) (oi := _) (v := ?_) rfl (by kernel_rfl) (by kernel_rfl) (by decide) (by kernel_rfl) (by kernel_rfl) (fun _ _ _ h => h) (Or.inl ⟨by rfl, ?_⟩) hH.out ?_
      rotate_left
      · intro w1 hSw
        obtain ⟨e0, e1, e2⟩ := hSw
        go_simp; with_reducible rfl
      simp only [List.getElem_toArray, List.getElem_cons_succ, List.getElem_cons_zero, Act.put, List.setIfInBounds_toArray, List.set_cons_zero, List.set_cons_succ]
      refine wpLast_take (i := 8) (oi := _) (v := ?_) rfl (by kernel_rfl) (by kernel_rfl) (by decide) (by kernel_rfl) (by kernel_rfl) (fun _ _ _ h => h) (Or.inl ⟨by rfl, ?_⟩) hH.out ?_
      rotate_left
      · intro w1 hSw
        obtain ⟨e0, e1, e2⟩ := hSw
        go_simp; with_reducible rfl
      simp only [List.getElem_toArray, List.getElem_cons_succ, List.getElem_cons_zero, Act.put, List.setIfInBounds_toArray, List.set_cons_zero, List.set_cons_succ]
      refine wpLast_ready (rs := [9, 10]) (by kernel_rfl) (by simp) ?_
      intro i hi
      rcases List.mem_cons.1 hi with rfl | hi
      · clear hi
        refine wpOp_step rfl (fun K3 hK3 => ?_)
        have HK3 := Lib.hid hK3
        clear hK3
        rw [if_pos (by rfl)]
        go_simp
        refine (HCT.out Y0).mono ?_
        rintro e Y1 ⟨rfl, hbn⟩
        have hH2 := Lib.hid (show Y1.cell? ⟨gb, go + k, none⟩ = some (.int .i64 sh) ∧ Y1.cell? ⟨lb, lo + k * 3 + 1, none⟩ = some (.int .i64 t1) ∧ Y1.cell? ⟨lb, lo + k * 3 + 2, none⟩ = some (.int .i64 t2) from ⟨(hbn.cell (p := ⟨gb, go + k, none⟩) (by have := HZQ.out; have := hbX.size; show gb < _; omega)).trans hH.out.1, (hbn.cell (p := ⟨lb, lo + k * 3 + 1, none⟩) (by have := HZQ.out; have := hbX.size; show lb < _; omega)).trans hH.out.2.1, (hbn.cell (p := ⟨lb, lo + k * 3 + 2, none⟩) (by have := HZQ.out; have := hbX.size; show lb < _; omega)).trans hH.out.2.2⟩)
        have hbX2 := hbX.trans (hbn.mono hbX.size)
        refine HK3.out _ _ ⟨fun _ => hH2.out, fun _ => ?_⟩
        clear HK3 K3
        try simp only [List.getElem_toArray, List.getElem_cons_succ, List.getElem_cons_zero, Act.put, List.setIfInBounds_toArray, List.set_cons_zero, List.set_cons_succ]
        clear hH hbX
        have hbX := hbX2
        have hH := Lib.hid hH2.out
        clear hH2 hbX2
        clear hbn
        refine wpLast_ready (rs := [10]) (by kernel_rfl) (by simp) ?_
        intro i hi; obtain rfl := List.mem_singleton.1 hi; clear hi
        refine wpOp_step rfl (fun K3 hK3 => ?_)
        have HK3 := Lib.hid hK3
        clear hK3
        rw [if_pos (by rfl)]
        go_simp
        obtain ⟨Y2, hY⟩ : ∃ Z, Z = Y1.alloc (.cells #[.int .i64 0, .int .i64 0] 24) := ⟨_, rfl⟩
        have hbn : Below Y1.heap.size Y1 Y2 := by rw [hY]; exact (Below.refl _ _).alloc (Nat.le_refl _) _
        have hbx : Y2.heap[Y1.heap.size]? = some (.cells #[.int .i64 0, .int .i64 0] 24 (0, 0)) := by rw [hY]; exact alloc_heap Y1 _
        rw [← hY]
        clear hY
        have hH2 := Lib.hid (show Y2.cell? ⟨gb, go + k, none⟩ = some (.int .i64 sh) ∧ Y2.cell? ⟨lb, lo + k * 3 + 1, none⟩ = some (.int .i64 t1) ∧ Y2.cell? ⟨lb, lo + k * 3 + 2, none⟩ = some (.int .i64 t2) from ⟨(hbn.cell (p := ⟨gb, go + k, none⟩) (by have := HZQ.out; have := hbX.size; show gb < _; omega)).trans hH.out.1, (hbn.cell (p := ⟨lb, lo + k * 3 + 1, none⟩) (by have := HZQ.out; have := hbX.size; show lb < _; omega)).trans hH.out.2.1, (hbn.cell (p := ⟨lb, lo + k * 3 + 2, none⟩) (by have := HZQ.out; have := hbX.size; show lb < _; omega)).trans hH.out.2.2⟩)
        have hbX2 := hbX.trans (hbn.mono hbX.size)
        refine HK3.out _ _ ⟨fun _ => hH2.out, fun _ => ?_⟩
        clear HK3 K3
        try simp only [List.getElem_toArray, List.getElem_cons_succ, List.getElem_cons_zero, Act.put, List.setIfInBounds_toArray, List.set_cons_zero, List.set_cons_succ]
        obtain ⟨B, hB⟩ : ∃ x, Y1.heap.size = x := ⟨_, rfl⟩
        have hBW : wr.heap.size ≤ B := by rw [← hB]; exact hbX.size
        rw [hB] at hbx
        try rw [hB]
        clear hH hbX
        have hbX := hbX2
        have hH := Lib.hid hH2.out
        clear hH2 hbX2
        clear hB hbn
        have hBQ : Q < B := by have := HZQ.out; omega
        have f0 : Y2.frozen? ⟨B, 0, none⟩ = false := frozen_of hbx
        have f1 : Y2.frozen? ⟨B, 1, none⟩ = false := frozen_of hbx
        obtain ⟨y0, y1⟩ := two_cells hbx
        have hz := set2 (A := .int .i64 s0) (B := .int .i64 s1) hbx
        have hbz := below2 hbX (R := B) hBW (.int .i64 s0) (.int .i64 s1)
        obtain ⟨X3, hX3⟩ : ∃ X, X = (Y2.setCell ⟨B, 0, none⟩ (.int .i64 s0)).setCell ⟨B, 1, none⟩ (.int .i64 s1) := ⟨_, rfl⟩
        rw [← hX3] at hz hbz
        refine wpLast_ready (rs := [11]) (by kernel_rfl) (by simp) ?_
        intro i hi; obtain rfl := List.mem_singleton.1 hi; clear hi
        refine wpOp_step rfl (fun K3 hK3 => ?_)
        have HK3 := Lib.hid hK3
        clear hK3
        rw [if_pos (by rfl)]
        go_simp
        rw [← hX3]
        clear hX3 f0 f1 y0 y1 hbx
        refine HK3.out _ _ ⟨fun h => absurd rfl h, fun _ => ?_⟩
        clear HK3 K3
        try simp only [List.getElem_toArray, List.getElem_cons_succ, List.getElem_cons_zero, Act.put, List.setIfInBounds_toArray, List.set_cons_zero, List.set_cons_succ]
        refine wpLast_done (by kernel_rfl) ?_ _
        have hrq := (hbz.block Q (by have := HZQ.out; omega)).trans HRQ.out
        obtain ⟨q0, q1⟩ := two_cells hrq
        obtain ⟨z0, z1⟩ := two_cells hz
        have f0 : X3.frozen? ⟨Q, 0, none⟩ = false := frozen_of hrq
        have f1 : X3.frozen? ⟨Q, 1, none⟩ = false := frozen_of hrq
        have HZ := Lib.hid (set2 (A := .int .i64 (u0 + s0)) (B := .int .i64 (u1 + s1)) hrq)
        have HBZ := Lib.hid (below2 (HBW.out.trans (hbz.mono HBW.out.size)) (R := Q) (by have := HS.out; omega) (.int .i64 (u0 + s0)) (.int .i64 (u1 + s1)))
        clear hrq hz hbz hbX
        go_wp2
        go_roundw
        case rel => exact ⟨k + 1, by omega, by go_num, HBZ.out, by rw [HN.out.1, HN.out.2]; exact HZ.out⟩
        case measure => simp [intOf]; omega
      · obtain rfl := List.mem_singleton.1 hi
        clear hi
        refine wpOp_step rfl (fun K3 hK3 => ?_)
        have HK3 := Lib.hid hK3
        clear hK3
        rw [if_pos (by rfl)]
        go_simp
        obtain ⟨Y1, hY⟩ : ∃ Z, Z = Y0.alloc (.cells #[.int .i64 0, .int .i64 0] 24) := ⟨_, rfl⟩
        have hbn : Below Y0.heap.size Y0 Y1 := by rw [hY]; exact (Below.refl _ _).alloc (Nat.le_refl _) _
        have hbx : Y1.heap[Y0.heap.size]? = some (.cells #[.int .i64 0, .int .i64 0] 24 (0, 0)) := by rw [hY]; exact alloc_heap Y0 _
        rw [← hY]
        clear hY
        have hH2 := Lib.hid (show Y1.cell? ⟨gb, go + k, none⟩ = some (.int .i64 sh) ∧ Y1.cell? ⟨lb, lo + k * 3 + 1, none⟩ = some (.int .i64 t1) ∧ Y1.cell? ⟨lb, lo + k * 3 + 2, none⟩ = some (.int .i64 t2) from ⟨(hbn.cell (p := ⟨gb, go + k, none⟩) (by have := HZQ.out; have := hbX.size; show gb < _; omega)).trans hH.out.1, (hbn.cell (p := ⟨lb, lo + k * 3 + 1, none⟩) (by have := HZQ.out; have := hbX.size; show lb < _; omega)).trans hH.out.2.1, (hbn.cell (p := ⟨lb, lo + k * 3 + 2, none⟩) (by have := HZQ.out; have := hbX.size; show lb < _; omega)).trans hH.out.2.2⟩)
        have hbX2 := hbX.trans (hbn.mono hbX.size)
        refine HK3.out _ _ ⟨fun _ => hH2.out, fun _ => ?_⟩
        clear HK3 K3
        try simp only [List.getElem_toArray, List.getElem_cons_succ, List.getElem_cons_zero, Act.put, List.setIfInBounds_toArray, List.set_cons_zero, List.set_cons_succ]
        obtain ⟨B, hB⟩ : ∃ x, Y0.heap.size = x := ⟨_, rfl⟩
        have hBW : wr.heap.size ≤ B := by rw [← hB]; exact hbX.size
        have hB1 : B < Y1.heap.size := (Array.getElem?_eq_some_iff.1 (by rw [hB] at hbx; exact hbx)).1
        rw [hB] at hbx
        try rw [hB]
        clear hH hbX
        have hbX := hbX2
        have hH := Lib.hid hH2.out
        clear hH2 hbX2
        clear hB hbn
        refine wpLast_ready (rs := [9]) (by kernel_rfl) (by simp) ?_
        intro i hi; obtain rfl := List.mem_singleton.1 hi; clear hi
        refine wpOp_step rfl (fun K3 hK3 => ?_)
        have HK3 := Lib.hid hK3
        clear hK3
        rw [if_pos (by rfl)]
        go_simp
        refine (HCT.out Y1).mono ?_
        rintro e Y2 ⟨rfl, hbn⟩
        have hH2 := Lib.hid (show Y2.cell? ⟨gb, go + k, none⟩ = some (.int .i64 sh) ∧ Y2.cell? ⟨lb, lo + k * 3 + 1, none⟩ = some (.int .i64 t1) ∧ Y2.cell? ⟨lb, lo + k * 3 + 2, none⟩ = some (.int .i64 t2) from ⟨(hbn.cell (p := ⟨gb, go + k, none⟩) (by have := HZQ.out; have := hbX.size; show gb < _; omega)).trans hH.out.1, (hbn.cell (p := ⟨lb, lo + k * 3 + 1, none⟩) (by have := HZQ.out; have := hbX.size; show lb < _; omega)).trans hH.out.2.1, (hbn.cell (p := ⟨lb, lo + k * 3 + 2, none⟩) (by have := HZQ.out; have := hbX.size; show lb < _; omega)).trans hH.out.2.2⟩)
        have hbX2 := hbX.trans (hbn.mono hbX.size)
        refine HK3.out _ _ ⟨fun _ => hH2.out, fun _ => ?_⟩
        clear HK3 K3
        try simp only [List.getElem_toArray, List.getElem_cons_succ, List.getElem_cons_zero, Act.put, List.setIfInBounds_toArray, List.set_cons_zero, List.set_cons_succ]
        replace hbx := (hbn.block B hB1).trans hbx
        clear hH hbX
        have hbX := hbX2
        have hH := Lib.hid hH2.out
        clear hH2 hbX2
        clear hbn hB1
        have hBQ : Q < B := by have := HZQ.out; omega
        have f0 : Y2.frozen? ⟨B, 0, none⟩ = false := frozen_of hbx
        have f1 : Y2.frozen? ⟨B, 1, none⟩ = false := frozen_of hbx
        obtain ⟨y0, y1⟩ := two_cells hbx
        have hz := set2 (A := .int .i64 s0) (B := .int .i64 s1) hbx
        have hbz := below2 hbX (R := B) hBW (.int .i64 s0) (.int .i64 s1)
        obtain ⟨X3, hX3⟩ : ∃ X, X = (Y2.setCell ⟨B, 0, none⟩ (.int .i64 s0)).setCell ⟨B, 1, none⟩ (.int .i64 s1) := ⟨_, rfl⟩
        rw [← hX3] at hz hbz
        refine wpLast_ready (rs := [11]) (by kernel_rfl) (by simp) ?_
        intro i hi; obtain rfl := List.mem_singleton.1 hi; clear hi
        refine wpOp_step rfl (fun K3 hK3 => ?_)
        have HK3 := Lib.hid hK3
        clear hK3
        rw [if_pos (by rfl)]
        go_simp
        rw [← hX3]
        clear hX3 f0 f1 y0 y1 hbx
        refine HK3.out _ _ ⟨fun h => absurd rfl h, fun _ => ?_⟩
        clear HK3 K3
        try simp only [List.getElem_toArray, List.getElem_cons_succ, List.getElem_cons_zero, Act.put, List.setIfInBounds_toArray, List.set_cons_zero, List.set_cons_succ]
        refine wpLast_done (by kernel_rfl) ?_ _
        have hrq := (hbz.block Q (by have := HZQ.out; omega)).trans HRQ.out
        obtain ⟨q0, q1⟩ := two_cells hrq
        obtain ⟨z0, z1⟩ := two_cells hz
        have f0 : X3.frozen? ⟨Q, 0, none⟩ = false := frozen_of hrq
        have f1 : X3.frozen? ⟨Q, 1, none⟩ = false := frozen_of hrq
        have HZ := Lib.hid (set2 (A := .int .i64 (u0 + s0)) (B := .int .i64 (u1 + s1)) hrq)
        have HBZ := Lib.hid (below2 (HBW.out.trans (hbz.mono HBW.out.size)) (R := Q) (by have := HS.out; omega) (.int .i64 (u0 + s0)) (.int .i64 (u1 + s1)))
        clear hrq hz hbz hbX
        go_wp2
        go_roundw
        case rel => exact ⟨k + 1, by omega, by go_num, HBZ.out, by rw [HN.out.1, HN.out.2]; exact HZ.out⟩
        case measure => simp [intOf]; omega
    · have i1 : ¬ (k : Int) < (l.length : Int) := by omega
      have hkl : k = l.length := by omega
      rw [hkl] at hr
      have hrr := (hbw.block R (by have := HS.out; omega)).trans H1.out
      have HQ := Lib.hid (show lagsF l a b t = (lagUp false l a b (nearF (a, b) t) l.length, lagUp true l a b (nearF (a, b) t) l.length) from rfl)
      obtain ⟨u0, hu0⟩ : ∃ x, lagUp false l a b (nearF (a, b) t) l.length = x := ⟨_, rfl⟩
      obtain ⟨u1, hu1⟩ : ∃ x, lagUp true l a b (nearF (a, b) t) l.length = x := ⟨_, rfl⟩
      rw [hu0, hu1] at hr HQ
      obtain ⟨q0, q1⟩ := two_cells hr
      obtain ⟨z0, z1⟩ := two_cells hrr
      have f0 : wr.frozen? ⟨R, 0, none⟩ = false := frozen_of hrr
      have f1 : wr.frozen? ⟨R, 1, none⟩ = false := frozen_of hrr
      have HZ := Lib.hid (set2 (A := .int .i64 u0) (B := .int .i64 u1) hrr)
      have HBZ := Lib.hid (below2 (HB1.out.trans (hbw.mono (by have := HS.out; omega))) (R := R) (by have := HS.out; omega) (.int .i64 u0) (.int .i64 u1))
      clear hbw hr hrr hu0 hu1 hkl
      go_wp2
      exact bodyPost_ret (res1_24 Try.results38 rfl HZ.out) rfl ⟨by rw [HQ.out]; rfl, HBZ.out⟩
end Go.Proofs.Ytdbjifpnbghbaaa
