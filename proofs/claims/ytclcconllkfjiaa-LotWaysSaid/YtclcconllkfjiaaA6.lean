/- Contract: likely: is a sample not too rare? -/
import Derived.Test.YtclcconllkfjiaaA4
namespace Go.Proofs.Ytclcconllkfjiaa
set_option linter.unusedSimpArgs false
set_option linter.unusedVariables false
open Go.RowKit Go.Shelf
attribute [local go_sem] Oper.semAt_some

/-- the samples with at most so many bad ones; with at least so many -/
def leW (b g c : Nat) (f : Int) (x : Nat) : Nat := if (x : Int) ≤ f then waysN b g c x else 0
def geW (b g c : Nat) (f : Int) (x : Nat) : Nat := if f ≤ (x : Int) then waysN b g c x else 0
theorem upF_le (b g c : Nat) (f : Int) : ∀ m, m ≤ c + 1 - (c - g) → upF (leW b g c f) (c - g) m = sm b g c (min (c - g + m) (f + 1).toNat)
  | 0, _ => by
    show 0 = sm b g c (min (c - g) _)
    rw [sm_flat b g c 0 (min (c - g) (f + 1).toNat) (by omega) (fun x _ h => exT_big b g c x (.inr (.inr (by omega))))]; rfl
  | m + 1, h => by
    show upF (leW b g c f) (c - g) m + leW b g c f (c - g + m) = _
    rw [upF_le b g c f m (by omega)]
    unfold leW
    by_cases hx : ((c - g + m : Nat) : Int) ≤ f
    · rw [if_pos hx, show min (c - g + (m + 1)) (f + 1).toNat = (c - g + m) + 1 by omega, show min (c - g + m) (f + 1).toNat = c - g + m by omega, sm_succ, exT, if_pos (by omega)]; rfl
    · rw [if_neg hx, show min (c - g + (m + 1)) (f + 1).toNat = min (c - g + m) (f + 1).toNat by omega]; rfl
theorem sum_le (b g c : Nat) (f : Int) (h : c ≤ b + g) : sumF (leW b g c f) b g c (itemsL b g c) = passN b g c f := by
  rw [sumF_all, upF_le b g c f _ (by omega), show c - g + (min c b + 1 - (c - g)) = min c b + 1 by omega]
  unfold passN
  by_cases h1 : (f + 1).toNat ≤ min c b + 1
  · rw [show min (min c b + 1) (f + 1).toNat = (f + 1).toNat by omega]
  · rw [show min (min c b + 1) (f + 1).toNat = min c b + 1 by omega]
    exact (sm_flat b g c (min c b + 1) (f + 1).toNat (by omega) (fun x h1 h2 => exT_big b g c x (by omega))).symm
theorem sumF_add (f f' : Nat → Nat) (b g c : Nat) : ∀ pre, sumF (fun x => f x + f' x) b g c pre = sumF f b g c pre + sumF f' b g c pre
  | [] => rfl
  | x :: l => by
    have := sumF_add f f' b g c l
    unfold sumF at this ⊢
    simp only [List.map_cons, List.sum_cons] at this ⊢
    omega
theorem sum_ge (b g c : Nat) (f : Int) (h : c ≤ b + g) : sumF (geW b g c f) b g c (itemsL b g c) + passN b g c (f - 1) = ch (b + g) c := by
  rw [← sum_le b g c (f - 1) h, ← sumF_add, ← ways_all b g c h]
  congr 1
  funext x
  unfold geW leW
  by_cases h1 : f ≤ (x : Int)
  · rw [if_pos h1, if_neg (by omega)]; rfl
  · rw [if_neg h1, if_pos (by omega), Nat.zero_add]
def likelyB (b g c : Nat) (f d : Int) : Bool :=
  decide (1000 * (passN b g c f : Nat) > d * (ch (b + g) c : Nat)) && decide (1000 * ((ch (b + g) c - passN b g c (f - 1) : Nat) : Int) > d * (ch (b + g) c : Nat))

def likelyAct (T b g c : Nat) (f d : Int) (H Bx x : Nat) : Act :=
  { tmps := #[.pointer (some ⟨T, 0, none⟩), .agg #[.int .i64 (b : Nat), .int .i64 (g : Nat)], .int .i64 (c : Nat), .int .i64 f, .int .i64 d, undef, .pointer (some ⟨H, 0, none⟩), undef, .pointer (some ⟨H + 1, 0, none⟩), undef, .bool false, .pointer (some ⟨H + 1 + 1, 0, none⟩), .pointer (some ⟨H + 1 + 1 + 1, 0, none⟩), .pointer (some ⟨H + 1 + 1 + 1 + 1, 0, none⟩), .pointer (some ⟨Bx, 0, none⟩), .int .i64 (waysN b g c x : Nat), .pointer (some ⟨T, 0, none⟩), .agg #[.int .i64 (b : Nat), .int .i64 (g : Nat)], .int .i64 (c : Nat), .func (.func 55) #[] #[.pointer (some ⟨H + 5 + 1 + 1, 0, none⟩), .pointer (some ⟨H + 5 + 1, 0, none⟩), .pointer (some ⟨H + 5, 0, none⟩)], mets (x : Nat) ((c : Nat) - (x : Nat) : Int), .int .i64 (waysN b g c x : Nat), undef, undef, undef, undef, undef, undef, undef, undef, undef, undef, undef, undef, undef, undef, undef, undef, undef, undef, undef, undef, undef, undef, undef, undef, undef, undef, undef, undef, undef, undef, undef], defers := [] }
set_option maxRecDepth 100000 in
set_option maxHeartbeats 3200000 in
theorem likely_any (T b g c : Nat) (f d : Int) (w : World) (hT : TriAt w T) (hc : c ≤ b + g) (hs : b + g ≤ 50) (hd : 0 ≤ d ∧ d ≤ 1000) :
    Calls Try.prog 34 #[.pointer (some ⟨T, 0, none⟩), mets (b : Nat) (g : Nat), .int .i64 (c : Nat), .int .i64 f, .int .i64 d] w fun e w' => e = .returned (.bool (likelyB b g c f d)) ∧ Below w.heap.size w w' := by
  have hTl := hT.lt
  obtain ⟨W0, hW0⟩ : ∃ X, X = (((((w.alloc (.cells #[.int .i64 (b : Nat), .int .i64 (g : Nat)] 61)).alloc (.cells #[.int .i64 f] 3)).alloc (.cells #[.int .i64 0] 3)).alloc (.cells #[.int .i64 0] 3)).alloc (.cells #[.int .i64 0] 3)) := ⟨_, rfl⟩
  have hb0 : Below w.heap.size w W0 := by rw [hW0]; exact ((((((Below.refl _ _).alloc (Nat.le_refl _) _).alloc (by simp <;> omega) _).alloc (by simp <;> omega) _).alloc (by simp <;> omega) _).alloc (by simp <;> omega) _)
  unfold mets
  refine (callsIn_wide (n := 9)).1 ?_
  refine callsIn_of_wp_marks Try.func34 rfl trivial ?_ rfl
  simp only [Try.ntmps34, List.size_toArray, List.length_cons, List.length_nil, Nat.reduceAdd, Nat.reduceSub, Array.replicate_succ, Array.replicate_zero, List.push_toArray, List.append_toArray, List.nil_append, List.cons_append]
  gi_wp2
  rw [← hW0]
  have hz0 : W0.heap.size = w.heap.size + 5 := by rw [hW0]; simp
  have hT0 : TriAt W0 T := hT.below hb0 hTl
  obtain ⟨H, hH⟩ : ∃ H, H = w.heap.size := ⟨_, rfl⟩
  have k0 : W0.heap[H]? = some (.cells #[.int .i64 (b : Nat), .int .i64 (g : Nat)] 61) := by
    rw [hW0, hH, Below.heap_alloc _ _ _ (by simp <;> omega), Below.heap_alloc _ _ _ (by simp <;> omega), Below.heap_alloc _ _ _ (by simp <;> omega), Below.heap_alloc _ _ _ (by simp <;> omega)]
    have := alloc_heap w (.cells #[.int .i64 (b : Nat), .int .i64 (g : Nat)] 61)
    simpa using this
  have k1 : W0.heap[H + 1]? = some (.cells #[.int .i64 f] 3) := by
    rw [hW0, hH, Below.heap_alloc _ _ _ (by simp <;> omega), Below.heap_alloc _ _ _ (by simp <;> omega), Below.heap_alloc _ _ _ (by simp <;> omega)]
    have := alloc_heap (w.alloc (.cells #[.int .i64 (b : Nat), .int .i64 (g : Nat)] 61)) (.cells #[.int .i64 f] 3)
    simpa using this
  have k2 : W0.heap[H + 1 + 1]? = some (.cells #[.int .i64 0] 3) := by
    rw [hW0, hH, Below.heap_alloc _ _ _ (by simp <;> omega), Below.heap_alloc _ _ _ (by simp <;> omega)]
    have := alloc_heap ((w.alloc (.cells #[.int .i64 (b : Nat), .int .i64 (g : Nat)] 61)).alloc (.cells #[.int .i64 f] 3)) (.cells #[.int .i64 0] 3)
    simpa using this
  have k3 : W0.heap[H + 1 + 1 + 1]? = some (.cells #[.int .i64 0] 3) := by
    rw [hW0, hH, Below.heap_alloc _ _ _ (by simp <;> omega)]
    have := alloc_heap (((w.alloc (.cells #[.int .i64 (b : Nat), .int .i64 (g : Nat)] 61)).alloc (.cells #[.int .i64 f] 3)).alloc (.cells #[.int .i64 0] 3)) (.cells #[.int .i64 0] 3)
    simpa using this
  have k4 : W0.heap[H + 1 + 1 + 1 + 1]? = some (.cells #[.int .i64 0] 3) := by
    rw [hW0, hH]
    have := alloc_heap ((((w.alloc (.cells #[.int .i64 (b : Nat), .int .i64 (g : Nat)] 61)).alloc (.cells #[.int .i64 f] 3)).alloc (.cells #[.int .i64 0] 3)).alloc (.cells #[.int .i64 0] 3)) (.cells #[.int .i64 0] 3)
    simpa using this
  rw [← hH] at hz0 ⊢
  have HH := Lib.hid hH
  clear hW0 hH
  have hsm := samples_any T b g c W0
  unfold mets at hsm
  refine ⟨trivial, callsIn_wide.2 (hsm.mono ?_)⟩
  rintro e W1 ⟨rfl, rfl⟩
  clear hsm
  have hM := samples_mem (b := b) (g := g) (c := c) hT0
  obtain ⟨W1, hW1⟩ : ∃ X, X = ((W0.alloc (.cells #[.pointer (some ⟨T, 0, none⟩)] 57)).alloc (.cells #[.int .i64 (b : Nat), .int .i64 (g : Nat)] 61)).alloc (.cells #[.int .i64 (c : Nat)] 3) := ⟨_, rfl⟩
  have hb1 : Below W0.heap.size W0 W1 := by rw [hW1]; exact ((((Below.refl _ _).alloc (Nat.le_refl _) _).alloc (by simp <;> omega) _).alloc (by simp <;> omega) _)
  have hz1 : W1.heap.size = H + 8 := by rw [hW1]; simp [hz0]
  rw [← hW1] at hM ⊢
  clear hW1
  rw [hz0] at hM ⊢
  gi_wp2
  have hO1 : OnlyE (fun k => k = H + 1 + 1 ∨ k = H + 1 + 1 + 1 ∨ k = H + 1 + 1 + 1 + 1) W0 W1 := .of_below hb1
  refine wpIn_rangeFunc_ownH rfl (by omega) (gf := 55) (lb := #[.pointer (some ⟨H + 5 + 1 + 1, 0, none⟩), .pointer (some ⟨H + 5 + 1, 0, none⟩), .pointer (some ⟨H + 5, 0, none⟩)]) rfl trivial (enters_of Try.func55 (by kernel_rfl) rfl)
    (samples_stops 8 (by omega) b g c (H + 5 + 1 + 1) (H + 5 + 1) (H + 5) T (fun k => k = H + 1 + 1 ∨ k = H + 1 + 1 + 1 ∨ k = H + 1 + 1 + 1 + 1) hc hs (by omega) (by omega) (by omega) (by have := HH.out; omega) W1 hM (by intro k hk; omega))
    KeepE.trans (fun W l o o' _ hl hc _ => KeepE.of_grown (grownBy_putObj' W l o') (fun q e => by cases e; exact .inr (fun o2 h2 => by rw [hl] at h2; cases h2; exact hc))) (Below.refl _ _) (fun _ => rfl)
    (fun pre W => W.heap[H + 1 + 1]? = some (.cells #[.int .i64 (wrap64 (sumF (leW b g c f) b g c pre : Nat))] 3 (0, 0)) ∧ W.heap[H + 1 + 1 + 1]? = some (.cells #[.int .i64 (wrap64 (sumF (geW b g c f) b g c pre : Nat))] 3 (0, 0)) ∧ W.heap[H + 1 + 1 + 1 + 1]? = some (.cells #[.int .i64 (wrap64 (sumF (waysN b g c) b g c pre : Nat))] 3 (0, 0)) ∧ OnlyE (fun k => k = H + 1 + 1 ∨ k = H + 1 + 1 + 1 ∨ k = H + 1 + 1 + 1 + 1) W1 W)
    (fun cc pre W => False)
    (fun pre X Y row hs hg hr => ⟨cells_kept hs.1 hg hr, cells_kept hs.2.1 hg hr, cells_kept hs.2.2.1 hg hr, hs.2.2.2.far hg (fun q e => (hr q e).1)⟩)
    (fun cc pre X Y row hs hg hr => hs)
    ⟨?_, ?_, ?_, OnlyE.refl _ _⟩
    (fun x a' W => ∃ Bx, W1.heap.size ≤ Bx ∧ W.heap[Bx]? = some (.cells #[.int .i64 (cl b g c x : Nat), .int .i64 ((c : Int) - (cl b g c x : Nat))] 61 (0, 0)) ∧ a' = likelyAct T b g c f d H Bx (cl b g c x))
    (fun x a' _ X Y row hs hg hr => by
      obtain ⟨Bx, h1, h2, h3⟩ := hs
      exact ⟨Bx, h1, cells_kept h2 hg hr, h3⟩)
    ?assign ?body ?done ?stop
  · have := (hb1.block _ (by omega)).trans k2
    simpa [sumF_nil, wrap64] using this
  · have := (hb1.block _ (by omega)).trans k3
    simpa [sumF_nil, wrap64] using this
  · have := (hb1.block _ (by omega)).trans k4
    simpa [sumF_nil, wrap64] using this
  case assign =>
    rintro l pre x W K ⟨i1, i2, i3, i4⟩ hK
    unfold encX mets
    gi_wp2
    have hs3 := i4.size
    refine hK _ _ ((KeepsOthers.alloc _ _).from _) ((KeepE.refl _ _).alloc _) ⟨(Below.heap_alloc _ _ _ (Array.getElem?_eq_some_iff.1 i1).1).trans i1, (Below.heap_alloc _ _ _ (Array.getElem?_eq_some_iff.1 i2).1).trans i2, (Below.heap_alloc _ _ _ (Array.getElem?_eq_some_iff.1 i3).1).trans i3, i4.alloc _⟩ ⟨W.heap.size, hs3, alloc_heap _ _, ?_⟩
    unfold likelyAct mets
    rfl
  case body =>
    rintro l pre x a' W hl ⟨rr, hrr⟩ ⟨i1, i2, i3, i4⟩ ⟨Bx, hBx, hX, rfl⟩ _hlt
    have hci := cl_in (b := b) (g := g) x hc
    have hs2 := sumF_snoc (leW b g c f) b g c pre x
    have hs3 := sumF_snoc (geW b g c f) b g c pre x
    have hs4 := sumF_snoc (waysN b g c) b g c pre x
    have hwl := ways_le b g c (cl b g c x) hs
    have y1 : W.heap[H + 1]? = some (.cells #[.int .i64 f] 3 (0, 0)) := (i4.get (hO1.get k1 (by omega)) (by omega))
    unfold leW at hs2
    unfold geW at hs3
    obtain ⟨X, hXe⟩ : ∃ X, cl b g c x = X := ⟨_, rfl⟩
    rw [hXe] at hX hci hs2 hs3 hs4 hwl ⊢
    obtain ⟨M, hM⟩ : ∃ M, waysN b g c X = M := ⟨_, rfl⟩
    unfold likelyAct mets
    rw [hM] at hs2 hs3 hs4 hwl ⊢
    obtain ⟨S2, hS2⟩ : ∃ S, sumF (leW b g c f) b g c pre = S := ⟨_, rfl⟩
    obtain ⟨V2, hV2⟩ : ∃ V, wrap64 (S2 : Int) = V := ⟨_, rfl⟩
    have hs2' : sumF (leW b g c f) b g c (pre ++ [x]) = S2 + if (X : Int) ≤ f then M else 0 := by rw [← hS2]; exact hs2
    rw [hS2, hV2] at i1
    have c2 := one_cell i1
    have f2 : W.frozen? ⟨H + 1 + 1, 0, none⟩ = false := frozen_of i1
    have w2 : wrap64 (V2 + (M : Int)) = wrap64 ((S2 : Int) + (M : Int)) := by rw [← hV2, wrap64_wrap]
    have v2 : IntKind.i64.wrap (V2 + (M : Int)) = wrap64 ((S2 : Int) + (M : Int)) := by rw [← hV2, wrap64_is, wrap_wrap, wrap64_is]
    have HV2 := Lib.hid hV2
    have HS2 := Lib.hid hs2'
    clear hS2 hV2 hs2 hs2'
    obtain ⟨S3, hS3⟩ : ∃ S, sumF (geW b g c f) b g c pre = S := ⟨_, rfl⟩
    obtain ⟨V3, hV3⟩ : ∃ V, wrap64 (S3 : Int) = V := ⟨_, rfl⟩
    have hs3' : sumF (geW b g c f) b g c (pre ++ [x]) = S3 + if f ≤ (X : Int) then M else 0 := by rw [← hS3]; exact hs3
    rw [hS3, hV3] at i2
    have c3 := one_cell i2
    have f3 : W.frozen? ⟨H + 1 + 1 + 1, 0, none⟩ = false := frozen_of i2
    have w3 : wrap64 (V3 + (M : Int)) = wrap64 ((S3 : Int) + (M : Int)) := by rw [← hV3, wrap64_wrap]
    have v3 : IntKind.i64.wrap (V3 + (M : Int)) = wrap64 ((S3 : Int) + (M : Int)) := by rw [← hV3, wrap64_is, wrap_wrap, wrap64_is]
    have HV3 := Lib.hid hV3
    have HS3 := Lib.hid hs3'
    clear hS3 hV3 hs3 hs3'
    obtain ⟨S4, hS4⟩ : ∃ S, sumF (waysN b g c) b g c pre = S := ⟨_, rfl⟩
    obtain ⟨V4, hV4⟩ : ∃ V, wrap64 (S4 : Int) = V := ⟨_, rfl⟩
    have hs4' : sumF (waysN b g c) b g c (pre ++ [x]) = S4 + M := by rw [← hS4]; exact hs4
    rw [hS4, hV4] at i3
    have c4 := one_cell i3
    have f4 : W.frozen? ⟨H + 1 + 1 + 1 + 1, 0, none⟩ = false := frozen_of i3
    have w4 : wrap64 (V4 + (M : Int)) = wrap64 ((S4 : Int) + (M : Int)) := by rw [← hV4, wrap64_wrap]
    have v4 : IntKind.i64.wrap (V4 + (M : Int)) = wrap64 ((S4 : Int) + (M : Int)) := by rw [← hV4, wrap64_is, wrap_wrap, wrap64_is]
    have HV4 := Lib.hid hV4
    have HS4 := Lib.hid hs4'
    clear hS4 hV4 hs4 hs4'
    have c1 := one_cell y1
    obtain ⟨c6, c7⟩ := two_cells hX
    have HX := Lib.hid hXe
    have I4 := Lib.hid i4
    have I1 := Lib.hid i1
    have I2 := Lib.hid i2
    have I3 := Lib.hid i3
    clear hXe hX hM i1 i2 i3 i4 k0 k1 k2 k3 k4
    by_cases h1 : (X : Int) ≤ f
    · by_cases h2 : f ≤ (X : Int)
      · gi_wp2
        have hO := ((((OnlyE.refl (fun k => k = H + 1 + 1 ∨ k = H + 1 + 1 + 1 ∨ k = H + 1 + 1 + 1 + 1) W).set (b := H + 1 + 1 + 1 + 1) (by simp) (.int .i64 (wrap64 ((S4 : Int) + (M : Int))))).set (b := H + 1 + 1) (by simp) (.int .i64 (wrap64 ((S2 : Int) + (M : Int))))).set (b := H + 1 + 1 + 1) (by simp) (.int .i64 (wrap64 ((S3 : Int) + (M : Int)))))
        exact ⟨hO.from (by intro k hk; omega), hO.keep, by rw [HS2.out, if_pos h1, Int.natCast_add]; exact ((Below.heap_setCell _ _ _ _ (by show H + 1 + 1 ≠ H + 1 + 1 + 1; omega)).trans (set_one ((Below.heap_setCell _ _ _ _ (by show H + 1 + 1 ≠ H + 1 + 1 + 1 + 1; omega)).trans I1.out) _)), by rw [HS3.out, if_pos h2, Int.natCast_add]; exact (set_one ((Below.heap_setCell _ _ _ _ (by show H + 1 + 1 + 1 ≠ H + 1 + 1; omega)).trans ((Below.heap_setCell _ _ _ _ (by show H + 1 + 1 + 1 ≠ H + 1 + 1 + 1 + 1; omega)).trans I2.out)) _), by rw [HS4.out, Int.natCast_add]; exact ((Below.heap_setCell _ _ _ _ (by show H + 1 + 1 + 1 + 1 ≠ H + 1 + 1 + 1; omega)).trans ((Below.heap_setCell _ _ _ _ (by show H + 1 + 1 + 1 + 1 ≠ H + 1 + 1; omega)).trans (set_one I3.out _))), I4.out.trans hO⟩
      · gi_wp2
        have hO := (((OnlyE.refl (fun k => k = H + 1 + 1 ∨ k = H + 1 + 1 + 1 ∨ k = H + 1 + 1 + 1 + 1) W).set (b := H + 1 + 1 + 1 + 1) (by simp) (.int .i64 (wrap64 ((S4 : Int) + (M : Int))))).set (b := H + 1 + 1) (by simp) (.int .i64 (wrap64 ((S2 : Int) + (M : Int)))))
        exact ⟨hO.from (by intro k hk; omega), hO.keep, by rw [HS2.out, if_pos h1, Int.natCast_add]; exact (set_one ((Below.heap_setCell _ _ _ _ (by show H + 1 + 1 ≠ H + 1 + 1 + 1 + 1; omega)).trans I1.out) _), by rw [HS3.out, if_neg (by omega), Nat.add_zero S3, HV3.out]; exact ((Below.heap_setCell _ _ _ _ (by show H + 1 + 1 + 1 ≠ H + 1 + 1; omega)).trans ((Below.heap_setCell _ _ _ _ (by show H + 1 + 1 + 1 ≠ H + 1 + 1 + 1 + 1; omega)).trans I2.out)), by rw [HS4.out, Int.natCast_add]; exact ((Below.heap_setCell _ _ _ _ (by show H + 1 + 1 + 1 + 1 ≠ H + 1 + 1; omega)).trans (set_one I3.out _)), I4.out.trans hO⟩
    · have h2 : f ≤ (X : Int) := by omega
      gi_wp2
      have hO := (((OnlyE.refl (fun k => k = H + 1 + 1 ∨ k = H + 1 + 1 + 1 ∨ k = H + 1 + 1 + 1 + 1) W).set (b := H + 1 + 1 + 1 + 1) (by simp) (.int .i64 (wrap64 ((S4 : Int) + (M : Int))))).set (b := H + 1 + 1 + 1) (by simp) (.int .i64 (wrap64 ((S3 : Int) + (M : Int)))))
      exact ⟨hO.from (by intro k hk; omega), hO.keep, by rw [HS2.out, if_neg (by omega), Nat.add_zero S2, HV2.out]; exact ((Below.heap_setCell _ _ _ _ (by show H + 1 + 1 ≠ H + 1 + 1 + 1; omega)).trans ((Below.heap_setCell _ _ _ _ (by show H + 1 + 1 ≠ H + 1 + 1 + 1 + 1; omega)).trans I1.out)), by rw [HS3.out, if_pos h2, Int.natCast_add]; exact (set_one ((Below.heap_setCell _ _ _ _ (by show H + 1 + 1 + 1 ≠ H + 1 + 1 + 1 + 1; omega)).trans I2.out) _), by rw [HS4.out, Int.natCast_add]; exact ((Below.heap_setCell _ _ _ _ (by show H + 1 + 1 + 1 + 1 ≠ H + 1 + 1 + 1; omega)).trans (set_one I3.out _)), I4.out.trans hO⟩
  case stop =>
    rintro D cc pre W hD hpre h hK
    exact h.elim
  case done =>
    rintro D xs W hD rfl ⟨i1, i2, i3, i4⟩ hK
    have e2 := sum_le b g c f hc
    have e3 := sum_ge b g c f hc
    have e4 := ways_all b g c hc
    have e3' : sumF (geW b g c f) b g c (itemsL b g c) = ch (b + g) c - passN b g c (f - 1) := by omega
    rw [e2] at i1
    rw [e3'] at i2
    rw [e4] at i3
    have b2 := passN_le b g c f
    have b4 := ch_bd (b + g) c hs
    have hbw : Below w.heap.size w W := hb0.trans ((hb1.mono hb0.size).trans (i4.below (n := w.heap.size) (by have := HH.out; omega) (by intro k hk; have := HH.out; omega)))
    have hDl := (Array.getElem?_eq_some_iff.1 hK).1
    obtain ⟨A2, hA2⟩ : ∃ A, passN b g c f = A := ⟨_, rfl⟩
    obtain ⟨A3, hA3⟩ : ∃ A, ch (b + g) c - passN b g c (f - 1) = A := ⟨_, rfl⟩
    obtain ⟨A4, hA4⟩ : ∃ A, ch (b + g) c = A := ⟨_, rfl⟩
    have b3 : A3 ≤ A4 := by omega
    rw [hA2] at i1 b2
    rw [hA3] at i2
    rw [hA4] at i3 b2 b4
    have u2 : wrap64 (A2 : Int) = (A2 : Int) := IntWalk.wrap64_in _ (by omega)
    have u3 : wrap64 (A3 : Int) = (A3 : Int) := IntWalk.wrap64_in _ (by omega)
    have u4 : wrap64 (A4 : Int) = (A4 : Int) := IntWalk.wrap64_in _ (by omega)
    rw [u2] at i1
    rw [u3] at i2
    rw [u4] at i3
    clear e2 e3 e3' e4 u2 u3 u4
    have hlb : likelyB b g c f d = (decide (1000 * (A2 : Int) > d * (A4 : Int)) && decide (1000 * (A3 : Int) > d * (A4 : Int))) := by unfold likelyB; rw [hA2, hA3, hA4]
    have p0 : 0 ≤ d * (A4 : Int) := Int.mul_nonneg hd.1 (Int.natCast_nonneg _)
    have p1 : d * (A4 : Int) ≤ 1000 * (A4 : Int) := Int.mul_le_mul_of_nonneg_right hd.2 (Int.natCast_nonneg _)
    obtain ⟨P, hP⟩ : ∃ P, d * (A4 : Int) = P := ⟨_, rfl⟩
    rw [hP] at hlb p0 p1
    have b4' : (A4 : Int) ≤ 1125899906842624 := Int.ofNat_le.2 b4
    have p2 : P ≤ 1125899906842624000 := by omega
    clear p1 b4
    have r2 : 1000 * (A2 : Int) ≤ 1125899906842624000 := by have : (A2 : Int) ≤ A4 := Int.ofNat_le.2 b2; omega
    have r3 : 1000 * (A3 : Int) ≤ 1125899906842624000 := by have : (A3 : Int) ≤ A4 := Int.ofNat_le.2 b3; omega
    clear b2 b3 b4'
    have q5 : IntKind.i64.wrap (d * (A4 : Int)) = P := by rw [hP]; exact IntWalk.i64_in _ (by omega)
    have q6 : wrap64 (d * (A4 : Int)) = P := by rw [hP]; exact IntWalk.wrap64_in _ (by omega)
    have HL := Lib.hid hlb
    have HP := Lib.hid hP
    have c2 := one_cell i1
    have c3 := one_cell i2
    have c4 := one_cell i3
    have HB := Lib.hid hbw
    clear hlb hP hA2 hA3 hA4 i1 i2 i3 i4 k0 k1 k2 k3 k4 hM hO1 hbw hb0 hb1
    by_cases g1 : P < 1000 * (A2 : Int)
    · by_cases g2 : P < 1000 * (A3 : Int)
      · gi_wp2
        refine ⟨by simp, .inl ⟨_, _, rfl, run_takeDeferred hK, ?_⟩⟩
        have hg := grownBy_putObj' W D (.deferred none)
        refine ⟨_, results_tmp rfl _ _ _, ?_, HB.out.grown hg HB.out.size (fun q e => by cases e; have := HH.out; omega)⟩
        rw [HL.out]
        rw [decide_eq_true (show 1000 * (A2 : Int) > P from g1), decide_eq_true (show 1000 * (A3 : Int) > P from g2)]; rfl
      · have G2 := Lib.hid g2
        have g2' : decide (P < 1000 * (A3 : Int)) = false := decide_eq_false g2
        clear g2
        gi_wp2
        refine ⟨by simp, .inl ⟨_, _, rfl, run_takeDeferred hK, ?_⟩⟩
        have hg := grownBy_putObj' W D (.deferred none)
        refine ⟨_, results_tmp rfl _ _ _, ?_, HB.out.grown hg HB.out.size (fun q e => by cases e; have := HH.out; omega)⟩
        rw [HL.out]
        rw [decide_eq_true (show 1000 * (A2 : Int) > P from g1), decide_eq_false (show ¬ 1000 * (A3 : Int) > P from Int.not_lt.2 G2.out)]; rfl
    · have G1 := Lib.hid g1
      have g1' : decide (P < 1000 * (A2 : Int)) = false := decide_eq_false g1
      clear g1
      gi_wp2
      refine ⟨by simp, .inl ⟨_, _, rfl, run_takeDeferred hK, ?_⟩⟩
      have hg := grownBy_putObj' W D (.deferred none)
      refine ⟨_, results_tmp rfl _ _ _, ?_, HB.out.grown hg HB.out.size (fun q e => by cases e; have := HH.out; omega)⟩
      rw [HL.out]
      rw [decide_eq_false (show ¬ 1000 * (A2 : Int) > P from Int.not_lt.2 G1.out)]; rfl
end Go.Proofs.Ytclcconllkfjiaa
