/- Before and less: the order of trains, as the document's own functions have it. -/
import Derived.Test.YtoiapnokgpeipaaS5
import Derived.Test.YtoiapnokgpeipaaN2
import Derived.Test.YtoiapnokgpeipaaN5
import Derived.BigRegion
namespace Go.Proofs.Ytoiapnokgpeipaa
set_option linter.unusedSimpArgs false
open Go.RowKit Go.Maps

theorem plcells {w : World} {B : Nat} {x y : Int} {t : TypeId} (h : w.heap[B]? = some (.cells #[.int .i64 x, .int .i64 y] t)) : w.cell? ⟨B, 0, none⟩ = some (.int .i64 x) ∧ w.cell? ⟨B, 1, none⟩ = some (.int .i64 y) := by
  refine ⟨?_, ?_⟩ <;> simp [World.cell?, h]
theorem pl_lt {x1 x2 y1 y2 : Int} (h : x1 < y1) : pl (x1, x2) (y1, y2) = true := by unfold pl; exact decide_eq_true (.inl h)
theorem pl_ne {x1 x2 y1 y2 : Int} (h : ¬ x1 < y1) (h2 : (x1 == y1) = false) : pl (x1, x2) (y1, y2) = false := by
  unfold pl
  refine decide_eq_false ?_
  rintro (h3 | ⟨h3, _⟩)
  · exact h h3
  · have h3 : x1 = y1 := h3
    simp [h3] at h2
theorem pl_eq {x1 x2 y1 y2 : Int} (h2 : (x1 == y1) = true) : pl (x1, x2) (y1, y2) = decide (x2 < y2) := by
  have h2 : x1 = y1 := by simpa using h2
  subst h2
  unfold pl
  simp

set_option maxRecDepth 100000 in
set_option maxHeartbeats 1600000 in
theorem less_any (x1 x2 y1 y2 : Int) (w : World) :
    Calls Try.prog 55 #[.agg #[.int .i64 x1, .int .i64 x2], .agg #[.int .i64 y1, .int .i64 y2]] w fun e w' => e = .returned (.bool (pl (x1, x2) (y1, y2))) ∧ Below w.heap.size w w' := by
  obtain ⟨C, hC⟩ : ∃ C, C = pl (x1, x2) (y1, y2) := ⟨_, rfl⟩
  rw [← hC]
  obtain ⟨W0, hW0⟩ : ∃ W0, W0 = (w.alloc (.cells #[.int .i64 x1, .int .i64 x2] 49)).alloc (.cells #[.int .i64 y1, .int .i64 y2] 49) := ⟨_, rfl⟩
  have hg0 : Below w.heap.size w W0 := by rw [hW0]; exact ((Below.refl _ _).alloc (Nat.le_refl _) _).alloc (by simp) _
  have hG0 : W0.heap[w.heap.size]? = some (.cells #[.int .i64 x1, .int .i64 x2] 49) := by rw [hW0, Below.heap_alloc _ _ _ (by simp)]; exact (MapKept.heap_alloc w _).1
  have hR0 : W0.heap[w.heap.size + 1]? = some (.cells #[.int .i64 y1, .int .i64 y2] 49) := by
    have := (MapKept.heap_alloc (w.alloc (.cells #[.int .i64 x1, .int .i64 x2] 49)) (.cells #[.int .i64 y1, .int .i64 y2] 49)).1
    rw [hW0]; simpa using this
  obtain ⟨e0, e1⟩ := plcells hG0
  obtain ⟨f0, f1⟩ := plcells hR0
  clear hG0 hR0
  by_cases h1 : x1 < y1
  · have HC := Lib.hid (hC.trans (pl_lt h1))
    have d1 : decide (x1 < y1) = true := decide_eq_true h1
    have d2 : (x1 == y1) = false := by rw [beq_eq_false_iff_ne]; omega
    clear hC e0 e1 f0 f1
    have HW := Lib.hid hW0
    clear hW0
    go_enter Try.func55, Try.ntmps55
    go_wp2
    go_ret
    exact ⟨by rw [HC.out]; rfl, by rw [← HW.out]; exact hg0⟩
  · have d1 : decide (x1 < y1) = false := decide_eq_false h1
    cases h2 : (x1 == y1) with
    | false =>
      have HC := Lib.hid (hC.trans (pl_ne h1 h2))
      clear hC e0 e1 f0 f1
      have HW := Lib.hid hW0
      clear hW0
      go_enter Try.func55, Try.ntmps55
      go_wp2
      go_ret
      exact ⟨by rw [HC.out]; rfl, by rw [← HW.out]; exact hg0⟩
    | true =>
      have HC := Lib.hid (hC.trans (pl_eq h2))
      clear hC e0 e1 f0 f1
      have HW := Lib.hid hW0
      clear hW0
      go_enter Try.func55, Try.ntmps55
      go_wp2
      go_ret
      exact ⟨by rw [HC.out]; rfl, by rw [← HW.out]; exact hg0⟩

/-- where two lists of pairs first differ, does the one come first? -/
def lexB : List (Int × Int) → List (Int × Int) → Option Bool
  | a :: l, b :: m => if a = b then lexB l m else some (pl a b)
  | _, _ => none
def beforeB (P : List (Int × Int)) (i : Int) (Q : List (Int × Int)) (j : Int) : Bool :=
  if wheelsN P i = wheelsN Q j then (lexB P Q).getD (decide (i < j)) else decide (wheelsN P i < wheelsN Q j)
theorem lexB_skip : ∀ (k : Nat) (P Q : List (Int × Int)), k ≤ P.length → k ≤ Q.length → (∀ m, m < k → P.getD m (0, 0) = Q.getD m (0, 0)) → lexB P Q = lexB (P.drop k) (Q.drop k)
  | 0, _, _, _, _, _ => rfl
  | k + 1, [], _, h, _, _ => by simp at h
  | k + 1, _ :: _, [], _, h, _ => by simp at h
  | k + 1, a :: l, b :: m, h1, h2, h => by
    have h0 : a = b := h 0 (by omega)
    show (if a = b then lexB l m else some (pl a b)) = _
    rw [if_pos h0]
    exact lexB_skip k l m (by simpa using h1) (by simpa using h2) (fun t ht => h (t + 1) (by omega))
theorem drop_cons (P : List (Int × Int)) (k : Nat) (h : k < P.length) : P.drop k = P.getD k (0, 0) :: P.drop (k + 1) := by
  rw [List.drop_eq_getElem_cons h]; simp [List.getD, h]
theorem beforeB_at {P Q : List (Int × Int)} {i j : Int} (k : Nat) (hw : wheelsN P i = wheelsN Q j) (h1 : k < P.length) (h2 : k < Q.length) (h : ∀ m, m < k → P.getD m (0, 0) = Q.getD m (0, 0)) (hne : P.getD k (0, 0) ≠ Q.getD k (0, 0)) :
    beforeB P i Q j = pl (P.getD k (0, 0)) (Q.getD k (0, 0)) := by
  unfold beforeB
  rw [if_pos hw, lexB_skip k P Q (by omega) (by omega) h, drop_cons P k h1, drop_cons Q k h2]
  unfold lexB
  rw [if_neg hne]; rfl
theorem beforeB_end {P Q : List (Int × Int)} {i j : Int} (k : Nat) (hw : wheelsN P i = wheelsN Q j) (h1 : k ≤ P.length) (h2 : k ≤ Q.length) (h : ∀ m, m < k → P.getD m (0, 0) = Q.getD m (0, 0)) (he : k = P.length ∨ k = Q.length) :
    beforeB P i Q j = decide (i < j) := by
  unfold beforeB
  rw [if_pos hw, lexB_skip k P Q (by omega) (by omega) h]
  rcases he with rfl | rfl
  · rw [List.drop_length]; unfold lexB; rfl
  · rw [List.drop_length]
    cases P.drop Q.length <;> rfl
theorem lexB_of {P Q : List (Int × Int)} (h : lexP P Q) : lexB Q P = some false := by
  induction P generalizing Q with
  | nil => cases Q <;> exact h.elim
  | cons a l ih =>
    cases Q with
    | nil => exact h.elim
    | cons b m =>
      unfold lexB
      rcases h with h | ⟨rfl, h⟩
      · have hne : b ≠ a := by
          rintro rfl
          unfold pl at h
          have := of_decide_eq_true h
          omega
        rw [if_neg hne]
        congr 1
        unfold pl at h ⊢
        have := of_decide_eq_true h
        exact decide_eq_false (by omega)
      · rw [if_pos rfl]; exact ih h
theorem lexB_self (P : List (Int × Int)) : lexB P P = none := by
  induction P with
  | nil => rfl
  | cons a l ih => unfold lexB; rw [if_pos rfl]; exact ih
/-- no train that is as good comes before the one that is chosen -/
theorem before_not {S : List (Int × Int)} {t r p o : Int} {same : Bool} {P : List (Int × Int)} {i nw : Int} (h : RowOf (chooseC S t r p o same) P i nw 0) {Q : List (Int × Int)} {j : Int} (hso : SortedP Q) (hab : ableC S p o same Q j = 0) (hex : exA t r Q = 0) :
    beforeB Q j P i = false ∧ wheelsN P i ≤ wheelsN Q j := by
  refine ⟨?_, choose_fewest h hab hex⟩
  have hP : ableC S p o same P i = 0 := by
    rcases choose_facts h with ⟨_, _, hcs, _⟩ | ⟨_, _, _, ⟨h, _⟩ | ⟨h, _⟩⟩
    · exact hcs.able
    · omega
    · omega
  rcases choose_first h hso hab hex with ⟨rfl, hi⟩ | h | ⟨hl, h⟩
  · have hw : wheelsN Q i = wheelsN Q j := (wheels_len hP hab (Nat.le_refl _)).2.1 rfl
    unfold beforeB
    rw [if_pos hw.symm, lexB_self]
    exact decide_eq_false (by omega)
  · have hw := (wheels_len hP hab (by omega)).2.2 h
    unfold beforeB
    rw [if_neg (by omega)]
    exact decide_eq_false (by omega)
  · have hw := (wheels_len hP hab (by omega)).2.1 hl
    unfold beforeB
    rw [if_pos hw.symm, lexB_of h]; rfl

set_option maxRecDepth 100000 in
set_option maxHeartbeats 3200000 in
theorem before_any (P Q : List (Int × Int)) (pv qv : Value) (i j : Int) (w : World) (hP : WheelsAt w pv P) (hQ : WheelsAt w qv Q) (hp3 : P.length ≤ 1000000) (hq3 : Q.length ≤ 1000000) :
    Calls Try.prog 29 #[.agg #[pv, .int .i64 i], .agg #[qv, .int .i64 j]] w fun e w' => e = .returned (.bool (beforeB P i Q j)) ∧ Below w.heap.size w w' := by
  obtain ⟨C, hC⟩ : ∃ C, C = beforeB P i Q j := ⟨_, rfl⟩
  rw [← hC]
  obtain ⟨pa, pc, rfl⟩ := hP.shape
  obtain ⟨qa, qc, rfl⟩ := hQ.shape
  have hpl : P.length ≤ 9223372036854775807 := hP.1
  have hql : Q.length ≤ 9223372036854775807 := hQ.1
  obtain ⟨W0, hW0⟩ : ∃ W0, W0 = (w.alloc (.cells #[.slice pa P.length pc, .int .i64 i] 27)).alloc (.cells #[.slice qa Q.length qc, .int .i64 j] 27) := ⟨_, rfl⟩
  have hg0 : Below w.heap.size w W0 := by rw [hW0]; exact ((Below.refl _ _).alloc (Nat.le_refl _) _).alloc (by simp) _
  have hG0 : W0.heap[w.heap.size]? = some (.cells #[.slice pa P.length pc, .int .i64 i] 27) := by rw [hW0, Below.heap_alloc _ _ _ (by simp)]; exact (MapKept.heap_alloc w _).1
  have hR0 : W0.heap[w.heap.size + 1]? = some (.cells #[.slice qa Q.length qc, .int .i64 j] 27) := by
    have := (MapKept.heap_alloc (w.alloc (.cells #[.slice pa P.length pc, .int .i64 i] 27)) (.cells #[.slice qa Q.length qc, .int .i64 j] 27)).1
    rw [hW0]; simpa using this
  have hz0 : w.heap.size + 2 ≤ W0.heap.size := by rw [hW0]; simp
  have hWP := fun X => wheels_any P pa pc P.length i X rfl hp3
  have hWQ := fun X => wheels_any Q qa qc Q.length j X rfl hq3
  have HWP := Lib.hid hWP
  have HWQ := Lib.hid hWQ
  clear hWP hWQ
  go_enter Try.func29, Try.ntmps29
  go_wp2_with fail
  rw [← hW0]
  clear hW0
  refine wp_region_held_drew (S := fun w' => w'.heap[w.heap.size]? = some (.cells #[.slice pa P.length pc, .int .i64 i] 27) ∧ w'.heap[w.heap.size + 1]? = some (.cells #[.slice qa Q.length qc, .int .i64 j] 27)) (by kernel_rfl) ⟨hG0, hR0⟩ (fun hHeld => ?_)
  refine wpAnyH_take (i := 0) (oi := _) (v := ?_) rfl (by kernel_rfl) (by kernel_rfl) (by kernel_rfl) (fun _ _ _ h => h) (Or.inl ⟨by rfl, ?_⟩) hHeld ?_
  rotate_left
  · intro w1 hSw
    obtain ⟨s1, s2⟩ := hSw
    obtain ⟨e0, e1⟩ := tcells s1
    obtain ⟨f0, f1⟩ := tcells s2
    clear s1 s2
    go_simp; with_reducible rfl
  simp only [List.getElem_toArray, List.getElem_cons_succ, List.getElem_cons_zero, Act.put, List.setIfInBounds_toArray, List.set_cons_zero, List.set_cons_succ]
  refine wpAnyH_take (i := 2) (oi := _) (v := ?_) rfl (by kernel_rfl) (by kernel_rfl) (by kernel_rfl) (fun _ _ _ h => h) (Or.inl ⟨by rfl, ?_⟩) hHeld ?_
  rotate_left
  · intro w1 hSw
    obtain ⟨s1, s2⟩ := hSw
    obtain ⟨e0, e1⟩ := tcells s1
    obtain ⟨f0, f1⟩ := tcells s2
    clear s1 s2
    go_simp; with_reducible rfl
  simp only [List.getElem_toArray, List.getElem_cons_succ, List.getElem_cons_zero, Act.put, List.setIfInBounds_toArray, List.set_cons_zero, List.set_cons_succ]
  refine wpAnyH_all (rs := [1]) (by kernel_rfl) (by simp) ?_
  intro i hi; obtain rfl := List.mem_singleton.1 hi; clear hi
  refine wpOp_step rfl (fun K3 hK3 => ?_)
  have HK3 := Lib.hid hK3
  clear hK3
  rw [if_pos (by rfl)]
  go_simp
  refine (HWP.out _).mono ?_
  rintro e wp ⟨rfl, hb1⟩
  have G1 := (hb1.block w.heap.size (by simp; omega)).trans hHeld.1
  have R1 := (hb1.block (w.heap.size + 1) (by simp; omega)).trans hHeld.2
  refine HK3.out _ _ ⟨⟨G1, R1⟩, ?_⟩
  clear HK3 K3
  try simp only [List.getElem_toArray, List.getElem_cons_succ, List.getElem_cons_zero, Act.put, List.setIfInBounds_toArray, List.set_cons_zero, List.set_cons_succ]
  refine wpAnyH_all (rs := [3]) (by kernel_rfl) (by simp) ?_
  intro i hi; obtain rfl := List.mem_singleton.1 hi; clear hi
  refine wpOp_step rfl (fun K3 hK3 => ?_)
  have HK3 := Lib.hid hK3
  clear hK3
  rw [if_pos (by rfl)]
  go_simp
  refine (HWQ.out _).mono ?_
  rintro e wq ⟨rfl, hb2⟩
  have G2 := (hb2.block w.heap.size (by have := hb1.size; simp at this ⊢; omega)).trans G1
  have R2 := (hb2.block (w.heap.size + 1) (by have := hb1.size; simp at this ⊢; omega)).trans R1
  refine HK3.out _ _ ⟨⟨G2, R2⟩, ?_⟩
  clear HK3 K3
  try simp only [List.getElem_toArray, List.getElem_cons_succ, List.getElem_cons_zero, Act.put, List.setIfInBounds_toArray, List.set_cons_zero, List.set_cons_succ]
  refine wpAnyH_take (i := 4) (oi := _) (v := ?_) rfl (by kernel_rfl) (by kernel_rfl) (by kernel_rfl) (fun _ _ _ h => h) (Or.inl ⟨by rfl, ?_⟩) ⟨G2, R2⟩ ?_
  rotate_left
  · intro w1 hSw
    obtain ⟨s1, s2⟩ := hSw
    obtain ⟨e0, e1⟩ := tcells s1
    obtain ⟨f0, f1⟩ := tcells s2
    clear s1 s2
    go_simp; with_reducible rfl
  simp only [List.getElem_toArray, List.getElem_cons_succ, List.getElem_cons_zero, Act.put, List.setIfInBounds_toArray, List.set_cons_zero, List.set_cons_succ]
  refine wpAnyH_done (by kernel_rfl) ?_ _
  have hB0 : Below w.heap.size w W0.drew := below_drewN' hg0 1
  have hB1 : Below w.heap.size w wq := (hB0.trans (hb1.mono hB0.size)).trans (hb2.mono (by have := hB0.size; have := hb1.size; omega))
  have hzq : w.heap.size + 2 ≤ wq.heap.size := by have := hb1.size; have := hb2.size; simp at *; omega
  clear hG0 hR0 hz0 hHeld hb1 hb2 G1 R1 hB0 hg0
  clear wp W0
  by_cases hw : wheelsN P i = wheelsN Q j
  case neg =>
    have d1 : (wheelsN P i != wheelsN Q j) = true := by rw [bne_iff_ne]; exact hw
    have HC := Lib.hid (hC.trans (show beforeB P i Q j = decide (wheelsN P i < wheelsN Q j) by unfold beforeB; rw [if_neg hw]))
    clear hC hw
    rw [d1]
    clear d1
    go_wp2_with fail
    refine wp_region_held_drew (S := fun w' => w'.heap[w.heap.size]? = some (.cells #[.slice pa P.length pc, .int .i64 i] 27) ∧ w'.heap[w.heap.size + 1]? = some (.cells #[.slice qa Q.length qc, .int .i64 j] 27)) (by kernel_rfl) ⟨G2, R2⟩ (fun hHeldx => ?_)
    refine wpAnyH_take (i := 0) (oi := _) (v := ?_) rfl (by kernel_rfl) (by kernel_rfl) (by kernel_rfl) (fun _ _ _ h => h) (Or.inl ⟨by rfl, ?_⟩) hHeldx ?_
    rotate_left
    · intro w1 hSw
      obtain ⟨s1, s2⟩ := hSw
      obtain ⟨e0, e1⟩ := tcells s1
      obtain ⟨f0, f1⟩ := tcells s2
      clear s1 s2
      go_simp; with_reducible rfl
    simp only [List.getElem_toArray, List.getElem_cons_succ, List.getElem_cons_zero, Act.put, List.setIfInBounds_toArray, List.set_cons_zero, List.set_cons_succ]
    refine wpAnyH_take (i := 2) (oi := _) (v := ?_) rfl (by kernel_rfl) (by kernel_rfl) (by kernel_rfl) (fun _ _ _ h => h) (Or.inl ⟨by rfl, ?_⟩) hHeldx ?_
    rotate_left
    · intro w1 hSw
      obtain ⟨s1, s2⟩ := hSw
      obtain ⟨e0, e1⟩ := tcells s1
      obtain ⟨f0, f1⟩ := tcells s2
      clear s1 s2
      go_simp; with_reducible rfl
    simp only [List.getElem_toArray, List.getElem_cons_succ, List.getElem_cons_zero, Act.put, List.setIfInBounds_toArray, List.set_cons_zero, List.set_cons_succ]
    refine wpAnyH_all (rs := [1]) (by kernel_rfl) (by simp) ?_
    intro i hi; obtain rfl := List.mem_singleton.1 hi; clear hi
    refine wpOp_step rfl (fun K3 hK3 => ?_)
    have HK3 := Lib.hid hK3
    clear hK3
    rw [if_pos (by rfl)]
    go_simp
    refine (HWP.out _).mono ?_
    rintro e wpx ⟨rfl, hb1x⟩
    have G1x := (hb1x.block w.heap.size (by simp; omega)).trans hHeldx.1
    have R1x := (hb1x.block (w.heap.size + 1) (by simp; omega)).trans hHeldx.2
    refine HK3.out _ _ ⟨⟨G1x, R1x⟩, ?_⟩
    clear HK3 K3
    try simp only [List.getElem_toArray, List.getElem_cons_succ, List.getElem_cons_zero, Act.put, List.setIfInBounds_toArray, List.set_cons_zero, List.set_cons_succ]
    refine wpAnyH_all (rs := [3]) (by kernel_rfl) (by simp) ?_
    intro i hi; obtain rfl := List.mem_singleton.1 hi; clear hi
    refine wpOp_step rfl (fun K3 hK3 => ?_)
    have HK3 := Lib.hid hK3
    clear hK3
    rw [if_pos (by rfl)]
    go_simp
    refine (HWQ.out _).mono ?_
    rintro e wqx ⟨rfl, hb2x⟩
    have G2x := (hb2x.block w.heap.size (by have := hb1x.size; simp at this ⊢; omega)).trans G1x
    have R2x := (hb2x.block (w.heap.size + 1) (by have := hb1x.size; simp at this ⊢; omega)).trans R1x
    refine HK3.out _ _ ⟨⟨G2x, R2x⟩, ?_⟩
    clear HK3 K3
    try simp only [List.getElem_toArray, List.getElem_cons_succ, List.getElem_cons_zero, Act.put, List.setIfInBounds_toArray, List.set_cons_zero, List.set_cons_succ]
    refine wpAnyH_take (i := 4) (oi := _) (v := ?_) rfl (by kernel_rfl) (by kernel_rfl) (by kernel_rfl) (fun _ _ _ h => h) (Or.inl ⟨by rfl, ?_⟩) ⟨G2x, R2x⟩ ?_
    rotate_left
    · intro w1 hSw
      obtain ⟨s1, s2⟩ := hSw
      obtain ⟨e0, e1⟩ := tcells s1
      obtain ⟨f0, f1⟩ := tcells s2
      clear s1 s2
      go_simp; with_reducible rfl
    simp only [List.getElem_toArray, List.getElem_cons_succ, List.getElem_cons_zero, Act.put, List.setIfInBounds_toArray, List.set_cons_zero, List.set_cons_succ]
    refine wpAnyH_take (i := 5) (oi := _) (v := ?_) rfl (by kernel_rfl) (by kernel_rfl) (by kernel_rfl) (fun _ _ _ h => h) (Or.inl ⟨by rfl, ?_⟩) ⟨G2x, R2x⟩ ?_
    rotate_left
    · intro w1 hSw
      obtain ⟨s1, s2⟩ := hSw
      obtain ⟨e0, e1⟩ := tcells s1
      obtain ⟨f0, f1⟩ := tcells s2
      clear s1 s2
      go_simp; with_reducible rfl
    simp only [List.getElem_toArray, List.getElem_cons_succ, List.getElem_cons_zero, Act.put, List.setIfInBounds_toArray, List.set_cons_zero, List.set_cons_succ]
    refine wpAnyH_done (by kernel_rfl) ?_ _
    have hB2 : Below w.heap.size w wq.drew := below_drewN' hB1 1
    have hB3 : Below w.heap.size w wqx := (hB2.trans (hb1x.mono hB2.size)).trans (hb2x.mono (by have := hB2.size; have := hb1x.size; omega))
    go_wp2
    go_ret
    exact ⟨by rw [HC.out]; rfl, hB3⟩
  case pos =>
  have d1 : (wheelsN P i != wheelsN Q j) = false := by rw [bne_eq_false_iff_eq]; exact hw
  have HC := Lib.hid hC
  have HW := Lib.hid hw
  clear hC hw
  rw [d1]
  clear d1
  go_wp2
  go_loopw [5] (fun c wr => ∃ k : Nat, k ≤ P.length ∧ k ≤ Q.length ∧ c = .int .i64 k ∧ Below wq.heap.size wq wr ∧ ∀ m, m < k → P.getD m (0, 0) = Q.getD m (0, 0)) (fun c _ => P.length - (intOf c).toNat)
  case atStart => exact ⟨0, by omega, by omega, rfl, Below.refl _ _, fun m hm => by omega⟩
  case round =>
    obtain ⟨k, hk, hk2, rfl, hbel, hno⟩ := hrel
    have hb2 : Below w.heap.size w wr := hB1.trans (hbel.mono (by omega))
    obtain ⟨e0, e1⟩ := tcells ((hbel.block w.heap.size (by omega)).trans G2)
    obtain ⟨f0, f1⟩ := tcells ((hbel.block (w.heap.size + 1) (by omega)).trans R2)
    by_cases hlt : k < P.length
    · by_cases hlt' : k < Q.length
      · obtain ⟨b, off, rfl, _, hc1, hc2, hbl, hc⟩ := hP.at rfl (by omega)
        obtain ⟨b', off', rfl, _, hc1', hc2', hbl', hc'⟩ := hQ.at rfl (by omega)
        obtain ⟨c0, c1⟩ := hc k hlt
        obtain ⟨d0, d1⟩ := hc' k hlt'
        rw [← hb2.cell (p := ⟨b, _, none⟩) hbl] at c0 c1
        rw [← hb2.cell (p := ⟨b', _, none⟩) hbl'] at d0 d1
        obtain ⟨x, hx⟩ : ∃ x, P.getD k (0, 0) = x := ⟨_, rfl⟩
        obtain ⟨y, hy⟩ : ∃ y, Q.getD k (0, 0) = y := ⟨_, rfl⟩
        rw [hx] at c0 c1
        rw [hy] at d0 d1
        obtain ⟨x1, x2⟩ := x
        obtain ⟨y1, y2⟩ := y
        have HX := Lib.hid hx
        have HY := Lib.hid hy
        have HN := Lib.hid hno
        clear hx hy hno hc hc' G2 R2
        by_cases hxy : (x1 == y1 && x2 == y2) = true
        · obtain ⟨h1, h2⟩ : x1 = y1 ∧ x2 = y2 := by simpa using hxy
          subst h1 h2
          clear hxy
          go_wp2
          go_quiet (fail)
          go_wp2
          go_roundw
          case rel => exact ⟨k + 1, by omega, by omega, by go_num, below_drewN' hbel _, fun m hm => by by_cases e : m = k; exact e ▸ HX.out.trans HY.out.symm; exact HN.out m (by omega)⟩
          case measure => simp [intOf]; omega
        · have HC2 := Lib.hid (HC.out.trans (beforeB_at (i := i) (j := j) k HW.out hlt hlt' HN.out (by rw [HX.out, HY.out]; intro e; simp only [Prod.mk.injEq] at e; exact hxy (by simp [e.1, e.2]))))
          rw [HX.out, HY.out] at HC2
          have HL := Lib.hid (fun X => less_any x1 x2 y1 y2 X)
          cases h1 : (x1 == y1) with
          | false =>
            clear hxy
            go_wp2
            go_quiet (fail)
            go_wp2_with fail
            refine wp_region_held_drew (S := fun w' => w'.cell? ⟨w.heap.size, 0, none⟩ = some (.slice (some ⟨b, off, none⟩) P.length pc) ∧ w'.cell? ⟨w.heap.size + 1, 0, none⟩ = some (.slice (some ⟨b', off', none⟩) Q.length qc) ∧ w'.cell? ⟨b, off + k * 2, none⟩ = some (.int .i64 x1) ∧ w'.cell? ⟨b, off + k * 2 + 1, none⟩ = some (.int .i64 x2) ∧ w'.cell? ⟨b', off' + k * 2, none⟩ = some (.int .i64 y1) ∧ w'.cell? ⟨b', off' + k * 2 + 1, none⟩ = some (.int .i64 y2)) (by kernel_rfl) ⟨e0, f0, c0, c1, d0, d1⟩ (fun hHeld => ?_)
            refine wpAnyH_take (i := 0) (oi := _) (v := ?_) rfl (by kernel_rfl) (by kernel_rfl) (by kernel_rfl) (fun _ _ _ h => h) (Or.inl ⟨by rfl, ?_⟩) hHeld ?_
            rotate_left
            · intro w1 hSw
              obtain ⟨s0, s1, s2, s3, s4, s5⟩ := hSw
              go_simp; with_reducible rfl
            simp only [List.getElem_toArray, List.getElem_cons_succ, List.getElem_cons_zero, Act.put, List.setIfInBounds_toArray, List.set_cons_zero, List.set_cons_succ]
            refine wpAnyH_take (i := 1) (oi := _) (v := ?_) rfl (by kernel_rfl) (by kernel_rfl) (by kernel_rfl) (fun _ _ _ h => h) (Or.inl ⟨by rfl, ?_⟩) hHeld ?_
            rotate_left
            · intro w1 hSw
              obtain ⟨s0, s1, s2, s3, s4, s5⟩ := hSw
              go_simp; with_reducible rfl
            simp only [List.getElem_toArray, List.getElem_cons_succ, List.getElem_cons_zero, Act.put, List.setIfInBounds_toArray, List.set_cons_zero, List.set_cons_succ]
            refine wpAnyH_take (i := 2) (oi := _) (v := ?_) rfl (by kernel_rfl) (by kernel_rfl) (by kernel_rfl) (fun _ _ _ h => h) (Or.inl ⟨by rfl, ?_⟩) hHeld ?_
            rotate_left
            · intro w1 hSw
              obtain ⟨s0, s1, s2, s3, s4, s5⟩ := hSw
              go_simp; with_reducible rfl
            simp only [List.getElem_toArray, List.getElem_cons_succ, List.getElem_cons_zero, Act.put, List.setIfInBounds_toArray, List.set_cons_zero, List.set_cons_succ]
            refine wpAnyH_take (i := 3) (oi := _) (v := ?_) rfl (by kernel_rfl) (by kernel_rfl) (by kernel_rfl) (fun _ _ _ h => h) (Or.inl ⟨by rfl, ?_⟩) hHeld ?_
            rotate_left
            · intro w1 hSw
              obtain ⟨s0, s1, s2, s3, s4, s5⟩ := hSw
              go_simp; with_reducible rfl
            simp only [List.getElem_toArray, List.getElem_cons_succ, List.getElem_cons_zero, Act.put, List.setIfInBounds_toArray, List.set_cons_zero, List.set_cons_succ]
            refine wpAnyH_take (i := 4) (oi := _) (v := ?_) rfl (by kernel_rfl) (by kernel_rfl) (by kernel_rfl) (fun _ _ _ h => h) (Or.inl ⟨by rfl, ?_⟩) hHeld ?_
            rotate_left
            · intro w1 hSw
              obtain ⟨s0, s1, s2, s3, s4, s5⟩ := hSw
              go_simp; with_reducible rfl
            simp only [List.getElem_toArray, List.getElem_cons_succ, List.getElem_cons_zero, Act.put, List.setIfInBounds_toArray, List.set_cons_zero, List.set_cons_succ]
            refine wpAnyH_take (i := 5) (oi := _) (v := ?_) rfl (by kernel_rfl) (by kernel_rfl) (by kernel_rfl) (fun _ _ _ h => h) (Or.inl ⟨by rfl, ?_⟩) hHeld ?_
            rotate_left
            · intro w1 hSw
              obtain ⟨s0, s1, s2, s3, s4, s5⟩ := hSw
              go_simp; with_reducible rfl
            simp only [List.getElem_toArray, List.getElem_cons_succ, List.getElem_cons_zero, Act.put, List.setIfInBounds_toArray, List.set_cons_zero, List.set_cons_succ]
            refine wpAnyH_take (i := 6) (oi := _) (v := ?_) rfl (by kernel_rfl) (by kernel_rfl) (by kernel_rfl) (fun _ _ _ h => h) (Or.inl ⟨by rfl, ?_⟩) hHeld ?_
            rotate_left
            · intro w1 hSw
              obtain ⟨s0, s1, s2, s3, s4, s5⟩ := hSw
              go_simp; with_reducible rfl
            simp only [List.getElem_toArray, List.getElem_cons_succ, List.getElem_cons_zero, Act.put, List.setIfInBounds_toArray, List.set_cons_zero, List.set_cons_succ]
            refine wpAnyH_take (i := 7) (oi := _) (v := ?_) rfl (by kernel_rfl) (by kernel_rfl) (by kernel_rfl) (fun _ _ _ h => h) (Or.inl ⟨by rfl, ?_⟩) hHeld ?_
            rotate_left
            · intro w1 hSw
              obtain ⟨s0, s1, s2, s3, s4, s5⟩ := hSw
              go_simp; with_reducible rfl
            simp only [List.getElem_toArray, List.getElem_cons_succ, List.getElem_cons_zero, Act.put, List.setIfInBounds_toArray, List.set_cons_zero, List.set_cons_succ]
            refine wpAnyH_take (i := 8) (oi := _) (v := ?_) rfl (by kernel_rfl) (by kernel_rfl) (by kernel_rfl) (fun _ _ _ h => h) (Or.inl ⟨by rfl, ?_⟩) hHeld ?_
            rotate_left
            · intro w1 hSw
              obtain ⟨s0, s1, s2, s3, s4, s5⟩ := hSw
              go_simp; with_reducible rfl
            simp only [List.getElem_toArray, List.getElem_cons_succ, List.getElem_cons_zero, Act.put, List.setIfInBounds_toArray, List.set_cons_zero, List.set_cons_succ]
            refine wpAnyH_take (i := 9) (oi := _) (v := ?_) rfl (by kernel_rfl) (by kernel_rfl) (by kernel_rfl) (fun _ _ _ h => h) (Or.inl ⟨by rfl, ?_⟩) hHeld ?_
            rotate_left
            · intro w1 hSw
              obtain ⟨s0, s1, s2, s3, s4, s5⟩ := hSw
              go_simp; with_reducible rfl
            simp only [List.getElem_toArray, List.getElem_cons_succ, List.getElem_cons_zero, Act.put, List.setIfInBounds_toArray, List.set_cons_zero, List.set_cons_succ]
            refine wpAnyH_all (rs := [10]) (by kernel_rfl) (by simp) ?_
            intro i hi; obtain rfl := List.mem_singleton.1 hi; clear hi
            refine wpOp_step rfl (fun K3 hK3 => ?_)
            have HK3 := Lib.hid hK3
            clear hK3
            rw [if_pos (by rfl)]
            go_simp
            refine (HL.out _).mono ?_
            rintro e wp ⟨rfl, hb5⟩
            have hz5 : w.heap.size + 2 ≤ wr.heap.size := by have := hbel.size; omega
            have hS5 := And.intro ((hb5.cell (p := ⟨w.heap.size, 0, none⟩) (by simp; omega)).trans hHeld.1) (And.intro ((hb5.cell (p := ⟨w.heap.size + 1, 0, none⟩) (by simp; omega)).trans hHeld.2.1) (And.intro ((hb5.cell (p := ⟨b, _, none⟩) (by simp; omega)).trans hHeld.2.2.1) (And.intro ((hb5.cell (p := ⟨b, _, none⟩) (by simp; omega)).trans hHeld.2.2.2.1) (And.intro ((hb5.cell (p := ⟨b', _, none⟩) (by simp; omega)).trans hHeld.2.2.2.2.1) ((hb5.cell (p := ⟨b', _, none⟩) (by simp; omega)).trans hHeld.2.2.2.2.2)))))
            refine HK3.out _ _ ⟨hS5, ?_⟩
            clear HK3 K3
            try simp only [List.getElem_toArray, List.getElem_cons_succ, List.getElem_cons_zero, Act.put, List.setIfInBounds_toArray, List.set_cons_zero, List.set_cons_succ]
            refine wpAnyH_take (i := 11) (oi := _) (v := ?_) rfl (by kernel_rfl) (by kernel_rfl) (by kernel_rfl) (fun _ _ _ h => h) (Or.inl ⟨by rfl, ?_⟩) hS5 ?_
            rotate_left
            · intro w1 hSw
              obtain ⟨s0, s1, s2, s3, s4, s5⟩ := hSw
              go_simp; with_reducible rfl
            simp only [List.getElem_toArray, List.getElem_cons_succ, List.getElem_cons_zero, Act.put, List.setIfInBounds_toArray, List.set_cons_zero, List.set_cons_succ]
            refine wpAnyH_done (by kernel_rfl) ?_ _
            have hB6 : Below w.heap.size w ((wr.drewN nq).drew) := below_drewN' (below_drewN' hb2 nq) 1
            have hB7 : Below w.heap.size w wp := hB6.trans (hb5.mono hB6.size)
            go_wp2
            go_ret
            exact ⟨by rw [HC2.out]; rfl, hB7⟩
          | true =>
            have h2 : (x2 == y2) = false := by rw [h1] at hxy; simpa using hxy
            clear hxy
            go_wp2
            go_quiet (fail)
            go_wp2_with fail
            refine wp_region_held_drew (S := fun w' => w'.cell? ⟨w.heap.size, 0, none⟩ = some (.slice (some ⟨b, off, none⟩) P.length pc) ∧ w'.cell? ⟨w.heap.size + 1, 0, none⟩ = some (.slice (some ⟨b', off', none⟩) Q.length qc) ∧ w'.cell? ⟨b, off + k * 2, none⟩ = some (.int .i64 x1) ∧ w'.cell? ⟨b, off + k * 2 + 1, none⟩ = some (.int .i64 x2) ∧ w'.cell? ⟨b', off' + k * 2, none⟩ = some (.int .i64 y1) ∧ w'.cell? ⟨b', off' + k * 2 + 1, none⟩ = some (.int .i64 y2)) (by kernel_rfl) ⟨e0, f0, c0, c1, d0, d1⟩ (fun hHeld => ?_)
            refine wpAnyH_take (i := 0) (oi := _) (v := ?_) rfl (by kernel_rfl) (by kernel_rfl) (by kernel_rfl) (fun _ _ _ h => h) (Or.inl ⟨by rfl, ?_⟩) hHeld ?_
            rotate_left
            · intro w1 hSw
              obtain ⟨s0, s1, s2, s3, s4, s5⟩ := hSw
              go_simp; with_reducible rfl
            simp only [List.getElem_toArray, List.getElem_cons_succ, List.getElem_cons_zero, Act.put, List.setIfInBounds_toArray, List.set_cons_zero, List.set_cons_succ]
            refine wpAnyH_take (i := 1) (oi := _) (v := ?_) rfl (by kernel_rfl) (by kernel_rfl) (by kernel_rfl) (fun _ _ _ h => h) (Or.inl ⟨by rfl, ?_⟩) hHeld ?_
            rotate_left
            · intro w1 hSw
              obtain ⟨s0, s1, s2, s3, s4, s5⟩ := hSw
              go_simp; with_reducible rfl
            simp only [List.getElem_toArray, List.getElem_cons_succ, List.getElem_cons_zero, Act.put, List.setIfInBounds_toArray, List.set_cons_zero, List.set_cons_succ]
            refine wpAnyH_take (i := 2) (oi := _) (v := ?_) rfl (by kernel_rfl) (by kernel_rfl) (by kernel_rfl) (fun _ _ _ h => h) (Or.inl ⟨by rfl, ?_⟩) hHeld ?_
            rotate_left
            · intro w1 hSw
              obtain ⟨s0, s1, s2, s3, s4, s5⟩ := hSw
              go_simp; with_reducible rfl
            simp only [List.getElem_toArray, List.getElem_cons_succ, List.getElem_cons_zero, Act.put, List.setIfInBounds_toArray, List.set_cons_zero, List.set_cons_succ]
            refine wpAnyH_take (i := 3) (oi := _) (v := ?_) rfl (by kernel_rfl) (by kernel_rfl) (by kernel_rfl) (fun _ _ _ h => h) (Or.inl ⟨by rfl, ?_⟩) hHeld ?_
            rotate_left
            · intro w1 hSw
              obtain ⟨s0, s1, s2, s3, s4, s5⟩ := hSw
              go_simp; with_reducible rfl
            simp only [List.getElem_toArray, List.getElem_cons_succ, List.getElem_cons_zero, Act.put, List.setIfInBounds_toArray, List.set_cons_zero, List.set_cons_succ]
            refine wpAnyH_take (i := 4) (oi := _) (v := ?_) rfl (by kernel_rfl) (by kernel_rfl) (by kernel_rfl) (fun _ _ _ h => h) (Or.inl ⟨by rfl, ?_⟩) hHeld ?_
            rotate_left
            · intro w1 hSw
              obtain ⟨s0, s1, s2, s3, s4, s5⟩ := hSw
              go_simp; with_reducible rfl
            simp only [List.getElem_toArray, List.getElem_cons_succ, List.getElem_cons_zero, Act.put, List.setIfInBounds_toArray, List.set_cons_zero, List.set_cons_succ]
            refine wpAnyH_take (i := 5) (oi := _) (v := ?_) rfl (by kernel_rfl) (by kernel_rfl) (by kernel_rfl) (fun _ _ _ h => h) (Or.inl ⟨by rfl, ?_⟩) hHeld ?_
            rotate_left
            · intro w1 hSw
              obtain ⟨s0, s1, s2, s3, s4, s5⟩ := hSw
              go_simp; with_reducible rfl
            simp only [List.getElem_toArray, List.getElem_cons_succ, List.getElem_cons_zero, Act.put, List.setIfInBounds_toArray, List.set_cons_zero, List.set_cons_succ]
            refine wpAnyH_take (i := 6) (oi := _) (v := ?_) rfl (by kernel_rfl) (by kernel_rfl) (by kernel_rfl) (fun _ _ _ h => h) (Or.inl ⟨by rfl, ?_⟩) hHeld ?_
            rotate_left
            · intro w1 hSw
              obtain ⟨s0, s1, s2, s3, s4, s5⟩ := hSw
              go_simp; with_reducible rfl
            simp only [List.getElem_toArray, List.getElem_cons_succ, List.getElem_cons_zero, Act.put, List.setIfInBounds_toArray, List.set_cons_zero, List.set_cons_succ]
            refine wpAnyH_take (i := 7) (oi := _) (v := ?_) rfl (by kernel_rfl) (by kernel_rfl) (by kernel_rfl) (fun _ _ _ h => h) (Or.inl ⟨by rfl, ?_⟩) hHeld ?_
            rotate_left
            · intro w1 hSw
              obtain ⟨s0, s1, s2, s3, s4, s5⟩ := hSw
              go_simp; with_reducible rfl
            simp only [List.getElem_toArray, List.getElem_cons_succ, List.getElem_cons_zero, Act.put, List.setIfInBounds_toArray, List.set_cons_zero, List.set_cons_succ]
            refine wpAnyH_take (i := 8) (oi := _) (v := ?_) rfl (by kernel_rfl) (by kernel_rfl) (by kernel_rfl) (fun _ _ _ h => h) (Or.inl ⟨by rfl, ?_⟩) hHeld ?_
            rotate_left
            · intro w1 hSw
              obtain ⟨s0, s1, s2, s3, s4, s5⟩ := hSw
              go_simp; with_reducible rfl
            simp only [List.getElem_toArray, List.getElem_cons_succ, List.getElem_cons_zero, Act.put, List.setIfInBounds_toArray, List.set_cons_zero, List.set_cons_succ]
            refine wpAnyH_take (i := 9) (oi := _) (v := ?_) rfl (by kernel_rfl) (by kernel_rfl) (by kernel_rfl) (fun _ _ _ h => h) (Or.inl ⟨by rfl, ?_⟩) hHeld ?_
            rotate_left
            · intro w1 hSw
              obtain ⟨s0, s1, s2, s3, s4, s5⟩ := hSw
              go_simp; with_reducible rfl
            simp only [List.getElem_toArray, List.getElem_cons_succ, List.getElem_cons_zero, Act.put, List.setIfInBounds_toArray, List.set_cons_zero, List.set_cons_succ]
            refine wpAnyH_all (rs := [10]) (by kernel_rfl) (by simp) ?_
            intro i hi; obtain rfl := List.mem_singleton.1 hi; clear hi
            refine wpOp_step rfl (fun K3 hK3 => ?_)
            have HK3 := Lib.hid hK3
            clear hK3
            rw [if_pos (by rfl)]
            go_simp
            refine (HL.out _).mono ?_
            rintro e wp ⟨rfl, hb5⟩
            have hz5 : w.heap.size + 2 ≤ wr.heap.size := by have := hbel.size; omega
            have hS5 := And.intro ((hb5.cell (p := ⟨w.heap.size, 0, none⟩) (by simp; omega)).trans hHeld.1) (And.intro ((hb5.cell (p := ⟨w.heap.size + 1, 0, none⟩) (by simp; omega)).trans hHeld.2.1) (And.intro ((hb5.cell (p := ⟨b, _, none⟩) (by simp; omega)).trans hHeld.2.2.1) (And.intro ((hb5.cell (p := ⟨b, _, none⟩) (by simp; omega)).trans hHeld.2.2.2.1) (And.intro ((hb5.cell (p := ⟨b', _, none⟩) (by simp; omega)).trans hHeld.2.2.2.2.1) ((hb5.cell (p := ⟨b', _, none⟩) (by simp; omega)).trans hHeld.2.2.2.2.2)))))
            refine HK3.out _ _ ⟨hS5, ?_⟩
            clear HK3 K3
            try simp only [List.getElem_toArray, List.getElem_cons_succ, List.getElem_cons_zero, Act.put, List.setIfInBounds_toArray, List.set_cons_zero, List.set_cons_succ]
            refine wpAnyH_take (i := 11) (oi := _) (v := ?_) rfl (by kernel_rfl) (by kernel_rfl) (by kernel_rfl) (fun _ _ _ h => h) (Or.inl ⟨by rfl, ?_⟩) hS5 ?_
            rotate_left
            · intro w1 hSw
              obtain ⟨s0, s1, s2, s3, s4, s5⟩ := hSw
              go_simp; with_reducible rfl
            simp only [List.getElem_toArray, List.getElem_cons_succ, List.getElem_cons_zero, Act.put, List.setIfInBounds_toArray, List.set_cons_zero, List.set_cons_succ]
            refine wpAnyH_done (by kernel_rfl) ?_ _
            have hB6 : Below w.heap.size w ((wr.drewN nq).drew) := below_drewN' (below_drewN' hb2 nq) 1
            have hB7 : Below w.heap.size w wp := hB6.trans (hb5.mono hB6.size)
            go_wp2
            go_ret
            exact ⟨by rw [HC2.out]; rfl, hB7⟩
      · have HC2 := Lib.hid (HC.out.trans (beforeB_end (i := i) (j := j) k HW.out hk hk2 hno (.inr (by omega))))
        go_wp2
        go_ret
        exact ⟨by rw [HC2.out]; rfl, hb2⟩
    · have HC2 := Lib.hid (HC.out.trans (beforeB_end (i := i) (j := j) k HW.out hk hk2 hno (.inl (by omega))))
      go_wp2
      go_ret
      exact ⟨by rw [HC2.out]; rfl, hb2⟩
end Go.Proofs.Ytoiapnokgpeipaa

/- GearFewest: the walk. -/
namespace Go.Proofs.Ytoiapnokgpeipaa
set_option linter.unusedSimpArgs false
open Go.RowKit Go.Maps

theorem WheelsAt.lt {w : World} {P : List (Int × Int)} {a : Option Addr} {n c b off : Nat} (h : WheelsAt w (.slice a n c) P) (hne : P ≠ []) (e : a = some ⟨b, off, none⟩) : b < w.heap.size := by
  obtain ⟨b', off', rfl, _, _, _, hlt, _⟩ := h.at rfl (List.length_pos_iff.2 hne)
  simp only [Option.some.injEq, Addr.mk.injEq] at e
  rw [← e.1]; exact hlt
/-- if any exact train can be built, one is chosen -/
theorem chosen_ok {S : List (Int × Int)} {t r p o : Int} {same : Bool} {P : List (Int × Int)} {i x ne : Int} {P' : List (Int × Int)} {i' nw ne' : Int}
    (h : ((P = [] ∧ i = 0 ∧ x = 0 ∧ ne = 4) ∧ (P' = [] ∧ i' = 0 ∧ nw = 0 ∧ ne' = 4) ∧ ∀ Q j, ableC S p o same Q j ≠ 0) ∨
    (ne = 0 ∧ NearFacts S t r p o same P i x ∧ ((exA t r P = 0 ∧ P' = P ∧ i' = i ∧ nw = wheelsN P i ∧ ne' = 0) ∨ (exA t r P ≠ 0 ∧ P' = [] ∧ i' = 0 ∧ nw = 0 ∧ ne' = 4))))
    (h' : RowOf (chooseC S t r p o same) P' i' nw ne') (hp : p ≤ 3) (hr : 1 ≤ r) {Q : List (Int × Int)} {j : Int} (hab : ableC S p o same Q j = 0) (hex : exA t r Q = 0) :
    ne' = 0 ∧ nw = wheelsN P' i' := by
  rcases h with ⟨_, _, h⟩ | ⟨_, ⟨_, _, h⟩, ⟨_, rfl, rfl, rfl, rfl⟩ | ⟨hne, _⟩⟩
  · exact absurd hab (h _ _)
  · exact ⟨rfl, rfl⟩
  · refine absurd ?_ (h Q j hab)
    rw [hex]
    have e3 : distB 0 = 0 := by decide
    rw [e3, Int.zero_mul]
    have hb := able_bd hp hab
    have h1 : 0 < exB r Q := by unfold exB; exact Int.mul_pos (by omega) (by omega)
    refine Int.mul_pos ?_ h1
    unfold distB; split <;> omega

def SortTo (Q : List (Int × Int)) (n : Nat) : Prop := ∀ a b, a < b → b < n → pl (Q.getD b (0, 0)) (Q.getD a (0, 0)) = false
def InsTo (Q : List (Int × Int)) (n k : Nat) : Prop := ∀ a b, a < b → b < n → b ≠ k → pl (Q.getD b (0, 0)) (Q.getD a (0, 0)) = false
theorem ins_start {Q : List (Int × Int)} {i : Nat} (h : SortTo Q i) : InsTo Q (i + 1) i := fun a b h1 h2 h3 => h a b h1 (by omega)
theorem ins_stop0 {Q : List (Int × Int)} {n : Nat} (h : InsTo Q n 0) : SortTo Q n := fun a b h1 h2 => h a b h1 h2 (by omega)
theorem ins_stop {Q : List (Int × Int)} {n k : Nat} (h : InsTo Q n k) (hk : k < n) (hp : pl (Q.getD k (0, 0)) (Q.getD (k - 1) (0, 0)) = false) : SortTo Q n := fun a b h1 h2 => by
  by_cases e : b = k
  · subst e
    by_cases e2 : a = b - 1
    · subst e2; exact hp
    · exact pl_trans (h a (b - 1) (by omega) (by omega) (by omega)) hp
  · exact h a b h1 h2 e
theorem pl_asymm {a b : Int × Int} (h : pl a b = true) : pl b a = false := by
  unfold pl at *
  have h := of_decide_eq_true h
  exact decide_eq_false (by omega)
def swapL (Q : List (Int × Int)) (k : Nat) : List (Int × Int) := (Q.set k (Q.getD (k - 1) (0, 0))).set (k - 1) (Q.getD k (0, 0))
theorem swapL_len (Q : List (Int × Int)) (k : Nat) : (swapL Q k).length = Q.length := by simp [swapL]
theorem swapL_getD {Q : List (Int × Int)} {k : Nat} (h0 : 0 < k) (hk : k < Q.length) (m : Nat) : (swapL Q k).getD m (0, 0) = if m = k - 1 then Q.getD k (0, 0) else if m = k then Q.getD (k - 1) (0, 0) else Q.getD m (0, 0) := by
  unfold swapL
  by_cases h1 : m = k - 1
  · subst h1
    rw [if_pos rfl]
    simp [List.getD, List.getElem?_set, show k - 1 < Q.length by omega]
  · rw [if_neg h1]
    by_cases h2 : m = k
    · subst h2
      rw [if_pos rfl]
      simp [List.getD, List.getElem?_set, hk, show ¬ m - 1 = m by omega]
    · rw [if_neg h2]
      simp [List.getD, List.getElem?_set, show ¬ k - 1 = m by omega, show ¬ k = m by omega]
theorem swapL_perm {Q : List (Int × Int)} {k : Nat} (h0 : 0 < k) (hk : k < Q.length) : (swapL Q k).Perm Q := by
  have h := @List.set_set_perm _ Q k (k - 1) hk (by omega)
  unfold swapL
  simpa [List.getD, hk, show k - 1 < Q.length by omega] using h
theorem ins_swap {Q : List (Int × Int)} {n k : Nat} (h : InsTo Q n k) (h0 : 0 < k) (hk : k < n) (hn : n ≤ Q.length) (hp : pl (Q.getD k (0, 0)) (Q.getD (k - 1) (0, 0)) = true) : InsTo (swapL Q k) n (k - 1) := fun a b h1 h2 h3 => by
  rw [swapL_getD h0 (by omega) b, swapL_getD h0 (by omega) a, if_neg h3]
  by_cases hb : b = k
  · subst hb
    rw [if_pos rfl]
    by_cases ha : a = b - 1
    · rw [if_pos ha]; exact pl_asymm hp
    · rw [if_neg ha, if_neg (by omega)]; exact h a (b - 1) (by omega) (by omega) (by omega)
  · rw [if_neg hb]
    by_cases ha : a = k - 1
    · rw [if_pos ha]; exact h k b (by omega) h2 hb
    · rw [if_neg ha]
      by_cases ha2 : a = k
      · rw [if_pos ha2]; exact h (k - 1) b (by omega) h2 hb
      · rw [if_neg ha2]; exact h a b h1 h2 hb
theorem sorted_to {Q : List (Int × Int)} (h : SortTo Q Q.length) : SortedP Q := fun k hk => h k (k + 1) (by omega) hk

def FewW (w : World) (sz B1 B3 : Nat) (G T O : Obj) (v2 : Value) (P2 : List (Int × Int)) (v3 : Value) (Q : List (Int × Int)) (wr : World) : Prop :=
  Below w.heap.size w wr ∧ sz ≤ wr.heap.size ∧ wr.heap[w.heap.size]? = some G ∧ wr.heap[B1]? = some T ∧ wr.heap[B3]? = some O ∧ WheelsAt wr v2 P2 ∧ WheelsAt wr v3 Q ∧ ∀ b, v3.ownBlock = some b → ∃ cs, wr.heap[b]? = some (.cells cs 49 (0, 0))

theorem pl_no {x y x' y' : Int} (h : ¬ x < x' ∧ ¬ (x = x' ∧ y < y')) : pl (x, y) (x', y') = false := by
  unfold pl
  refine decide_eq_false ?_
  rintro (h3 | h3)
  · exact h.1 h3
  · exact h.2 h3
theorem own_block {w : World} {base : Nat} {v : Value} {n : Nat} {xs : List Value} (h : w.ownsRow base 49 2 v n xs) {b : Nat} (e : v.ownBlock = some b) : ∃ cs, w.heap[b]? = some (.cells cs 49 (0, 0)) := by
  rcases h.2 with ⟨rfl, _⟩ | ⟨g, cap, cur, rfl, _, hg, _⟩
  · cases e
  · obtain rfl : g = b := Option.some.inj e
    exact ⟨cur, hg⟩
theorem cell_cs {X : World} {b : Nat} {cs : Array Value} {t : TypeId} {o : Nat} (h : X.heap[b]? = some (.cells cs t (0, 0))) : X.cell? ⟨b, o, none⟩ = cs[o]? := by simp [World.cell?, h]
theorem set4_get (cs : Array Value) (p q : Nat) (u0 u1 v0 v1 : Value) (hp : p + 1 < cs.size) (hq : q + 1 < cs.size) (hpq : q + 2 ≤ p) (o : Nat) :
    ((((cs.setIfInBounds p u0).setIfInBounds (p + 1) u1).setIfInBounds q v0).setIfInBounds (q + 1) v1)[o]? = if o = p then some u0 else if o = p + 1 then some u1 else if o = q then some v0 else if o = q + 1 then some v1 else cs[o]? := by
  simp only [Array.getElem?_setIfInBounds, Array.size_setIfInBounds]
  by_cases h1 : o = p
  · subst h1
    rw [if_neg (by omega), if_neg (by omega), if_neg (by omega), if_pos rfl, if_pos (by omega), if_pos rfl]
  · by_cases h2 : o = p + 1
    · subst h2
      rw [if_neg (by omega), if_neg (by omega), if_pos rfl, if_pos (by omega), if_neg h1, if_pos rfl]
    · by_cases h3 : o = q
      · subst h3
        rw [if_neg (by omega), if_pos rfl, if_pos (by omega), if_neg h1, if_neg h2, if_pos rfl]
      · by_cases h4 : o = q + 1
        · subst h4
          rw [if_pos rfl, if_pos (by omega), if_neg h1, if_neg h2, if_neg h3, if_pos rfl]
        · rw [if_neg (fun e => h4 e.symm), if_neg (fun e => h3 e.symm), if_neg (fun e => h2 e.symm), if_neg (fun e => h1 e.symm), if_neg h1, if_neg h2, if_neg h3, if_neg h4]
set_option maxHeartbeats 3200000 in
theorem swap_world {X Y : World} {b off k n cap : Nat} {Q : List (Int × Int)} {x y x' y' : Int} {cs : Array Value} (hcs : X.heap[b]? = some (.cells cs 49 (0, 0))) (hw : WheelsAt X (.slice (some ⟨b, off, none⟩) n cap) Q)
    (h0 : 0 < k) (hk : k < Q.length) (h1 : Q.getD k (0, 0) = (x, y)) (h2 : Q.getD (k - 1) (0, 0) = (x', y'))
    (e : Y = ((((X.setCell ⟨b, off + k * 2, none⟩ (.int .i64 x')).setCell ⟨b, off + k * 2 + 1, none⟩ (.int .i64 y')).setCell ⟨b, off + (k - 1) * 2, none⟩ (.int .i64 x)).setCell ⟨b, off + (k - 1) * 2 + 1, none⟩ (.int .i64 y)).drew) :
    (∀ j, j ≠ b → Y.heap[j]? = X.heap[j]?) ∧ Y.heap.size = X.heap.size ∧ WheelsAt Y (.slice (some ⟨b, off, none⟩) n cap) (swapL Q k) ∧ (∃ cs, Y.heap[b]? = some (.cells cs 49 (0, 0))) ∧ (∀ w : World, w.heap.size ≤ b → Below w.heap.size w X → Below w.heap.size w Y) := by
  subst e
  have hb := heap_set (heap_set (heap_set (heap_set hcs (off + k * 2) (.int .i64 x')) (off + k * 2 + 1) (.int .i64 y')) (off + (k - 1) * 2) (.int .i64 x)) (off + (k - 1) * 2 + 1) (.int .i64 y)
  refine ⟨fun j hj => ?_, by simp, ?_, ⟨_, hb⟩, fun w hw hbw => below_drewN' ((((hbw.setCell hw _).setCell hw _).setCell hw _).setCell hw _) 1⟩
  · exact ((Below.heap_setCell _ _ _ _ hj).trans (Below.heap_setCell _ _ _ _ hj)).trans ((Below.heap_setCell _ _ _ _ hj).trans (Below.heap_setCell _ _ _ _ hj))
  · obtain ⟨b', off', e, hn, hc1, hc2, hlt, hc⟩ := hw.at rfl (by omega)
    simp only [Option.some.injEq, Addr.mk.injEq, and_true] at e
    obtain ⟨rfl, rfl⟩ := e
    have q1 := (cell_cs hcs).symm.trans (hc k hk).2
    have q2 := (cell_cs hcs).symm.trans (hc (k - 1) (by omega)).2
    have z1 := (Array.getElem?_eq_some_iff.1 q1).1
    have z2 := (Array.getElem?_eq_some_iff.1 q2).1
    refine ⟨by rw [swapL_len]; exact hw.1, .inr ⟨b, off, cap, by rw [swapL_len, hn], by rw [swapL_len]; omega, hc2, by simpa using hlt, fun i hi => ?_⟩⟩
    rw [swapL_len] at hi
    have g := set4_get cs (off + k * 2) (off + (k - 1) * 2) (.int .i64 x') (.int .i64 y') (.int .i64 x) (.int .i64 y) z1 z2 (by omega)
    have ga := (cell_cs hb).trans (g (off + i * 2))
    have gb := (cell_cs hb).trans (g (off + i * 2 + 1))
    rw [swapL_getD h0 hk i]
    have c0 := (cell_cs hcs).symm.trans (hc i hi).1
    have c1 := (cell_cs hcs).symm.trans (hc i hi).2
    by_cases e1 : i = k - 1
    · subst e1
      rw [if_neg (by omega), if_neg (by omega), if_pos rfl] at ga
      rw [if_neg (by omega), if_neg (by omega), if_neg (by omega), if_pos rfl] at gb
      rw [if_pos rfl, h1]
      exact ⟨ga, gb⟩
    · rw [if_neg e1]
      by_cases e2 : i = k
      · subst e2
        rw [if_pos rfl] at ga
        rw [if_neg (by omega), if_pos rfl] at gb
        rw [if_pos rfl, h2]
        exact ⟨ga, gb⟩
      · rw [if_neg e2]
        rw [if_neg (by omega), if_neg (by omega), if_neg (by omega), if_neg (by omega)] at ga
        rw [if_neg (by omega), if_neg (by omega), if_neg (by omega), if_neg (by omega)] at gb
        exact ⟨ga.trans c0, gb.trans c1⟩
theorem wheels_same {w w' : World} {a : Option Addr} {n c B : Nat} {P : List (Int × Int)} (h : WheelsAt w (.slice a n c) P) (hs : w'.heap.size = w.heap.size) (hb : ∀ j, j ≠ B → w'.heap[j]? = w.heap[j]?) (hne : ∀ b off, P ≠ [] → a = some ⟨b, off, none⟩ → b ≠ B) : WheelsAt w' (.slice a n c) P := by
  obtain ⟨hl, ⟨rfl, h⟩ | ⟨b, off, cap, e, hlc, hcm, hlt, hc⟩⟩ := h
  · exact ⟨hl, .inl ⟨rfl, h⟩⟩
  · refine ⟨hl, .inr ⟨b, off, cap, e, hlc, hcm, by rw [hs]; exact hlt, fun i hi => ?_⟩⟩
    simp only [Value.slice.injEq] at e
    obtain ⟨rfl, _, _⟩ := e
    have hj := hb b (hne b off (fun e => by rw [e] at hi; simp at hi) rfl)
    exact ⟨(World.cell?_of_block (a := ⟨b, _, none⟩) hj).trans (hc i hi).1, (World.cell?_of_block (a := ⟨b, _, none⟩) hj).trans (hc i hi).2⟩
theorem swap_world' {X : World} {b off k n cap : Nat} {Q : List (Int × Int)} {x y x' y' : Int} {cs : Array Value} (hcs : X.heap[b]? = some (.cells cs 49 (0, 0))) (hw : WheelsAt X (.slice (some ⟨b, off, none⟩) n cap) Q)
    (h0 : 0 < k) (hk : k < Q.length) (h1 : Q.getD k (0, 0) = (x, y)) (h2 : Q.getD (k - 1) (0, 0) = (x', y')) : ∃ Y, Y = ((((X.setCell ⟨b, off + k * 2, none⟩ (.int .i64 x')).setCell ⟨b, off + k * 2 + 1, none⟩ (.int .i64 y')).setCell ⟨b, off + (k - 1) * 2, none⟩ (.int .i64 x)).setCell ⟨b, off + (k - 1) * 2 + 1, none⟩ (.int .i64 y)).drew ∧
    (∀ j, j ≠ b → Y.heap[j]? = X.heap[j]?) ∧ Y.heap.size = X.heap.size ∧ WheelsAt Y (.slice (some ⟨b, off, none⟩) n cap) (swapL Q k) ∧ (∃ cs, Y.heap[b]? = some (.cells cs 49 (0, 0))) ∧ (∀ w : World, w.heap.size ≤ b → Below w.heap.size w X → Below w.heap.size w Y) :=
  ⟨_, rfl, swap_world hcs hw h0 hk h1 h2 rfl⟩
theorem pl_eq2 {x1 x2 y1 y2 : Int} (h1 : x1 = y1) (h2 : x2 < y2) : pl (x1, x2) (y1, y2) = true := by unfold pl; exact decide_eq_true (.inr ⟨h1, h2⟩)
set_option maxRecDepth 100000 in
set_option maxHeartbeats 12800000 in
theorem fewestLaw_any (S : List (Int × Int)) (L : List Nat) (sv bv : Value) (t r p o : Int) (same : Bool) (w : World) (hS : WheelsAt w sv S) (hL : BytesAt w bv L) (hss : ∀ b off n c, sv = .slice (some ⟨b, off, none⟩) n c → b < w.heap.size) :
    Calls Try.prog 7 #[sv, .agg #[.int .i64 t, .int .i64 r, .bool same, .int .i64 p, .int .i64 o], bv] w
      fun e w' => e = .returned (.bool true) ∧ Below w.heap.size w w' := by
  obtain ⟨sa, sc, rfl⟩ := hS.shape
  obtain ⟨ba, bc, rfl⟩ := hL.shape
  have hsl : S.length ≤ 9223372036854775807 := hS.1
  obtain ⟨W0, hW0, hbw, hG, hz0⟩ := boxG w t r p o same
  have hzz : w.heap.size + 1 ≤ W0.heap.size := by omega
  clear hz0
  have hgr := great_any sa S.length sc 6 W0 hsl
  obtain ⟨gr, hgre⟩ : ∃ gr, greatB S.length 6 = gr := ⟨_, rfl⟩
  rw [hgre] at hgr
  clear hgre
  have ha := fun X => alive_any X
  have HA := Lib.hid ha
  clear ha
  go_enter Try.func7, Try.ntmps7
  go_wp2_with fail
  rw [← hW0]
  clear hW0
  refine hgr.mono ?_
  rintro e w1 ⟨rfl, rfl⟩
  clear hgr
  cases gr with
  | true =>
    clear hG
    go_wp2_with fail
    refine (HA.out _).mono ?_
    rintro e wq ⟨rfl, hbq⟩
    go_wp2
    go_ret
    exact ⟨rfl, hbw.trans (hbq.mono hbw.size)⟩
  | false =>
  have hrs := refStock_any S (.slice sa S.length sc) W0 (hS.below hbw)
  obtain ⟨st, hst⟩ : ∃ st, stockB S = st := ⟨_, rfl⟩
  rw [hst] at hrs
  have HRS := Lib.hid hrs
  have HST := Lib.hid hst
  clear hrs hst
  go_wp2_with fail
  refine HRS.out.mono ?_
  rintro e w2 ⟨rfl, hb2⟩
  clear HRS
  replace hG := (hb2.block w.heap.size (by omega)).trans hG
  replace hbw := hbw.trans (hb2.mono (by omega))
  replace hzz := Nat.le_trans hzz hb2.size
  clear hb2
  cases st with
  | false =>
    clear hG
    go_wp2_with fail
    refine (HA.out _).mono ?_
    rintro e wq ⟨rfl, hbq⟩
    go_wp2
    go_ret
    exact ⟨rfl, hbw.trans (hbq.mono hbw.size)⟩
  | true =>
  have hrg := refGearing_any t r p o same w2
  obtain ⟨ge, hge⟩ : ∃ ge, gearB t r p o = ge := ⟨_, rfl⟩
  rw [hge] at hrg
  have HRG := Lib.hid hrg
  have HGE := Lib.hid hge
  clear hrg hge
  obtain ⟨g0, g1, g2, g3, g4⟩ := gcells hG
  go_wp2_with fail
  refine HRG.out.mono ?_
  rintro e w3 ⟨rfl, hb3⟩
  clear HRG g0 g1 g2 g3 g4
  replace hG := (hb3.block w.heap.size (by omega)).trans hG
  replace hbw := hbw.trans (hb3.mono (by omega))
  replace hzz := Nat.le_trans hzz hb3.size
  clear hb3
  cases ge with
  | false =>
    clear hG
    go_wp2_with fail
    refine (HA.out _).mono ?_
    rintro e wq ⟨rfl, hbq⟩
    go_wp2
    go_ret
    exact ⟨rfl, hbw.trans (hbq.mono hbw.size)⟩
  | true =>
  have hgi := gearB_iff.1 HGE.out
  have ht2 : 1 ≤ t ∧ t ≤ 1000 := ⟨hgi.1, hgi.2.1⟩
  have hr2 : 1 ≤ r ∧ r ≤ 1000 := ⟨hgi.2.2.1, hgi.2.2.2.1⟩
  have hp2 : 0 ≤ p ∧ p ≤ 3 := ⟨hgi.2.2.2.2.1, hgi.2.2.2.2.2.1⟩
  clear hgi
  obtain ⟨P1, i1, x1, ne1, hnear⟩ := nearOf_any t r (nearC S t r p o same)
  obtain ⟨P2, i2, nw, ne2, hrow⟩ := rowOf_any (chooseC S t r p o same)
  have hl2 : P2.length ≤ 3 := chosen_len hrow
  have HF := Lib.hid (near_choose HST.out HGE.out hnear hrow)
  clear hnear
  have HROW := Lib.hid hrow
  have hch := chose_gen hrow (hS.below hbw) (fun b off e => Nat.lt_of_lt_of_le (hss b off S.length sc (by rw [e])) hbw.size)
  have HCH := Lib.hid hch
  clear hch hrow
  obtain ⟨g0, g1, g2, g3, g4⟩ := gcells hG
  go_wp2_with fail
  refine HCH.out.mono ?_
  rintro e w4 ⟨a2, c2, rfl, hown2, hb4⟩
  clear HCH g0 g1 g2 g3 g4
  replace hG := (hb4.block w.heap.size (by omega)).trans hG
  replace hbw := hbw.trans (hb4.mono (by omega))
  replace hzz := Nat.le_trans hzz hb4.size
  clear hb4
  have hP2 : WheelsAt w4 (.slice a2 P2.length c2) P2 := wheels_own hown2 (by omega)
  clear hown2
  have hlt2 := fun b off (h1 : P2 ≠ []) (h2 : a2 = some ⟨b, off, none⟩) => hP2.lt h1 h2
  obtain ⟨W5, hW5, hb5, hT, hz5⟩ := box27 w4 (.slice a2 P2.length c2) i2
  obtain ⟨B1, hB1⟩ : ∃ B, B = w4.heap.size := ⟨_, rfl⟩
  rw [← hB1] at hT hz5 hlt2
  have hTz : B1 < W5.heap.size := by omega
  have hot := other_any S L (.slice sa S.length sc) (.slice ba L.length bc) t r p o same W5 (hS.below (hbw.trans (hb5.mono (by omega)))) (hL.below (hbw.trans (hb5.mono (by omega)))) hp2
  have HOT := Lib.hid hot
  have HB1 := Lib.hid hB1
  have HB1' : w.heap.size < B1 := by omega
  obtain ⟨g0, g1, g2, g3, g4⟩ := gcells ((hb5.block w.heap.size (by omega)).trans hG)
  rw [hW5] at g0 g1 g2 g3 g4
  clear hot hB1 hz5
  go_wp2_with fail
  rw [← hW5, ← HB1.out]
  clear hW5 g0 g1 g2 g3 g4
  refine HOT.out.mono ?_
  rintro e w8 ⟨a3, c3, P3, i3, rfl, hl3, hown3, hb8⟩
  clear HOT
  replace hG := (hb5.block w.heap.size (by omega)).trans hG
  replace hP2 := hP2.below hb5
  replace hbw := hbw.trans (hb5.mono (by omega))
  replace hzz := Nat.le_trans hzz hb5.size
  clear hb5 HB1
  have hlt3 : ∀ b, (Value.slice a3 P3.length c3).ownBlock = some b → B1 < b ∧ b < w8.heap.size := fun b e => by
    have := hown3.lt b e
    exact ⟨by omega, this.2⟩
  replace hG := (hb8.block w.heap.size (by omega)).trans hG
  replace hT := (hb8.block B1 (by omega)).trans hT
  replace hP2 := hP2.below hb8
  replace hbw := hbw.trans (hb8.mono (by omega))
  replace hzz := Nat.le_trans hzz hb8.size
  replace hTz := Nat.lt_of_lt_of_le hTz hb8.size
  clear hb8
  have hP3 : WheelsAt w8 (.slice a3 P3.length c3) P3 := wheels_own hown3 (by omega)
  have hfz3 : ∀ b, (Value.slice a3 P3.length c3).ownBlock = some b → ∃ cs, w8.heap[b]? = some (.cells cs 49 (0, 0)) := fun b e => own_block hown3 e
  clear hown3
  obtain ⟨W9, hW9, hb9, hO, hz9⟩ := box27 w8 (.slice a3 P3.length c3) i3
  obtain ⟨B3, hB3⟩ : ∃ B, B = w8.heap.size := ⟨_, rfl⟩
  rw [← hB3] at hO hz9 hlt3
  have hOz : B3 < W9.heap.size := by omega
  have HB3' : B1 < B3 := by omega
  have HB3 := Lib.hid hB3
  have hbu := build_any S (.slice sa S.length sc) t r p o same P3 (.slice a3 P3.length c3) i3 W9 (hS.below (hbw.trans (hb9.mono (by omega)))) (hP3.below hb9) (fun b off n c e => Nat.lt_of_lt_of_le (hss b off n c e) (Nat.le_trans hbw.size hb9.size))
  have hsays := build_says (P := P3) (i := i3) (same := same) HST.out HGE.out
  obtain ⟨Q, hQ⟩ : ∃ Q, buildC S t r p o same P3 i3 = Q := ⟨_, rfl⟩
  rw [hQ] at hbu hsays
  clear hQ
  obtain ⟨m3, h3⟩ := Q
  have HBU := Lib.hid hbu
  have HSA := Lib.hid hsays
  obtain ⟨g0, g1, g2, g3, g4⟩ := gcells ((hb9.block w.heap.size (by omega)).trans hG)
  obtain ⟨f0, f1⟩ := tcells hO
  rw [hW9] at g0 g1 g2 g3 g4 f0 f1
  rw [HB3.out] at f0 f1
  clear hbu hsays hB3 hz9
  go_wp2_with fail
  rw [← hW9, ← HB3.out]
  clear hW9 g0 g1 g2 g3 g4 f0 f1
  refine HBU.out.mono ?_
  rintro e wa ⟨rfl, hba⟩
  clear HBU
  replace hfz3 : ∀ b, (Value.slice a3 P3.length c3).ownBlock = some b → ∃ cs, _ := fun b e => (hfz3 b e).imp fun cs h => (hb9.block b (by have := (hlt3 b e).2; have := HB3.out; omega)).trans h
  replace hG := (hb9.block w.heap.size (by omega)).trans hG
  replace hT := (hb9.block B1 (by omega)).trans hT
  replace hP2 := hP2.below hb9
  replace hP3 := hP3.below hb9
  replace hbw := hbw.trans (hb9.mono (by omega))
  replace hzz := Nat.le_trans hzz hb9.size
  replace hTz := Nat.lt_of_lt_of_le hTz hb9.size
  clear hb9 HB3
  replace hfz3 : ∀ b, (Value.slice a3 P3.length c3).ownBlock = some b → ∃ cs, _ := fun b e => (hfz3 b e).imp fun cs h => (hba.block b (by have := (hlt3 b e).2; omega)).trans h
  replace hG := (hba.block w.heap.size (by omega)).trans hG
  replace hT := (hba.block B1 (by omega)).trans hT
  replace hO := (hba.block B3 (by omega)).trans hO
  replace hP2 := hP2.below hba
  replace hP3 := hP3.below hba
  replace hbw := hbw.trans (hba.mono (by omega))
  replace hzz := Nat.le_trans hzz hba.size
  replace hTz := Nat.lt_of_lt_of_le hTz hba.size
  replace hOz := Nat.lt_of_lt_of_le hOz hba.size
  clear hba
  rcases HSA.out with ⟨hab, hex3, hq⟩ | ⟨hab, hex3, hq⟩ | ⟨e3, hab, hq, hn0, hn11⟩
  case inr.inl =>
    obtain ⟨rfl, rfl⟩ := Prod.mk.inj hq
    clear hq HSA hG hT hO
    go_wp2_with fail
    refine (HA.out _).mono ?_
    rintro e wq ⟨rfl, hbq⟩
    go_wp2
    go_ret
    exact ⟨rfl, hbw.trans (hbq.mono hbw.size)⟩
  case inr.inr =>
    obtain ⟨rfl, rfl⟩ := Prod.mk.inj hq
    have y0 : (h3 != 0) = true := by simp [hn0]
    clear hq HSA hG hT hO hn0 hn11
    go_wp2_with fail
    refine (HA.out _).mono ?_
    rintro e wq ⟨rfl, hbq⟩
    go_wp2
    go_ret
    exact ⟨rfl, hbw.trans (hbq.mono hbw.size)⟩
  case inl =>
  obtain ⟨hm3, rfl⟩ := Prod.mk.inj hq
  clear hq HSA
  have HE := Lib.hid (chosen_ok HF.out HROW.out hp2.2 hr2.1 hab hex3)
  clear HF
  have HM := Lib.hid hm3
  clear hm3
  obtain ⟨f0, f1⟩ := tcells hO
  go_wp2_with fail
  clear f0 f1
  have hsz : B3 < wa.heap.size := hOz
  have hF0 : FewW w wa.heap.size B1 B3 (Obj.cells #[.int .i64 t, .int .i64 r, .bool same, .int .i64 p, .int .i64 o] 24) (Obj.cells #[.slice a2 P2.length c2, .int .i64 i2] 27) (Obj.cells #[.slice a3 P3.length c3, .int .i64 i3] 27) (.slice a2 P2.length c2) P2 (.slice a3 P3.length c3) P3 wa := ⟨hbw, Nat.le_refl _, hG, hT, hO, hP2, hP3, hfz3⟩
  have HF0 := Lib.hid hF0
  clear hF0 hG hT hO hP2 hP3 hfz3
  go_loopw [58] (fun c wr => ∃ (i : Nat) (Q : List (Int × Int)), i ≤ P3.length ∧ c = .int .i64 i ∧ Q.Perm P3 ∧ SortTo Q i ∧ FewW w wa.heap.size B1 B3 (Obj.cells #[.int .i64 t, .int .i64 r, .bool same, .int .i64 p, .int .i64 o] 24) (Obj.cells #[.slice a2 P2.length c2, .int .i64 i2] 27) (Obj.cells #[.slice a3 P3.length c3, .int .i64 i3] 27) (.slice a2 P2.length c2) P2 (.slice a3 P3.length c3) Q wr) (fun c _ => P3.length - (intOf c).toNat)
  case atStart => exact ⟨0, P3, by omega, rfl, List.Perm.refl _, fun a b h1 h2 => by omega, HF0.out⟩
  case round =>
    obtain ⟨i, Q, hi, rfl, hperm, hsort, hbelo, hszo, hGo, hTo, hOo, hP2o, hQo, hfzo⟩ := hrel
    by_cases hlt : i < P3.length
    · obtain ⟨wo, hwo⟩ : ∃ wo : World, wo = wr := ⟨_, rfl⟩
      have HSO := Lib.hid hsort
      have HQ0 := Lib.hid (And.intro hperm (show FewW w wa.heap.size B1 B3 (Obj.cells #[.int .i64 t, .int .i64 r, .bool same, .int .i64 p, .int .i64 o] 24) (Obj.cells #[.slice a2 P2.length c2, .int .i64 i2] 27) (Obj.cells #[.slice a3 P3.length c3, .int .i64 i3] 27) (.slice a2 P2.length c2) P2 (.slice a3 P3.length c3) Q wr from ⟨hbelo, hszo, hGo, hTo, hOo, hP2o, hQo, hfzo⟩))
      subst hwo
      clear hbelo hszo hGo hTo hOo hP2o hQo hfzo hperm hsort
      go_wp2_with fail
      go_loopw [14] (fun c wr => ∃ (k : Nat) (Q : List (Int × Int)), k ≤ i ∧ c = .int .i64 k ∧ Q.Perm P3 ∧ InsTo Q (i + 1) k ∧ FewW w wa.heap.size B1 B3 (Obj.cells #[.int .i64 t, .int .i64 r, .bool same, .int .i64 p, .int .i64 o] 24) (Obj.cells #[.slice a2 P2.length c2, .int .i64 i2] 27) (Obj.cells #[.slice a3 P3.length c3, .int .i64 i3] 27) (.slice a2 P2.length c2) P2 (.slice a3 P3.length c3) Q wr) (fun c _ => (intOf c).toNat)
      case atStart => exact ⟨i, Q, Nat.le_refl _, rfl, HQ0.out.1, ins_start HSO.out, HQ0.out.2⟩
      case round =>
        clear HQ0 HSO
        clear Q
        obtain ⟨k, Q, hk, rfl, hperm, hins, hbelo, hszo, hGo, hTo, hOo, hP2o, hQo, hfzo⟩ := hrel
        have hQl : Q.length = P3.length := hperm.length_eq
        obtain ⟨f0, f1⟩ := tcells hOo
        obtain ⟨b', off, rfl, hnq, hc1, hc2, hbl, hc⟩ := hQo.at rfl (by omega)
        clear hnq
        obtain ⟨c0, c1⟩ := hc k (by omega)
        obtain ⟨⟨x, y⟩, hx⟩ : ∃ x, Q.getD k (0, 0) = x := ⟨_, rfl⟩
        rw [hx] at c0 c1
        have j1 : (0 : Int) ≤ (k : Int) := by omega
        have j2 : (k : Int) < (P3.length : Int) := by omega
        have hGo' := Lib.hid hGo
        have hTo' := Lib.hid hTo
        have hOo' := Lib.hid hOo
        have hPerm := Lib.hid hperm
        have hQl' := Lib.hid hQl
        have hX := Lib.hid hx
        have hIns := Lib.hid hins
        clear hGo hTo hOo hQl hx hperm hins
        by_cases hk0 : k = 0
        · have hg : decide (0 < k) = false := by simp; omega
          have hn0 : ¬ 0 < k := by omega
          have hSt := Lib.hid (ins_stop0 (hk0 ▸ hIns.out))
          clear hc hk0
          go_wp2
          go_quiet (fail)
          go_wp2
          go_roundw
          case rel => exact ⟨i + 1, Q, by omega, by go_num, hPerm.out, hSt.out, below_drewN' hbelo _, hszo, hGo'.out, hTo'.out, hOo'.out, hP2o, hQo, hfzo⟩
          case measure => simp [intOf]; omega
        · obtain ⟨d0, d1⟩ := hc (k - 1) (by have := hQl'.out; omega)
          obtain ⟨⟨x', y'⟩, hx'⟩ : ∃ x, Q.getD (k - 1) (0, 0) = x := ⟨_, rfl⟩
          rw [hx'] at d0 d1
          have ek : (k : Int) - 1 = ((k - 1 : Nat) : Int) := by omega
          have hg : decide (0 < k) = true := by simp; omega
          have hn0 : 0 < k := by omega
          have hX' := Lib.hid hx'
          have hHC := Lib.hid hc
          clear hx' hc hk0
          by_cases he : x < x'
          · have hl1 : decide (x < x') = true := decide_eq_true he
            have HE2 := Lib.hid he
            clear he
            go_wp2
            go_quiet (fail)
            go_wp2_with fail
            have hne : b' ≠ B3 := by have := (hlt3 b' rfl).2; omega
            have hne2 : B3 ≠ b' := Ne.symm hne
            have hno1 : off + (k - 1) * 2 ≠ off + k * 2 := by omega
            have hno2 : off + k * 2 ≠ off + (k - 1) * 2 := by omega
            obtain ⟨X, hXw⟩ : ∃ X, X = wr.drewN nq := ⟨_, rfl⟩
            have hcX : ∀ p, X.cell? p = wr.cell? p := fun p => by rw [hXw]; rfl
            replace f0 := (hcX _).trans f0
            replace f1 := (hcX _).trans f1
            replace c0 := (hcX _).trans c0
            replace c1 := (hcX _).trans c1
            replace d0 := (hcX _).trans d0
            replace d1 := (hcX _).trans d1
            clear hcX
            obtain ⟨cs, hcs⟩ := hfzo b' rfl
            have hcsX : X.heap[b']? = some (.cells cs 49 (0, 0)) := by rw [hXw]; exact hcs
            have fz0 : X.frozen? ⟨b', off + k * 2, none⟩ = false := by simp [World.frozen?, hcsX]
            have fz1 : X.frozen? ⟨b', off + k * 2 + 1, none⟩ = false := by simp [World.frozen?, hcsX]
            have fz2 : X.frozen? ⟨b', off + (k - 1) * 2, none⟩ = false := by simp [World.frozen?, hcsX]
            have fz3 : X.frozen? ⟨b', off + (k - 1) * 2 + 1, none⟩ = false := by simp [World.frozen?, hcsX]
            have hCS := Lib.hid hcsX
            clear hcs hcsX
            rw [← hXw]
            have hbX : Below w.heap.size w X := by rw [hXw]; exact below_drewN' hbelo _
            have hQX : WheelsAt X (.slice (some ⟨b', off, none⟩) P3.length c3) Q := by rw [hXw]; exact hQo
            have hP2X : WheelsAt X (.slice a2 P2.length c2) P2 := by rw [hXw]; exact hP2o
            have hGX : X.heap[w.heap.size]? = _ := (show X.heap[w.heap.size]? = wr.heap[w.heap.size]? by rw [hXw]; rfl).trans hGo'.out
            have hTX : X.heap[B1]? = _ := (show X.heap[B1]? = wr.heap[B1]? by rw [hXw]; rfl).trans hTo'.out
            have hOX : X.heap[B3]? = _ := (show X.heap[B3]? = wr.heap[B3]? by rw [hXw]; rfl).trans hOo'.out
            have hsX : wa.heap.size ≤ X.heap.size := by rw [hXw]; exact hszo
            have HXX := Lib.hid (And.intro hGX (And.intro hTX hOX))
            clear hXw hGX hTX hOX
            go_region
            obtain ⟨Y, hY, s1, s2, s3, s4, s5⟩ := swap_world' hCS.out hQX hn0 (by have := hQl'.out; omega) hX.out hX'.out
            rw [← hY]
            have hbw' : B1 < b' := (hlt3 b' rfl).1
            have HY := Lib.hid (show FewW w wa.heap.size B1 B3 (Obj.cells #[.int .i64 t, .int .i64 r, .bool same, .int .i64 p, .int .i64 o] 24) (Obj.cells #[.slice a2 P2.length c2, .int .i64 i2] 27) (Obj.cells #[.slice (some ⟨b', off, none⟩) P3.length c3, .int .i64 i3] 27) (.slice a2 P2.length c2) P2 (.slice (some ⟨b', off, none⟩) P3.length c3) (swapL Q k) Y from
              ⟨s5 w (by omega) hbX, by rw [s2]; exact hsX, (s1 _ (by omega)).trans HXX.out.1, (s1 _ (by omega)).trans HXX.out.2.1, (s1 _ (by omega)).trans HXX.out.2.2,
               wheels_same hP2X s2 s1 (fun b o h1 h2 => by have := hlt2 b o h1 h2; omega), s3, fun b e => by obtain rfl : b' = b := Option.some.inj e; exact s4⟩)
            have HI := Lib.hid (ins_swap hIns.out hn0 (by omega) (by have := hQl'.out; omega) (by rw [hX.out, hX'.out]; exact pl_lt HE2.out))
            clear hY s1 s2 s3 s4 s5 hP2X hQX f0 f1 c0 c1 d0 d1 fz0 fz1 fz2 fz3
            go_wp2
            go_roundw
            case rel => exact ⟨k - 1, swapL Q k, by omega, by go_num, (swapL_perm hn0 (by have := hQl'.out; omega)).trans hPerm.out, HI.out, HY.out⟩
            case measure => simp [intOf]; omega
          · have hl1 : decide (x < x') = false := decide_eq_false he
            by_cases he2 : x = x'
            · have hb0 : (x == x') = true := by simp [he2]
              by_cases he3 : y < y'
              · have hl2 : decide (y < y') = true := decide_eq_true he3
                have HE2 := Lib.hid he2
                have HE3 := Lib.hid he3
                clear he he2 he3
                go_wp2
                go_quiet (fail)
                go_wp2_with fail
                have hne : b' ≠ B3 := by have := (hlt3 b' rfl).2; omega
                have hne2 : B3 ≠ b' := Ne.symm hne
                have hno1 : off + (k - 1) * 2 ≠ off + k * 2 := by omega
                have hno2 : off + k * 2 ≠ off + (k - 1) * 2 := by omega
                obtain ⟨X, hXw⟩ : ∃ X, X = wr.drewN nq := ⟨_, rfl⟩
                have hcX : ∀ p, X.cell? p = wr.cell? p := fun p => by rw [hXw]; rfl
                replace f0 := (hcX _).trans f0
                replace f1 := (hcX _).trans f1
                replace c0 := (hcX _).trans c0
                replace c1 := (hcX _).trans c1
                replace d0 := (hcX _).trans d0
                replace d1 := (hcX _).trans d1
                clear hcX
                obtain ⟨cs, hcs⟩ := hfzo b' rfl
                have hcsX : X.heap[b']? = some (.cells cs 49 (0, 0)) := by rw [hXw]; exact hcs
                have fz0 : X.frozen? ⟨b', off + k * 2, none⟩ = false := by simp [World.frozen?, hcsX]
                have fz1 : X.frozen? ⟨b', off + k * 2 + 1, none⟩ = false := by simp [World.frozen?, hcsX]
                have fz2 : X.frozen? ⟨b', off + (k - 1) * 2, none⟩ = false := by simp [World.frozen?, hcsX]
                have fz3 : X.frozen? ⟨b', off + (k - 1) * 2 + 1, none⟩ = false := by simp [World.frozen?, hcsX]
                have hCS := Lib.hid hcsX
                clear hcs hcsX
                rw [← hXw]
                have hbX : Below w.heap.size w X := by rw [hXw]; exact below_drewN' hbelo _
                have hQX : WheelsAt X (.slice (some ⟨b', off, none⟩) P3.length c3) Q := by rw [hXw]; exact hQo
                have hP2X : WheelsAt X (.slice a2 P2.length c2) P2 := by rw [hXw]; exact hP2o
                have hGX : X.heap[w.heap.size]? = _ := (show X.heap[w.heap.size]? = wr.heap[w.heap.size]? by rw [hXw]; rfl).trans hGo'.out
                have hTX : X.heap[B1]? = _ := (show X.heap[B1]? = wr.heap[B1]? by rw [hXw]; rfl).trans hTo'.out
                have hOX : X.heap[B3]? = _ := (show X.heap[B3]? = wr.heap[B3]? by rw [hXw]; rfl).trans hOo'.out
                have hsX : wa.heap.size ≤ X.heap.size := by rw [hXw]; exact hszo
                have HXX := Lib.hid (And.intro hGX (And.intro hTX hOX))
                clear hXw hGX hTX hOX
                go_region
                obtain ⟨Y, hY, s1, s2, s3, s4, s5⟩ := swap_world' hCS.out hQX hn0 (by have := hQl'.out; omega) hX.out hX'.out
                rw [← hY]
                have hbw' : B1 < b' := (hlt3 b' rfl).1
                have HY := Lib.hid (show FewW w wa.heap.size B1 B3 (Obj.cells #[.int .i64 t, .int .i64 r, .bool same, .int .i64 p, .int .i64 o] 24) (Obj.cells #[.slice a2 P2.length c2, .int .i64 i2] 27) (Obj.cells #[.slice (some ⟨b', off, none⟩) P3.length c3, .int .i64 i3] 27) (.slice a2 P2.length c2) P2 (.slice (some ⟨b', off, none⟩) P3.length c3) (swapL Q k) Y from
                  ⟨s5 w (by omega) hbX, by rw [s2]; exact hsX, (s1 _ (by omega)).trans HXX.out.1, (s1 _ (by omega)).trans HXX.out.2.1, (s1 _ (by omega)).trans HXX.out.2.2,
                   wheels_same hP2X s2 s1 (fun b o h1 h2 => by have := hlt2 b o h1 h2; omega), s3, fun b e => by obtain rfl : b' = b := Option.some.inj e; exact s4⟩)
                have HI := Lib.hid (ins_swap hIns.out hn0 (by omega) (by have := hQl'.out; omega) (by rw [hX.out, hX'.out]; exact pl_eq2 HE2.out HE3.out))
                clear hY s1 s2 s3 s4 s5 hP2X hQX f0 f1 c0 c1 d0 d1 fz0 fz1 fz2 fz3
                go_wp2
                go_roundw
                case rel => exact ⟨k - 1, swapL Q k, by omega, by go_num, (swapL_perm hn0 (by have := hQl'.out; omega)).trans hPerm.out, HI.out, HY.out⟩
                case measure => simp [intOf]; omega
              · have hl2 : decide (y < y') = false := decide_eq_false he3
                have hSt := Lib.hid (ins_stop hIns.out (by omega) (by rw [hX.out, hX'.out]; exact pl_no (by omega)))
                clear he he2 he3
                go_wp2
                go_quiet (fail)
                go_wp2
                go_roundw
                case rel => exact ⟨i + 1, Q, by omega, by go_num, hPerm.out, hSt.out, below_drewN' hbelo _, hszo, hGo'.out, hTo'.out, hOo'.out, hP2o, hQo, hfzo⟩
                case measure => simp [intOf]; omega
            · have hb0 : (x == x') = false := by simp [he2]
              have hSt := Lib.hid (ins_stop hIns.out (by omega) (by rw [hX.out, hX'.out]; exact pl_no (by omega)))
              clear he he2
              go_wp2
              go_quiet (fail)
              go_wp2
              go_roundw
              case rel => exact ⟨i + 1, Q, by omega, by go_num, hPerm.out, hSt.out, below_drewN' hbelo _, hszo, hGo'.out, hTo'.out, hOo'.out, hP2o, hQo, hfzo⟩
              case measure => simp [intOf]; omega
    · have hQl : Q.length = P3.length := hperm.length_eq
      have hie : i = P3.length := by omega
      have hso : SortedP Q := sorted_to (by rw [hQl, ← hie]; exact hsort)
      have habQ := able_mono HST.out HST.out hab hperm (Int.le_refl _) (Int.le_refl _) (fun _ => Int.le_refl _)
      have hpr := able_prods hp2.2 hab hperm
      have hexQ : exA t r Q = 0 := by unfold exA at hex3 ⊢; rw [hpr.1, hpr.2]; exact hex3
      have hrow0 : RowOf (chooseC S t r p o same) P2 i2 nw 0 := by have := HROW.out; rw [HE.out.1] at this; exact this
      obtain ⟨hbf, hwl⟩ := before_not hrow0 hso habQ hexQ
      have hwq : wheelsN Q i3 = m3 := by rw [HM.out]; unfold wheelsN; rw [hQl]
      have hb : buildC S t r p o same Q i3 = (m3, 0) := by
        rcases build_says (P := Q) (i := i3) (same := same) HST.out HGE.out with ⟨_, _, hq⟩ | ⟨_, h, _⟩ | ⟨_, h, _⟩
        · rw [hq, hwq]
        · exact absurd hexQ h
        · exact absurd habQ h
      obtain ⟨wo, hwo⟩ : ∃ wo : World, wo = wr := ⟨_, rfl⟩
      subst hwo
      have hbu := build_any S (.slice sa S.length sc) t r p o same Q (.slice a3 P3.length c3) i3 wo (hS.below hbelo) hQo (fun b off n c e => Nat.lt_of_lt_of_le (hss b off n c e) hbelo.size)
      rw [hb] at hbu
      have z1 : (ne2 == 0) = true := by simp [HE.out.1]
      have z2 : decide (nw ≤ m3) = true := by rw [decide_eq_true_iff, HE.out.2, ← hwq]; exact hwl
      have z3 : nw ≤ m3 := by rw [HE.out.2, ← hwq]; exact hwl
      have HBU := Lib.hid hbu
      have HBF := Lib.hid hbf
      have HQL := Lib.hid hQl
      have HTo := Lib.hid hTo
      clear hbu hbf hwl hwq hb hrow0 hexQ hpr habQ hso hie hperm hsort hQl
      obtain ⟨g0, g1, g2, g3, g4⟩ := gcells hGo
      obtain ⟨k0, k1⟩ := tcells hOo
      clear hGo hTo
      go_wp2_with fail
      refine HBU.out.mono ?_
      rintro e wb ⟨rfl, hbb⟩
      clear g0 g1 g2 g3 g4 k0 k1 HBU
      obtain ⟨f0, f1⟩ := tcells ((hbb.block B1 (by omega)).trans HTo.out)
      obtain ⟨k0, k1⟩ := tcells ((hbb.block B3 (by omega)).trans hOo)
      have hbf := before_any Q P2 (.slice a3 P3.length c3) (.slice a2 P2.length c2) i3 i2 wb (hQo.below hbb) (hP2o.below hbb) (by have := HQL.out; omega) (by omega)
      rw [HBF.out] at hbf
      have HBX := Lib.hid hbf
      clear hbf hOo
      have hbwb : Below w.heap.size w wb := hbelo.trans (hbb.mono hbelo.size)
      go_wp2_with fail
      refine HBX.out.mono ?_
      rintro e wc ⟨rfl, hbc⟩
      clear f0 f1 k0 k1 HBX
      have hbwc : Below w.heap.size w wc := hbwb.trans (hbc.mono hbwb.size)
      go_wp2_with fail
      refine (HA.out _).mono ?_
      rintro e wq ⟨rfl, hbq⟩
      go_wp2
      go_ret
      exact ⟨rfl, hbwc.trans (hbq.mono hbwc.size)⟩
end Go.Proofs.Ytoiapnokgpeipaa
