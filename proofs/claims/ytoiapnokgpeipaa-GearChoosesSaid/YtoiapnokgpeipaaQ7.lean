/- The reference's Choose and Near answer what the program's do. Plain lists and numbers. -/
import Derived.Test.YtoiapnokgpeipaaQ5
namespace Go.Proofs.Ytoiapnokgpeipaa
set_option linter.unusedSimpArgs false
open Go.RowKit

abbrev TrL := List (Int × Int) × Int
theorem pl_both {a b : Int × Int} (h1 : pl a b = false) (h2 : pl b a = false) : a = b := by
  unfold pl at *
  have h1 := of_decide_eq_false h1
  have h2 := of_decide_eq_false h2
  exact Prod.ext (by omega) (by omega)
theorem pl_lt_trans {a b c : Int × Int} (h1 : pl a b = true) (h2 : pl b c = true) : pl a c = true := by
  unfold pl at *
  have h1 := of_decide_eq_true h1
  have h2 := of_decide_eq_true h2
  exact decide_eq_true (by omega)
theorem pl_irr (a : Int × Int) : pl a a = false := by unfold pl; exact decide_eq_false (by omega)
theorem lex_cases : ∀ P Q : List (Int × Int), (lexB P Q = none ∧ lexB Q P = none ∧ (P.length = Q.length → P = Q)) ∨ ∃ a b, a ≠ b ∧ lexB P Q = some (pl a b) ∧ lexB Q P = some (pl b a)
  | [], [] => .inl ⟨rfl, rfl, fun _ => rfl⟩
  | [], _ :: _ => .inl ⟨rfl, rfl, fun h => by simp at h⟩
  | _ :: _, [] => .inl ⟨rfl, rfl, fun h => by simp at h⟩
  | a :: P, b :: Q => by
    by_cases e : a = b
    · subst e
      have e1 : lexB (a :: P) (a :: Q) = lexB P Q := by rw [lexB, if_pos rfl]
      have e2 : lexB (a :: Q) (a :: P) = lexB Q P := by rw [lexB, if_pos rfl]
      rw [e1, e2]
      rcases lex_cases P Q with ⟨h1, h2, h3⟩ | h
      · exact .inl ⟨h1, h2, fun h => by rw [h3 (by simpa using h)]⟩
      · exact .inr h
    · refine .inr ⟨a, b, e, by rw [lexB, if_neg e], by rw [lexB, if_neg (Ne.symm e)]⟩
theorem wheels_eq_len {P Q : List (Int × Int)} {i j : Int} (h : wheelsN P i = wheelsN Q j) : P.length = Q.length := by
  unfold wheelsN at h
  split at h <;> split at h <;> omega
theorem before_eq {x y : TrL} (h1 : beforeB x.1 x.2 y.1 y.2 = false) (h2 : beforeB y.1 y.2 x.1 x.2 = false) : x = y := by
  unfold beforeB at h1 h2
  by_cases hw : wheelsN x.1 x.2 = wheelsN y.1 y.2
  · rw [if_pos hw] at h1
    rw [if_pos hw.symm] at h2
    rcases lex_cases x.1 y.1 with ⟨e1, e2, e3⟩ | ⟨a, b, hne, e1, e2⟩
    · rw [e1] at h1
      rw [e2] at h2
      have h1 := of_decide_eq_false h1
      have h2 := of_decide_eq_false h2
      exact Prod.ext (e3 (wheels_eq_len hw)) (by omega)
    · rw [e1] at h1
      rw [e2] at h2
      exact absurd (pl_both h1 h2) hne
  · rw [if_neg hw] at h1
    rw [if_neg (Ne.symm hw)] at h2
    have h1 := of_decide_eq_false h1
    have h2 := of_decide_eq_false h2
    omega
theorem lexT : ∀ (A B C : List (Int × Int)) (i j k : Int), A.length = B.length → B.length = C.length → (lexB A B).getD (decide (i < j)) = true → (lexB B C).getD (decide (j < k)) = true → (lexB A C).getD (decide (i < k)) = true
  | [], [], [], i, j, k, _, _, h1, h2 => by
    have h1 := of_decide_eq_true h1
    have h2 := of_decide_eq_true h2
    exact decide_eq_true (by omega)
  | [], _ :: _, _, _, _, _, h, _, _, _ => by simp at h
  | _ :: _, [], _, _, _, _, h, _, _, _ => by simp at h
  | [], [], _ :: _, _, _, _, _, h, _, _ => by simp at h
  | _ :: _, _ :: _, [], _, _, _, _, h, _, _ => by simp at h
  | a :: A, b :: B, c :: C, i, j, k, l1, l2, h1, h2 => by
    rw [lexB] at h1 h2 ⊢
    by_cases e1 : a = b
    · subst e1
      rw [if_pos rfl] at h1
      by_cases e2 : a = c
      · subst e2
        rw [if_pos rfl] at h2
        rw [if_pos rfl]
        exact lexT A B C i j k (by simpa using l1) (by simpa using l2) h1 h2
      · rw [if_neg e2] at h2 ⊢; exact h2
    · rw [if_neg e1] at h1
      by_cases e2 : b = c
      · subst e2
        rw [if_neg e1]; exact h1
      · rw [if_neg e2] at h2
        have h3 := pl_lt_trans (by simpa using h1) (by simpa using h2)
        have hne : a ≠ c := fun e => by subst e; rw [pl_irr] at h3; cases h3
        rw [if_neg hne]; simpa using h3
theorem before_trans {x y z : TrL} (h1 : beforeB x.1 x.2 y.1 y.2 = true) (h2 : beforeB y.1 y.2 z.1 z.2 = true) : beforeB x.1 x.2 z.1 z.2 = true := by
  unfold beforeB at *
  by_cases w1 : wheelsN x.1 x.2 = wheelsN y.1 y.2
  · rw [if_pos w1] at h1
    by_cases w2 : wheelsN y.1 y.2 = wheelsN z.1 z.2
    · rw [if_pos w2] at h2
      rw [if_pos (w1.trans w2)]
      exact lexT _ _ _ _ _ _ (wheels_eq_len w1) (wheels_eq_len w2) h1 h2
    · rw [if_neg w2] at h2
      rw [if_neg (by omega), w1]; exact h2
  · rw [if_neg w1] at h1
    have h1 := of_decide_eq_true h1
    by_cases w2 : wheelsN y.1 y.2 = wheelsN z.1 z.2
    · rw [if_neg (by omega)]
      exact decide_eq_true (by omega)
    · rw [if_neg w2] at h2
      have h2 := of_decide_eq_true h2
      rw [if_neg (by omega)]
      exact decide_eq_true (by omega)
theorem before_irr (x : TrL) : beforeB x.1 x.2 x.1 x.2 = false := by
  unfold beforeB
  rw [if_pos rfl, lexB_self]
  exact decide_eq_false (by omega)

/-- a fold that keeps the best: nothing is better than what it ends with -/
theorem fold_best (better : TrL → TrL → Bool) (f : Option TrL → TrL → Option TrL) (ok : TrL → Bool) (hf0 : ∀ x, f none x = if ok x = true then some x else none) (hf1 : ∀ y x, f (some y) x = if (ok x && better x y) = true then some x else some y)
    (G : TrL → Prop) (htr : ∀ x y z, G x → G y → G z → better x y = true → better y z = true → better x z = true) (hirr : ∀ x, better x x = false) :
    ∀ M : List TrL, (∀ x ∈ M, G x) → (M.foldl f none = none ∧ ∀ x ∈ M, ok x = false) ∨ ∃ y ∈ M, M.foldl f none = some y ∧ ok y = true ∧ ∀ x ∈ M, ok x = true → better x y = false := by
  have main : ∀ (M L : List TrL) (b : Option TrL), (∀ x ∈ L ++ M, G x) →
      ((b = none ∧ ∀ x ∈ L, ok x = false) ∨ ∃ y ∈ L, b = some y ∧ ok y = true ∧ ∀ x ∈ L, ok x = true → better x y = false) →
      (M.foldl f b = none ∧ ∀ x ∈ L ++ M, ok x = false) ∨ ∃ y ∈ L ++ M, M.foldl f b = some y ∧ ok y = true ∧ ∀ x ∈ L ++ M, ok x = true → better x y = false := by
    intro M
    induction M with
    | nil => intro L b _ h; simpa using h
    | cons m M ih =>
      intro L b hG h
      have e : L ++ m :: M = (L ++ [m]) ++ M := by simp
      rw [e] at hG ⊢
      refine ih (L ++ [m]) (f b m) hG ?_
      rcases h with ⟨rfl, h⟩ | ⟨y, hy, rfl, hok, h⟩
      · rw [hf0]
        by_cases hm : ok m = true
        · rw [if_pos hm]
          refine .inr ⟨m, by simp, rfl, hm, fun x hx hox => ?_⟩
          rcases List.mem_append.1 hx with hx | hx
          · rw [h x hx] at hox; cases hox
          · rw [List.mem_singleton.1 hx]; exact hirr m
        · rw [if_neg hm]
          refine .inl ⟨rfl, fun x hx => ?_⟩
          rcases List.mem_append.1 hx with hx | hx
          · exact h x hx
          · rw [List.mem_singleton.1 hx]; simpa using hm
      · rw [hf1]
        by_cases hm : (ok m && better m y) = true
        · rw [if_pos hm]
          have hm' := hm
          rw [Bool.and_eq_true] at hm'
          refine .inr ⟨m, by simp, rfl, hm'.1, fun x hx hox => ?_⟩
          rcases List.mem_append.1 hx with hx' | hx'
          · cases hb : better x m with
            | false => rfl
            | true =>
              have := htr x m y (hG x (List.mem_append_left _ hx)) (hG m (by simp)) (hG y (by simp [hy])) hb hm'.2
              rw [h x hx' hox] at this; cases this
          · rw [List.mem_singleton.1 hx']; exact hirr m
        · rw [if_neg hm]
          refine .inr ⟨y, by simp [hy], rfl, hok, fun x hx hox => ?_⟩
          rcases List.mem_append.1 hx with hx | hx
          · exact h x hx hox
          · rw [List.mem_singleton.1 hx] at hox ⊢
            rw [hox] at hm
            simpa using hm
  intro M hG
  exact main M [] none (by simpa using hG) (.inl ⟨rfl, by simp⟩)
theorem pickC_best (t r : Int) (M : List TrL) : (pickC t r M = none ∧ ∀ x ∈ M, exB2 t r x = false) ∨ ∃ y ∈ M, pickC t r M = some y ∧ exB2 t r y = true ∧ ∀ x ∈ M, exB2 t r x = true → beforeB x.1 x.2 y.1 y.2 = false :=
  fold_best (fun x y => beforeB x.1 x.2 y.1 y.2) (stepC t r) (exB2 t r) (fun _ => rfl) (fun _ _ => rfl) (fun _ => True) (fun _ _ _ _ _ _ h1 h2 => before_trans h1 h2) before_irr M (fun _ _ => trivial)
/-- how near: cross products, with what is below above 0 -/
theorem cross_trans {a b c ea eb ec : Int} (ha : 0 < ea) (hb : 0 < eb) (hc : 0 < ec) (h1 : a * eb ≤ b * ea) (h2 : b * ec ≤ c * eb) : a * ec ≤ c * ea ∧ ((a * eb < b * ea ∨ b * ec < c * eb) → a * ec < c * ea) := by
  have k1 : a * ec * eb ≤ c * ea * eb := by
    have e1 := Int.mul_le_mul_of_nonneg_right h1 (Int.le_of_lt hc)
    have e2 := Int.mul_le_mul_of_nonneg_right h2 (Int.le_of_lt ha)
    have x1 : a * eb * ec = a * ec * eb := Int.mul_right_comm _ _ _
    have x2 : b * ea * ec = b * ec * ea := Int.mul_right_comm _ _ _
    have x3 : c * eb * ea = c * ea * eb := Int.mul_right_comm _ _ _
    omega
  refine ⟨Int.le_of_mul_le_mul_right k1 hb, fun h => ?_⟩
  have k2 : a * ec * eb < c * ea * eb := by
    have x1 : a * eb * ec = a * ec * eb := Int.mul_right_comm _ _ _
    have x2 : b * ea * ec = b * ec * ea := Int.mul_right_comm _ _ _
    have x3 : c * eb * ea = c * ea * eb := Int.mul_right_comm _ _ _
    rcases h with h | h
    · have e1 := Int.mul_lt_mul_of_pos_right h hc
      have e2 := Int.mul_le_mul_of_nonneg_right h2 (Int.le_of_lt ha)
      omega
    · have e1 := Int.mul_le_mul_of_nonneg_right h1 (Int.le_of_lt hc)
      have e2 := Int.mul_lt_mul_of_pos_right h ha
      omega
  exact Int.lt_of_mul_lt_mul_right k2 (Int.le_of_lt hb)
theorem nearerN_iff {t r : Int} {x y : TrL} : nearerN t r x y = true ↔ distB (exA t r x.1) * exB r y.1 < distB (exA t r y.1) * exB r x.1 ∨ distB (exA t r x.1) * exB r y.1 = distB (exA t r y.1) * exB r x.1 ∧ beforeB x.1 x.2 y.1 y.2 = true := by
  unfold nearerN
  simp
theorem nearerN_trans {t r : Int} {x y z : TrL} (hx : 0 < exB r x.1) (hy : 0 < exB r y.1) (hz : 0 < exB r z.1) (h1 : nearerN t r x y = true) (h2 : nearerN t r y z = true) : nearerN t r x z = true := by
  rw [nearerN_iff] at *
  have l1 : distB (exA t r x.1) * exB r y.1 ≤ distB (exA t r y.1) * exB r x.1 := by omega
  have l2 : distB (exA t r y.1) * exB r z.1 ≤ distB (exA t r z.1) * exB r y.1 := by omega
  obtain ⟨k1, k2⟩ := cross_trans hx hy hz l1 l2
  rcases h1 with h1 | ⟨e1, b1⟩
  · exact .inl (k2 (.inl h1))
  · rcases h2 with h2 | ⟨e2, b2⟩
    · exact .inl (k2 (.inr h2))
    · rcases Int.lt_or_eq_of_le k1 with h | h
      · exact .inl h
      · exact .inr ⟨h, before_trans b1 b2⟩
theorem nearerN_irr (t r : Int) (x : TrL) : nearerN t r x x = false := by
  unfold nearerN
  rw [before_irr]
  simp
theorem pickN_best (t r : Int) (M : List TrL) (hM : ∀ x ∈ M, 0 < exB r x.1) : (pickN t r M = none ∧ M = []) ∨ ∃ y ∈ M, pickN t r M = some y ∧ ∀ x ∈ M, nearerN t r x y = false := by
  rcases fold_best (nearerN t r) (stepN t r) (fun _ => true) (fun x => by simp [stepN]) (fun y x => by simp [stepN]) (fun x => 0 < exB r x.1) (fun _ _ _ hx hy hz h1 h2 => nearerN_trans hx hy hz h1 h2) (nearerN_irr t r) M hM with ⟨h1, h2⟩ | ⟨y, h1, h2, _, h3⟩
  · refine .inl ⟨h1, ?_⟩
    cases M with
    | nil => rfl
    | cons x M => have := h2 x (by simp); simp at this
  · exact .inr ⟨y, h1, h2, fun x hx => h3 x hx rfl⟩
end Go.Proofs.Ytoiapnokgpeipaa

/- The reference's Choose and Near answer what the program's do: the same train. Plain lists and numbers. -/
namespace Go.Proofs.Ytoiapnokgpeipaa
set_option linter.unusedSimpArgs false
open Go.RowKit

theorem okStep_iff {B : List (Int × Int)} {q : Int × Int} : okStep B q = true ↔ (B.getLast?.map (pl q)).getD false = false := by
  cases B with
  | nil => simp [okStep]
  | cons b B =>
    have e : (b :: B).getLast? = some ((b :: B).getD ((b :: B).length - 1) (0, 0)) := by
      rw [List.getLast?_eq_getElem?]
      simp [List.getD]
    rw [e]
    unfold okStep
    simp
theorem sorted_pre {P R : List (Int × Int)} (h : SortedP (P ++ R)) : SortedP P := fun k hk => by
  have := h k (by rw [List.length_append]; omega)
  simpa [List.getD, List.getElem?_append, hk, show k < P.length by omega] using this
theorem listsP_sorted (T : List Int) : ∀ n B, SortedP B → ∀ l ∈ listsP T n B, SortedP l
  | 0, B, hB, l, h => by unfold listsP at h; rw [List.mem_singleton.1 h]; exact hB
  | n + 1, B, hB, l, h => by
    unfold listsP at h
    rcases List.mem_cons.1 h with rfl | h
    · exact hB
    · obtain ⟨x, _, h⟩ := List.mem_flatMap.1 h
      obtain ⟨y, _, h⟩ := List.mem_flatMap.1 h
      split at h
      · rename_i hok
        exact listsP_sorted T n _ (sorted_snoc.2 ⟨hB, okStep_iff.1 hok⟩) l h
      · simp at h
theorem listsP_mem (T : List Int) : ∀ (n : Nat) (R B : List (Int × Int)), R.length ≤ n → (∀ x ∈ R, x.1 ∈ T ∧ x.2 ∈ T) → SortedP (B ++ R) → B ++ R ∈ listsP T n B
  | 0, [], B, _, _, _ => by simp [listsP]
  | 0, _ :: _, _, h, _, _ => by simp at h
  | n + 1, [], B, _, _, _ => by simp [listsP]
  | n + 1, q :: R, B, hl, hm, hs => by
    have e : B ++ q :: R = (B ++ [q]) ++ R := by simp
    rw [e] at hs ⊢
    have hB := sorted_snoc.1 (sorted_pre hs)
    have hq := hm q (by simp)
    have ih := listsP_mem T n R (B ++ [q]) (by simpa using hl) (fun x hx => hm x (by simp [hx])) hs
    unfold listsP
    refine List.mem_cons_of_mem _ (List.mem_flatMap.2 ⟨q.1, hq.1, List.mem_flatMap.2 ⟨q.2, hq.2, ?_⟩⟩)
    rw [if_pos (okStep_iff.2 hB.2)]
    exact ih
theorem tlOf_fst {S : List (Int × Int)} (hS : stockB S = true) {a : T6} (h : a ∈ tlOf S) : a.1 ∈ S.map (·.1) := by
  unfold tlOf at h
  obtain ⟨x, hx, rfl⟩ := List.mem_map.1 h
  have := stockB_teeth hS x hx
  rw [dif_pos this]
  exact List.mem_map_of_mem hx
/-- any train that can be built, with its pairs in order, is among those that the reference lists -/
theorem able_mem {S : List (Int × Int)} (hS : stockB S = true) {p o : Int} {same : Bool} {P : List (Int × Int)} {i : Int} (hs : SortedP P) (h : ableC S p o same P i = 0) : (P, i) ∈ allR S p o same := by
  obtain ⟨hl, hgd, _⟩ := able_cand hS hs h
  obtain ⟨hpe, hn1, hn2, hsh, ht⟩ := ableC_zero h
  have hm := (pairsErr_zero hpe).2
  have hte : i = 0 ∨ teethB i = true := by
    by_cases h0 : i = 0
    · exact .inl h0
    · exact .inr (by simpa [h0] using hn2)
  have hut := usedL_teeth (P := P) (i := i) (fun x hx => ⟨(hm x hx).1, (hm x hx).2.1⟩) hte
  have hsf := short_fits hS hut
  rw [hsh] at hsf
  have hf : fitsB S (fun _ => 0) (usedL P i) = true := by simpa using hsf.symm
  have hi : i ∈ (0 :: S.map (·.1)) := by
    by_cases h0 : i = 0
    · rw [h0]; simp
    · have hu : i ∈ usedL P i := by unfold usedL; rw [if_neg h0]; simp
      have h1 := fits_iff.1 hf i hu
      have h2 : 0 < (usedL P i).count i := List.count_pos_iff.2 hu
      obtain ⟨x, hx, hxi⟩ := held_mem (S := S) (t := i) (by omega)
      exact List.mem_cons_of_mem _ (by rw [← hxi]; exact List.mem_map_of_mem hx)
  have hk : ∀ x ∈ P, x.1 ∈ S.map (·.1) ∧ x.2 ∈ S.map (·.1) := fun x hx => by
    obtain ⟨a, ha, b, hb, rfl⟩ := hgd.kinds x hx
    exact ⟨tlOf_fst hS ha, tlOf_fst hS hb⟩
  have hmem := listsP_mem (S.map (·.1)) p.toNat P [] (by omega) hk (by simpa using hs)
  unfold allR
  refine List.mem_flatMap.2 ⟨P, by simpa using hmem, ?_⟩
  unfold ableL
  rw [List.take_of_length_le (by simp)]
  exact List.mem_flatMap.2 ⟨i, hi, by rw [if_pos h]; simp⟩
theorem allR_sorted {S : List (Int × Int)} {p o : Int} {same : Bool} {x : TrL} (h : x ∈ allR S p o same) : SortedP x.1 := by
  unfold allR at h
  obtain ⟨B, hB, h⟩ := List.mem_flatMap.1 h
  have hs := listsP_sorted _ _ _ (fun k hk => by simp at hk) B hB
  unfold ableL at h
  obtain ⟨i, _, h⟩ := List.mem_flatMap.1 h
  split at h
  · rw [List.mem_singleton.1 h]; exact hs
  · simp at h
theorem before_of {S : List (Int × Int)} {p o : Int} {same : Bool} {P Q : List (Int × Int)} {i j : Int} (hP : ableC S p o same P i = 0) (hab : ableC S p o same Q j = 0) (h : (Q = P ∧ i ≤ j) ∨ comesP P Q) : beforeB Q j P i = false := by
  rcases h with ⟨rfl, hi⟩ | h | ⟨hl, h⟩
  · have hw : wheelsN Q i = wheelsN Q j := (wheels_len hP hab (Nat.le_refl _)).2.1 rfl
    unfold beforeB
    rw [if_pos hw.symm, lexB_self]
    exact decide_eq_false (by omega)
  · have hw := (wheels_len hP hab (by omega)).2.2 h
    unfold beforeB
    rw [if_neg (by omega)]
    exact decide_eq_false (by omega)
  · have hw := (wheels_len hP hab (by omega)).2.1 hl
    unfold beforeB
    rw [if_pos hw.symm, lexB_of h]; rfl
/-- the nearest train is in order, and none as near comes before it -/
theorem near_first {S : List (Int × Int)} {t r p o : Int} {same : Bool} (hs : stockB S = true) (hg : gearB t r p o = true) {P : List (Int × Int)} {i x : Int} (h : NearOf t r (nearC S t r p o same) P i x 0) :
    SortedP P ∧ ∀ Q j, SortedP Q → ableC S p o same Q j = 0 → ¬ distB (exA t r P) * exB r Q < distB (exA t r Q) * exB r P → (Q = P ∧ i ≤ j) ∨ comesP P Q := by
  have hgi := gearB_iff.1 hg
  unfold nearC at h
  rw [hs, hg] at h
  simp only [Bool.and_self, if_true] at h
  rcases bestP_first (S := S) (t := t) (o := o) (same := same) (show 1 ≤ r by omega) (show p ≤ 3 by omega) with ⟨ha, hb⟩ | ⟨u, hb, hf⟩
  · rw [hb] at h
    obtain ⟨_, _, _, h⟩ := h
    omega
  · rw [hb] at h
    obtain ⟨hP, rfl, _, _⟩ := h
    have hord := allP_order (o := o) (same := same) hs (show (p + 1).toNat ≤ 4 by omega)
    obtain ⟨l1, l2, e, h1, h2⟩ := hf
    have hm : u ∈ allP S (tlOf S) o same (p + 1).toNat := by rw [e]; simp
    obtain ⟨P', hP', hc⟩ := mem_allP (by omega) hm
    have e2 : P' = P := by rw [← hP]; exact hc.rep.tr.symm
    subst e2
    refine ⟨hc.good.sorted, fun Q j hso hab hn => ?_⟩
    obtain ⟨hl, hgd, k, hk, hk0, hk1⟩ := able_cand hs hso hab
    obtain ⟨v, hv, hcv, hvk⟩ := allP_mem (k := (p + 1).toNat) (by omega) (by omega) hgd hk
    have hnv : nearer t r u v = false := by
      unfold nearer nearB
      rw [hc.rep.dr, hc.rep.dn, hcv.rep.dr, hcv.rep.dn]
      exact decide_eq_false hn
    rw [e] at hv hord
    rcases List.mem_append.1 hv with hv | hv
    · rw [h1 v hv] at hnv; cases hnv
    · rcases List.mem_cons.1 hv with rfl | hv
      · exact .inl ⟨hcv.rep.tr.symm.trans hc.rep.tr, by omega⟩
      · have := (List.pairwise_cons.1 (List.pairwise_append.1 hord).2.1).1 v hv
        rw [hc.rep.tr, hcv.rep.tr] at this
        exact .inr this
/-- an answer: a train, a number, an error -/
def Ans (P : List (Int × Int)) (i n ne : Int) (w : World) (e : Ending) (w' : World) : Prop := ∃ a c, e = .returned (.tuple #[.agg #[.slice a P.length c, .int .i64 i], .int .i64 n, .int .i64 ne]) ∧ WheelsAt w' (.slice a P.length c) P ∧ Below w.heap.size w w'
theorem ans_none {c : Int} {w : World} {e : Ending} {w' : World} (h : Below w.heap.size w w' ∧ e = .returned (.tuple #[.agg #[.slice none 0 0, .int .i64 0], .int .i64 0, .int .i64 c])) : Ans [] 0 0 c w e w' :=
  ⟨none, 0, h.2, ⟨by simp [maxLen], .inl ⟨rfl, _, _, rfl⟩⟩, h.1⟩
theorem choose_match {S : List (Int × Int)} {t r p o : Int} {same : Bool} {P : List (Int × Int)} {i nw ne : Int} (h : RowOf (chooseC S t r p o same) P i nw ne) {w : World} {e : Ending} {w' : World} (hr : RefIs (refCC S t r p o same) w e w') : Ans P i nw ne w e w' := by
  cases hv : (stockB S && gearB t r p o) with
  | false =>
    have e1 : chooseC S t r p o same = (1, none) := by unfold chooseC; rw [hv]; rfl
    have e2 : refCC S t r p o same = (1, none) := by unfold refCC; rw [hv]; rfl
    rw [e1] at h
    rw [e2] at hr
    obtain ⟨rfl, rfl, rfl, rfl⟩ := h
    exact ans_none hr
  | true =>
    have hv' := hv
    rw [Bool.and_eq_true] at hv'
    obtain ⟨hs, hg⟩ := hv'
    have hgi := gearB_iff.1 hg
    rcases pickC_best t r (allR S p o same) with ⟨hp, hno⟩ | ⟨y, hy, hp, hex, hbest⟩
    · have e2 : refCC S t r p o same = (4, none) := by unfold refCC; rw [hv, hp]; rfl
      rw [e2] at hr
      rcases choose_facts h with ⟨_, _, hcs, _⟩ | ⟨rfl, rfl, rfl, ⟨_, h2⟩ | ⟨rfl, _⟩⟩
      · have := hno _ (able_mem hs hcs.sorted hcs.able)
        unfold exB2 at this
        rw [hcs.exact] at this
        simp at this
      · rw [hv] at h2; cases h2
      · exact ans_none hr
    · have e2 : refCC S t r p o same = (0, some y) := by unfold refCC; rw [hv, hp]; rfl
      rw [e2] at hr
      have hab := allR_able hy
      have hso := allR_sorted hy
      have hexA : exA t r y.1 = 0 := by
        unfold exB2 at hex
        have := beq_iff_eq.1 hex
        unfold exA; omega
      obtain ⟨P1, i1, x1, ne1, hnear⟩ := nearOf_any t r (nearC S t r p o same)
      obtain ⟨rfl, _⟩ := chosen_ok (near_choose hs hg hnear h) h (by omega) (by omega) hab hexA
      rcases choose_facts h with ⟨_, hnw, hcs, _⟩ | ⟨_, _, _, ⟨h1, _⟩ | ⟨h1, _⟩⟩
      · have b1 := (before_not h hso hab hexA).1
        have b2 := hbest _ (able_mem hs hcs.sorted hcs.able) (by unfold exB2; rw [hcs.exact]; simp)
        have hE : y = (P, i) := before_eq b1 b2
        subst hE
        obtain ⟨hb, a, c, he, hw⟩ := hr
        exact ⟨a, c, by rw [he, hnw], hw, hb⟩
      · omega
      · omega
theorem near_match {S : List (Int × Int)} {t r p o : Int} {same : Bool} {P : List (Int × Int)} {i x ne : Int} (h : NearOf t r (nearC S t r p o same) P i x ne) {w : World} {e : Ending} {w' : World} (hr : RefNearIs t r (refNC S t r p o same) w e w') : Ans P i x ne w e w' := by
  cases hv : (stockB S && gearB t r p o) with
  | false =>
    have e1 : nearC S t r p o same = (1, none) := by unfold nearC; rw [hv]; rfl
    have e2 : refNC S t r p o same = (1, none) := by unfold refNC; rw [hv]; rfl
    rw [e1] at h
    rw [e2] at hr
    obtain ⟨rfl, rfl, rfl, rfl⟩ := h
    exact ans_none hr
  | true =>
    have hv' := hv
    rw [Bool.and_eq_true] at hv'
    obtain ⟨hs, hg⟩ := hv'
    have hgi := gearB_iff.1 hg
    obtain ⟨P2, i2, nw2, ne2, hrow⟩ := rowOf_any (chooseC S t r p o same)
    have hpos : ∀ x ∈ allR S p o same, 0 < exB r x.1 := fun x hx => by
      have := able_bd (show p ≤ 3 by omega) (allR_able hx)
      unfold exB
      exact Int.mul_pos (by omega) (by omega)
    rcases pickN_best t r (allR S p o same) hpos with ⟨hp, hno⟩ | ⟨y, hy, hp, hbest⟩
    · have e2 : refNC S t r p o same = (4, none) := by unfold refNC; rw [hv, hp]; rfl
      rw [e2] at hr
      rcases near_choose hs hg h hrow with ⟨⟨rfl, rfl, rfl, rfl⟩, _, _⟩ | ⟨rfl, hnf, _⟩
      · exact ans_none hr
      · have := able_mem hs (near_first hs hg h).1 hnf.1
        rw [hno] at this; simp at this
    · have e2 : refNC S t r p o same = (0, some y) := by unfold refNC; rw [hv, hp]; rfl
      rw [e2] at hr
      have hab := allR_able hy
      rcases near_choose hs hg h hrow with ⟨_, _, hno⟩ | ⟨rfl, hnf, _⟩
      · exact absurd hab (hno _ _)
      · obtain ⟨hPs, hfirst⟩ := near_first hs hg h
        have hm := able_mem hs hPs hnf.1
        have n1 := hbest _ hm
        have n2 := hnf.2.2 y.1 y.2 hab
        have n3 : ¬ nearerN t r (P, i) y = true := by rw [n1]; simp
        rw [nearerN_iff] at n3
        have b1 := before_of hnf.1 hab (hfirst y.1 y.2 (allR_sorted hy) hab (fun hh => n3 (.inl hh)))
        have b2 : beforeB P i y.1 y.2 = false := by
          cases hb : beforeB P i y.1 y.2 with
          | false => rfl
          | true =>
            refine absurd (.inr ⟨?_, hb⟩) n3
            have k1 : ¬ distB (exA t r P) * exB r y.1 < distB (exA t r y.1) * exB r P := fun hh => n3 (.inl hh)
            exact Int.le_antisymm (Int.not_lt.1 n2) (Int.not_lt.1 k1)
        have hE : y = (P, i) := before_eq b1 b2
        subst hE
        obtain ⟨hb, a, c, he, hw⟩ := hr
        exact ⟨a, c, by rw [he, hnf.2.1], hw, hb⟩
end Go.Proofs.Ytoiapnokgpeipaa

/- GearChooses: the walk. -/
namespace Go.Proofs.Ytoiapnokgpeipaa
set_option linter.unusedSimpArgs false
open Go.RowKit Go.Maps

set_option maxRecDepth 100000 in
set_option maxHeartbeats 12800000 in
theorem choosesLaw_any (S : List (Int × Int)) (sv : Value) (t r p o : Int) (same : Bool) (w : World) (hS : WheelsAt w sv S) (hss : ∀ b off n c, sv = .slice (some ⟨b, off, none⟩) n c → b < w.heap.size) :
    Calls Try.prog 4 #[sv, .agg #[.int .i64 t, .int .i64 r, .bool same, .int .i64 p, .int .i64 o]] w
      fun e w' => e = .returned (.bool true) ∧ Below w.heap.size w w' := by
  obtain ⟨sa, sc, rfl⟩ := hS.shape
  have hsl : S.length ≤ 9223372036854775807 := hS.1
  obtain ⟨W0, hW0, hbw, hG, hz0⟩ := boxG w t r p o same
  have hGz : w.heap.size < W0.heap.size := by omega
  clear hz0
  have hgr := great_any sa S.length sc 4 W0 hsl
  obtain ⟨gr, hgre⟩ : ∃ gr, greatB S.length 4 = gr := ⟨_, rfl⟩
  rw [hgre] at hgr
  have HGR := Lib.hid hgre
  have ha := fun X => alive_any X
  have HA := Lib.hid ha
  clear ha hgre
  go_enter Try.func4, Try.ntmps4
  go_wp2_with fail
  rw [← hW0]
  clear hW0
  refine hgr.mono ?_
  rintro e w1 ⟨rfl, rfl⟩
  clear hgr
  cases gr with
  | true =>
    clear hG
    go_wp2_with fail
    refine (HA.out _).mono ?_
    rintro e wq ⟨rfl, hbq⟩
    go_wp2
    go_ret
    exact ⟨rfl, hbw.trans (hbq.mono hbw.size)⟩
  | false =>
  have h4 : stockB S = true → S.length ≤ 4 := fun hs => by
    have h8 : S.length ≤ 8 := by unfold stockB at hs; exact (of_decide_eq_true hs).1
    have := HGR.out
    unfold greatB at this
    have := of_decide_eq_false this
    omega
  have H4 := Lib.hid h4
  obtain ⟨P1, i1, x1, ne1, hnear⟩ := nearOf_any t r (nearC S t r p o same)
  obtain ⟨P2, i2, nw, ne2, hrow⟩ := rowOf_any (chooseC S t r p o same)
  have hl1 : P1.length ≤ 3 := near_len hnear
  have hl2 : P2.length ≤ 3 := chosen_len hrow
  have HROW := Lib.hid hrow
  have HNEAR := Lib.hid hnear
  clear hnear hrow h4
  have hcall := chose_gen HROW.out (hS.below hbw) (fun b off e => Nat.lt_of_lt_of_le (hss b off S.length sc (by rw [e])) hbw.size)
  have HCALL := Lib.hid hcall
  clear hcall
  obtain ⟨g0, g1, g2, g3, g4⟩ := gcells hG
  go_wp2_with fail
  clear g0 g1 g2 g3 g4
  refine HCALL.out.mono ?_
  rintro e U1 ⟨ca1, cc1, rfl, hown, hb⟩
  have hW1 : WheelsAt U1 (.slice ca1 P2.length cc1) P2 := wheels_own hown (by omega)
  clear hown HCALL
  replace hG := (hb.block w.heap.size hGz).trans hG
  replace hGz := Nat.lt_of_lt_of_le hGz hb.size
  replace hbw := hbw.trans (hb.mono hbw.size)
  clear hb
  obtain ⟨V1, hbox, hb, hK1, hz⟩ := box27 U1 (.slice ca1 P2.length cc1) i2
  obtain ⟨E1, hE⟩ : ∃ E, E = U1.heap.size := ⟨_, rfl⟩
  rw [← hE] at hK1 hz
  have hK1z : E1 < V1.heap.size := by omega
  have HE := Lib.hid hE
  clear hE hz
  replace hG := (hb.block w.heap.size hGz).trans hG
  replace hGz := Nat.lt_of_lt_of_le hGz hb.size
  replace hW1 := hW1.below hb
  replace hbw := hbw.trans (hb.mono hbw.size)
  clear hb
  have hcall := refChoose_any S (.slice sa S.length sc) t r p o same V1 (hS.below hbw) H4.out
  have HCALL := Lib.hid hcall
  clear hcall
  obtain ⟨g0, g1, g2, g3, g4⟩ := gcells hG
  rw [hbox] at g0 g1 g2 g3 g4
  go_wp2_with fail
  rw [← hbox, ← HE.out]
  clear hbox HE
  clear g0 g1 g2 g3 g4
  refine HCALL.out.mono ?_
  rintro e U2 hr
  obtain ⟨ca2, cc2, rfl, hW2, hb⟩ := choose_match HROW.out hr
  clear hr HCALL
  replace hG := (hb.block w.heap.size hGz).trans hG
  replace hGz := Nat.lt_of_lt_of_le hGz hb.size
  replace hK1 := (hb.block E1 hK1z).trans hK1
  replace hK1z := Nat.lt_of_lt_of_le hK1z hb.size
  replace hW1 := hW1.below hb
  replace hbw := hbw.trans (hb.mono hbw.size)
  clear hb
  obtain ⟨V2, hbox, hb, hK2, hz⟩ := box27 U2 (.slice ca2 P2.length cc2) i2
  obtain ⟨E2, hE⟩ : ∃ E, E = U2.heap.size := ⟨_, rfl⟩
  rw [← hE] at hK2 hz
  have hK2z : E2 < V2.heap.size := by omega
  have HE := Lib.hid hE
  clear hE hz
  replace hG := (hb.block w.heap.size hGz).trans hG
  replace hGz := Nat.lt_of_lt_of_le hGz hb.size
  replace hK1 := (hb.block E1 hK1z).trans hK1
  replace hK1z := Nat.lt_of_lt_of_le hK1z hb.size
  replace hW1 := hW1.below hb
  replace hW2 := hW2.below hb
  replace hbw := hbw.trans (hb.mono hbw.size)
  clear hb
  have hcall := near_gen HNEAR.out (hS.below hbw) (fun b off e => Nat.lt_of_lt_of_le (hss b off S.length sc (by rw [e])) hbw.size)
  have HCALL := Lib.hid hcall
  clear hcall
  obtain ⟨g0, g1, g2, g3, g4⟩ := gcells hG
  rw [hbox] at g0 g1 g2 g3 g4
  go_wp2_with fail
  rw [← hbox, ← HE.out]
  clear hbox HE
  clear g0 g1 g2 g3 g4
  refine HCALL.out.mono ?_
  rintro e U3 ⟨ca3, cc3, rfl, hown, hb⟩
  have hW3 : WheelsAt U3 (.slice ca3 P1.length cc3) P1 := wheels_own hown (by omega)
  clear hown HCALL
  replace hG := (hb.block w.heap.size hGz).trans hG
  replace hGz := Nat.lt_of_lt_of_le hGz hb.size
  replace hK1 := (hb.block E1 hK1z).trans hK1
  replace hK1z := Nat.lt_of_lt_of_le hK1z hb.size
  replace hK2 := (hb.block E2 hK2z).trans hK2
  replace hK2z := Nat.lt_of_lt_of_le hK2z hb.size
  replace hW1 := hW1.below hb
  replace hW2 := hW2.below hb
  replace hbw := hbw.trans (hb.mono hbw.size)
  clear hb
  obtain ⟨V3, hbox, hb, hK3, hz⟩ := box27 U3 (.slice ca3 P1.length cc3) i1
  obtain ⟨E3, hE⟩ : ∃ E, E = U3.heap.size := ⟨_, rfl⟩
  rw [← hE] at hK3 hz
  have hK3z : E3 < V3.heap.size := by omega
  have HE := Lib.hid hE
  clear hE hz
  replace hG := (hb.block w.heap.size hGz).trans hG
  replace hGz := Nat.lt_of_lt_of_le hGz hb.size
  replace hK1 := (hb.block E1 hK1z).trans hK1
  replace hK1z := Nat.lt_of_lt_of_le hK1z hb.size
  replace hK2 := (hb.block E2 hK2z).trans hK2
  replace hK2z := Nat.lt_of_lt_of_le hK2z hb.size
  replace hW1 := hW1.below hb
  replace hW2 := hW2.below hb
  replace hW3 := hW3.below hb
  replace hbw := hbw.trans (hb.mono hbw.size)
  clear hb
  have hcall := refNear_any S (.slice sa S.length sc) t r p o same V3 (hS.below hbw) H4.out
  have HCALL := Lib.hid hcall
  clear hcall
  obtain ⟨g0, g1, g2, g3, g4⟩ := gcells hG
  rw [hbox] at g0 g1 g2 g3 g4
  go_wp2_with fail
  rw [← hbox, ← HE.out]
  clear hbox HE
  clear g0 g1 g2 g3 g4
  refine HCALL.out.mono ?_
  rintro e U4 hr
  obtain ⟨ca4, cc4, rfl, hW4, hb⟩ := near_match HNEAR.out hr
  clear hr HCALL
  replace hG := (hb.block w.heap.size hGz).trans hG
  replace hGz := Nat.lt_of_lt_of_le hGz hb.size
  replace hK1 := (hb.block E1 hK1z).trans hK1
  replace hK1z := Nat.lt_of_lt_of_le hK1z hb.size
  replace hK2 := (hb.block E2 hK2z).trans hK2
  replace hK2z := Nat.lt_of_lt_of_le hK2z hb.size
  replace hK3 := (hb.block E3 hK3z).trans hK3
  replace hK3z := Nat.lt_of_lt_of_le hK3z hb.size
  replace hW1 := hW1.below hb
  replace hW2 := hW2.below hb
  replace hW3 := hW3.below hb
  replace hbw := hbw.trans (hb.mono hbw.size)
  clear hb
  obtain ⟨V4, hbox, hb, hK4, hz⟩ := box27 U4 (.slice ca4 P1.length cc4) i1
  obtain ⟨E4, hE⟩ : ∃ E, E = U4.heap.size := ⟨_, rfl⟩
  rw [← hE] at hK4 hz
  have hK4z : E4 < V4.heap.size := by omega
  have HE := Lib.hid hE
  clear hE hz
  replace hG := (hb.block w.heap.size hGz).trans hG
  replace hGz := Nat.lt_of_lt_of_le hGz hb.size
  replace hK1 := (hb.block E1 hK1z).trans hK1
  replace hK1z := Nat.lt_of_lt_of_le hK1z hb.size
  replace hK2 := (hb.block E2 hK2z).trans hK2
  replace hK2z := Nat.lt_of_lt_of_le hK2z hb.size
  replace hK3 := (hb.block E3 hK3z).trans hK3
  replace hK3z := Nat.lt_of_lt_of_le hK3z hb.size
  replace hW1 := hW1.below hb
  replace hW2 := hW2.below hb
  replace hW3 := hW3.below hb
  replace hW4 := hW4.below hb
  replace hbw := hbw.trans (hb.mono hbw.size)
  clear hb
  obtain ⟨f0, f1⟩ := tcells hK1
  obtain ⟨k0, k1⟩ := tcells hK2
  rw [hbox] at f0 f1 k0 k1
  go_wp2_with fail
  rw [← hbox, ← HE.out]
  clear hbox HE f0 f1 k0 k1
  refine (same_self P2 ca1 ca2 cc1 cc2 i2 V4 hW1 hW2).mono ?_
  rintro e V5 ⟨rfl, hb⟩
  replace hG := (hb.block w.heap.size hGz).trans hG
  replace hGz := Nat.lt_of_lt_of_le hGz hb.size
  replace hK1 := (hb.block E1 hK1z).trans hK1
  replace hK1z := Nat.lt_of_lt_of_le hK1z hb.size
  replace hK2 := (hb.block E2 hK2z).trans hK2
  replace hK2z := Nat.lt_of_lt_of_le hK2z hb.size
  replace hK3 := (hb.block E3 hK3z).trans hK3
  replace hK3z := Nat.lt_of_lt_of_le hK3z hb.size
  replace hK4 := (hb.block E4 hK4z).trans hK4
  replace hK4z := Nat.lt_of_lt_of_le hK4z hb.size
  replace hW1 := hW1.below hb
  replace hW2 := hW2.below hb
  replace hW3 := hW3.below hb
  replace hW4 := hW4.below hb
  replace hbw := hbw.trans (hb.mono hbw.size)
  clear hb
  obtain ⟨f0, f1⟩ := tcells hK3
  obtain ⟨k0, k1⟩ := tcells hK4
  go_wp2_with fail
  clear f0 f1 k0 k1
  refine (same_self P1 ca3 ca4 cc3 cc4 i1 V5 hW3 hW4).mono ?_
  rintro e V6 ⟨rfl, hb⟩
  replace hbw := hbw.trans (hb.mono hbw.size)
  clear hb hG hK1 hK2 hK3 hK4
  go_wp2_with fail
  refine (HA.out _).mono ?_
  rintro e wq ⟨rfl, hbq⟩
  go_wp2
  go_ret
  exact ⟨rfl, hbw.trans (hbq.mono hbw.size)⟩
end Go.Proofs.Ytoiapnokgpeipaa
