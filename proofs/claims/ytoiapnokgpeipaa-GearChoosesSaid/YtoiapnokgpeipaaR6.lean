/- Build is the document's. -/
import Derived.Test.YtoiapnokgpeipaaR5
namespace Go.Proofs.Ytoiapnokgpeipaa
set_option linter.unusedSimpArgs false
open Go.RowKit Go.Maps

theorem heldI_pos {S : List (Int × Int)} (hS : stockB S = true) (x : Int) : 0 ≤ heldI S x := by
  unfold heldI
  cases h : S.find? (fun z => z.1 == x) with
  | none => simp
  | some y =>
    have hm := List.mem_of_find?_eq_some h
    obtain ⟨i, hi, rfl⟩ := List.getElem_of_mem hm
    have h1 := (of_decide_eq_true hS).2 i hi
    have h2 : S.getD i (0, 0) = S[i] := by simp [hi]
    unfold rowB at h1
    rw [h2] at h1
    have := of_decide_eq_true h1
    simpa using this.2.2.1

/-- the last place of a value in a list -/
theorem last_place : ∀ (l : List Int) (x : Int), x ∈ l → ∃ i, ∃ h : i < l.length, l[i] = x ∧ (l.take i).count x + 1 = l.count x
  | [], x, h => by simp at h
  | a :: t, x, h => by
    by_cases hx : x ∈ t
    · obtain ⟨i, hi, h1, h2⟩ := last_place t x hx
      refine ⟨i + 1, by simpa using hi, by simpa using h1, ?_⟩
      rw [List.take_succ_cons, List.count_cons, List.count_cons]; omega
    · have : a = x := by simpa [hx, eq_comm] using h
      subst this
      exact ⟨0, by simp, rfl, by simp [List.count_eq_zero_of_not_mem hx]⟩

theorem fits_iff {S : List (Int × Int)} {l : List Int} : fitsB S (fun _ => 0) l = true ↔ ∀ x ∈ l, (l.count x : Int) ≤ heldI S x := by
  constructor
  · intro h x hx
    obtain ⟨i, hi, h1, h2⟩ := last_place l x hx
    unfold fitsB at h
    have := of_decide_eq_true (List.all_eq_true.1 h i (List.mem_range.2 hi))
    have hg : l.getD i 0 = x := by simp [hi, h1]
    rw [hg] at this
    simp only [addF] at this
    omega
  · intro h
    refine fitsB_true fun i hi => ?_
    have hg : l.getD i 0 = l[i] := by simp [hi]
    rw [hg]
    simp only [addF]
    have h1 := h l[i] (List.getElem_mem hi)
    have h2 : l.count l[i] = (l.take i).count l[i] + (l.drop i).count l[i] := by rw [← List.count_append, List.take_append_drop]
    have h3 : 0 < (l.drop i).count l[i] := by
      rw [List.count_pos_iff, List.mem_iff_getElem]; exact ⟨0, by simp; omega, by simp⟩
    omega

theorem usedN_count (P : List (Int × Int)) (i x : Int) (hx : x ≠ 0) : usedN P i x = ((usedL P i).count x : Nat) := by
  unfold usedN usedL
  rw [List.count_append]
  by_cases h : i = 0
  · have hz : ¬ i = x := fun e => hx (by rw [← e, h])
    rw [if_pos h, if_neg hz]; simp
  · rw [if_neg h]
    by_cases h2 : i = x
    · rw [if_pos h2, h2]; simp
    · rw [if_neg h2]; simp [h2]

theorem short_fits {S P : List (Int × Int)} {i : Int} (hS : stockB S = true) (hu : ∀ y ∈ usedL P i, 6 ≤ y ∧ y ≤ 100) : shortB S P i = !fitsB S (fun _ => 0) (usedL P i) := by
  cases hf : fitsB S (fun _ => 0) (usedL P i) with
  | true =>
    rw [fits_iff] at hf
    refine shortB_none fun x h0 h1 => decide_eq_false ?_
    rw [usedN_count P i x (by omega)]
    by_cases hm : (x : Int) ∈ usedL P i
    · have := hf x hm; omega
    · rw [List.count_eq_zero_of_not_mem hm]
      have := heldI_pos hS x; omega
  | false =>
    have : ¬ ∀ x ∈ usedL P i, ((usedL P i).count x : Int) ≤ heldI S x := fun h => by rw [fits_iff.2 h] at hf; cases hf
    simp only [Classical.not_forall] at this
    obtain ⟨x, hx, hlt⟩ := this
    have hb := hu x hx
    obtain ⟨n, rfl⟩ := Int.eq_ofNat_of_zero_le (show 0 ≤ x by omega)
    refine shortB_hit (x := n) (by omega) (by omega) (decide_eq_true ?_)
    rw [usedN_count P i n (by omega)]
    omega

theorem wheelsN_len (P : List (Int × Int)) (i : Int) : wheelsN P i = ((usedL P i).length : Nat) := by
  unfold wheelsN usedL
  rw [List.length_append, usedP_len]
  by_cases h : i = 0
  · rw [if_pos h, if_pos h]; simp; omega
  · rw [if_neg h, if_neg h]; simp; omega

theorem build_eq (S : List (Int × Int)) (t r p o : Int) (same : Bool) (P : List (Int × Int)) (i : Int) : buildC S t r p o same P i = refBuildC S t r p o same P i := by
  unfold buildC refBuildC
  cases hv : (stockB S && gearB t r p o) with
  | false => rfl
  | true =>
    obtain ⟨hs, hg⟩ : stockB S = true ∧ gearB t r p o = true := by simpa using hv
    simp only [if_true]
    unfold ableC
    by_cases h1 : pairsErr P p o = 0
    case neg => simp only [if_pos (show pairsErr P p o ≠ 0 from h1)]
    have hm := pairsErr_zero h1
    have e1 : ¬ (pairsErr P p o ≠ 0) := by simp [h1]
    by_cases h2 : i ≠ 0 ∧ P.length = 0
    · simp only [if_neg e1, if_pos h2]; rfl
    by_cases h3 : i ≠ 0 ∧ teethB i = false
    · simp only [if_neg e1, if_neg h2, if_pos h3]; rfl
    simp only [if_neg e1, if_neg h2, if_neg h3]
    have hit : i = 0 ∨ teethB i = true := by
      by_cases h0 : i = 0
      · exact .inl h0
      · exact .inr (by simpa [h0] using h3)
    have hut := usedL_teeth (P := P) (i := i) (fun x hx => ⟨(hm.2 x hx).1, (hm.2 x hx).2.1⟩) hit
    rw [short_fits hs hut]
    cases hf : fitsB S (fun _ => 0) (usedL P i) with
    | false => rfl
    | true =>
      by_cases h5 : turnsB P.length i ≠ same
      · simp only [if_pos h5]; rfl
      simp only [if_neg h5]
      have hgi := gearB_iff.1 hg
      have hx : (prodW (drns P) * r == prodW (drvs P) * t) = (prodW (drvs P) * t - prodW (drns P) * r == 0) := by
        rw [Bool.eq_iff_iff]; simp; omega
      rw [hx, wheelsN_len]
      rfl
end Go.Proofs.Ytoiapnokgpeipaa
