/- For Build: its result, and what follows from the checks before. -/
import Derived.Test.YtoiapnokgpeipaaC8
import Derived.Test.YtoiapnokgpeipaaD1
namespace Go.Proofs.Ytoiapnokgpeipaa
set_option linter.unusedSimpArgs false
open Go.RowKit Go.Maps

/-- how many wheels a train has, and why it can't be built -/
def buildC (S : List (Int × Int)) (t r p o : Int) (same : Bool) (P : List (Int × Int)) (i : Int) : Int × Int :=
  if stockB S && gearB t r p o then
    if pairsErr P p o ≠ 0 then (0, pairsErr P p o)
    else if i ≠ 0 ∧ P.length = 0 then (0, 6)
    else if i ≠ 0 ∧ teethB i = false then (0, 2)
    else if fitsB S (fun _ => 0) (usedL P i) = false then (0, 10)
    else if turnsB P.length i ≠ same then (0, 7)
    else if (prodW (drvs P) * t - prodW (drns P) * r == 0) = false then (0, 11)
    else ((usedL P i).length, 0)
  else (0, 1)

theorem pairsErr_zero {P : List (Int × Int)} {p o : Int} (h : pairsErr P p o = 0) : (P.length : Int) ≤ p ∧ ∀ x ∈ P, (6 ≤ x.1 ∧ x.1 ≤ 100) ∧ (6 ≤ x.2 ∧ x.2 ≤ 100) ∧ x.1 + x.2 ≤ o := by
  unfold pairsErr at h
  split at h
  · omega
  · rename_i hl
    refine ⟨by omega, fun x hx => ?_⟩
    cases hf : P.find? (fun x => pairErr o x != 0) with
    | none =>
      have := List.find?_eq_none.1 hf x hx
      have h0 : pairErr o x = 0 := by simpa using this
      unfold pairErr at h0
      split at h0
      · rename_i ht
        rw [Bool.and_eq_true] at ht
        split at h0
        · omega
        · exact ⟨of_decide_eq_true ht.1, of_decide_eq_true ht.2, by omega⟩
      · omega
    | some y =>
      rw [hf] at h
      have h1 := List.find?_some hf
      have h2 : pairErr o y = 0 := h
      simp [h2] at h1

theorem usedP_teeth {P : List (Int × Int)} (h : ∀ x ∈ P, (6 ≤ x.1 ∧ x.1 ≤ 100) ∧ (6 ≤ x.2 ∧ x.2 ≤ 100)) : ∀ y ∈ usedP P, 6 ≤ y ∧ y ≤ 100 := by
  intro y hy
  unfold usedP at hy
  obtain ⟨x, hx, hxy⟩ := List.mem_flatMap.1 hy
  have := h x hx
  simp only [List.mem_cons, List.not_mem_nil, or_false] at hxy
  rcases hxy with rfl | rfl
  · exact this.1
  · exact this.2
theorem usedL_teeth {P : List (Int × Int)} {i : Int} (h : ∀ x ∈ P, (6 ≤ x.1 ∧ x.1 ≤ 100) ∧ (6 ≤ x.2 ∧ x.2 ≤ 100)) (hi : i = 0 ∨ teethB i = true) : ∀ y ∈ usedL P i, 6 ≤ y ∧ y ≤ 100 := by
  intro y hy
  unfold usedL at hy
  rcases List.mem_append.1 hy with hy | hy
  · exact usedP_teeth h y hy
  · split at hy
    · simp at hy
    · rename_i h0
      obtain rfl := List.mem_singleton.1 hy
      exact of_decide_eq_true (hi.resolve_left h0)
theorem usedL_len (P : List (Int × Int)) (i : Int) : (usedL P i).length ≤ P.length * 2 + 1 := by
  unfold usedL
  rw [List.length_append, usedP_len]
  split <;> simp

theorem ints_own {w : World} {base : Nat} {x : Value} {l : List Int} (h : w.ownsRow base 3 1 x l.length (l.map (Value.int .i64))) (hl : l.length ≤ 1000) : IntsAt w x l := by
  refine ⟨by unfold maxLen; omega, ?_⟩
  rcases h.2 with ⟨rfl, hn⟩ | ⟨g, cap, cur, rfl, h2, h3, h4, h5, _⟩
  · obtain rfl : l = [] := List.length_eq_zero_iff.1 hn
    exact .inl ⟨rfl, _, _, rfl⟩
  · refine .inr ⟨g, 0, cap, rfl, h4, h5, (Array.getElem?_eq_some_iff.1 h3).1, fun i hi => ?_⟩
    rw [h.cellAt (0 + i) (by omega), Nat.zero_add]; simp [hi]
end Go.Proofs.Ytoiapnokgpeipaa
