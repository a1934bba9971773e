/- Size: what the statements say in plain words: no set starved, the first that serves, the least. -/
import Derived.Test.YtlcmedfjghcigaaA18
namespace Go.Proofs.Ytlcmedfjghcigaa
set_option linter.unusedSimpArgs false
set_option linter.unusedVariables false
open Go.RowKit

def noneF (h : Hs) (z : Sz) : Bool := decide ((starvedF h z).2.2 = 4)
theorem szs_one (z : Sz) : szsOk [z] = szOk z := by
  unfold szsOk
  simp [List.range, List.range.loop, SzOkAt]
theorem errF_one {h : Hs} {z : Sz} (hh : hsOk h = true) : errF h [z] = if szOk z then 0 else 2 := by
  unfold errF
  rw [if_pos hh, szs_one]
theorem starve_none {h : Hs} {z : Sz} : starveF h z = none ↔ fullF h z = true := by
  unfold starveF fullF
  rw [List.find?_eq_none, List.all_eq_true]
  constructor
  · intro k x hx; have := k x hx; simpa using this
  · intro k x hx; have := k x hx; simpa using this
theorem none_full {h : Hs} {z : Sz} (hh : hsOk h = true) (hz : szOk z = true) : noneF h z = fullF h z := by
  have e : errF h [z] = 0 := by rw [errF_one hh, if_pos hz]
  unfold noneF starvedF
  rw [if_pos e]
  cases k : starveF h z with
  | none => have := starve_none.1 k; rw [this]; rfl
  | some x =>
    have : fullF h z = false := by
      cases k2 : fullF h z with
      | false => rfl
      | true => rw [starve_none.2 k2] at k; cases k
    rw [this]; rfl
theorem choose_facts {h : Hs} {l : List Sz} (hh : hsOk h = true) (hl : szsOk l = true) :
    (∃ k : Nat, k < l.length ∧ chooseF h l = ((k : Int), 0) ∧ fullF h l[k]! = true ∧ hearF h l[k]! = true ∧ ∀ j, j < k → fullF h l[j]! = true → hearF h l[j]! = false) ∨
    (chooseF h l = (0, 10) ∧ ∀ i, i < l.length → fullF h l[i]! = false) ∨
    (chooseF h l = (0, 11) ∧ ∀ i, i < l.length → fullF h l[i]! = true → hearF h l[i]! = false) := by
  have e0 : errF h l = 0 := by unfold errF; rw [if_pos hh, if_pos hl]
  by_cases e : enoughF h l = []
  · refine .inr (.inl ⟨?_, fun i hi => ?_⟩)
    · unfold chooseF; rw [if_pos e0, e]
    · cases k : fullF h l[i]! with
      | false => rfl
      | true =>
        have : i ∈ enoughF h l := by unfold enoughF enoughUp; exact List.mem_filter.2 ⟨List.mem_range.2 hi, k⟩
        rw [e] at this; cases this
  · rw [choose_cons e0 e]
    cases k : (enoughF h l).find? (hearsAt h l) with
    | none =>
      refine .inr (.inr ⟨rfl, fun i hi hf => ?_⟩)
      have hm : i ∈ enoughF h l := by unfold enoughF enoughUp; exact List.mem_filter.2 ⟨List.mem_range.2 hi, hf⟩
      have := List.find?_eq_none.1 k i hm
      simpa [hearsAt] using this
    | some i =>
      have k2 := k
      unfold enoughF enoughUp at k
      rw [List.find?_filter, List.find?_range_eq_some] at k
      obtain ⟨k3, k4, k5⟩ := k
      have k3' : fullF h l[i]! = true ∧ hearF h l[i]! = true := by simpa [hearsAt] using k3
      refine .inl ⟨i, List.mem_range.1 k4, rfl, k3'.1, k3'.2, fun j hj hf => ?_⟩
      have k6 : (!decide (fullF h l[j]! = true ∧ hearsAt h l j = true)) = true := k5 j hj
      have k7 : ¬ hearsAt h l j = true := fun e => by rw [decide_eq_true (show fullF h l[j]! = true ∧ hearsAt h l j = true from ⟨hf, e⟩)] at k6; cases k6
      have : hearF h l[j]! = hearsAt h l j := rfl
      rw [this]; simpa using k7
theorem search_spec {p : Nat → Bool} {T : Nat} : ∀ (f i j : Nat), i ≤ j → j ≤ T → j - i < 2 ^ f → (j = T ∨ p j = true) → (i = 0 ∨ p (i - 1) = false) → searchF p f i j ≤ T ∧ (searchF p f i j = T ∨ p (searchF p f i j) = true) ∧ (searchF p f i j = 0 ∨ p (searchF p f i j - 1) = false)
  | 0, i, j, h1, h2, h3, h4, h5 => by
    have : i = j := by have : j - i < 1 := h3; omega
    subst this
    exact ⟨h2, h4, h5⟩
  | f + 1, i, j, h1, h2, h3, h4, h5 => by
    have h3' : j - i < 2 ^ f * 2 := h3
    by_cases hij : i < j
    · rw [search_step hij]
      cases k : p ((i + j) / 2) with
      | true => 
        rw [if_pos rfl]
        exact search_spec f i ((i + j) / 2) (by omega) (by omega) (by omega) (.inr k) h5
      | false =>
        rw [if_neg (by simp)]
        exact search_spec f ((i + j) / 2 + 1) j (by omega) h2 (by omega) h4 (.inr (by simpa using k))
    · rw [search_end hij]
      have : i = j := by omega
      subst this
      exact ⟨h2, h4, h5⟩
theorem least_facts {h : Hs} {loss : Int} (hh : hsOk h = true) :
    (inF loss 0 10000 = false ∧ leastF h loss = (0, 2)) ∨ (inF loss 0 10000 = true ∧ leastF h loss = (0, 4) ∧ fullF h ⟨0, 1000000, loss, 0⟩ = false) ∨
    (inF loss 0 10000 = true ∧ ∃ n : Int, 1 ≤ n ∧ n ≤ 1000000 ∧ leastF h loss = (n, 0) ∧ fullF h ⟨0, n, loss, 0⟩ = true ∧ (n = 1 ∨ fullF h ⟨0, n - 1, loss, 0⟩ = false)) := by
  unfold leastF
  rw [if_pos hh]
  cases k : inF loss 0 10000 with
  | false => exact .inl ⟨rfl, rfl⟩
  | true =>
    rw [if_pos rfl]
    obtain ⟨s1, s2, s3⟩ := search_spec (p := leastP h loss) (T := 1000000) 20 0 1000000 (by omega) (by omega) (by decide) (.inl rfl) (.inl rfl)
    obtain ⟨r, hr⟩ : ∃ r, searchF (leastP h loss) 20 0 1000000 = r := ⟨_, rfl⟩
    rw [hr] at s1 s2 s3 ⊢
    by_cases e : r = 1000000
    · rw [if_pos e]
      refine .inr (.inl ⟨rfl, rfl, ?_⟩)
      rcases s3 with s3 | s3
      · omega
      · subst e
        simpa [leastP] using s3
    · rw [if_neg e]
      refine .inr (.inr ⟨rfl, (r : Int) + 1, by omega, by omega, rfl, ?_, ?_⟩)
      · rcases s2 with s2 | s2
        · omega
        · exact s2
      · rcases s3 with s3 | s3
        · left; omega
        · by_cases hr0 : r = 0
          · left; omega
          · right
            have e2 : ((r - 1 : Nat) : Int) + 1 = (r : Int) + 1 - 1 := by omega
            have : fullF h ⟨0, ((r - 1 : Nat) : Int) + 1, loss, 0⟩ = false := s3
            rwa [e2] at this
end Go.Proofs.Ytlcmedfjghcigaa
