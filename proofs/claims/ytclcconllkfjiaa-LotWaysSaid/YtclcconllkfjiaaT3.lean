/- LotWithin's mathematics: the numbers that can be lie together. -/
import Derived.Test.YtclcconllkfjiaaA14
namespace Go.Proofs.Ytclcconllkfjiaa

/-- few enough samples have more bad ones -/
def lowB (n c : Nat) (f d : Int) (k : Nat) : Bool := decide (((ch n c : Nat) : Int) * d < (passN k (n - k) c f : Nat) * 1000)
/-- few enough samples have fewer bad ones -/
def highB (n c : Nat) (f d : Int) (k : Nat) : Bool := decide (((ch n c : Nat) : Int) * d < (((ch n c : Nat) : Int) - (passN k (n - k) c (f - 1) : Nat)) * 1000)
theorem canF_is (n c : Nat) (f d : Int) (k : Nat) (hk : k ≤ n) : canF n c f d k = (lowB n c f d k && highB n c f d k) := by
  have h1 := passN_le k (n - k) c (f - 1)
  unfold canF likelyB lowB highB
  rw [show k + (n - k) = n by omega] at h1 ⊢
  rw [Int.mul_comm d, Int.mul_comm 1000, Int.mul_comm 1000, Int.ofNat_sub h1]
theorem pass_worse (n c k : Nat) (f : Int) (hk : k < n) : passN (k + 1) (n - (k + 1)) c f ≤ passN k (n - k) c f := by
  unfold passN
  rw [show n - k = (n - (k + 1)) + 1 by omega]
  exact sm_worse _ _ _ _
theorem pass_worse' (n c : Nat) (f : Int) (k j : Nat) (h : k ≤ j) (hj : j ≤ n) : passN j (n - j) c f ≤ passN k (n - k) c f := by
  induction j with
  | zero => obtain rfl : k = 0 := by omega
            exact Nat.le_refl _
  | succ j ih =>
    by_cases e : k = j + 1
    · subst e; exact Nat.le_refl _
    · exact Nat.le_trans (pass_worse n c j f (by omega)) (ih (by omega) (by omega))
theorem low_down {n c : Nat} {f d : Int} {k j : Nat} (h : k ≤ j) (hj : j ≤ n) (hl : lowB n c f d j = true) : lowB n c f d k = true := by
  unfold lowB at *
  rw [decide_eq_true_eq] at *
  have := pass_worse' n c f k j h hj
  omega
theorem high_up {n c : Nat} {f d : Int} {k j : Nat} (h : k ≤ j) (hj : j ≤ n) (hl : highB n c f d k = true) : highB n c f d j = true := by
  unfold highB at *
  rw [decide_eq_true_eq] at *
  have := pass_worse' n c (f - 1) k j h hj
  omega
theorem can_less {n c : Nat} {f d d' : Int} {k : Nat} (hk : k ≤ n) (h : d ≤ d') (hl : canF n c f d' k = true) : canF n c f d k = true := by
  rw [canF_is _ _ _ _ _ hk] at *
  unfold lowB highB at *
  rw [Bool.and_eq_true, decide_eq_true_eq, decide_eq_true_eq] at *
  have := Int.mul_le_mul_of_nonneg_left h (Int.natCast_nonneg (ch n c))
  omega
/-- what Within says of a valid sample, and what LotWithin asks of it -/
theorem within_none {n c : Nat} {f d : Int} (h : firstP (canF n c f d) (n + 1) = none) (k : Nat) (hk : k ≤ n) : (lowB n c f d k && highB n c f d k) = false := by
  rw [← canF_is _ _ _ _ _ hk]; exact firstP_none.1 h k (by omega)
theorem within_some {n c lo : Nat} {f d : Int} (h : firstP (canF n c f d) (n + 1) = some lo) : ∃ r, firstP (fun k => canF n c f d (n - k)) (n + 1) = some r ∧ r ≤ n ∧ lo ≤ n - r ∧ canF n c f d lo = true ∧ canF n c f d (n - r) = true ∧ ∀ k, k ≤ n → canF n c f d k = true → lo ≤ k ∧ k ≤ n - r := by
  obtain ⟨h1, h2, h3⟩ := firstP_some.1 h
  cases hr : firstP (fun k => canF n c f d (n - k)) (n + 1) with
  | none =>
    have := firstP_none.1 hr (n - lo) (by omega)
    simp only [show n - (n - lo) = lo by omega, h2] at this
    cases this
  | some r =>
    obtain ⟨q1, q2, q3⟩ := firstP_some.1 hr
    have up : ∀ k, k ≤ n → canF n c f d k = true → lo ≤ k ∧ k ≤ n - r := by
      intro k hk hc
      refine ⟨?_, ?_⟩
      · by_cases e : lo ≤ k
        · exact e
        · have := h3 k (by omega)
          rw [hc] at this; cases this
      · by_cases e : k ≤ n - r
        · exact e
        · have := q3 (n - k) (by omega)
          simp only [show n - (n - k) = k by omega, hc] at this
          cases this
    exact ⟨r, rfl, by omega, (up lo (by omega) h2).2, h2, q2, up⟩
theorem within_is {n c lo r : Nat} {f d : Int} (h1 : lo ≤ n - r) (hr : r ≤ n) (h2 : canF n c f d lo = true) (h3 : canF n c f d (n - r) = true) (h4 : ∀ k, k ≤ n → canF n c f d k = true → lo ≤ k ∧ k ≤ n - r) (k : Nat) (hk : k ≤ n) :
    (lowB n c f d k && highB n c f d k) = decide (lo ≤ k ∧ k ≤ n - r) ∧ (n - r < k → lowB n c f d k = false) ∧ (k < lo → highB n c f d k = false) := by
  rw [canF_is _ _ _ _ _ (by omega), Bool.and_eq_true] at h2 h3
  have hc := canF_is n c f d k hk
  refine ⟨?_, ?_, ?_⟩
  · by_cases e : lo ≤ k ∧ k ≤ n - r
    · rw [decide_eq_true e, low_down e.2 (by omega) h3.1, high_up e.1 hk h2.2]; rfl
    · rw [decide_eq_false e]
      cases q : (lowB n c f d k && highB n c f d k) with
      | false => rfl
      | true => exact absurd (h4 k hk (hc.trans q)) e
  · intro e
    cases q : lowB n c f d k with
    | false => rfl
    | true =>
      have := h4 k hk (by rw [hc, q, high_up (by omega) hk h2.2]; rfl)
      omega
  · intro e
    cases q : highB n c f d k with
    | false => rfl
    | true =>
      have := h4 k hk (by rw [hc, q, low_down (by omega) (by omega) h3.1]; rfl)
      omega
end Go.Proofs.Ytclcconllkfjiaa
