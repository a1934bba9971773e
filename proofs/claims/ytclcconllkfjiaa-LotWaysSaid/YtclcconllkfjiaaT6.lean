/- LotCounts' mathematics: sets of meters by bits, counted by their top bit. -/
import Derived.Test.YtclcconllkfjiaaM2
namespace Go.Proofs.Ytclcconllkfjiaa

/-- how many of the first bits are set -/
def tst (s : Nat) : Nat → Nat
  | 0 => 0
  | i + 1 => tst s i + s / 2 ^ i % 2
/-- how many of the first bits are set of those that are below b -/
def fnd (b s : Nat) : Nat → Nat
  | 0 => 0
  | i + 1 => fnd b s i + (if i < b then s / 2 ^ i % 2 else 0)
def isSet (n b c m s : Nat) : Bool := decide (tst s n = c) && decide (fnd b s n < m)
/-- how many of the sets before s have c bits, of which less than m are below b -/
def cntS (n b c m : Nat) : Nat → Nat
  | 0 => 0
  | s + 1 => cntS n b c m s + (if isSet n b c m s = true then 1 else 0)
theorem cntS_succ (n b c m s : Nat) : cntS n b c m (s + 1) = cntS n b c m s + (if isSet n b c m s = true then 1 else 0) := rfl
theorem tst_le (s : Nat) : ∀ n, tst s n ≤ n
  | 0 => Nat.le_refl _
  | n + 1 => by have := tst_le s n; have : s / 2 ^ n % 2 < 2 := Nat.mod_lt _ (by omega); unfold tst; omega
theorem fnd_le (b s : Nat) : ∀ n, fnd b s n ≤ n
  | 0 => Nat.le_refl _
  | n + 1 => by
    have := fnd_le b s n
    have : s / 2 ^ n % 2 < 2 := Nat.mod_lt _ (by omega)
    unfold fnd
    split <;> omega
theorem cntS_le (n b c m : Nat) : ∀ s, cntS n b c m s ≤ s
  | 0 => Nat.le_refl _
  | s + 1 => by have := cntS_le n b c m s; unfold cntS; split <;> omega
theorem high_bit {i n s : Nat} (h : i < n) : (2 ^ n + s) / 2 ^ i % 2 = s / 2 ^ i % 2 := by
  have e : 2 ^ n = 2 ^ i * (2 * 2 ^ (n - i - 1)) := by
    rw [← Nat.pow_succ', ← Nat.pow_add]; congr 1; omega
  rw [e, Nat.mul_add_div (Nat.two_pow_pos i)]
  omega
theorem tst_high (n s : Nat) : ∀ i, i ≤ n → tst (2 ^ n + s) i = tst s i
  | 0, _ => rfl
  | i + 1, h => by unfold tst; rw [tst_high n s i (by omega), high_bit (by omega)]
theorem fnd_high (b n s : Nat) : ∀ i, i ≤ n → fnd b (2 ^ n + s) i = fnd b s i
  | 0, _ => rfl
  | i + 1, h => by unfold fnd; rw [fnd_high b n s i (by omega), high_bit (by omega)]
theorem top_bit {n s : Nat} (h : s < 2 ^ n) : (2 ^ n + s) / 2 ^ n % 2 = 1 := by
  rw [Nat.add_div_left _ (Nat.two_pow_pos n), Nat.div_eq_of_lt h]
theorem top_none {n s : Nat} (h : s < 2 ^ n) : s / 2 ^ n % 2 = 0 := by rw [Nat.div_eq_of_lt h]
theorem fnd_more (b s : Nat) : ∀ n, n ≤ b → fnd (b + 1) s n = fnd b s n
  | 0, _ => rfl
  | n + 1, h => by unfold fnd; rw [fnd_more b s n (by omega), if_pos (by omega), if_pos (by omega)]
/-- sets without the bit n -/
theorem cnt_low (n b b' c m : Nat) (hb : ∀ s, fnd b' s n = fnd b s n) : ∀ s, s ≤ 2 ^ n → cntS (n + 1) b' c m s = cntS n b c m s
  | 0, _ => rfl
  | s + 1, h => by
    unfold cntS
    rw [cnt_low n b b' c m hb s (by omega)]
    have e : isSet (n + 1) b' c m s = isSet n b c m s := by
      unfold isSet
      rw [show tst s (n + 1) = tst s n + s / 2 ^ n % 2 from rfl, show fnd b' s (n + 1) = fnd b' s n + (if n < b' then s / 2 ^ n % 2 else 0) from rfl, top_none (by omega), hb s]
      simp
    rw [e]
/-- sets with the bit n -/
theorem cnt_top (n b b' c m k : Nat) (hb : ∀ s, fnd b' s n = fnd b s n) (hk : k = if n < b' then 1 else 0) : ∀ s, s ≤ 2 ^ n → cntS (n + 1) b' (c + 1) (m + k) (2 ^ n + s) = cntS (n + 1) b' (c + 1) (m + k) (2 ^ n) + cntS n b c m s
  | 0, _ => rfl
  | s + 1, h => by
    rw [← Nat.add_assoc, cntS_succ, cntS_succ, cnt_top n b b' c m k hb hk s (by omega)]
    have e : isSet (n + 1) b' (c + 1) (m + k) (2 ^ n + s) = isSet n b c m s := by
      unfold isSet
      rw [show tst (2 ^ n + s) (n + 1) = tst (2 ^ n + s) n + (2 ^ n + s) / 2 ^ n % 2 from rfl, show fnd b' (2 ^ n + s) (n + 1) = fnd b' (2 ^ n + s) n + (if n < b' then (2 ^ n + s) / 2 ^ n % 2 else 0) from rfl, top_bit (by omega), tst_high n s n (Nat.le_refl _), fnd_high b' n s n (Nat.le_refl _), hb s, ← hk]
      have e1 : decide (tst s n + 1 = c + 1) = decide (tst s n = c) := by by_cases q : tst s n = c <;> simp [q]
      have e2 : decide (fnd b s n + k < m + k) = decide (fnd b s n < m) := by by_cases q : fnd b s n < m <;> simp [q]
      rw [e1, e2]
    rw [e]
    omega
theorem cnt_top0 (n b m : Nat) : ∀ s, s ≤ 2 ^ n → cntS (n + 1) b 0 m (2 ^ n + s) = cntS (n + 1) b 0 m (2 ^ n)
  | 0, _ => rfl
  | s + 1, h => by
    rw [← Nat.add_assoc, cntS_succ, cnt_top0 n b m s (by omega)]
    have e : isSet (n + 1) b 0 m (2 ^ n + s) = false := by
      unfold isSet
      rw [show tst (2 ^ n + s) (n + 1) = tst (2 ^ n + s) n + (2 ^ n + s) / 2 ^ n % 2 from rfl, top_bit (by omega)]
      simp
    rw [e]; rfl
theorem cnt_none (n b c : Nat) : ∀ s, cntS n b c 0 s = 0
  | 0 => rfl
  | s + 1 => by
    unfold cntS
    rw [cnt_none n b c s]
    unfold isSet
    simp
/-- all sets of n meters, of which the first b are bad -/
theorem cnt_all : ∀ (n b c m : Nat), b ≤ n → cntS n b c m (2 ^ n) = sm b (n - b) c m
  | 0, b, c, m, h => by
    obtain rfl : b = 0 := by omega
    show 0 + (if isSet 0 0 c m 0 = true then 1 else 0) = sm 0 0 c m
    unfold isSet tst fnd
    cases m with
    | zero => simp [sm]
    | succ m =>
      rw [sm_b0]
      cases c with
      | zero => simp [ch]
      | succ c => simp [ch]
  | n + 1, b, c, m, h => by
    have e2 : 2 ^ (n + 1) = 2 ^ n + 2 ^ n := by rw [Nat.pow_succ]; omega
    rw [e2]
    by_cases hb : b ≤ n
    · cases c with
      | zero =>
        rw [cnt_top0 n b m _ (Nat.le_refl _), cnt_low n b b 0 m (fun _ => rfl) _ (Nat.le_refl _), cnt_all n b 0 m hb]
        exact sm_c0 _ _ _ _ _
      | succ c =>
        have := cnt_top n b b c m 0 (fun _ => rfl) (by rw [if_neg (by omega)]) (2 ^ n) (Nat.le_refl _)
        simp only [Nat.add_zero] at this
        rw [this, cnt_low n b b (c + 1) m (fun _ => rfl) _ (Nat.le_refl _), cnt_all n b (c + 1) m hb, cnt_all n b c m hb, show n + 1 - b = (n - b) + 1 by omega, sm_good]
    · obtain rfl : b = n + 1 := by omega
      have hf : ∀ s, fnd (n + 1) s n = fnd n s n := fun s => fnd_more n s n (Nat.le_refl _)
      rw [Nat.sub_self]
      cases c with
      | zero =>
        rw [cnt_top0 n (n + 1) m _ (Nat.le_refl _), cnt_low n n (n + 1) 0 m hf _ (Nat.le_refl _), cnt_all n n 0 m (Nat.le_refl _)]
        exact sm_c0 _ _ _ _ _
      | succ c =>
        cases m with
        | zero => rw [cnt_none]; rfl
        | succ m =>
          rw [cnt_top n n (n + 1) c m 1 hf (by rw [if_pos (by omega)]) (2 ^ n) (Nat.le_refl _), cnt_low n n (n + 1) (c + 1) (m + 1) hf _ (Nat.le_refl _), cnt_all n n (c + 1) (m + 1) (Nat.le_refl _), cnt_all n n c m (Nat.le_refl _), Nat.sub_self, sm_bad]
end Go.Proofs.Ytclcconllkfjiaa
