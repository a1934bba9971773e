/- Contracts of the document's small functions: Choices, Exactly, upTo. -/
import Derived.Test.YtclcconllkfjiaaA12
namespace Go.Proofs.Ytclcconllkfjiaa
set_option linter.unusedSimpArgs false
set_option linter.unusedVariables false
open Go.RowKit

/-- in how many ways k can be taken of n, also where there are none -/
def chI (n k : Int) : Nat := if k < 0 ∨ n < k then 0 else ch n.toNat k.toNat
theorem chI_bd (n k : Int) (h : n ≤ 50) : chI n k ≤ 1125899906842624 := by
  unfold chI
  split
  · omega
  · exact ch_bd _ _ (by omega)
theorem measure_up {k i : Nat} (h : i < k) : k + 1 - (intOf (.int .i64 ((i : Int) + 1 + 1))).toNat < k + 1 - (intOf (.int .i64 ((i : Int) + 1))).toNat := by simp [intOf]; omega
set_option maxRecDepth 100000 in
set_option maxHeartbeats 1600000 in
theorem choices_any (n k : Int) (w : World) (h : n ≤ 50) : Calls Try.prog 29 #[.int .i64 n, .int .i64 k] w fun e w' => e = .returned (.int .i64 (chI n k : Nat)) ∧ w' = w := by
  by_cases h0 : k < 0
  · have e : chI n k = 0 := if_pos (.inl h0)
    rw [e]
    go_enter Try.func29, Try.ntmps29
    go_wp2
    go_ret
    exact ⟨rfl, rfl⟩
  · by_cases h1 : n < k
    · have e : chI n k = 0 := if_pos (.inr h1)
      rw [e]
      go_enter Try.func29, Try.ntmps29
      go_wp2
      go_ret
      exact ⟨rfl, rfl⟩
    · obtain ⟨K, rfl⟩ : ∃ K : Nat, k = K := ⟨k.toNat, by omega⟩
      obtain ⟨N, rfl⟩ : ∃ N : Nat, n = N := ⟨n.toNat, by omega⟩
      have e : chI N K = ch N K := if_neg (by omega)
      rw [e]
      have hKN : K ≤ N := by omega
      clear e h0
      go_enter Try.func29, Try.ntmps29
      go_wp2
      go_loopw [5, 6] (fun o i wr => ∃ j : Nat, j ≤ K ∧ i = .int .i64 ((j : Int) + 1) ∧ o = .int .i64 (ch (N - K + j) j : Nat) ∧ wr = w) (fun _ i _ => K + 1 - (intOf i).toNat)
      case atStart => exact ⟨0, by omega, rfl, by rw [ch_zero]; rfl, rfl⟩
      case round =>
        obtain ⟨j, hj, rfl, rfl, rfl⟩ := hrel
        by_cases hjk : j < K
        · have hle : (j : Int) + 1 ≤ (K : Int) := by omega
          have hm := ch_mul (N - K + j) j
          have hb := ch_bd (N - K + j) j (by omega)
          have hb2 := ch_bd (N - K + j + 1) (j + 1) (by omega)
          obtain ⟨c, hc⟩ : ∃ c, ch (N - K + j) j = c := ⟨_, rfl⟩
          obtain ⟨c2, hc2⟩ : ∃ c, ch (N - K + j + 1) (j + 1) = c := ⟨_, rfl⟩
          rw [hc, hc2] at hm
          rw [hc] at hb ⊢
          rw [hc2] at hb2
          have HC2 := Lib.hid hc2
          have hcm : c * (N - K + j + 1) ≤ 1125899906842624 * 50 := Nat.mul_le_mul hb (by omega)
          obtain ⟨M, hM⟩ : ∃ M, N - K + j + 1 = M := ⟨_, rfl⟩
          obtain ⟨X, hX⟩ : ∃ X, c * (N - K + j + 1) = X := ⟨_, rfl⟩
          rw [hX] at hcm hm
          have e1 : IntKind.i64.wrap ((N : Int) - (K : Int)) = (N : Int) - (K : Int) := IntWalk.i64_in _ (by omega)
          have e2 : IntKind.i64.wrap ((N : Int) - (K : Int) + ((j : Int) + 1)) = (M : Int) := by rw [show (N : Int) - (K : Int) + ((j : Int) + 1) = (M : Int) by omega]; exact i64n _ (by omega)
          have e3 : IntKind.i64.wrap ((c : Int) * (M : Int)) = (X : Int) := by rw [← hX, hM, ← Int.natCast_mul]; exact i64n _ (by rw [← hM, hX]; omega)
          have e4 : Int.tdiv (X : Int) ((j : Int) + 1) = (c2 : Int) := by
            rw [← hm, Int.natCast_mul, show ((j : Int) + 1) = ((j + 1 : Nat) : Int) by omega]
            exact Int.mul_tdiv_cancel _ (by omega)
          have e5 : IntKind.i64.wrap ((j : Int) + 1 + 1) = (j : Int) + 1 + 1 := IntWalk.i64_in _ (by omega)
          have e6 : IntKind.i64.wrap (c2 : Int) = (c2 : Int) := i64n _ (by omega)
          have hn0 : ¬ ((j : Int) + 1) = 0 := by omega
          clear hm hcm hc hc2 hb hM hX
          go_wp2_with fail
          go_roundw
          case rel => exact ⟨j + 1, by omega, by go_num, by rw [show N - K + (j + 1) = N - K + j + 1 by omega, HC2.out], trivial⟩
          case measure => exact measure_up hjk
        · obtain rfl : j = K := by omega
          have hgt : ¬ (j : Int) + 1 ≤ (j : Int) := by omega
          go_wp2
          go_ret
          exact ⟨rfl, rfl⟩
/-- on how many samples just so many are bad, at any numbers -/
def exI (n b c x : Int) : Nat := chI b x * chI (n - b) (c - x)
theorem exI_bd (n b c x : Int) (h : n ≤ 50) : exI n b c x ≤ 1125899906842624 := by
  unfold exI chI
  by_cases h1 : x < 0 ∨ b < x
  · rw [if_pos h1, Nat.zero_mul]; exact Nat.zero_le _
  · by_cases h2 : c - x < 0 ∨ n - b < c - x
    · rw [if_pos h2, Nat.mul_zero]; exact Nat.zero_le _
    · rw [if_neg h1, if_neg h2]
      refine Nat.le_trans (Nat.mul_le_mul (ch_le _ _) (ch_le _ _)) ?_
      rw [← Nat.pow_add]
      exact Nat.pow_le_pow_right (n := 2) (by decide) (show b.toNat + (n - b).toNat ≤ 50 by omega)
theorem exI_is (b g c x : Nat) : exI ((b : Int) + (g : Int)) b c x = exT b g c x := by
  unfold exI chI exT
  by_cases h : x ≤ c
  · rw [if_pos h]
    by_cases h1 : b < x
    · rw [if_pos (by omega), ch_lt b x h1, Nat.zero_mul, Nat.zero_mul]
    · rw [if_neg (by omega)]
      by_cases h2 : g < c - x
      · rw [if_pos (by omega), ch_lt g (c - x) h2, Nat.mul_zero, Nat.mul_zero]
      · rw [if_neg (by omega), show ((b : Int) + (g : Int) - (b : Int)).toNat = g by omega, show ((c : Int) - (x : Int)).toNat = c - x by omega]; rfl
  · rw [if_neg h, if_pos (c := (c : Int) - (x : Int) < 0 ∨ _) (by omega), Nat.mul_zero]
set_option maxRecDepth 100000 in
set_option maxHeartbeats 1600000 in
theorem exactly_any (n b c x : Int) (w : World) (h : n ≤ 50) (hb : b ≤ 50 ∧ n - b ≤ 50) (h1 : -1000 ≤ n) (h2 : -1000 ≤ b) (h3 : -1000 ≤ c ∧ c ≤ 1000) (h4 : -1000 ≤ x ∧ x ≤ 1000) : Calls Try.prog 32 #[.int .i64 n, .int .i64 b, .int .i64 c, .int .i64 x] w fun e w' => e = .returned (.int .i64 (exI n b c x : Nat)) ∧ w' = w := by
  have hc1 := fun W => choices_any b x W hb.1
  have hc2 := fun W => choices_any (n - b) (c - x) W hb.2
  have hbd := exI_bd n b c x h
  obtain ⟨X, hX⟩ : ∃ X, chI b x = X := ⟨_, rfl⟩
  obtain ⟨Y, hY⟩ : ∃ X, chI (n - b) (c - x) = X := ⟨_, rfl⟩
  obtain ⟨Z, hZ⟩ : ∃ X, exI n b c x = X := ⟨_, rfl⟩
  have hXY : X * Y = Z := by rw [← hX, ← hY, ← hZ]; rfl
  rw [hX] at hc1
  rw [hY] at hc2
  rw [hZ] at hbd ⊢
  have HC1 := Lib.hid hc1
  have HC2 := Lib.hid hc2
  have e1 : IntKind.i64.wrap (n - b) = n - b := IntWalk.i64_in _ (by omega)
  have e2 : IntKind.i64.wrap (c - x) = c - x := IntWalk.i64_in _ (by omega)
  have e3 : IntKind.i64.wrap ((X : Int) * (Y : Int)) = (Z : Int) := by rw [← Int.natCast_mul, hXY]; exact i64n _ (by omega)
  clear hc1 hc2 hX hY hZ hXY h hb h1 h2 h3 h4 hbd
  go_enter Try.func32, Try.ntmps32
  go_wp2_with fail
  refine (HC1.out _).mono ?_
  rintro e w1 ⟨rfl, rfl⟩
  go_wp2_with fail
  refine (HC2.out _).mono ?_
  rintro e w2 ⟨rfl, rfl⟩
  go_wp2
  go_ret
  exact ⟨rfl, rfl⟩
theorem measure_to {i m : Nat} (h : i < m) : m - (intOf (.int .i64 ((i : Int) + 1))).toNat < m - (intOf (.int .i64 (i : Int))).toNat := by simp [intOf]; omega
set_option maxRecDepth 100000 in
set_option maxHeartbeats 1600000 in
theorem upTo_any (b g c : Nat) (f : Int) (w : World) (hn : b + g ≤ 50) (hc : c ≤ 50) (hf : -1 ≤ f ∧ f ≤ 50) : Calls Try.prog 28 #[.int .i64 ((b : Int) + (g : Int)), .int .i64 b, .int .i64 c, .int .i64 f] w fun e w' => e = .returned (.int .i64 (passN b g c f : Nat)) ∧ w' = w := by
  obtain ⟨m, hm⟩ : ∃ m, (f + 1).toNat = m := ⟨_, rfl⟩
  have hfm : f = (m : Int) - 1 := by omega
  have hp : passN b g c f = sm b g c m := by unfold passN; rw [hm]
  rw [hp]
  have hm51 : m ≤ 51 := by omega
  clear hp hm hf
  subst hfm
  obtain ⟨n, hnn⟩ : ∃ n : Int, (b : Int) + (g : Int) = n := ⟨_, rfl⟩
  have hex := fun W (x : Nat) (hx : x ≤ 51) => exactly_any ((b : Int) + (g : Int)) b c x W (by omega) (by omega) (by omega) (by omega) (by omega) (by omega)
  have hex' : ∀ W (x : Nat), x ≤ 51 → Calls Try.prog 32 #[.int .i64 n, .int .i64 b, .int .i64 c, .int .i64 x] W fun e w' => e = .returned (.int .i64 (exT b g c x : Nat)) ∧ w' = W := fun W x hx => by
    have := hex W x hx
    rw [exI_is, hnn] at this; exact this
  rw [hnn]
  have HEX := Lib.hid hex'
  have hn0 : -1 ≤ n ∧ n ≤ 50 := by omega
  clear hex hex' hnn
  go_enter Try.func28, Try.ntmps28
  go_wp2
  go_loopw [9, 10] (fun s i wr => ∃ k : Nat, k ≤ m ∧ i = .int .i64 k ∧ s = .int .i64 (sm b g c k : Nat) ∧ wr = w) (fun _ i _ => m - (intOf i).toNat)
  case atStart => exact ⟨0, by omega, rfl, rfl, rfl⟩
  case round =>
    obtain ⟨k, hk, rfl, rfl, rfl⟩ := hrel
    by_cases hkm : k < m
    · have hle : (k : Int) ≤ (m : Int) - 1 := by omega
      have hs := sm_succ b g c k
      have hsl := sm_le b g c (k + 1)
      have hcb := ch_bd (b + g) c hn
      obtain ⟨S, hS⟩ : ∃ S, sm b g c k = S := ⟨_, rfl⟩
      obtain ⟨E, hE⟩ : ∃ S, exT b g c k = S := ⟨_, rfl⟩
      have hx := HEX.out wr k (by omega)
      rw [hS, hE] at hs
      rw [hE] at hx
      rw [hS]
      have HS := Lib.hid hs
      have HX := Lib.hid hx
      have e1 : IntKind.i64.wrap ((S : Int) + (E : Int)) = ((S + E : Nat) : Int) := by rw [← Int.natCast_add]; exact i64n _ (by omega)
      clear hs hx hS hE hsl hcb
      go_wp2_with fail
      refine (HX.out).mono ?_
      rintro e w1 ⟨rfl, rfl⟩
      go_wp2
      go_roundw
      case rel => exact ⟨k + 1, by omega, by go_num, by rw [HS.out]; go_num, trivial⟩
      case measure => exact measure_to hkm
    · obtain rfl : k = m := by omega
      have hgt : ¬ (k : Int) ≤ (k : Int) - 1 := by omega
      go_wp2
      go_ret
      exact ⟨rfl, rfl⟩
end Go.Proofs.Ytclcconllkfjiaa
