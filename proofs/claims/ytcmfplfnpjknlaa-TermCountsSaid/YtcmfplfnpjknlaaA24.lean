/- The reference's power of two. -/
import Derived.Test.YtcmfplfnpjknlaaA23
namespace Go.Proofs.Ytcmfplfnpjknlaa
set_option linter.unusedSimpArgs false
set_option linter.unusedVariables false
open Go.RowKit

theorem two_pow_le {j k : Nat} (h : j ≤ k) : (2 : Int) ^ j ≤ 2 ^ k := by
  have := Nat.pow_le_pow_right (n := 2) (by omega) h
  exact_mod_cast this
theorem two_pow_pos (j : Nat) : (0 : Int) < 2 ^ j := by
  have := Nat.pow_pos (a := 2) (n := j) (by omega)
  exact_mod_cast this
set_option maxRecDepth 100000 in
set_option maxHeartbeats 6400000 in
theorem power_any (n : Nat) (hn : n ≤ 20) (w : World) : Calls Try.prog 31 #[.int .i64 n] w fun e w' => e = .returned (.int .i64 (2 ^ n)) ∧ w = w' := by
  go_enter Try.func31, Try.ntmps31
  go_wp2
  go_loopw [3, 4] (fun a i wr => ∃ j : Nat, j ≤ n ∧ i = .int .i64 j ∧ a = .int .i64 (2 ^ j) ∧ wr = w) (fun a i _ => n - (intOf i).toNat)
  case atStart => exact ⟨0, by omega, rfl, rfl, rfl⟩
  case round =>
    obtain ⟨j, hj, rfl, rfl, rfl⟩ := hrel
    by_cases hlt : j < n
    · have i1 : (j : Int) < (n : Int) := by omega
      have p1 : (2 : Int) ^ j ≤ 2 ^ 20 := two_pow_le (by omega)
      have p0 := two_pow_pos j
      obtain ⟨z, hz⟩ : ∃ z : Int, (2 : Int) ^ j = z := ⟨_, rfl⟩
      have hz2 : (2 : Int) ^ (j + 1) = 2 * z := by rw [← hz, Int.pow_succ]; omega
      rw [hz] at p0 p1 ⊢
      have p2 : z ≤ 1048576 := by omega
      have ew : IntKind.i64.wrap (2 * z) = 2 * z := IntWalk.i64_in _ (by omega)
      clear hz p1
      go_wp2
      go_roundw
      case rel => exact ⟨j + 1, by omega, by go_num, by rw [hz2], by simp⟩
      case measure => simp [intOf]; omega
    · have hjn : j = n := by omega
      subst hjn
      have i1 : ¬ (j : Int) < (j : Int) := by omega
      go_wp2
      go_ret
      exact ⟨rfl, rfl⟩
end Go.Proofs.Ytcmfplfnpjknlaa
