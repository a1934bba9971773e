/- Contracts: closings of one run. -/
import Derived.Test.YtmcndecmnfbggaaD8
import Derived.Outline
namespace Go.Proofs.Ytmcndecmnfbggaa
set_option linter.unusedSimpArgs false
open Go.RowKit

def Cl.val (k : Cl) : Value := .agg #[.int .i64 k.count, .int .i64 k.first, .int .i64 k.last]
set_option maxRecDepth 100000 in
set_option maxHeartbeats 3200000 in
theorem closingsOf_any (a b c : Int) (w : World) (ha : -1000000000000000 ≤ a ∧ a ≤ 1000000000000000) (hb : -1000000000000000 ≤ b ∧ b ≤ 1000000000000000) (hc : 0 ≤ c ∧ c ≤ 9999) :
    Calls Try.prog 49 #[.int .i64 a, .int .i64 b, .int .i64 c] w fun e w' => e = .returned (closP a b c).val ∧ Below w.heap.size w w' := by
  obtain ⟨K, hK⟩ : ∃ K, closP a b c = K := ⟨_, rfl⟩
  rw [hK]
  have HK := Lib.hid hK
  clear hK
  by_cases h : b < a
  · obtain ⟨least, hle⟩ : ∃ x, b + (c - b) % 10000 = x := ⟨_, rfl⟩
    obtain ⟨most, hmo⟩ : ∃ x, a - 1 - (a - 1 - c) % 10000 = x := ⟨_, rfl⟩
    have l0 := Int.emod_nonneg (c - b) (show (10000 : Int) ≠ 0 by decide)
    have l1 := Int.emod_lt_of_pos (c - b) (show (0 : Int) < 10000 by decide)
    have l2 := Int.emod_nonneg (a - 1 - c) (show (10000 : Int) ≠ 0 by decide)
    have l3 := Int.emod_lt_of_pos (a - 1 - c) (show (0 : Int) < 10000 by decide)
    by_cases g : most < least
    · have H := Lib.hid (show K = ⟨0, 0, 0⟩ by rw [← HK.out]; unfold closP; simp only [h, if_true, hle, hmo]; rw [if_pos g])
      go_enter Try.func49, Try.ntmps49
      go_wp2_with ((with_reducible refine (modulo_any _ _ _ (by omega) (by omega)).mono ?_); rintro e w' ⟨rfl, rfl⟩)
      refine bodyPost_ret (v := .agg #[.int .i64 0, .int .i64 0, .int .i64 0]) (by simp [results, Try.results49, go_sem]) rfl ⟨by rw [H.out]; rfl, ?_⟩
      repeat (first | exact Below.refl _ _ | refine Below.alloc ?_ (by simp) _)
    · have H := Lib.hid (show K = ⟨(most - least) / 10000 + 1, most, least⟩ by rw [← HK.out]; unfold closP; simp only [h, if_true, hle, hmo]; rw [if_neg g])
      have g0 : 0 ≤ most - least := by omega
      go_enter Try.func49, Try.ntmps49
      go_wp2_with ((with_reducible refine (modulo_any _ _ _ (by omega) (by omega)).mono ?_); rintro e w' ⟨rfl, rfl⟩)
      refine bodyPost_ret (v := .agg #[.int .i64 ((most - least) / 10000 + 1), .int .i64 most, .int .i64 least]) (by simp [results, Try.results49, go_sem]) rfl ⟨by rw [H.out]; rfl, ?_⟩
      repeat (first | exact Below.refl _ _ | refine Below.alloc ?_ (by simp) _)
  · obtain ⟨least, hle⟩ : ∃ x, a + 1 + (c - (a + 1)) % 10000 = x := ⟨_, rfl⟩
    obtain ⟨most, hmo⟩ : ∃ x, b - (b - c) % 10000 = x := ⟨_, rfl⟩
    have l0 := Int.emod_nonneg (c - (a + 1)) (show (10000 : Int) ≠ 0 by decide)
    have l1 := Int.emod_lt_of_pos (c - (a + 1)) (show (0 : Int) < 10000 by decide)
    have l2 := Int.emod_nonneg (b - c) (show (10000 : Int) ≠ 0 by decide)
    have l3 := Int.emod_lt_of_pos (b - c) (show (0 : Int) < 10000 by decide)
    by_cases g : most < least
    · have H := Lib.hid (show K = ⟨0, 0, 0⟩ by rw [← HK.out]; unfold closP; simp only [h, if_false, hle, hmo]; rw [if_pos g])
      go_enter Try.func49, Try.ntmps49
      go_wp2_with ((with_reducible refine (modulo_any _ _ _ (by omega) (by omega)).mono ?_); rintro e w' ⟨rfl, rfl⟩)
      refine bodyPost_ret (v := .agg #[.int .i64 0, .int .i64 0, .int .i64 0]) (by simp [results, Try.results49, go_sem]) rfl ⟨by rw [H.out]; rfl, ?_⟩
      repeat (first | exact Below.refl _ _ | refine Below.alloc ?_ (by simp) _)
    · have H := Lib.hid (show K = ⟨(most - least) / 10000 + 1, least, most⟩ by rw [← HK.out]; unfold closP; simp only [h, if_false, hle, hmo]; rw [if_neg g])
      have g0 : 0 ≤ most - least := by omega
      go_enter Try.func49, Try.ntmps49
      go_wp2_with ((with_reducible refine (modulo_any _ _ _ (by omega) (by omega)).mono ?_); rintro e w' ⟨rfl, rfl⟩)
      refine bodyPost_ret (v := .agg #[.int .i64 ((most - least) / 10000 + 1), .int .i64 least, .int .i64 most]) (by simp [results, Try.results49, go_sem]) rfl ⟨by rw [H.out]; rfl, ?_⟩
      repeat (first | exact Below.refl _ _ | refine Below.alloc ?_ (by simp) _)
end Go.Proofs.Ytmcndecmnfbggaa
