/- Contracts: places, figures, carries; all drums; the total after runs. -/
import Derived.Test.YtmcndecmnfbggaaD2
import Derived.Test.YtmcndecmnfbggaaM3
import Derived.LoopN
import Derived.Outline
namespace Go.Proofs.Ytmcndecmnfbggaa
set_option linter.unusedSimpArgs false
open Go.RowKit

theorem place_any (p : Int) (w : World) : Calls Try.prog 31 #[.int .i64 p] w fun e w' => e = .returned (.int .i64 p) ∧ w = w' := by
  go_enter Try.func31, Try.ntmps31
  go_wp2
  go_ret
  exact ⟨rfl, rfl⟩
def figP (p : Int) : Int := (p + 500) / 1000 % 10
theorem figure_any (p : Int) (w : World) (h0 : 0 ≤ p) (h1 : p ≤ 9999) : Calls Try.prog 36 #[.int .i64 p] w fun e w' => e = .returned (.int .i64 (figP p)) ∧ w = w' := by
  go_enter Try.func36, Try.ntmps36
  go_wp2
  go_ret
  exact ⟨ret_int rfl, rfl⟩
theorem carry_any (p : Int) (w : World) (h0 : 0 ≤ p) (h1 : p ≤ 9999) : Calls Try.prog 47 #[.int .i64 p] w fun e w' => e = .returned (.int .i64 (max 0 (p - 9000))) ∧ w = w' := by
  have hm : (if (0 : Int) < p - 9000 then p - 9000 else 0) = max 0 (p - 9000) := by omega
  have hm2 : (if p - 9000 < (0 : Int) then 0 else p - 9000) = max 0 (p - 9000) := by omega
  have HM := Lib.hid hm
  have HM2 := Lib.hid hm2
  clear hm hm2
  go_enter Try.func47, Try.ntmps47
  go_wp2
  all_goals
    go_ret
    exact ⟨ret_int (by omega), rfl⟩
def drumV (t : Int) : Value := .agg #[.int .i64 (plc t 0), .int .i64 (plc t 1), .int .i64 (plc t 2), .int .i64 (plc t 3), .int .i64 (plc t 4), .int .i64 (plc t 5)]
theorem plc_succ (t : Int) (k : Nat) (s : Int) (hs : 1000 * tenP (k + 1) = s) : t / s % 10 * 1000 + max 0 (plc t k - 9000) = plc t (k + 1) := by
  rw [← hs, show plc t (k + 1) = 1000 * (t / (1000 * tenP (k + 1)) % 10) + max 0 (plc t k - 9000) from rfl, Int.mul_comm]
set_option maxRecDepth 100000 in
set_option maxHeartbeats 3200000 in
theorem drumsAt_any (t : Int) (w : World) (h0 : 0 ≤ t) (h1 : t ≤ 1000000000) : Calls Try.prog 30 #[.int .i64 t] w fun e w' => e = .returned (drumV t) ∧ Below w.heap.size w w' := by
  have p0 := plc_bd t 0
  have p1 := plc_bd t 1
  have p2 := plc_bd t 2
  have p3 := plc_bd t 3
  have p4 := plc_bd t 4
  have p5 := plc_bd t 5
  have s1 := plc_succ t 0 10000 (by decide)
  have s2 := plc_succ t 1 100000 (by decide)
  have s3 := plc_succ t 2 1000000 (by decide)
  have s4 := plc_succ t 3 10000000 (by decide)
  have s5 := plc_succ t 4 100000000 (by decide)
  have s0 : t % 10000 = plc t 0 := rfl
  obtain ⟨q0, e0⟩ : ∃ q, plc t 0 = q := ⟨_, rfl⟩
  obtain ⟨q1, e1⟩ : ∃ q, plc t 1 = q := ⟨_, rfl⟩
  obtain ⟨q2, e2⟩ : ∃ q, plc t 2 = q := ⟨_, rfl⟩
  obtain ⟨q3, e3⟩ : ∃ q, plc t 3 = q := ⟨_, rfl⟩
  obtain ⟨q4, e4⟩ : ∃ q, plc t 4 = q := ⟨_, rfl⟩
  obtain ⟨q5, e5⟩ : ∃ q, plc t 5 = q := ⟨_, rfl⟩
  unfold drumV
  simp only [e0, e1, e2, e3, e4, e5] at *
  clear e0 e1 e2 e3 e4 e5
  go_enter Try.func30, Try.ntmps30
  go_wp2
  refine wp_loop_rounds 6 ?_
  iterate 5
    rw [rounds_succ]
    go_wp2_with ((with_reducible refine (carry_any _ _ (by omega) (by omega)).mono ?_); rintro e w' ⟨rfl, rfl⟩)
  rw [rounds_succ]
  go_wp2
  refine bodyPost_ret (v := .agg #[.int .i64 q0, .int .i64 q1, .int .i64 q2, .int .i64 q3, .int .i64 q4, .int .i64 q5]) (by simp [results, Try.results30, go_sem]) rfl ⟨rfl, ?_⟩
  repeat (first | exact Below.refl _ _ | refine Below.alloc ?_ (by simp) _)
theorem refPlace_any (t : Int) (h0 : 0 ≤ t) (h1 : t ≤ 1000000000) : ∀ (k : Nat) (_ : k ≤ 5) (w : World), Calls Try.prog 39 #[.int .i64 t, .int .i64 k] w fun e w' => e = .returned (.int .i64 (plc t k)) ∧ w = w'
  | 0, _, w => by
    have H := Lib.hid (show t % 10000 = plc t 0 from rfl)
    go_enter Try.func39, Try.ntmps39
    go_wp2
    go_ret
    exact ⟨ret_int H.out, rfl⟩
  | k + 1, hk, w => by
    have ih := Lib.hid (refPlace_any t h0 h1 k (by omega))
    have hb := plc_bd t k
    have hp := power_any (k + 1 : Nat) w (by omega)
    have hpb := tenP_bd (k + 1) (by omega)
    rw [show ((k + 1 : Nat) : Int).toNat = k + 1 by omega] at hp
    have HP := Lib.hid hp
    have hs := Lib.hid (plc_succ t k _ rfl)
    have ht := tenP_pos (k + 1)
    obtain ⟨q, hq⟩ : ∃ q, plc t k = q := ⟨_, rfl⟩
    obtain ⟨T, hT⟩ : ∃ T, tenP (k + 1) = T := ⟨_, rfl⟩
    obtain ⟨r, hr⟩ : ∃ r, plc t (k + 1) = r := ⟨_, rfl⟩
    rw [hq] at hb
    simp only [hT, hq, hr] at ih hs ht hpb hp ⊢
    have hs' : 1000 * (t / (1000 * T) % 10) + max 0 (q - 9000) = r := by rw [← hs.out]; omega
    have HS := Lib.hid hs'
    have HP' := Lib.hid hp
    clear hq hT hr hs' hp HP hs
    have hk1 : ((k : Int) + 1 == 0) = false := by simp; omega
    have z : ¬ 1000 * T = 0 := by omega
    have d0 : 0 ≤ t / (1000 * T) := Int.ediv_nonneg h0 (by omega)
    have d1 : t / (1000 * T) ≤ t := Int.ediv_le_self _ h0
    go_enter Try.func39, Try.ntmps39
    go_wp2_with fail
    refine (ih.out w).mono ?_
    rintro e w' ⟨rfl, rfl⟩
    go_wp2_with fail
    all_goals
      refine HP'.out.mono ?_
      rintro e w' ⟨rfl, rfl⟩
      go_wp2
      go_ret
      exact ⟨ret_int (by have := HS.out; omega), rfl⟩

end Go.Proofs.Ytmcndecmnfbggaa
