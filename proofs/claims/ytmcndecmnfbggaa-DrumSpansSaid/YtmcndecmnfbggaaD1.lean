/- Contracts of the small functions of package drum, and of the document's own: in, modulo, turns, registers. -/
import Derived.Test.YtmcndecmnfbggaaRows
import Derived.WalkKit
import Derived.Maps.Own
import Derived.Maps.OwnOps
import Derived.BigQuiet
import Derived.Deep.RegionWith
import Derived.Lib.Hide
import Derived.WalkSpells
import Derived.WalkLawsBesides
import Derived.IntWalk
namespace Go.Proofs.Ytmcndecmnfbggaa
set_option linter.unusedSimpArgs false
open Go.RowKit

theorem ret_int {k : IntKind} {a b : Int} (h : a = b) : Ending.returned (.int k a) = .returned (.int k b) := by rw [h]
def inB (n lo hi : Int) : Bool := decide (lo ≤ n ∧ n ≤ hi)
theorem in_any (n lo hi : Int) (w : World) : Calls Try.prog 32 #[.int .i64 n, .int .i64 lo, .int .i64 hi] w fun e w' => e = .returned (.bool (inB n lo hi)) ∧ w = w' := by
  by_cases h : lo ≤ n
  · have H := Lib.hid (show inB n lo hi = decide (n ≤ hi) by simp [inB, h])
    go_enter Try.func32, Try.ntmps32
    go_wp2
    go_ret
    exact ⟨by rw [H.out]; rfl, rfl⟩
  · have H := Lib.hid (show inB n lo hi = false by simp [inB, h])
    go_enter Try.func32, Try.ntmps32
    go_wp2
    go_ret
    exact ⟨by rw [H.out]; rfl, rfl⟩

theorem tmod_mod (a n : Int) (hn : 0 < n) : (a.tmod n + n) % n = a % n := by
  rw [Int.add_emod_right, Int.tmod_eq_emod]
  split
  · simp
  · have e : ((n.natAbs : Nat) : Int) = n := Int.natAbs_of_nonneg (by omega)
    rw [e, Int.sub_emod_right]; simp
theorem modulo_any (a n : Int) (w : World) (hn : 0 < n) (hn2 : n ≤ 4611686018427387904) :
    Calls Try.prog 48 #[.int .i64 a, .int .i64 n] w fun e w' => e = .returned (.int .i64 (a % n)) ∧ w = w' := by
  have z : ¬ n = 0 := by omega
  have b1 := Int.lt_tmod_of_pos a hn
  have b2 := Int.tmod_lt_of_pos a hn
  have HM := Lib.hid (tmod_mod a n hn)
  have b3 : -n < a.tmod n := b1
  go_enter Try.func48, Try.ntmps48
  go_wp2
  go_ret
  exact ⟨ret_int HM.out, rfl⟩

def tenP : Nat → Int
  | 0 => 1
  | n + 1 => 10 * tenP n
theorem tenP_bd : ∀ n, n ≤ 6 → 1 ≤ tenP n ∧ tenP n ≤ 1000000 := by
  intro n hn
  have : n = 0 ∨ n = 1 ∨ n = 2 ∨ n = 3 ∨ n = 4 ∨ n = 5 ∨ n = 6 := by omega
  rcases this with h | h | h | h | h | h | h <;> subst h <;> decide
def turnP (d : Int) : Int := 1000 * tenP d.toNat
theorem turnP_bd (d : Int) (h : d ≤ 6) : 1000 ≤ turnP d ∧ turnP d ≤ 1000000000 := by
  have := tenP_bd d.toNat (by omega)
  unfold turnP; omega
set_option maxHeartbeats 400000 in
theorem turnOf_any (d : Int) (w : World) (h : d ≤ 6) : Calls Try.prog 46 #[.int .i64 d] w fun e w' => e = .returned (.int .i64 (turnP d)) ∧ w = w' := by
  go_enter Try.func46, Try.ntmps46
  go_wp2
  go_loop [3, 5] (fun t c => ∃ k : Nat, k ≤ d.toNat ∧ c = .int .i64 k ∧ t = .int .i64 (1000 * tenP k)) (fun _ c => d.toNat - (intOf c).toNat)
  case atStart => exact ⟨0, by omega, rfl, rfl⟩
  case round =>
    obtain ⟨k, hk, rfl, rfl⟩ := hrel
    have hb := tenP_bd k (by omega)
    by_cases hlt : (k : Int) < d
    · have hs : tenP (k + 1) = 10 * tenP k := rfl
      have HS := Lib.hid hs
      clear hs
      go_wp2
      go_round
      case rel => exact ⟨k + 1, by omega, by go_num, by rw [HS.out]; congr 1; omega⟩
      case measure => simp [intOf]; omega
    · have hk2 : k = d.toNat := by omega
      have HK := Lib.hid hk2
      clear hk2
      go_wp2
      go_ret
      exact ⟨ret_int (by unfold turnP; rw [← HK.out]), rfl⟩
set_option maxHeartbeats 400000 in
theorem power_any (d : Int) (w : World) (h : d ≤ 6) : Calls Try.prog 45 #[.int .i64 d] w fun e w' => e = .returned (.int .i64 (tenP d.toNat)) ∧ w = w' := by
  go_enter Try.func45, Try.ntmps45
  go_wp2
  go_loop [3, 4] (fun t c => ∃ k : Nat, k ≤ d.toNat ∧ c = .int .i64 k ∧ t = .int .i64 (tenP k)) (fun _ c => d.toNat - (intOf c).toNat)
  case atStart => exact ⟨0, by omega, rfl, rfl⟩
  case round =>
    obtain ⟨k, hk, rfl, rfl⟩ := hrel
    have hb := tenP_bd k (by omega)
    by_cases hlt : (k : Int) < d
    · have hs : tenP (k + 1) = 10 * tenP k := rfl
      have HS := Lib.hid hs
      clear hs
      go_wp2
      go_round
      case rel => exact ⟨k + 1, by omega, by go_num, by rw [HS.out]⟩
      case measure => simp [intOf]; omega
    · have hk2 : k = d.toNat := by omega
      have HK := Lib.hid hk2
      clear hk2
      go_wp2
      go_ret
      exact ⟨ret_int (by rw [← HK.out]), rfl⟩
theorem refModulo_any (a n : Int) (w : World) (hn : 0 < n) (hn2 : n ≤ 4611686018427387904) :
    Calls Try.prog 38 #[.int .i64 a, .int .i64 n] w fun e w' => e = .returned (.int .i64 (a % n)) ∧ w = w' := by
  have z : ¬ n = 0 := by omega
  have b1 := Int.lt_tmod_of_pos a hn
  have b2 := Int.tmod_lt_of_pos a hn
  have HM := Lib.hid (tmod_mod a n hn)
  go_enter Try.func38, Try.ntmps38
  go_wp2
  go_ret
  exact ⟨ret_int HM.out, rfl⟩
theorem turn_any (d : Int) (w : World) (h : d ≤ 6) : Calls Try.prog 24 #[.int .i64 d] w fun e w' => e = .returned (.int .i64 (turnP d)) ∧ w = w' := by
  have hb := tenP_bd d.toNat (by omega)
  have hp := power_any d w h
  obtain ⟨T, hT⟩ : ∃ T, tenP d.toNat = T := ⟨_, rfl⟩
  rw [hT] at hp hb
  have HP := Lib.hid hp
  have HT := Lib.hid hT
  clear hp hT
  go_enter Try.func24, Try.ntmps24
  go_wp2_with fail
  refine HP.out.mono ?_
  rintro e w' ⟨rfl, rfl⟩
  go_wp2
  go_ret
  exact ⟨ret_int (by unfold turnP; rw [HT.out]), rfl⟩
def totB (t d : Int) : Bool := decide (0 ≤ t ∧ t < turnP d)
theorem isTotal_any (t d : Int) (w : World) (h : d ≤ 6) : Calls Try.prog 28 #[.int .i64 t, .int .i64 d] w fun e w' => e = .returned (.bool (totB t d)) ∧ w = w' := by
  have ht := turnOf_any d w h
  obtain ⟨T, hT⟩ : ∃ T, turnP d = T := ⟨_, rfl⟩
  have hB : totB t d = decide (0 ≤ t ∧ t < T) := by unfold totB; rw [hT]
  rw [hT] at ht
  have HT := Lib.hid ht
  clear ht hT
  by_cases h0 : 0 ≤ t
  · have H := Lib.hid (show totB t d = decide (t < T) by rw [hB]; simp [h0])
    clear hB
    go_enter Try.func28, Try.ntmps28
    go_wp2_with fail
    refine HT.out.mono ?_
    rintro e w' ⟨rfl, rfl⟩
    go_wp2
    go_ret
    exact ⟨by rw [H.out]; rfl, rfl⟩
  · have H := Lib.hid (show totB t d = false by rw [hB]; simp [h0])
    clear hB
    go_enter Try.func28, Try.ntmps28
    go_wp2
    go_ret
    exact ⟨by rw [H.out]; rfl, rfl⟩
def regB (d s : Int) : Bool := decide (1 ≤ d ∧ d ≤ 6) && totB s d
theorem regcells {X : World} {b : Nat} {d s : Int} {t : TypeId} (h : X.heap[b]? = some (.cells #[.int .i64 d, .int .i64 s] t)) : X.cell? ⟨b, 0, none⟩ = some (.int .i64 d) ∧ X.cell? ⟨b, 1, none⟩ = some (.int .i64 s) := by
  refine ⟨?_, ?_⟩ <;> simp [World.cell?, h]
set_option maxHeartbeats 400000 in
theorem isRegister_any (d s : Int) (w : World) : Calls Try.prog 27 #[.agg #[.int .i64 d, .int .i64 s]] w fun e w' => e = .returned (.bool (regB d s)) ∧ Below w.heap.size w w' := by
  have hbel : Below w.heap.size w (w.alloc (.cells #[.int .i64 d, .int .i64 s] 23)) := (Below.refl _ _).alloc (Nat.le_refl _) _
  by_cases h1 : 1 ≤ d
  · by_cases h2 : d ≤ 6
    · have H := Lib.hid (show regB d s = totB s d by unfold regB; simp [h1, h2])
      have ht := fun X => isTotal_any s d X h2
      obtain ⟨T, hT⟩ : ∃ T, totB s d = T := ⟨_, rfl⟩
      simp only [hT] at ht
      have HT := Lib.hid ht
      have HTT := Lib.hid hT
      clear ht hT
      go_enter Try.func27, Try.ntmps27
      go_wp2_with fail
      refine (HT.out _).mono ?_
      rintro e w' ⟨rfl, rfl⟩
      go_wp2
      go_ret
      exact ⟨by rw [H.out, HTT.out]; rfl, hbel⟩
    · have H := Lib.hid (show regB d s = false by unfold regB; simp [h2])
      go_enter Try.func27, Try.ntmps27
      go_wp2
      go_ret
      exact ⟨by rw [H.out]; rfl, hbel⟩
  · have H := Lib.hid (show regB d s = false by unfold regB; simp [h1])
    go_enter Try.func27, Try.ntmps27
    go_wp2
    go_ret
    exact ⟨by rw [H.out]; rfl, hbel⟩
end Go.Proofs.Ytmcndecmnfbggaa
