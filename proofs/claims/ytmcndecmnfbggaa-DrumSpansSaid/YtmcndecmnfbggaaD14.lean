/- Contracts: near, shift, with. -/
import Derived.Test.YtmcndecmnfbggaaD8
import Derived.Outline
namespace Go.Proofs.Ytmcndecmnfbggaa
set_option linter.unusedSimpArgs false
open Go.RowKit

def nearV (r : Option (Int × Int)) : Value := match r with | none => .tuple #[.agg #[.int .i64 0, .int .i64 0], .bool false] | some (a, b) => .tuple #[.agg #[.int .i64 a, .int .i64 b], .bool true]
set_option maxRecDepth 100000 in
set_option maxHeartbeats 3200000 in
theorem near_any (lo hi f wi : Int) (Bw : Nat) (w : World) (hw : 0 ≤ wi ∧ wi ≤ 999) (hf : 0 ≤ f ∧ f ≤ 9) (hl : 0 ≤ lo ∧ lo ≤ 100000) (_hh : 0 ≤ hi ∧ hi ≤ 100000) (hB : w.cell? ⟨Bw, 0, none⟩ = some (.int .i64 wi)) :
    Calls Try.prog 56 #[.agg #[.int .i64 lo, .int .i64 hi], .int .i64 f, .pointer (some ⟨Bw, 0, none⟩)] w fun e w' => e = .returned (nearV (nearP wi lo hi f)) ∧ Below w.heap.size w w' := by
  obtain ⟨K, hK⟩ : ∃ K, nearP wi lo hi f = K := ⟨_, rfl⟩
  rw [hK]
  have HK := Lib.hid hK
  clear hK
  have hlt := World.block_lt_of_cell? _ _ hB
  have l1 : Bw < w.heap.size + 1 := by simp at hlt; omega
  have l2 : Bw < w.heap.size + 1 + 1 := by omega
  have l3 : Bw < w.heap.size + 1 + 1 + 1 := by omega
  have i0 : ∀ x y w, (Instr.index 83 (.agg #[.int .i64 x, .int .i64 y]) (.int .i64 0)).run Try.prog w = .ok (.int .i64 x) w := fun _ _ _ => by kernel_rfl
  have i1 : ∀ x y w, (Instr.index 83 (.agg #[.int .i64 x, .int .i64 y]) (.int .i64 1)).run Try.prog w = .ok (.int .i64 y) w := fun _ _ _ => by kernel_rfl
  obtain ⟨a1, m1⟩ : ∃ x, (if lo < f * 1000 - wi then f * 1000 - wi else lo) = x := ⟨_, rfl⟩
  obtain ⟨b1, m2⟩ : ∃ x, (if f * 1000 + wi < hi then f * 1000 + wi else hi) = x := ⟨_, rfl⟩
  obtain ⟨a2, m3⟩ : ∃ x, (if lo < f * 1000 + 10000 - wi then f * 1000 + 10000 - wi else lo) = x := ⟨_, rfl⟩
  obtain ⟨b2, m4⟩ : ∃ x, (if f * 1000 + 10000 + wi < hi then f * 1000 + 10000 + wi else hi) = x := ⟨_, rfl⟩
  have hn : nearP wi lo hi f = if a1 ≤ b1 then some (a1, b1) else if a2 ≤ b2 then some (a2, b2) else none := by
    unfold nearP partP
    simp only []
    rw [show max lo (f * 1000 - wi) = a1 by rw [← m1]; split <;> omega, show min hi (f * 1000 + wi) = b1 by rw [← m2]; split <;> omega, show max lo (f * 1000 + 10000 - wi) = a2 by rw [← m3]; split <;> omega, show min hi (f * 1000 + 10000 + wi) = b2 by rw [← m4]; split <;> omega]
  rw [HK.out] at hn
  have HN := Lib.hid hn
  clear hn HK
  by_cases g1 : a1 ≤ b1
  · have H := Lib.hid (show K = some (a1, b1) by rw [HN.out, if_pos g1])
    go_enter Try.func56, Try.ntmps56
    go_wp2
    refine wp_loop_rounds 3 ?_
    rw [rounds_succ]
    go_wp2
    refine bodyPost_ret (v := .tuple #[.agg #[.int .i64 a1, .int .i64 b1], .bool true]) (by simp [results, Try.results56, go_sem]) rfl ⟨by rw [H.out]; rfl, ?_⟩
    repeat (first | exact Below.refl _ _ | refine Below.alloc ?_ (by simp; try omega) _)
  · have g1' : b1 < a1 := by omega
    by_cases g2 : a2 ≤ b2
    · have H := Lib.hid (show K = some (a2, b2) by rw [HN.out, if_neg g1, if_pos g2])
      clear g1
      go_enter Try.func56, Try.ntmps56
      go_wp2
      refine wp_loop_rounds 3 ?_
      rw [rounds_succ]
      go_wp2
      rw [rounds_succ]
      go_wp2
      refine bodyPost_ret (v := .tuple #[.agg #[.int .i64 a2, .int .i64 b2], .bool true]) (by simp [results, Try.results56, go_sem]) rfl ⟨by rw [H.out]; rfl, ?_⟩
      repeat (first | exact Below.refl _ _ | refine Below.alloc ?_ (by simp; try omega) _)
    · have g2' : b2 < a2 := by omega
      have H := Lib.hid (show K = none by rw [HN.out, if_neg g1, if_neg g2])
      clear g1 g2
      go_enter Try.func56, Try.ntmps56
      go_wp2
      refine wp_loop_rounds 3 ?_
      rw [rounds_succ]
      go_wp2
      rw [rounds_succ]
      go_wp2
      rw [rounds_succ]
      go_wp2
      refine bodyPost_ret (v := .tuple #[.agg #[.int .i64 0, .int .i64 0], .bool false]) (by simp [results, Try.results56, go_sem]) rfl ⟨by rw [H.out]; rfl, ?_⟩
      repeat (first | exact Below.refl _ _ | refine Below.alloc ?_ (by simp; try omega) _)
theorem shift_any (lo hi b : Int) (w : World) (h1 : -1000000000000 ≤ lo ∧ lo ≤ 1000000000000) (h2 : -1000000000000 ≤ hi ∧ hi ≤ 1000000000000) (h3 : -1000000000000 ≤ b ∧ b ≤ 1000000000000) :
    Calls Try.prog 65 #[.agg #[.int .i64 lo, .int .i64 hi], .int .i64 b] w fun e w' => e = .returned (.agg #[.int .i64 (lo + b), .int .i64 (hi + b)]) ∧ Below w.heap.size w w' := by
  go_enter Try.func65, Try.ntmps65
  go_wp2
  refine bodyPost_ret (v := .agg #[.int .i64 (lo + b), .int .i64 (hi + b)]) (by simp [results, Try.results65, go_sem]) rfl ⟨rfl, ?_⟩
  repeat (first | exact Below.refl _ _ | refine Below.alloc ?_ (by simp; try omega) _)
end Go.Proofs.Ytmcndecmnfbggaa
