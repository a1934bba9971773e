/- Trials: falls, train; the first of several. -/
import Derived.Test.YtoiapnokgpeipaaA5
namespace Go.Proofs.Ytoiapnokgpeipaa
open Go.RowKit Go.Maps Go.Sort

def fallB (c a b x y : Int) : Bool := if c = 0 then false else decide (x < a ∨ x = a ∧ y < b)
theorem fallB_zero (a b x y : Int) : fallB 0 a b x y = false := rfl
theorem fallB_pos {c : Int} (hc : c ≠ 0) (a b x y : Int) : fallB c a b x y = decide (x < a ∨ x = a ∧ y < b) := by unfold fallB; rw [if_neg hc]

set_option maxRecDepth 100000 in
set_option maxHeartbeats 1600000 in
theorem falls_0 (a0 a1 a2 a3 a4 a5 i d n x y : Int) (w : World) :
    Calls Try.prog 66 #[.agg #[.int .i64 a0, .int .i64 a1, .int .i64 a2, .int .i64 a3, .int .i64 a4, .int .i64 a5, .int .i64 0, .int .i64 i, .int .i64 d, .int .i64 n], .agg #[.int .i64 x, .int .i64 y]] w fun e w' =>
      e = .returned (.bool false) ∧ Below w.heap.size w w' := by
  go_enter Try.func66, Try.ntmps66
  go_wp2
  go_ret
  exact ⟨rfl, by repeat (first | exact Below.refl _ _ | refine Below.setCell ?_ (by simp) _ | refine Below.alloc ?_ (by simp; try omega) _)⟩

set_option maxRecDepth 100000 in
set_option maxHeartbeats 1600000 in
theorem falls_1 (a0 a1 a2 a3 a4 a5 i d n x y : Int) (w : World) :
    Calls Try.prog 66 #[.agg #[.int .i64 a0, .int .i64 a1, .int .i64 a2, .int .i64 a3, .int .i64 a4, .int .i64 a5, .int .i64 1, .int .i64 i, .int .i64 d, .int .i64 n], .agg #[.int .i64 x, .int .i64 y]] w fun e w' =>
      e = .returned (.bool (fallB 1 a0 a1 x y)) ∧ Below w.heap.size w w' := by
  by_cases h : x < a0
  · have H := Lib.hid (show fallB 1 a0 a1 x y = true by rw [fallB_pos (by decide)]; simp [h])
    go_enter Try.func66, Try.ntmps66
    go_wp2
    go_ret
    exact ⟨by rw [H.out]; rfl, by repeat (first | exact Below.refl _ _ | refine Below.setCell ?_ (by simp) _ | refine Below.alloc ?_ (by simp; try omega) _)⟩
  · by_cases h2 : x = a0
    · have e2 : (x == a0) = true := by simp [h2]
      have H := Lib.hid (show fallB 1 a0 a1 x y = decide (y < a1) by rw [fallB_pos (by decide)]; simp [h2])
      clear h2
      go_enter Try.func66, Try.ntmps66
      go_wp2
      go_ret
      exact ⟨by rw [H.out]; rfl, by repeat (first | exact Below.refl _ _ | refine Below.setCell ?_ (by simp) _ | refine Below.alloc ?_ (by simp; try omega) _)⟩
    · have e2 : (x == a0) = false := by simp [h2]
      have H := Lib.hid (show fallB 1 a0 a1 x y = false by rw [fallB_pos (by decide)]; simp [h2]; omega)
      clear h2
      go_enter Try.func66, Try.ntmps66
      go_wp2
      go_ret
      exact ⟨by rw [H.out]; rfl, by repeat (first | exact Below.refl _ _ | refine Below.setCell ?_ (by simp) _ | refine Below.alloc ?_ (by simp; try omega) _)⟩

set_option maxRecDepth 100000 in
set_option maxHeartbeats 1600000 in
theorem falls_2 (a0 a1 a2 a3 a4 a5 i d n x y : Int) (w : World) :
    Calls Try.prog 66 #[.agg #[.int .i64 a0, .int .i64 a1, .int .i64 a2, .int .i64 a3, .int .i64 a4, .int .i64 a5, .int .i64 2, .int .i64 i, .int .i64 d, .int .i64 n], .agg #[.int .i64 x, .int .i64 y]] w fun e w' =>
      e = .returned (.bool (fallB 2 a2 a3 x y)) ∧ Below w.heap.size w w' := by
  by_cases h : x < a2
  · have H := Lib.hid (show fallB 2 a2 a3 x y = true by rw [fallB_pos (by decide)]; simp [h])
    go_enter Try.func66, Try.ntmps66
    go_wp2
    go_ret
    exact ⟨by rw [H.out]; rfl, by repeat (first | exact Below.refl _ _ | refine Below.setCell ?_ (by simp) _ | refine Below.alloc ?_ (by simp; try omega) _)⟩
  · by_cases h2 : x = a2
    · have e2 : (x == a2) = true := by simp [h2]
      have H := Lib.hid (show fallB 2 a2 a3 x y = decide (y < a3) by rw [fallB_pos (by decide)]; simp [h2])
      clear h2
      go_enter Try.func66, Try.ntmps66
      go_wp2
      go_ret
      exact ⟨by rw [H.out]; rfl, by repeat (first | exact Below.refl _ _ | refine Below.setCell ?_ (by simp) _ | refine Below.alloc ?_ (by simp; try omega) _)⟩
    · have e2 : (x == a2) = false := by simp [h2]
      have H := Lib.hid (show fallB 2 a2 a3 x y = false by rw [fallB_pos (by decide)]; simp [h2]; omega)
      clear h2
      go_enter Try.func66, Try.ntmps66
      go_wp2
      go_ret
      exact ⟨by rw [H.out]; rfl, by repeat (first | exact Below.refl _ _ | refine Below.setCell ?_ (by simp) _ | refine Below.alloc ?_ (by simp; try omega) _)⟩

end Go.Proofs.Ytoiapnokgpeipaa
