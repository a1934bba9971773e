/- Term: contracts of isRow, isProof and of a row that has been looked at. -/
import Derived.Test.YtcmfplfnpjknlaaA1
namespace Go.Proofs.Ytcmfplfnpjknlaa
set_option linter.unusedSimpArgs false
set_option linter.unusedVariables false
open Go.RowKit

theorem below_drewn {B : Nat} {a w : World} (h : Below B a w) (n : Nat) : Below B a (w.drewN n) := ⟨h.os, h.tape, h.output, h.size, h.block⟩
set_option maxHeartbeats 3200000 in
theorem isRow_any (n : Int) (c : Row) (w : World) (h0 : 0 ≤ n) (h1 : n ≤ 1000) : Calls Try.prog 49 #[rowV c, .int .i64 n] w fun e w' => e = .returned (.bool (rowOk n c)) ∧ Below w.heap.size w w' := by
  have hb := (Below.refl w.heap.size w).alloc (Nat.le_refl _) (.cells #[.int .i64 c.lo, .int .i64 c.hi, .int .i64 c.cls, .int .i64 c.day] 42)
  unfold rowV rowOk
  have f1 := fun X => isSeal_any c.lo X
  have f2 := fun X => isSeal_any c.hi X
  have f4 := fun X => isFrom_any c.cls 0 (n - 1) X
  have f5 := fun X => isDay_any c.day X
  generalize inF c.lo 1 1000000 = b1 at *
  generalize inF c.hi 1 1000000 = b2 at *
  generalize inF c.cls 0 (n - 1) = b4 at *
  generalize inF c.day 0 131072 = b5 at *
  have F1 := Lib.hid f1
  have F2 := Lib.hid f2
  have F4 := Lib.hid f4
  have F5 := Lib.hid f5
  clear f1 f2 f4 f5
  by_cases h3 : c.lo ≤ c.hi
  · have e3 : decide (c.lo ≤ c.hi) = true := decide_eq_true h3
    rw [e3]
    clear e3
    cases b1 <;> cases b2 <;> cases b4 <;> cases b5
    all_goals
      go_enter Try.func49, Try.ntmps49
      go_wp2_with (first | (go_at_call 51; first | ((with_reducible refine (F1.out _).mono ?_); rintro e w' ⟨rfl, rfl⟩) | ((with_reducible refine (F2.out _).mono ?_); rintro e w' ⟨rfl, rfl⟩)) | (go_at_call 39; (with_reducible refine (F4.out _).mono ?_); rintro e w' ⟨rfl, rfl⟩) | (go_at_call 25; (with_reducible refine (F5.out _).mono ?_); rintro e w' ⟨rfl, rfl⟩))
      go_ret
      exact ⟨rfl, hb⟩
  · have e3 : decide (c.lo ≤ c.hi) = false := decide_eq_false h3
    rw [e3]
    clear e3
    cases b1 <;> cases b2
    all_goals
      go_enter Try.func49, Try.ntmps49
      go_wp2_with (first | (go_at_call 51; first | ((with_reducible refine (F1.out _).mono ?_); rintro e w' ⟨rfl, rfl⟩) | ((with_reducible refine (F2.out _).mono ?_); rintro e w' ⟨rfl, rfl⟩)) | (go_at_call 39; (with_reducible refine (F4.out _).mono ?_); rintro e w' ⟨rfl, rfl⟩) | (go_at_call 25; (with_reducible refine (F5.out _).mono ?_); rintro e w' ⟨rfl, rfl⟩))
      go_ret
      exact ⟨rfl, hb⟩
/-- a row that has been looked at, in a block of its own -/
def SeenAt (w : World) (b : Nat) (r : Row) (t : Int × Int) : Prop := w.heap[b]? = some (.cells #[.int .i64 r.lo, .int .i64 r.hi, .int .i64 r.cls, .int .i64 r.day, .int .i64 t.1, .int .i64 t.2] 78 (0, 0))
theorem SeenAt.below {w w' : World} {b B : Nat} {r : Row} {t : Int × Int} (h : SeenAt w b r t) (hb : Below w.heap.size w w') : SeenAt w' b r t := box_step (w0 := w) h hb
theorem rstands_any (b : Nat) (r : Row) (t : Int × Int) (day : Int) (w : World) (h : SeenAt w b r t) : Calls Try.prog 41 #[.pointer (some ⟨b, 0, none⟩), .int .i64 day] w fun e w' => e = .returned (.int .i64 (standsF r t.1 day)) ∧ w = w' := by
  obtain ⟨c0, c1, c2, c3, c4, c5⟩ := six_cells h
  clear c0 c1 c2 c5 h
  by_cases h1 : day < r.day
  · have H := Lib.hid (show standsF r t.1 day = 0 by simp [standsF, h1])
    go_enter Try.func41, Try.ntmps41
    go_wp2
    go_ret
    exact ⟨by rw [H.out]; rfl, rfl⟩
  · by_cases h2 : day < t.1
    · have H := Lib.hid (show standsF r t.1 day = 1 by simp [standsF, h1, h2])
      go_enter Try.func41, Try.ntmps41
      go_wp2
      go_ret
      exact ⟨by rw [H.out]; rfl, rfl⟩
    · have H := Lib.hid (show standsF r t.1 day = 2 by simp [standsF, h1, h2])
      go_enter Try.func41, Try.ntmps41
      go_wp2
      go_ret
      exact ⟨by rw [H.out]; rfl, rfl⟩
theorem size_any (b : Nat) (r : Row) (t : Int × Int) (w : World) (h : SeenAt w b r t) (g0 : 0 ≤ r.lo) (g1 : r.hi ≤ 1000000) (g2 : 0 ≤ r.hi) (g3 : r.lo ≤ 1000000) : Calls Try.prog 42 #[.pointer (some ⟨b, 0, none⟩)] w fun e w' => e = .returned (.int .i64 (sizeF r)) ∧ ∃ q, w' = w.drewN q := by
  obtain ⟨c0, c1, c2, c3, c4, c5⟩ := six_cells h
  clear c2 c3 c4 c5 h
  unfold sizeF
  have e1 : IntKind.i64.wrap (r.hi - r.lo) = r.hi - r.lo := IntWalk.i64_in _ (by omega)
  have e2 : IntKind.i64.wrap (r.hi - r.lo + 1) = r.hi - r.lo + 1 := IntWalk.i64_in _ (by omega)
  go_enter Try.func42, Try.ntmps42
  go_wp2
  go_quiet (fail)
  go_wp2
  go_ret
  exact ⟨rfl, _, rfl⟩
theorem has_any (b : Nat) (r : Row) (t : Int × Int) (n : Int) (w : World) (h : SeenAt w b r t) : Calls Try.prog 47 #[.pointer (some ⟨b, 0, none⟩), .int .i64 n] w fun e w' => e = .returned (.bool (hasF r n)) ∧ ∃ q, w' = w.drewN q := by
  obtain ⟨c0, c1, c2, c3, c4, c5⟩ := six_cells h
  clear c2 c3 c4 c5 h
  unfold hasF
  go_enter Try.func47, Try.ntmps47
  go_wp2
  go_quiet ((go_at_call 39; exact Calls.quiet_of_same ((isFrom_any _ _ _ _).mono fun _ _ ⟨a, b⟩ => ⟨a, b.symm⟩)))
  go_wp2
  go_ret
  exact ⟨rfl, _, rfl⟩
theorem meets_any (b : Nat) (r s : Row) (t : Int × Int) (w : World) (h : SeenAt w b r t) : Calls Try.prog 52 #[.pointer (some ⟨b, 0, none⟩), rowV s] w fun e w' => e = .returned (.bool (meetsF r s)) ∧ Below w.heap.size w w' := by
  obtain ⟨W0, hW0⟩ : ∃ X, X = w.alloc (.cells #[.int .i64 s.lo, .int .i64 s.hi, .int .i64 s.cls, .int .i64 s.day] 42) := ⟨_, rfl⟩
  have hb0 : Below w.heap.size w W0 := by rw [hW0]; exact (Below.refl _ _).alloc (Nat.le_refl _) _
  have hr0 : W0.heap[w.heap.size]? = some (.cells #[.int .i64 s.lo, .int .i64 s.hi, .int .i64 s.cls, .int .i64 s.day] 42 (0, 0)) := by rw [hW0]; exact alloc_heap w _
  obtain ⟨c0, c1, c2, c3, c4, c5⟩ := six_cells (h.below (B := 0) hb0)
  obtain ⟨P, hP⟩ : ∃ P, w.heap.size = P := ⟨_, rfl⟩
  rw [hP] at hr0
  obtain ⟨d0, d1, d2, d3⟩ := four_cells hr0
  have HB := Lib.hid hb0
  clear c2 c3 c4 c5 d2 d3 hr0 h hb0
  unfold rowV
  by_cases h1 : r.lo ≤ s.hi
  · have H := Lib.hid (show meetsF r s = decide (s.lo ≤ r.hi) by simp [meetsF, h1])
    have h1' : decide (r.lo ≤ s.hi) = true := decide_eq_true h1
    clear h1
    go_enter Try.func52, Try.ntmps52
    go_upto_region 1 with fail
    rw [← hW0]
    clear hW0 hP
    go_quiet (fail)
    go_wp2
    go_ret
    exact ⟨by rw [H.out]; rfl, below_drewn HB.out _⟩
  · have H := Lib.hid (show meetsF r s = false by simp [meetsF, h1])
    have h1' : decide (r.lo ≤ s.hi) = false := decide_eq_false h1
    go_enter Try.func52, Try.ntmps52
    go_upto_region 1 with fail
    rw [← hW0]
    clear hW0 hP
    go_quiet (fail)
    go_wp2
    go_ret
    exact ⟨by rw [H.out]; rfl, below_drewn HB.out _⟩
end Go.Proofs.Ytcmfplfnpjknlaa
