/- Size: the law's examples. -/
import Derived.Test.YtlcmedfjghcigaaA19
namespace Go.Proofs.Ytlcmedfjghcigaa
set_option linter.unusedSimpArgs false
set_option linter.unusedVariables false
open Go.RowKit Go.Maps

theorem sample_hs {X : World} {g k m : Nat} (hs : SampleAt X g k m) (hd dr : Int) : HsAt X (sampleH hd dr) (some ⟨g, 0, none⟩) 3 (some ⟨k, 0, none⟩) 1 := ⟨hs.tp, hs.rl⟩
/-- a call that leaves what lay below -/
def Back (X : World) (v : Value) (e : Ending) (w' : World) : Prop := e = .returned v ∧ Below X.heap.size X w'
theorem peak_s {X : World} {g k m : Nat} (hs : SampleAt X g k m) : Calls Try.prog 14 #[.agg #[.int .i64 400, .int .i64 12, .slice (some ⟨g, 0, none⟩) 3 3, .slice (some ⟨k, 0, none⟩) 1 1]] X fun e w' => e = .returned (.tuple #[.agg #[.int .i64 800, .int .i64 1100], .int .i64 6, .int .i64 0]) ∧ Below X.heap.size X w' := by
  have := Peak_any (sampleH 400 12) _ _ _ _ X (sample_hs hs 400 12)
  rw [show peakF (sampleH 400 12) = (800, 1100, 6, 0) from by kernel_rfl] at this
  exact this
theorem starved_s0 {X : World} {g k m : Nat} (hs : SampleAt X g k m) : Calls Try.prog 16 #[.agg #[.int .i64 400, .int .i64 12, .slice (some ⟨g, 0, none⟩) 3 3, .slice (some ⟨k, 0, none⟩) 1 1], .agg #[.int .i64 5, .int .i64 1000, .int .i64 200, .int .i64 10]] X fun e w' => e = .returned (.tuple #[.int .i64 6, .bool false, .int .i64 0]) ∧ Below X.heap.size X w' := by
  have := Starved_any (sampleH 400 12) _ _ _ _ ⟨5, 1000, 200, 10⟩ X (sample_hs hs 400 12)
  rw [show starvedF (sampleH 400 12) ⟨5, 1000, 200, 10⟩ = (6, false, 0) from by kernel_rfl] at this
  exact this
theorem starved_s1 {X : World} {g k m : Nat} (hs : SampleAt X g k m) : Calls Try.prog 16 #[.agg #[.int .i64 400, .int .i64 12, .slice (some ⟨g, 0, none⟩) 3 3, .slice (some ⟨k, 0, none⟩) 1 1], .agg #[.int .i64 10, .int .i64 1500, .int .i64 250, .int .i64 15]] X fun e w' => e = .returned (.tuple #[.int .i64 0, .bool false, .int .i64 4]) ∧ Below X.heap.size X w' := by
  have := Starved_any (sampleH 400 12) _ _ _ _ ⟨10, 1500, 250, 15⟩ X (sample_hs hs 400 12)
  rw [show starvedF (sampleH 400 12) ⟨10, 1500, 250, 15⟩ = (0, false, 4) from by kernel_rfl] at this
  exact this
theorem starved_s2 {X : World} {g k m : Nat} (hs : SampleAt X g k m) : Calls Try.prog 16 #[.agg #[.int .i64 250, .int .i64 8, .slice (some ⟨g, 0, none⟩) 3 3, .slice (some ⟨k, 0, none⟩) 1 1], .agg #[.int .i64 10, .int .i64 1500, .int .i64 250, .int .i64 15]] X fun e w' => e = .returned (.tuple #[.int .i64 6, .bool true, .int .i64 0]) ∧ Below X.heap.size X w' := by
  have := Starved_any (sampleH 250 8) _ _ _ _ ⟨10, 1500, 250, 15⟩ X (sample_hs hs 250 8)
  rw [show starvedF (sampleH 250 8) ⟨10, 1500, 250, 15⟩ = (6, true, 0) from by kernel_rfl] at this
  exact this
theorem choose_s {X : World} {g k m : Nat} (hs : SampleAt X g k m) : Calls Try.prog 18 #[.agg #[.int .i64 400, .int .i64 12, .slice (some ⟨g, 0, none⟩) 3 3, .slice (some ⟨k, 0, none⟩) 1 1], .slice (some ⟨m, 0, none⟩) 3 3] X fun e w' => e = .returned (.tuple #[.int .i64 1, .int .i64 0]) ∧ Below X.heap.size X w' := by
  have := Choose_any (sampleH 400 12) _ _ _ _ sampleL _ X (sample_hs hs 400 12) hs.sz
  rw [show chooseF (sampleH 400 12) sampleL = (1, 0) from by kernel_rfl] at this
  exact this
theorem choose_s8 {X : World} {g k m : Nat} (hs : SampleAt X g k m) : Calls Try.prog 18 #[.agg #[.int .i64 400, .int .i64 8, .slice (some ⟨g, 0, none⟩) 3 3, .slice (some ⟨k, 0, none⟩) 1 1], .slice (some ⟨m, 0, none⟩) 3 3] X fun e w' => e = .returned (.tuple #[.int .i64 0, .int .i64 11]) ∧ Below X.heap.size X w' := by
  have := Choose_any (sampleH 400 8) _ _ _ _ sampleL _ X (sample_hs hs 400 8) hs.sz
  rw [show chooseF (sampleH 400 8) sampleL = (0, 11) from by kernel_rfl] at this
  exact this
theorem least_s {X : World} {g k m : Nat} (hs : SampleAt X g k m) : Calls Try.prog 22 #[.agg #[.int .i64 400, .int .i64 12, .slice (some ⟨g, 0, none⟩) 3 3, .slice (some ⟨k, 0, none⟩) 1 1], .int .i64 200] X fun e w' => e = .returned (.tuple #[.int .i64 1100, .int .i64 0]) ∧ Below X.heap.size X w' := by
  have := Least_any (sampleH 400 12) _ _ _ _ 200 X (sample_hs hs 400 12)
  rw [show leastF (sampleH 400 12) 200 = (1100, 0) from by kernel_rfl] at this
  exact this
theorem least_s200 {X : World} {g k m : Nat} (hs : SampleAt X g k m) : Calls Try.prog 22 #[.agg #[.int .i64 200, .int .i64 8, .slice (some ⟨g, 0, none⟩) 3 3, .slice (some ⟨k, 0, none⟩) 1 1], .int .i64 200] X fun e w' => e = .returned (.tuple #[.int .i64 2200, .int .i64 0]) ∧ Below X.heap.size X w' := by
  have := Least_any (sampleH 200 8) _ _ _ _ 200 X (sample_hs hs 200 8)
  rw [show leastF (sampleH 200 8) 200 = (2200, 0) from by kernel_rfl] at this
  exact this
theorem least_s150 {X : World} {g k m : Nat} (hs : SampleAt X g k m) : Calls Try.prog 22 #[.agg #[.int .i64 150, .int .i64 8, .slice (some ⟨g, 0, none⟩) 3 3, .slice (some ⟨k, 0, none⟩) 1 1], .int .i64 200] X fun e w' => e = .returned (.tuple #[.int .i64 0, .int .i64 4]) ∧ Below X.heap.size X w' := by
  have := Least_any (sampleH 150 8) _ _ _ _ 200 X (sample_hs hs 150 8)
  rw [show leastF (sampleH 150 8) 200 = (0, 4) from by kernel_rfl] at this
  exact this
theorem pair_s {X : World} {g k m : Nat} (hs : SampleAt X g k m) : Calls Try.prog 20 #[.agg #[.int .i64 400, .int .i64 8, .slice (some ⟨g, 0, none⟩) 3 3, .slice (some ⟨k, 0, none⟩) 1 1], .slice (some ⟨m, 0, none⟩) 3 3] X fun e w' => e = .returned (.tuple #[.int .i64 0, .int .i64 1, .int .i64 25, .int .i64 0]) ∧ Below X.heap.size X w' := by
  have := Pair_any (sampleH 400 8) _ _ _ _ sampleL _ X (sample_hs hs 400 8) hs.sz
  rw [show pairR (sampleH 400 8) sampleL = (0, 1, 25, 0) from by kernel_rfl] at this
  exact this
theorem tab_head {X : World} {m : Nat} (h : TabAt 4 szC X (.slice (some ⟨m, 0, none⟩) 3 3) sampleL) : TabAt 4 szC X (.slice (some ⟨m, 0, none⟩) 1 3) [(⟨5, 1000, 200, 10⟩ : Sz)] := by
  obtain ⟨b, off, e, hb, hc⟩ := h.at (by decide)
  simp only [Option.some.injEq, Addr.mk.injEq, and_true] at e
  obtain ⟨rfl, rfl⟩ := e
  refine ⟨by simp [maxLen], .inr ⟨_, 0, 3, rfl, by simp, by simp [maxLen], hb, fun i hi j hj => ?_⟩⟩
  have hi0 : i = 0 := by simp at hi; exact hi
  subst hi0
  exact hc 0 (by decide) j hj
theorem choose_s1 {X : World} {g k m : Nat} (hs : SampleAt X g k m) : Calls Try.prog 18 #[.agg #[.int .i64 400, .int .i64 12, .slice (some ⟨g, 0, none⟩) 3 3, .slice (some ⟨k, 0, none⟩) 1 1], .slice (some ⟨m, 0, none⟩) 1 3] X fun e w' => e = .returned (.tuple #[.int .i64 0, .int .i64 10]) ∧ Below X.heap.size X w' := by
  have := Choose_any (sampleH 400 12) _ _ _ _ [⟨5, 1000, 200, 10⟩] _ X (sample_hs hs 400 12) (tab_head hs.sz)
  rw [show chooseF (sampleH 400 12) [⟨5, 1000, 200, 10⟩] = (0, 10) from by kernel_rfl] at this
  exact this
/-- the rows of the sizes, read -/
theorem sample_row {X : World} {g k m : Nat} (hs : SampleAt X g k m) : (X.cell? ⟨m, 0, none⟩ = some (.int .i64 5) ∧ X.cell? ⟨m, 1, none⟩ = some (.int .i64 1000) ∧ X.cell? ⟨m, 2, none⟩ = some (.int .i64 200) ∧ X.cell? ⟨m, 3, none⟩ = some (.int .i64 10)) ∧ (X.cell? ⟨m, 4, none⟩ = some (.int .i64 10) ∧ X.cell? ⟨m, 5, none⟩ = some (.int .i64 1500) ∧ X.cell? ⟨m, 6, none⟩ = some (.int .i64 250) ∧ X.cell? ⟨m, 7, none⟩ = some (.int .i64 15)) := by
  obtain ⟨b, off, e, hb, hc⟩ := hs.sz.at (by decide)
  simp only [Option.some.injEq, Addr.mk.injEq, and_true] at e
  obtain ⟨rfl, rfl⟩ := e
  exact ⟨⟨hc 0 (by decide) 0 (by decide), hc 0 (by decide) 1 (by decide), hc 0 (by decide) 2 (by decide), hc 0 (by decide) 3 (by decide)⟩, hc 1 (by decide) 0 (by decide), hc 1 (by decide) 1 (by decide), hc 1 (by decide) 2 (by decide), hc 1 (by decide) 3 (by decide)⟩
end Go.Proofs.Ytlcmedfjghcigaa
