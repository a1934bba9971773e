/- GearBuilds: the walk. -/
import Derived.Test.YtoiapnokgpeipaaR6
import Derived.Test.YtoiapnokgpeipaaE4
namespace Go.Proofs.Ytoiapnokgpeipaa
set_option linter.unusedSimpArgs false
open Go.RowKit Go.Maps

set_option maxRecDepth 100000 in
set_option maxHeartbeats 6400000 in
theorem builds_any (S P : List (Int × Int)) (sv pv : Value) (t r p o i n : Int) (same : Bool) (w : World) (hS : WheelsAt w sv S) (hP : WheelsAt w pv P) (hss : ∀ b off n c, sv = .slice (some ⟨b, off, none⟩) n c → b < w.heap.size) :
    Calls Try.prog 3 #[sv, .agg #[.int .i64 t, .int .i64 r, .bool same, .int .i64 p, .int .i64 o], .agg #[pv, .int .i64 i], .int .i64 n] w
      fun e w' => e = .returned (.bool true) ∧ Below w.heap.size w w' := by
  obtain ⟨pa, pc, rfl⟩ := hP.shape
  obtain ⟨sa, sc, rfl⟩ := hS.shape
  have hpl : P.length ≤ 9223372036854775807 := hP.1
  have hsl : S.length ≤ 9223372036854775807 := hS.1
  obtain ⟨W0, hW0⟩ : ∃ W0, W0 = (w.alloc (.cells #[.int .i64 t, .int .i64 r, .bool same, .int .i64 p, .int .i64 o] 24)).alloc (.cells #[.slice pa P.length pc, .int .i64 i] 27) := ⟨_, rfl⟩
  have hg0 : Below w.heap.size w W0 := by rw [hW0]; exact ((Below.refl _ _).alloc (Nat.le_refl _) _).alloc (by simp) _
  have hG0 : W0.heap[w.heap.size]? = some (.cells #[.int .i64 t, .int .i64 r, .bool same, .int .i64 p, .int .i64 o] 24) := by rw [hW0, Below.heap_alloc _ _ _ (by simp)]; exact (MapKept.heap_alloc w _).1
  have hR0 : W0.heap[w.heap.size + 1]? = some (.cells #[.slice pa P.length pc, .int .i64 i] 27) := by
    have := (MapKept.heap_alloc (w.alloc (.cells #[.int .i64 t, .int .i64 r, .bool same, .int .i64 p, .int .i64 o] 24)) (.cells #[.slice pa P.length pc, .int .i64 i] 27)).1
    rw [hW0]; simpa using this
  have hz0 : W0.heap.size = w.heap.size + 2 := by rw [hW0]; simp
  obtain ⟨f0, f1⟩ := tcells hR0
  have hgr := great_any sa S.length sc 8 W0 hsl
  obtain ⟨gr, hgre⟩ : ∃ gr, greatB S.length 8 = gr := ⟨_, rfl⟩
  rw [hgre] at hgr
  clear hgre
  have ha := fun X => alive_any X
  have HA := Lib.hid ha
  clear ha
  go_enter Try.func3, Try.ntmps3
  go_wp2_with fail
  rw [← hW0]
  clear hW0
  refine hgr.mono ?_
  rintro e w1 ⟨rfl, rfl⟩
  clear hgr
  cases gr with
  | true =>
    clear hG0 hR0 f0 f1
    go_wp2_with fail
    refine (HA.out _).mono ?_
    rintro e w1 ⟨rfl, hb1⟩
    go_wp2
    go_ret
    exact ⟨rfl, hg0.trans (hb1.mono (by omega))⟩
  | false =>
  by_cases h20 : 20 < P.length
  · have d : decide (20 < P.length) = true := decide_eq_true h20
    clear hG0 hR0
    go_wp2_with fail
    refine (HA.out _).mono ?_
    rintro e w1 ⟨rfl, hb1⟩
    go_wp2
    go_ret
    exact ⟨rfl, hg0.trans (hb1.mono (by omega))⟩
  have hPl : P.length ≤ 20 := by omega
  obtain ⟨e0, e1, e2, e3, e4⟩ := gcells hG0
  have h13 := build_any S (.slice sa S.length sc) t r p o same P (.slice pa P.length pc) i W0 (hS.below hg0) (hP.below hg0) (fun b off n c e => Nat.lt_of_lt_of_le (hss b off n c e) hg0.size)
  have hbe := build_eq S t r p o same P i
  obtain ⟨⟨a, b⟩, hab⟩ : ∃ c, buildC S t r p o same P i = c := ⟨_, rfl⟩
  obtain ⟨⟨m, l⟩, hml⟩ : ∃ c, roundsC P n = c := ⟨_, rfl⟩
  rw [hab] at h13
  rw [hab] at hbe
  have HBE := Lib.hid hbe
  have HML := Lib.hid hml
  have H13 := Lib.hid h13
  clear hab hbe hml h13
  go_wp2_with fail
  refine H13.out.mono ?_
  rintro e w1 ⟨rfl, hb1⟩
  clear H13 e0 e1 e2 e3 e4 f0 f1
  have hG1 := (hb1.block w.heap.size (by omega)).trans hG0
  have hR1 := (hb1.block (w.heap.size + 1) (by omega)).trans hR0
  have hbw1 : Below w.heap.size w w1 := hg0.trans (hb1.mono (by omega))
  have hz1 : w.heap.size + 2 ≤ w1.heap.size := by have := hb1.size; omega
  clear hG0 hR0 hb1 hg0 hz0
  have h14 := refBuild_any S P (.slice sa S.length sc) (.slice pa P.length pc) t r p o i same w1 (hS.below hbw1) (hP.below hbw1) (by omega)
  rw [← HBE.out] at h14
  have H14 := Lib.hid h14
  clear h14
  obtain ⟨e0, e1, e2, e3, e4⟩ := gcells hG1
  obtain ⟨f0, f1⟩ := tcells hR1
  go_wp2_with fail
  refine H14.out.mono ?_
  rintro e w2 ⟨rfl, hb2⟩
  clear H14 e0 e1 e2 e3 e4 f0 f1
  have hR2 := (hb2.block (w.heap.size + 1) (by omega)).trans hR1
  have hbw2 : Below w.heap.size w w2 := hbw1.trans (hb2.mono (by omega))
  have hz2 : w.heap.size + 2 ≤ w2.heap.size := by have := hb2.size; omega
  clear hG1 hR1 hb2 hbw1 hz1
  have h15 := rounds_any P (.slice pa P.length pc) i n w2 (hP.below hbw2)
  rw [HML.out] at h15
  have H15 := Lib.hid h15
  clear h15
  obtain ⟨f0, f1⟩ := tcells hR2
  go_wp2_with fail
  refine H15.out.mono ?_
  rintro e w3 ⟨rfl, hb3⟩
  clear H15 f0 f1
  have hR3 := (hb3.block (w.heap.size + 1) (by omega)).trans hR2
  have hbw3 : Below w.heap.size w w3 := hbw2.trans (hb3.mono (by omega))
  have hz3 : w.heap.size + 2 ≤ w3.heap.size := by have := hb3.size; omega
  clear hR2 hb3 hbw2 hz2
  have h16 := refRounds_any P (.slice pa P.length pc) i n w3 (hP.below hbw3)
  rw [HML.out] at h16
  have H16 := Lib.hid h16
  clear h16
  obtain ⟨f0, f1⟩ := tcells hR3
  go_wp2_with fail
  refine H16.out.mono ?_
  rintro e w4 ⟨rfl, hb4⟩
  clear H16 f0 f1 hR3
  have hbw4 : Below w.heap.size w w4 := hbw3.trans (hb4.mono (by omega))
  go_wp2_with fail
  refine (HA.out _).mono ?_
  rintro e w5 ⟨rfl, hb5⟩
  go_wp2
  go_ret
  exact ⟨rfl, hbw4.trans (hb5.mono hbw4.size)⟩
end Go.Proofs.Ytoiapnokgpeipaa
