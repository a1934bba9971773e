/- DrumRuns returns true for all inputs: the walk. -/
import Derived.Test.YtmcndecmnfbggaaD30
import Derived.Test.YtmcndecmnfbggaaD13
import Derived.Test.YtmcndecmnfbggaaD9
namespace Go.Proofs.Ytmcndecmnfbggaa
set_option linter.unusedSimpArgs false
set_option linter.unusedVariables false
open Go.RowKit

theorem placesRes_len (d s t : Int) : (placesRes d s t).length ≤ 1000 := by
  unfold placesRes
  split
  · rename_i h
    rw [placesL_len]
    unfold placesErr at h
    split at h
    · omega
    · rename_i hr
      have := (regB_bd (by simpa using hr)).1
      omega
  · simp
theorem runFigs_len (d s : Int) (l : List Int) : (runFigs d s l).length ≤ 1000 := by
  unfold runFigs
  split
  · rename_i h
    rw [figsL_len]
    have := (regB_bd (runsErr_zero h).1).1
    omega
  · simp
theorem box_step {w0 w1 w2 : World} {B : Nat} {o : Obj} (h : w1.heap[B]? = some o) (hb : Below w1.heap.size w1 w2) : w2.heap[B]? = some o := (hb.block B (Array.getElem?_eq_some_iff.1 h).1).trans h
set_option maxRecDepth 100000 in
set_option maxHeartbeats 6400000 in
theorem drumRuns_any (d s t c : Int) (l : List Int) (v : Value) (w : World) (hl : IntsAt w v l) : Calls Try.prog 3 #[.agg #[.int .i64 d, .int .i64 s], .int .i64 t, v, .int .i64 c] w fun e w' => e = .returned (.bool true) ∧ Below w.heap.size w w' := by
  obtain ⟨va, vc, rfl⟩ := hl.shape
  have hlm : l.length ≤ 9223372036854775807 := hl.1
  obtain ⟨W0, hW0⟩ : ∃ X, X = w.alloc (.cells #[.int .i64 d, .int .i64 s] 23) := ⟨_, rfl⟩
  have hb0 : Below w.heap.size w W0 := by rw [hW0]; exact (Below.refl _ _).alloc (Nat.le_refl _) _
  have hr0 : W0.heap[w.heap.size]? = some (.cells #[.int .i64 d, .int .i64 s] 23 (0, 0)) := by rw [hW0]; exact (MapKept.heap_alloc w _).1
  obtain ⟨c0, c1⟩ := regcells hr0
  have g0 := Lib.hid hr0
  have hl0 := hl.below hb0
  clear hr0 hl
  by_cases h40 : 40 < l.length
  · have h40' : (40 : Int) < (l.length : Int) := by omega
    go_enter Try.func3, Try.ntmps3
    go_wp2_with fail
    rw [← hW0]
    clear hW0
    go_wp2_with fail
    refine (awake_any _).mono ?_
    rintro e w1 ⟨rfl, hb1⟩
    have hbw := hb0.trans (hb1.mono hb0.size)
    go_wp2
    go_ret
    exact ⟨rfl, hbw⟩
  · have h40' : ¬ (40 : Int) < (l.length : Int) := by omega
    go_enter Try.func3, Try.ntmps3
    go_wp2_with fail
    rw [← hW0]
    clear hW0
    go_wp2_with fail
    refine (places_any d s t _).mono ?_
    rintro e w1 ⟨v1, rfl, o1, hb1⟩
    have i1 := ints_own o1 (placesRes_len d s t)
    have g1 := box_step (w0 := w) g0.out hb1
    have hbw1 := hb0.trans (hb1.mono hb0.size)
    have hl1 := hl0.below hb1
    clear c0 c1 o1 hb1 hl0 hb0
    obtain ⟨c0, c1⟩ := regcells g1
    go_wp2_with fail
    refine (refPlacesF_any d s t _).mono ?_
    rintro e w2 ⟨v2, rfl, o2, hb2⟩
    have i2 := ints_own o2 (placesRes_len d s t)
    have i1' := i1.below hb2
    have g2 := box_step (w0 := w) g1 hb2
    have hbw2 := hbw1.trans (hb2.mono hbw1.size)
    have hl2 := hl1.below hb2
    clear c0 c1 o2 hb2 hl1 hbw1 i1 g1
    obtain ⟨c0, c1⟩ := regcells g2
    go_wp2_with fail
    refine (run_any d s l _ _ hl2).mono ?_
    rintro e w3 ⟨v3, rfl, o3, hb3⟩
    have i3 := ints_own o3 (runFigs_len d s l)
    have i1 := i1'.below hb3
    have i2' := i2.below hb3
    have g3 := box_step (w0 := w) g2 hb3
    have hbw3 := hbw2.trans (hb3.mono hbw2.size)
    have hl3 := hl2.below hb3
    clear c0 c1 o3 hb3 hl2 hbw2 i1' i2 g2
    obtain ⟨c0, c1⟩ := regcells g3
    go_wp2_with fail
    refine (refRun_any d s l _ _ hl3).mono ?_
    rintro e w4 ⟨v4, rfl, o4, hb4⟩
    have i4 := ints_own o4 (runFigs_len d s l)
    have i1' := i1.below hb4
    have i2 := i2'.below hb4
    have i3' := i3.below hb4
    have g4 := box_step (w0 := w) g3 hb4
    have hbw4 := hbw3.trans (hb4.mono hbw3.size)
    have hl4 := hl3.below hb4
    clear c0 c1 o4 hb4 hl3 hbw3 i1 i2' i3 g3
    obtain ⟨c0, c1⟩ := regcells g4
    go_wp2_with fail
    refine (pulses_any d s c l _ _ hl4).mono ?_
    rintro e w5 ⟨rfl, hb5⟩
    have i1 := i1'.below hb5
    have i2' := i2.below hb5
    have i3 := i3'.below hb5
    have i4' := i4.below hb5
    have g5 := box_step (w0 := w) g4 hb5
    have hbw5 := hbw4.trans (hb5.mono hbw4.size)
    have hl5 := hl4.below hb5
    clear c0 c1 hb5 hl4 hbw4 i1' i2 i3' i4 g4
    obtain ⟨c0, c1⟩ := regcells g5
    go_wp2_with fail
    refine (refPulses_any d s c l _ _ hl5).mono ?_
    rintro e w6 ⟨rfl, hb6⟩
    have i1' := i1.below hb6
    have i2 := i2'.below hb6
    have i3' := i3.below hb6
    have i4 := i4'.below hb6
    have hbw6 := hbw5.trans (hb6.mono hbw5.size)
    clear c0 c1 hb6 hl5 hbw5 i1 i2' i3 i4' g5
    go_wp2_with fail
    refine (ints_any _ _ _ _ _ i1' i2).mono ?_
    rintro e w7 ⟨rfl, hb7⟩
    rw [same_refl]
    have i3 := i3'.below hb7
    have i4' := i4.below hb7
    have hbw7 := hbw6.trans (hb7.mono hbw6.size)
    clear hb7 hbw6 i1' i2 i3' i4
    go_wp2_with fail
    refine (ints_any _ _ _ _ _ i3 i4').mono ?_
    rintro e w8 ⟨rfl, hb8⟩
    rw [same_refl]
    have hbw8 := hbw7.trans (hb8.mono hbw7.size)
    clear hb8 hbw7 i3 i4'
    go_wp2_with fail
    refine (awake_any _).mono ?_
    rintro e w9 ⟨rfl, hb9⟩
    have hbw9 := hbw8.trans (hb9.mono hbw8.size)
    clear hb9 hbw8
    go_wp2
    go_ret
    exact ⟨rfl, hbw9⟩
end Go.Proofs.Ytmcndecmnfbggaa
