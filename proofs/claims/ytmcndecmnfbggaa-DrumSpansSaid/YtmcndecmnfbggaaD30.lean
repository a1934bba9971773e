/- The law's own closed calls: awake. -/
import Derived.Test.YtmcndecmnfbggaaD29
namespace Go.Proofs.Ytmcndecmnfbggaa
set_option linter.unusedSimpArgs false
set_option linter.unusedVariables false
open Go.RowKit

theorem same_refl (l : List Int) : sameB l l = true := by simp [sameB]
theorem sameS_refl (l : List (Int × Int)) : sameS l l = true := by simp [sameS]
theorem below_al {B : Nat} {w x : World} (h : Below B w x) (o : Obj) (hB : B ≤ x.heap.size) : Below B w (x.alloc o) := h.alloc hB o
theorem spans_three (w : World) : SpansAt (w.alloc (.cells #[.int .i64 199400, .int .i64 200600, .int .i64 209400, .int .i64 209600, .int .i64 299400, .int .i64 299600] 45)) (.slice (some ⟨w.heap.size, 0, none⟩) 3 3) awS :=
  ⟨by simp [maxLen, awS], .inr ⟨w.heap.size, 0, 3, rfl, by simp [awS], by simp [maxLen], by simp, fun i hi => by
    match i, hi with
    | 0, _ => exact ⟨by go_simp; rfl, by go_simp; rfl⟩
    | 1, _ => exact ⟨by go_simp; rfl, by go_simp; rfl⟩
    | 2, _ => exact ⟨by go_simp; rfl, by go_simp; rfl⟩⟩⟩
set_option maxRecDepth 100000 in
set_option maxHeartbeats 6400000 in
theorem awake_any (w : World) : Calls Try.prog 9 #[] w fun e w' => e = .returned (.bool true) ∧ Below w.heap.size w w' := by
  obtain ⟨W0, hW0⟩ : ∃ X, X = w.alloc (.cells #[.int .i64 3, .int .i64 199400] 23) := ⟨_, rfl⟩
  have hb0 : Below w.heap.size w W0 := by rw [hW0]; exact (Below.refl _ _).alloc (Nat.le_refl _) _
  have hr0 : W0.heap[w.heap.size]? = some (.cells #[.int .i64 3, .int .i64 199400] 23 (0, 0)) := by rw [hW0]; exact (MapKept.heap_alloc w _).1
  obtain ⟨c0, c1⟩ := regcells hr0
  have HC := Lib.hid hr0
  clear hr0
  go_enter Try.func9, Try.ntmps9
  go_wp2_with fail
  rw [← hW0]
  clear hW0
  go_wp2_with fail
  refine (places_any 3 199400 209400 _).mono ?_
  rintro e w1 ⟨va, rfl, hva, hb1⟩
  rw [aw_places.1] at hva
  rw [aw_places.2]
  have hbw1 := hb0.trans (hb1.mono hb0.size)
  have ia := ints_own hva (by decide)
  have g1 := (hb1.block w.heap.size (Array.getElem?_eq_some_iff.1 HC.out).1).trans HC.out
  clear hva c0 c1 hb1
  obtain ⟨c0, c1⟩ := regcells g1
  have l1 := (Array.getElem?_eq_some_iff.1 g1).1
  go_wp2_with fail
  refine (run_any 3 199400 [100] _ _ (ints_one w1 100 3)).mono ?_
  rintro e w2 ⟨vb, rfl, hvb, hb2⟩
  rw [aw_run.2.1] at hvb
  rw [aw_run.1, aw_run.2.2]
  have hb12 : Below w1.heap.size w1 w2 := ((Below.refl w1.heap.size w1).alloc (Nat.le_refl _) _).trans (hb2.mono (by simp))
  have hbw2 := hbw1.trans (hb12.mono hbw1.size)
  have ib := ints_own hvb (by decide)
  have ia2 := ia.below hb12
  clear hvb c0 c1 hb2 ia g1 l1
  go_wp2_with fail
  refine (fit_any [0, 0, 2] 600 _ _ (ints_three w2 0 0 2 3)).mono ?_
  rintro e w3 ⟨vc, L, rfl, hcan, _, hvc, hb3⟩
  obtain ⟨hL, hE⟩ := aw_fit L hcan
  subst hL
  rw [hE]
  have hb23 : Below w2.heap.size w2 w3 := ((Below.refl w2.heap.size w2).alloc (Nat.le_refl _) _).trans (hb3.mono (by simp))
  have hbw3 := hbw2.trans (hb23.mono hbw2.size)
  have ic := spans_own hvc (by decide)
  have ia3 := ia2.below hb23
  have ib3 := ib.below hb23
  clear hvc hb3 hcan hE ia2 ib
  go_wp2_with fail
  refine (pulses_any 1 0 5000 [5010, -20, 20] _ _ (ints_three w3 5010 (-20) 20 3)).mono ?_
  rintro e w4 ⟨rfl, hb4⟩
  rw [aw_pulses.1, aw_pulses.2.1, aw_pulses.2.2]
  have hb34 : Below w3.heap.size w3 w4 := ((Below.refl w3.heap.size w3).alloc (Nat.le_refl _) _).trans (hb4.mono (by simp))
  have hbw4 := hbw3.trans (hb34.mono hbw3.size)
  have ia4 := ia3.below hb34
  have ib4 := ib3.below hb34
  have ic4 := ic.below hb34
  clear hb4 ia3 ib3 ic
  go_wp2_with fail
  refine (ints_any [9400, 400, 2000] [9400, 400, 2000] va _ _ (ia4.below ((Below.refl _ _).alloc (Nat.le_refl _) _)) (ints_three w4 9400 400 2000 3)).mono ?_
  rintro e w5 ⟨rfl, hb5⟩
  rw [same_refl]
  have hb45 : Below w4.heap.size w4 w5 := ((Below.refl w4.heap.size w4).alloc (Nat.le_refl _) _).trans (hb5.mono (by simp))
  have hbw5 := hbw4.trans (hb45.mono hbw4.size)
  have ib5 := ib4.below hb45
  have ic5 := ic4.below hb45
  clear hb5 ib4 ic4 ia4
  go_wp2_with fail
  refine (ints_any [0, 0, 2] [0, 0, 2] vb _ _ (ib5.below ((Below.refl _ _).alloc (Nat.le_refl _) _)) (ints_three w5 0 0 2 3)).mono ?_
  rintro e w6 ⟨rfl, hb6⟩
  rw [same_refl]
  have hb56 : Below w5.heap.size w5 w6 := ((Below.refl w5.heap.size w5).alloc (Nat.le_refl _) _).trans (hb6.mono (by simp))
  have hbw6 := hbw5.trans (hb56.mono hbw5.size)
  have ic6 := ic5.below hb56
  clear hb6 ib5 ic5
  go_wp2_with fail
  refine (span_any _ _ _).mono ?_
  rintro e w7 ⟨rfl, hb7⟩
  go_wp2_with fail
  refine (span_any _ _ _).mono ?_
  rintro e w8 ⟨rfl, hb8⟩
  go_wp2_with fail
  refine (span_any _ _ _).mono ?_
  rintro e w9 ⟨rfl, hb9⟩
  have hb69 := hb7.trans ((hb8.mono hb7.size).trans (hb9.mono (Nat.le_trans hb7.size hb8.size)))
  have hbw9 := hbw6.trans (hb69.mono hbw6.size)
  have ic9 := ic6.below hb69
  clear hb7 hb8 hb9 ic6
  go_wp2_with fail
  refine (refSpans_any awS awS vc _ _ (ic9.below ((Below.refl _ _).alloc (Nat.le_refl _) _)) (spans_three w9)).mono ?_
  rintro e w10 ⟨rfl, hb10⟩
  rw [sameS_refl]
  have hb910 : Below w9.heap.size w9 w10 := ((Below.refl w9.heap.size w9).alloc (Nat.le_refl _) _).trans (hb10.mono (by simp))
  have hbw10 := hbw9.trans (hb910.mono hbw9.size)
  clear hb10 ic9
  go_wp2
  go_ret
  exact ⟨rfl, hbw10⟩
end Go.Proofs.Ytmcndecmnfbggaa
