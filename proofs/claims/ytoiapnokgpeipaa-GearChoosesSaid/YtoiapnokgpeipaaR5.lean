/- The document's own: Build. -/
import Derived.Test.YtoiapnokgpeipaaR4
import Derived.Test.YtoiapnokgpeipaaD2
namespace Go.Proofs.Ytoiapnokgpeipaa
set_option linter.unusedSimpArgs false
open Go.RowKit Go.Maps

def refBuildC (S : List (Int × Int)) (t r p o : Int) (same : Bool) (P : List (Int × Int)) (i : Int) : Int × Int :=
  if stockB S && gearB t r p o then
    if ableC S p o same P i ≠ 0 then (0, ableC S p o same P i)
    else if (prodW (drns P) * r == prodW (drvs P) * t) = false then (0, 11)
    else (wheelsN P i, 0)
  else (0, 1)
theorem ableC_zero {S P : List (Int × Int)} {p o i : Int} {same : Bool} (h : ableC S p o same P i = 0) : pairsErr P p o = 0 ∧ ¬ (i ≠ 0 ∧ P.length = 0) ∧ ¬ (i ≠ 0 ∧ teethB i = false) ∧ shortB S P i = false ∧ turnsB P.length i = same := by
  unfold ableC at h
  split at h
  · exact absurd h ‹_›
  · split at h
    · omega
    · split at h
      · omega
      · split at h
        · omega
        · split at h
          · omega
          · rename_i h1 h2 h3 h4 h5
            exact ⟨by simpa using h1, h2, h3, by simpa using h4, by simpa using h5⟩

theorem prods_bd {P : List (Int × Int)} {p o : Int} (hp : p ≤ 3) (h : pairsErr P p o = 0) : (1 ≤ prodW (drvs P) ∧ prodW (drvs P) ≤ 1000000) ∧ (1 ≤ prodW (drns P) ∧ prodW (drns P) ≤ 1000000) := by
  obtain ⟨hl, hm⟩ := pairsErr_zero h
  refine ⟨prodW_bd (drvs P) ?_ (by simp [drvs]; omega), prodW_bd (drns P) ?_ (by simp [drns]; omega)⟩
  · intro z hz; obtain ⟨q, hq, rfl⟩ := List.mem_map.1 hz; exact (hm q hq).1
  · intro z hz; obtain ⟨q, hq, rfl⟩ := List.mem_map.1 hz; exact (hm q hq).2.1

set_option maxRecDepth 100000 in
set_option maxHeartbeats 3200000 in
theorem refBuild_any (S P : List (Int × Int)) (sv pv : Value) (t r p o i : Int) (same : Bool) (w : World) (hS : WheelsAt w sv S) (hP : WheelsAt w pv P) (hl : P.length ≤ 1000000) :
    Calls Try.prog 14 #[sv, .agg #[.int .i64 t, .int .i64 r, .bool same, .int .i64 p, .int .i64 o], .agg #[pv, .int .i64 i]] w
      fun e w' => e = .returned (.tuple #[.int .i64 (refBuildC S t r p o same P i).1, .int .i64 (refBuildC S t r p o same P i).2]) ∧ Below w.heap.size w w' := by
  obtain ⟨C, hC⟩ : ∃ C, C = refBuildC S t r p o same P i := ⟨_, rfl⟩
  rw [← hC]
  have HC := Lib.hid hC
  clear hC
  obtain ⟨pa, pc, rfl⟩ := hP.shape
  obtain ⟨sa, sc, rfl⟩ := hS.shape
  obtain ⟨W0, hW0⟩ : ∃ W0, W0 = (w.alloc (.cells #[.int .i64 t, .int .i64 r, .bool same, .int .i64 p, .int .i64 o] 24)).alloc (.cells #[.slice pa P.length pc, .int .i64 i] 27) := ⟨_, rfl⟩
  have hg0 : Below w.heap.size w W0 := by rw [hW0]; exact ((Below.refl _ _).alloc (Nat.le_refl _) _).alloc (by simp) _
  have hG0 : W0.heap[w.heap.size]? = some (.cells #[.int .i64 t, .int .i64 r, .bool same, .int .i64 p, .int .i64 o] 24) := by rw [hW0, Below.heap_alloc _ _ _ (by simp)]; exact (MapKept.heap_alloc w _).1
  have hR0 : W0.heap[w.heap.size + 1]? = some (.cells #[.slice pa P.length pc, .int .i64 i] 27) := by
    have := (MapKept.heap_alloc (w.alloc (.cells #[.int .i64 t, .int .i64 r, .bool same, .int .i64 p, .int .i64 o] 24)) (.cells #[.slice pa P.length pc, .int .i64 i] 27)).1
    rw [hW0]; simpa using this
  have hz0 : W0.heap.size = w.heap.size + 2 := by rw [hW0]; simp
  have hs := refStock_any S (.slice sa S.length sc) W0 (hS.below hg0)
  obtain ⟨st, hst⟩ : ∃ st, stockB S = st := ⟨_, rfl⟩
  obtain ⟨ge, hge⟩ : ∃ ge, gearB t r p o = ge := ⟨_, rfl⟩
  rw [hst] at hs
  go_enter Try.func14, Try.ntmps14
  go_wp2_with fail
  rw [← hW0]
  clear hW0
  refine hs.mono ?_
  rintro e w1 ⟨rfl, hb1⟩
  have hG1 := (hb1.block w.heap.size (by omega)).trans hG0
  have hR1 := (hb1.block (w.heap.size + 1) (by omega)).trans hR0
  have hbw1 : Below w.heap.size w w1 := hg0.trans (hb1.mono (by omega))
  have hz1 : w.heap.size + 2 ≤ w1.heap.size := by have := hb1.size; omega
  clear hG0 hR0 hb1 hg0 hz0 hs
  cases st with
  | false =>
    have hCf : RowKit.Hid (C = (0, 1)) := Lib.hid (by rw [HC.out]; unfold refBuildC; rw [hst]; rfl)
    clear HC hst hge hG1 hR1
    go_wp2
    go_ret2
    exact ⟨by rw [hCf.out]; rfl, hbw1⟩
  | true =>
  obtain ⟨e0, e1, e2, e3, e4⟩ := gcells hG1
  have hg := refGearing_any t r p o same w1
  rw [hge] at hg
  go_wp2_with fail
  refine hg.mono ?_
  rintro e w2 ⟨rfl, hb2⟩
  clear e0 e1 e2 e3 e4 hg
  have hG2 := (hb2.block w.heap.size (by omega)).trans hG1
  have hR2 := (hb2.block (w.heap.size + 1) (by omega)).trans hR1
  have hbw2 : Below w.heap.size w w2 := hbw1.trans (hb2.mono (by omega))
  have hz2 : w.heap.size + 2 ≤ w2.heap.size := by have := hb2.size; omega
  clear hG1 hR1 hb2 hbw1 hz1
  cases ge with
  | false =>
    have hCf : RowKit.Hid (C = (0, 1)) := Lib.hid (by rw [HC.out]; unfold refBuildC; rw [hst, hge]; rfl)
    clear HC hst hge hG2 hR2
    go_wp2
    go_ret2
    exact ⟨by rw [hCf.out]; rfl, hbw2⟩
  | true =>
  have hgi := gearB_iff.1 hge
  have hC1 : C = if ableC S p o same P i ≠ 0 then (0, ableC S p o same P i) else if (prodW (drns P) * r == prodW (drvs P) * t) = false then (0, 11) else (wheelsN P i, 0) := by rw [HC.out]; unfold refBuildC; rw [hst, hge]; rfl
  have HC1 := Lib.hid hC1
  clear HC hC1 hst hge
  obtain ⟨e0, e1, e2, e3, e4⟩ := gcells hG2
  obtain ⟨f0, f1⟩ := tcells hR2
  have ha := able_any S P (.slice sa S.length sc) (.slice pa P.length pc) t r p o i same w2 (hS.below hbw2) (hP.below hbw2) hl (by omega)
  obtain ⟨ac, hac⟩ : ∃ ac, ableC S p o same P i = ac := ⟨_, rfl⟩
  rw [hac] at ha
  have HAC := Lib.hid hac
  clear hac
  go_wp2_with fail
  refine ha.mono ?_
  rintro e w3 ⟨rfl, hb3⟩
  clear e0 e1 e2 e3 e4 f0 f1 ha
  have hG3 := (hb3.block w.heap.size (by omega)).trans hG2
  have hR3 := (hb3.block (w.heap.size + 1) (by omega)).trans hR2
  have hbw3 : Below w.heap.size w w3 := hbw2.trans (hb3.mono (by omega))
  have hz3 : w.heap.size + 2 ≤ w3.heap.size := by have := hb3.size; omega
  clear hG2 hR2 hb3 hbw2 hz2
  by_cases h0 : ac = 0
  case neg =>
    have hCf : RowKit.Hid (C = (0, ac)) := Lib.hid (by rw [HC1.out, HAC.out, if_pos h0])
    have hb : (ac != 0) = true := by simp [h0]
    clear h0 hG3 hR3 HC1 HAC
    go_wp2
    go_ret2
    exact ⟨by rw [hCf.out]; rfl, hbw3⟩
  subst h0
  have hz := ableC_zero HAC.out
  obtain ⟨hd, hn⟩ := prods_bd (by omega) hz.1
  have hl3 : P.length ≤ 3 := by have := (pairsErr_zero hz.1).1; omega
  have hC2 : C = if (prodW (drns P) * r == prodW (drvs P) * t) = false then (0, 11) else (wheelsN P i, 0) := by rw [HC1.out, HAC.out]; rfl
  have HC2 := Lib.hid hC2
  clear HC1 HAC hC2 hz
  obtain ⟨e0, e1, e2, e3, e4⟩ := gcells hG3
  obtain ⟨f0, f1⟩ := tcells hR3
  have hx := refExact_any P (.slice pa P.length pc) t r p o i same w3 (hP.below hbw3) ⟨hgi.1, hgi.2.1⟩ ⟨hgi.2.2.1, hgi.2.2.2.1⟩ hd hn
  obtain ⟨ex, hex⟩ : ∃ ex, (prodW (drns P) * r == prodW (drvs P) * t) = ex := ⟨_, rfl⟩
  rw [hex] at hx
  have HEX := Lib.hid hex
  clear hex hd hn
  go_wp2_with fail
  refine hx.mono ?_
  rintro e w4 ⟨rfl, hb4⟩
  clear e0 e1 e2 e3 e4 f0 f1 hx
  have hR4 := (hb4.block (w.heap.size + 1) (by omega)).trans hR3
  have hbw4 : Below w.heap.size w w4 := hbw3.trans (hb4.mono (by omega))
  have hz4 : w.heap.size + 2 ≤ w4.heap.size := by have := hb4.size; omega
  clear hG3 hR3 hb4 hbw3 hz3
  cases ex with
  | false =>
    have hCf : RowKit.Hid (C = (0, 11)) := Lib.hid (by rw [HC2.out, HEX.out]; rfl)
    clear HC2 HEX hR4
    go_wp2
    go_ret2
    exact ⟨by rw [hCf.out]; rfl, hbw4⟩
  | true =>
    have hCf : RowKit.Hid (C = (wheelsN P i, 0)) := Lib.hid (by rw [HC2.out, HEX.out]; rfl)
    clear HC2 HEX
    obtain ⟨f0, f1⟩ := tcells hR4
    have hw := wheels_any P pa pc P.length i w4 rfl (by omega)
    obtain ⟨wn, hwn⟩ : ∃ wn, wheelsN P i = wn := ⟨_, rfl⟩
    rw [hwn] at hw hCf
    clear hwn
    go_wp2_with fail
    refine hw.mono ?_
    rintro e w5 ⟨rfl, hb5⟩
    go_wp2
    go_ret2
    exact ⟨by rw [hCf.out]; rfl, hbw4.trans (hb5.mono (by omega))⟩
end Go.Proofs.Ytoiapnokgpeipaa
