/- Size: the walk of SizePeaks. -/
import Derived.Test.YtlcmedfjghcigaaA27
import Derived.Test.YtlcmedfjghcigaaA28
import Derived.Test.YtlcmedfjghcigaaA21
namespace Go.Proofs.Ytlcmedfjghcigaa
set_option linter.unusedSimpArgs false
set_option linter.unusedVariables false
open Go.RowKit Go.Maps Go.BigFrame

set_option maxRecDepth 100000 in
set_option maxHeartbeats 6400000 in
theorem peaks_law (h : Hs) (a1 : Option Addr) (c1 : Nat) (a2 : Option Addr) (c2 : Nat) (z : Sz) (w : World) (hh : HsAt w h a1 c1 a2 c2) : Calls Try.prog 3 #[hsV h a1 c1 a2 c2, szV z] w fun e w' => e = .returned (.bool true) ∧ Below w.heap.size w w' := by
  have mt : h.tp.length ≤ 9223372036854775807 := hh.tp.1
  obtain ⟨W0, hW0⟩ : ∃ X, X = (w.alloc (.cells #[.int .i64 h.head, .int .i64 h.drip, .slice a1 h.tp.length c1, .slice a2 h.rl.length c2] 25)).alloc (.cells #[.int .i64 z.start, .int .i64 z.full, .int .i64 z.loss, .int .i64 z.price] 27) := ⟨_, rfl⟩
  have hal : W0 = al w [(.cells #[.int .i64 h.head, .int .i64 h.drip, .slice a1 h.tp.length c1, .slice a2 h.rl.length c2] 25), (.cells #[.int .i64 z.start, .int .i64 z.full, .int .i64 z.loss, .int .i64 z.price] 27)] := hW0
  have hb0 : Below w.heap.size w W0 := by rw [hal]; exact al_below w _ (Nat.le_refl _)
  have hs0 : W0.heap.size = w.heap.size + 2 := by rw [hal]; exact al_size w _
  have hr0 : W0.heap[w.heap.size]? = some (.cells #[.int .i64 h.head, .int .i64 h.drip, .slice a1 h.tp.length c1, .slice a2 h.rl.length c2] 25 (0, 0)) := by rw [hal]; exact al_get w _ 0 _ rfl
  have hr1 : W0.heap[w.heap.size + 1]? = some (.cells #[.int .i64 z.start, .int .i64 z.full, .int .i64 z.loss, .int .i64 z.price] 27 (0, 0)) := by rw [hal]; exact al_get w _ 1 _ rfl
  obtain ⟨P, hP0⟩ : ∃ x, w.heap.size = x := ⟨_, rfl⟩
  rw [hP0] at hr0 hr1 hs0
  obtain ⟨Q, hP1⟩ : ∃ x, P + 1 = x := ⟨_, rfl⟩
  rw [hP1] at hr1
  clear hal
  have HB0 := Lib.hid hb0
  have H0 := Lib.hid hr0
  have Q0 := Lib.hid hr1
  have hh0 := hh.below hb0
  have HH0 := Lib.hid hh0
  have KG := Lib.hid (great_any h a1 c1 a2 c2 10 W0 hh0)
  have KA := Lib.hid alive_any
  obtain ⟨g, hg⟩ : ∃ g, greatB h 10 = g := ⟨_, rfl⟩
  rw [hg] at KG
  obtain ⟨y0, y1, y2, y3⟩ := four_cells hr0
  obtain ⟨x0, x1, x2, x3⟩ := four_cells hr1
  clear hb0 hr0 hr1 hs0 hh hh0 hg
  have EV : hsV h a1 c1 a2 c2 = .agg #[.int .i64 h.head, .int .i64 h.drip, .slice a1 h.tp.length c1, .slice a2 h.rl.length c2] := rfl
  have HEV := Lib.hid EV
  have EZ : szV z = .agg #[.int .i64 z.start, .int .i64 z.full, .int .i64 z.loss, .int .i64 z.price] := rfl
  have HEZ := Lib.hid EZ
  rw [EV] at KG ⊢
  rw [EZ]
  clear EV EZ
  go_enter Try.func3, Try.ntmps3
  go_upto_region 1 with fail
  rw [← hW0]
  clear hW0 hP0 hP1
  go_wp2_with (go_at_call 12; fail)
  refine KG.out.mono ?_
  rintro e w2 ⟨rfl, hb2⟩
  have HB2 := Lib.hid (HB0.out.trans (hb2.mono HB0.out.size))
  have h2 := box_step (w0 := w) H0.out hb2
  have q2 := box_step (w0 := w) Q0.out hb2
  have hh2 := HH0.out.below hb2
  have H2 := Lib.hid h2
  have Q2 := Lib.hid q2
  have HH2 := Lib.hid hh2
  clear hb2 y0 y1 y2 y3 x0 x1 x2 x3
  cases g with
  | true =>
    clear h2 q2 hh2
    go_wp2_with (go_at_call 13; fail)
    refine (KA.out _).mono ?_
    rintro e9 w3 ⟨rfl, hbz⟩
    go_wp2
    go_ret
    exact ⟨rfl, HB2.out.trans (hbz.mono HB2.out.size)⟩
  | false =>
    obtain ⟨⟨p0, p1, p2, p3⟩, hpk⟩ : ∃ x, peakF h = x := ⟨_, rfl⟩
    obtain ⟨⟨f0, f1, f2⟩, hsv⟩ : ∃ x, starvedF h z = x := ⟨_, rfl⟩
    have K1 := Lib.hid (fun X hx => Peak_any h a1 c1 a2 c2 X hx)
    have K2 := Lib.hid (fun X hx => rPeak_any h a1 c1 a2 c2 X hx)
    have K3 := Lib.hid (fun X hx => Starved_any h a1 c1 a2 c2 z X hx)
    have K4 := Lib.hid (fun X hx => rStarved_any h a1 c1 a2 c2 z X hx)
    rw [hpk, HEV.out] at K1 K2
    rw [hsv, HEV.out, HEZ.out] at K3 K4
    unfold PeakR at K1 K2
    unfold MixR at K3 K4
    have K1w := Lib.hid (K1.out w2 hh2)
    obtain ⟨y0, y1, y2, y3⟩ := four_cells h2
    clear hpk hsv h2 q2 hh2
    go_wp2_with (go_at_call 14; fail)
    refine K1w.out.mono ?_
    rintro e w3 ⟨rfl, hb3⟩
    obtain ⟨S, hS⟩ : ∃ x, w3.heap.size = x := ⟨_, rfl⟩
    obtain ⟨w4, hw4⟩ : ∃ X, w3.alloc (.cells #[.int .i64 p0, .int .i64 p1] 31) = X := ⟨_, rfl⟩
    have hb34 : Below w3.heap.size w3 w4 := by rw [← hw4]; exact (Below.refl _ _).alloc (Nat.le_refl _) _
    have hs4 : w4.heap[S]? = some (.cells #[.int .i64 p0, .int .i64 p1] 31 (0, 0)) := by rw [← hw4, ← hS]; exact alloc_heap w3 _
    have hb4 := hb3.trans (hb34.mono hb3.size)
    have HS4 := Lib.hid hs4
    have HB4 := Lib.hid (HB2.out.trans (hb4.mono HB2.out.size))
    have h4 := box_step (w0 := w) H2.out hb4
    have q4 := box_step (w0 := w) Q2.out hb4
    have hh4 := HH2.out.below hb4
    have H4 := Lib.hid h4
    have Q4 := Lib.hid q4
    have HH4 := Lib.hid hh4
    have K2w := Lib.hid (K2.out w4 hh4)
    clear hb3 hb34 hs4 hb4 y0 y1 y2 y3
    obtain ⟨y0, y1, y2, y3⟩ := four_cells h4
    clear h4 q4 hh4
    go_wp2_with (go_at_call 15; fail)
    clear hw4 hS
    refine K2w.out.mono ?_
    rintro e w5 ⟨rfl, hb5⟩
    obtain ⟨T, hT⟩ : ∃ x, w5.heap.size = x := ⟨_, rfl⟩
    obtain ⟨w6, hw6⟩ : ∃ X, w5.alloc (.cells #[.int .i64 p0, .int .i64 p1] 31) = X := ⟨_, rfl⟩
    have hb56 : Below w5.heap.size w5 w6 := by rw [← hw6]; exact (Below.refl _ _).alloc (Nat.le_refl _) _
    have ht6 : w6.heap[T]? = some (.cells #[.int .i64 p0, .int .i64 p1] 31 (0, 0)) := by rw [← hw6, ← hT]; exact alloc_heap w5 _
    have hb6 := hb5.trans (hb56.mono hb5.size)
    have HS6 := Lib.hid (box_step (w0 := w) HS4.out hb6)
    have HT6 := Lib.hid ht6
    have HB6 := Lib.hid (HB4.out.trans (hb6.mono HB4.out.size))
    have h6 := box_step (w0 := w) H4.out hb6
    have q6 := box_step (w0 := w) Q4.out hb6
    have hh6 := HH4.out.below hb6
    have H6 := Lib.hid h6
    have Q6 := Lib.hid q6
    have HH6 := Lib.hid hh6
    have K3w := Lib.hid (K3.out w6 hh6)
    clear hb5 hb56 ht6 hb6 y0 y1 y2 y3
    obtain ⟨y0, y1, y2, y3⟩ := four_cells h6
    obtain ⟨x0, x1, x2, x3⟩ := four_cells q6
    clear h6 q6 hh6
    go_wp2_with (go_at_call 16; fail)
    clear hw6 hT
    refine K3w.out.mono ?_
    rintro e w7 ⟨rfl, hb7⟩
    have HS7 := Lib.hid (box_step (w0 := w) HS6.out hb7)
    have HT7 := Lib.hid (box_step (w0 := w) HT6.out hb7)
    have HB7 := Lib.hid (HB6.out.trans (hb7.mono HB6.out.size))
    have h7 := box_step (w0 := w) H6.out hb7
    have q7 := box_step (w0 := w) Q6.out hb7
    have hh7 := HH6.out.below hb7
    have H7 := Lib.hid h7
    have Q7 := Lib.hid q7
    have HH7 := Lib.hid hh7
    have K4w := Lib.hid (K4.out w7 hh7)
    clear hb7 y0 y1 y2 y3 x0 x1 x2 x3
    obtain ⟨y0, y1, y2, y3⟩ := four_cells h7
    obtain ⟨x0, x1, x2, x3⟩ := four_cells q7
    clear h7 q7 hh7
    go_wp2_with (go_at_call 17; fail)
    refine K4w.out.mono ?_
    rintro e w8 ⟨rfl, hb8⟩
    have HB8 := Lib.hid (HB7.out.trans (hb8.mono HB7.out.size))
    obtain ⟨s0, s1⟩ := two_cells (box_step (w0 := w) HS7.out hb8)
    obtain ⟨t0, t1⟩ := two_cells (box_step (w0 := w) HT7.out hb8)
    clear hb8 y0 y1 y2 y3 x0 x1 x2 x3
    go_wp2_with (go_at_call 13; fail)
    refine (KA.out _).mono ?_
    rintro e9 w9 ⟨rfl, hbz⟩
    go_wp2
    go_ret
    exact ⟨rfl, HB8.out.trans (hbz.mono HB8.out.size)⟩
end Go.Proofs.Ytlcmedfjghcigaa
