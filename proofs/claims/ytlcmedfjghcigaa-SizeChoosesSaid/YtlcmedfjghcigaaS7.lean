/- Size: the walk of SizeChooses. -/
import Derived.Test.YtlcmedfjghcigaaA29
import Derived.Test.YtlcmedfjghcigaaA30
import Derived.Test.YtlcmedfjghcigaaA31
import Derived.Test.YtlcmedfjghcigaaA21
namespace Go.Proofs.Ytlcmedfjghcigaa
set_option linter.unusedSimpArgs false
set_option linter.unusedVariables false
open Go.RowKit Go.Maps Go.BigFrame

set_option maxRecDepth 100000 in
set_option maxHeartbeats 6400000 in
theorem chooses_law (h : Hs) (a1 : Option Addr) (c1 : Nat) (a2 : Option Addr) (c2 : Nat) (l : List Sz) (v : Value) (loss : Int) (w : World) (hh : HsAt w h a1 c1 a2 c2) (hl : TabAt 4 szC w v l) : Calls Try.prog 4 #[hsV h a1 c1 a2 c2, v, .int .i64 loss] w fun e w' => e = .returned (.bool true) ∧ Below w.heap.size w w' := by
  obtain ⟨la, lc, rfl⟩ := hl.shape
  have mt : h.tp.length ≤ 9223372036854775807 := hh.tp.1
  have ml : l.length ≤ 9223372036854775807 := hl.1
  obtain ⟨W0, hW0⟩ : ∃ X, X = w.alloc (.cells #[.int .i64 h.head, .int .i64 h.drip, .slice a1 h.tp.length c1, .slice a2 h.rl.length c2] 25) := ⟨_, rfl⟩
  have hal : W0 = al w [(.cells #[.int .i64 h.head, .int .i64 h.drip, .slice a1 h.tp.length c1, .slice a2 h.rl.length c2] 25)] := hW0
  have hb0 : Below w.heap.size w W0 := by rw [hal]; exact al_below w _ (Nat.le_refl _)
  have hs0 : W0.heap.size = w.heap.size + 1 := by rw [hal]; exact al_size w _
  have hr0 : W0.heap[w.heap.size]? = some (.cells #[.int .i64 h.head, .int .i64 h.drip, .slice a1 h.tp.length c1, .slice a2 h.rl.length c2] 25 (0, 0)) := by rw [hal]; exact al_get w _ 0 _ rfl
  obtain ⟨P, hP0⟩ : ∃ x, w.heap.size = x := ⟨_, rfl⟩
  rw [hP0] at hr0 hs0
  clear hal
  have HB0 := Lib.hid hb0
  have H0 := Lib.hid hr0
  have hh0 := hh.below hb0
  have HH0 := Lib.hid hh0
  have HL0 := Lib.hid (hl.below hb0)
  have KG := Lib.hid (great_any h a1 c1 a2 c2 7 W0 hh0)
  have KA := Lib.hid alive_any
  obtain ⟨g, hg⟩ : ∃ g, greatB h 7 = g := ⟨_, rfl⟩
  rw [hg] at KG
  obtain ⟨y0, y1, y2, y3⟩ := four_cells hr0
  clear hb0 hr0 hs0 hh hh0 hl hg
  have EV : hsV h a1 c1 a2 c2 = .agg #[.int .i64 h.head, .int .i64 h.drip, .slice a1 h.tp.length c1, .slice a2 h.rl.length c2] := rfl
  have HEV := Lib.hid EV
  rw [EV] at KG ⊢
  clear EV
  go_enter Try.func4, Try.ntmps4
  go_upto_region 1 with fail
  rw [← hW0]
  clear hW0 hP0
  cases g with
  | true =>
    go_wp2_with (go_at_call 12; fail)
    refine KG.out.mono ?_
    rintro e w2 ⟨rfl, hb2⟩
    have HB2 := Lib.hid (HB0.out.trans (hb2.mono HB0.out.size))
    have h2 := box_step (w0 := w) H0.out hb2
    have hh2 := HH0.out.below hb2
    have hl2 := HL0.out.below hb2
    have H2 := Lib.hid h2
    have HH2 := Lib.hid hh2
    have HL2 := Lib.hid hl2
    clear hb2 y0 y1 y2 y3
    clear h2 hh2 hl2
    go_wp2_with (go_at_call 13; fail)
    refine (KA.out _).mono ?_
    rintro e9 w3 ⟨rfl, hbz⟩
    go_wp2
    go_ret
    exact ⟨rfl, HB2.out.trans (hbz.mono HB2.out.size)⟩
  | false =>
  by_cases hl18 : 18 < l.length
  · have hg1 : ((l.length : Int) > 18) := by omega
    go_wp2_with (go_at_call 12; fail)
    refine KG.out.mono ?_
    rintro e w2 ⟨rfl, hb2⟩
    have HB2 := Lib.hid (HB0.out.trans (hb2.mono HB0.out.size))
    have h2 := box_step (w0 := w) H0.out hb2
    have hh2 := HH0.out.below hb2
    have hl2 := HL0.out.below hb2
    have H2 := Lib.hid h2
    have HH2 := Lib.hid hh2
    have HL2 := Lib.hid hl2
    clear hb2 y0 y1 y2 y3
    clear h2 hh2 hl2
    go_wp2_with (go_at_call 13; fail)
    refine (KA.out _).mono ?_
    rintro e9 w3 ⟨rfl, hbz⟩
    go_wp2
    go_ret
    exact ⟨rfl, HB2.out.trans (hbz.mono HB2.out.size)⟩
  · have hg1 : decide ((18 : Int) < (l.length : Int)) = false := by simp; omega
    have hg1b : decide (18 < l.length) = false := by simp; omega
    have hg1c : ¬ ((l.length : Int) > 18) := by omega
    go_wp2_with (go_at_call 12; fail)
    refine KG.out.mono ?_
    rintro e w2 ⟨rfl, hb2⟩
    have HB2 := Lib.hid (HB0.out.trans (hb2.mono HB0.out.size))
    have h2 := box_step (w0 := w) H0.out hb2
    have hh2 := HH0.out.below hb2
    have hl2 := HL0.out.below hb2
    have H2 := Lib.hid h2
    have HH2 := Lib.hid hh2
    have HL2 := Lib.hid hl2
    clear hb2 y0 y1 y2 y3
    obtain ⟨⟨p0, p1⟩, hck⟩ : ∃ x, chooseF h l = x := ⟨_, rfl⟩
    obtain ⟨⟨q0, q1, q2, q3⟩, hpk⟩ : ∃ x, pairR h l = x := ⟨_, rfl⟩
    obtain ⟨⟨f0, f1⟩, hlk⟩ : ∃ x, leastF h loss = x := ⟨_, rfl⟩
    have K1 := Lib.hid (fun X hx hy => Choose_any h a1 c1 a2 c2 l (.slice la l.length lc) X hx hy)
    have K2 := Lib.hid (fun X hx hy => rChoose_any h a1 c1 a2 c2 l (.slice la l.length lc) X hx hy)
    have K3 := Lib.hid (fun X hx hy => Pair_any h a1 c1 a2 c2 l (.slice la l.length lc) X hx hy)
    have K4 := Lib.hid (fun X hx hy => rPair_any h a1 c1 a2 c2 l (.slice la l.length lc) X hx hy)
    have K5 := Lib.hid (fun X hx => Least_any h a1 c1 a2 c2 loss X hx)
    have K6 := Lib.hid (fun X hx => rLeast_any h a1 c1 a2 c2 loss X hx)
    rw [hck, HEV.out] at K1 K2
    rw [hpk, HEV.out] at K3 K4
    rw [hlk, HEV.out] at K5 K6
    unfold IntR at K1 K2 K5 K6
    unfold FourR at K3 K4
    clear hck hpk hlk
    have K1w := Lib.hid (K1.out w2 hh2 hl2)
    obtain ⟨y0, y1, y2, y3⟩ := four_cells h2
    clear h2 hh2 hl2
    go_wp2_with (go_at_call 18; fail)
    refine K1w.out.mono ?_
    rintro e w3 ⟨rfl, hb3⟩
    have HB3 := Lib.hid (HB2.out.trans (hb3.mono HB2.out.size))
    have h3 := box_step (w0 := w) H2.out hb3
    have hh3 := HH2.out.below hb3
    have hl3 := HL2.out.below hb3
    have H3 := Lib.hid h3
    have HH3 := Lib.hid hh3
    have HL3 := Lib.hid hl3
    clear hb3 y0 y1 y2 y3
    have K2w := Lib.hid (K2.out w3 hh3 hl3)
    obtain ⟨y0, y1, y2, y3⟩ := four_cells h3
    clear h3 hh3 hl3
    go_wp2_with (go_at_call 19; fail)
    refine K2w.out.mono ?_
    rintro e w4 ⟨rfl, hb4⟩
    have HB4 := Lib.hid (HB3.out.trans (hb4.mono HB3.out.size))
    have h4 := box_step (w0 := w) H3.out hb4
    have hh4 := HH3.out.below hb4
    have hl4 := HL3.out.below hb4
    have H4 := Lib.hid h4
    have HH4 := Lib.hid hh4
    have HL4 := Lib.hid hl4
    clear hb4 y0 y1 y2 y3
    have K3w := Lib.hid (K3.out w4 hh4 hl4)
    obtain ⟨y0, y1, y2, y3⟩ := four_cells h4
    clear h4 hh4 hl4
    go_wp2_with (go_at_call 20; fail)
    refine K3w.out.mono ?_
    rintro e w5 ⟨rfl, hb5⟩
    have HB5 := Lib.hid (HB4.out.trans (hb5.mono HB4.out.size))
    have h5 := box_step (w0 := w) H4.out hb5
    have hh5 := HH4.out.below hb5
    have hl5 := HL4.out.below hb5
    have H5 := Lib.hid h5
    have HH5 := Lib.hid hh5
    have HL5 := Lib.hid hl5
    clear hb5 y0 y1 y2 y3
    have K4w := Lib.hid (K4.out w5 hh5 hl5)
    obtain ⟨y0, y1, y2, y3⟩ := four_cells h5
    clear h5 hh5 hl5
    go_wp2_with (go_at_call 21; fail)
    refine K4w.out.mono ?_
    rintro e w6 ⟨rfl, hb6⟩
    have HB6 := Lib.hid (HB5.out.trans (hb6.mono HB5.out.size))
    have h6 := box_step (w0 := w) H5.out hb6
    have hh6 := HH5.out.below hb6
    have hl6 := HL5.out.below hb6
    have H6 := Lib.hid h6
    have HH6 := Lib.hid hh6
    have HL6 := Lib.hid hl6
    clear hb6 y0 y1 y2 y3
    have K5w := Lib.hid (K5.out w6 hh6)
    obtain ⟨y0, y1, y2, y3⟩ := four_cells h6
    clear h6 hh6 hl6
    go_wp2_with (go_at_call 22; fail)
    refine K5w.out.mono ?_
    rintro e w7 ⟨rfl, hb7⟩
    have HB7 := Lib.hid (HB6.out.trans (hb7.mono HB6.out.size))
    have h7 := box_step (w0 := w) H6.out hb7
    have hh7 := HH6.out.below hb7
    have hl7 := HL6.out.below hb7
    have H7 := Lib.hid h7
    have HH7 := Lib.hid hh7
    have HL7 := Lib.hid hl7
    clear hb7 y0 y1 y2 y3
    have K6w := Lib.hid (K6.out w7 hh7)
    obtain ⟨y0, y1, y2, y3⟩ := four_cells h7
    clear h7 hh7 hl7
    go_wp2_with (go_at_call 23; fail)
    refine K6w.out.mono ?_
    rintro e w8 ⟨rfl, hb8⟩
    have HB8 := Lib.hid (HB7.out.trans (hb8.mono HB7.out.size))
    clear hb8 y0 y1 y2 y3
    go_wp2_with (go_at_call 13; fail)
    refine (KA.out _).mono ?_
    rintro e9 w9 ⟨rfl, hbz⟩
    go_wp2
    go_ret
    exact ⟨rfl, HB8.out.trans (hbz.mono HB8.out.size)⟩
end Go.Proofs.Ytlcmedfjghcigaa
