/- Size: the reference: Starved, Peak. -/
import Derived.Test.YtlcmedfjghcigaaA26
import Derived.Test.YtlcmedfjghcigaaM5
import Derived.Test.YtlcmedfjghcigaaA12
namespace Go.Proofs.Ytlcmedfjghcigaa
set_option linter.unusedSimpArgs false
set_option linter.unusedVariables false
open Go.RowKit Go.Maps Go.BigFrame

set_option maxRecDepth 100000 in
set_option maxHeartbeats 6400000 in
theorem rStarved_any (h : Hs) (a1 : Option Addr) (c1 : Nat) (a2 : Option Addr) (c2 : Nat) (z : Sz) (w : World) (hh : HsAt w h a1 c1 a2 c2) : Calls Try.prog 17 #[hsV h a1 c1 a2 c2, szV z] w (MixR w (starvedF h z)) := by
  have mt : h.tp.length ≤ 9223372036854775807 := hh.tp.1
  obtain ⟨⟨rx, rb, re⟩, hrr⟩ : ∃ x, starvedF h z = x := ⟨_, rfl⟩
  rw [hrr]
  have HRR := Lib.hid hrr
  obtain ⟨W0, hW0⟩ : ∃ X, X = (w.alloc (.cells #[.int .i64 h.head, .int .i64 h.drip, .slice a1 h.tp.length c1, .slice a2 h.rl.length c2] 25)).alloc (.cells #[.int .i64 z.start, .int .i64 z.full, .int .i64 z.loss, .int .i64 z.price] 27) := ⟨_, rfl⟩
  have hal : W0 = al w [(.cells #[.int .i64 h.head, .int .i64 h.drip, .slice a1 h.tp.length c1, .slice a2 h.rl.length c2] 25), (.cells #[.int .i64 z.start, .int .i64 z.full, .int .i64 z.loss, .int .i64 z.price] 27)] := hW0
  have hb0 : Below w.heap.size w W0 := by rw [hal]; exact al_below w _ (Nat.le_refl _)
  have hs0 : W0.heap.size = w.heap.size + 2 := by rw [hal]; exact al_size w _
  have hr0 : W0.heap[w.heap.size]? = some (.cells #[.int .i64 h.head, .int .i64 h.drip, .slice a1 h.tp.length c1, .slice a2 h.rl.length c2] 25 (0, 0)) := by rw [hal]; exact al_get w _ 0 _ rfl
  have hr1 : W0.heap[w.heap.size + 1]? = some (.cells #[.int .i64 z.start, .int .i64 z.full, .int .i64 z.loss, .int .i64 z.price] 27 (0, 0)) := by rw [hal]; exact al_get w _ 1 _ rfl
  obtain ⟨P, hP0⟩ : ∃ x, w.heap.size = x := ⟨_, rfl⟩
  rw [hP0] at hr0 hr1 hs0
  obtain ⟨Q, hP1⟩ : ∃ x, P + 1 = x := ⟨_, rfl⟩
  rw [hP1] at hr1
  clear hal
  have HB0 := Lib.hid hb0
  have HP0 := Lib.hid hr0
  have HQ0 := Lib.hid hr1
  have hh0 := hh.below hb0
  have HH0 := Lib.hid hh0
  have KH := Lib.hid (House_any h a1 c1 a2 c2 W0 hh0)
  obtain ⟨g, hg⟩ : ∃ b, hsOk h = b := ⟨_, rfl⟩
  have EV : hsV h a1 c1 a2 c2 = .agg #[.int .i64 h.head, .int .i64 h.drip, .slice a1 h.tp.length c1, .slice a2 h.rl.length c2] := rfl
  have HEV := Lib.hid EV
  have EZ : szV z = .agg #[.int .i64 z.start, .int .i64 z.full, .int .i64 z.loss, .int .i64 z.price] := rfl
  have HEZ := Lib.hid EZ
  rw [hg] at KH
  rw [EV] at KH ⊢
  rw [EZ]
  have HG := Lib.hid hg
  obtain ⟨y0, y1, y2, y3⟩ := four_cells hr0
  obtain ⟨x0, x1, x2, x3⟩ := four_cells hr1
  unfold MixR
  clear hb0 hr0 hr1 hs0 hh hh0 EV EZ hrr hg
  go_enter Try.func17, Try.ntmps17
  go_upto_region 1 with fail
  rw [← hW0]
  clear hW0 hP0 hP1
  go_wp2_with (go_at_call 25; fail)
  refine KH.out.mono ?_
  rintro e w2 ⟨rfl, hb2⟩
  have HB2 := Lib.hid (HB0.out.trans (hb2.mono HB0.out.size))
  have H2 := Lib.hid (box_step (w0 := w) HP0.out hb2)
  have Q2 := Lib.hid (box_step (w0 := w) HQ0.out hb2)
  have HH2 := Lib.hid (HH0.out.below hb2)
  clear hb2 y0 y1 y2 y3 x0 x1 x2 x3
  cases g with
  | false =>
    have he : starvedF h z = (0, false, 1) := by
      have e1 : errF h [z] = 1 := by unfold errF; rw [HG.out]; rfl
      rw [starved_bad (by rw [e1]; decide), e1]
    rw [HRR.out] at he
    simp only [Prod.mk.injEq] at he
    obtain ⟨rfl, rfl, rfl⟩ := he
    go_wp2
    exact bodyPost_ret (results_tmp3 rfl _ _ _) rfl ⟨rfl, HB2.out⟩
  | true =>
  have hok := HG.out
  have KZ := Lib.hid (rSize_any z w2)
  obtain ⟨g, hg⟩ : ∃ b, szOk z = b := ⟨_, rfl⟩
  rw [hg, HEZ.out] at KZ
  have HZ := Lib.hid hg
  clear hg
  obtain ⟨y0, y1, y2, y3⟩ := four_cells H2.out
  obtain ⟨x0, x1, x2, x3⟩ := four_cells Q2.out
  go_wp2_with (go_at_call 30; fail)
  refine KZ.out.mono ?_
  rintro e w3 ⟨rfl, hb3⟩
  have HB3 := Lib.hid (HB2.out.trans (hb3.mono HB2.out.size))
  have H3 := Lib.hid (box_step (w0 := w) H2.out hb3)
  have Q3 := Lib.hid (box_step (w0 := w) Q2.out hb3)
  have hh3 := HH2.out.below hb3
  clear hb3 y0 y1 y2 y3 x0 x1 x2 x3
  cases g with
  | false =>
    have he : starvedF h z = (0, false, 2) := by
      have e1 : errF h [z] = 2 := by rw [errF_one hok, HZ.out]; rfl
      rw [starved_bad (by rw [e1]; decide), e1]
    rw [HRR.out] at he
    simp only [Prod.mk.injEq] at he
    obtain ⟨rfl, rfl, rfl⟩ := he
    go_wp2
    exact bodyPost_ret (results_tmp3 rfl _ _ _) rfl ⟨rfl, HB3.out⟩
  | true =>
  have hz := HZ.out
  have KS := starvedR_any h hok a1 c1 a2 c2 z hz w3 hh3
  rw [HEV.out, HEZ.out] at KS
  have he0 : errF h [z] = 0 := by rw [errF_one hok, if_pos hz]
  have hsf : starvedF h z = (match starveF h z with | some s => ((s : Nat), (findF h z s).2, 0) | none => (0, false, 4)) := by unfold starvedF; rw [if_pos he0]; cases starveF h z <;> rfl
  rw [HRR.out] at hsf
  have hz0 := bad_zero hok hz
  obtain ⟨y0, y1, y2, y3⟩ := four_cells H3.out
  obtain ⟨x0, x1, x2, x3⟩ := four_cells Q3.out
  unfold starvedP at KS
  cases hst : starveF h z with
  | none =>
    rw [hst] at hsf KS
    simp only [Prod.mk.injEq] at hsf KS
    obtain ⟨rfl, rfl, rfl⟩ := hsf
    have KSS := Lib.hid KS
    clear KS hst hz0 hh3
    go_wp2_with (go_at_call 44; fail)
    refine KSS.out.mono ?_
    rintro e w4 ⟨rfl, hb4⟩
    go_wp2
    exact bodyPost_ret (results_tmp3 rfl _ _ _) rfl ⟨rfl, HB3.out.trans (hb4.mono HB3.out.size)⟩
  | some x =>
    rw [hst] at hsf KS
    simp only [Prod.mk.injEq] at hsf KS
    obtain ⟨rfl, rfl, rfl⟩ := hsf
    have hx0 : x ≠ 0 := fun e => by have := (starve_first hst).2.2.1; rw [e, hz0] at this; cases this
    have hx1 : ((x : Int) == 0) = false := by simp; exact hx0
    have hx2 : ¬ (x : Int) = 0 := by omega
    have KSS := Lib.hid KS
    clear KS hst hz0 hh3
    go_wp2_with (go_at_call 44; fail)
    refine KSS.out.mono ?_
    rintro e w4 ⟨rfl, hb4⟩
    go_wp2
    exact bodyPost_ret (results_tmp3 rfl _ _ _) rfl ⟨rfl, HB3.out.trans (hb4.mono HB3.out.size)⟩
end Go.Proofs.Ytlcmedfjghcigaa
