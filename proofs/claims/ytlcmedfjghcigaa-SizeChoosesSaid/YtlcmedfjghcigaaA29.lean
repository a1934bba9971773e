/- Size: the reference: Choose, Least. -/
import Derived.Test.YtlcmedfjghcigaaA26
import Derived.Test.YtlcmedfjghcigaaA23
import Derived.Test.YtlcmedfjghcigaaA14
namespace Go.Proofs.Ytlcmedfjghcigaa
set_option linter.unusedSimpArgs false
set_option linter.unusedVariables false
open Go.RowKit Go.Maps Go.BigFrame

theorem starvedP_zero {h : Hs} {z : Sz} (hok : hsOk h = true) (hz : szOk z = true) : ((starvedP h z).1 == 0) = fullF h z := by
  unfold starvedP
  cases k : starveF h z with
  | none => rw [starve_none.1 k]; rfl
  | some x =>
    have hx0 : x ≠ 0 := fun e => by have := (starve_first k).2.2.1; rw [e, bad_zero hok hz] at this; cases this
    have : fullF h z = false := by
      cases k2 : fullF h z with
      | false => rfl
      | true => rw [starve_none.2 k2] at k; cases k
    rw [this]
    simp only [beq_eq_false_iff_ne, ne_eq]
    omega
theorem choose_at {h : Hs} {l : List Sz} (hh : hsOk h = true) (hl : szsOk l = true) {i : Nat} (hi : i < l.length) (hf : fullF h l[i]! = true) (hr : hearF h l[i]! = true) (hb : ∀ j, j < i → fullF h l[j]! = true → hearF h l[j]! = false) : chooseF h l = ((i : Int), 0) := by
  rcases choose_facts hh hl with ⟨k, k1, k2, k3, k4, k5⟩ | ⟨_, k2⟩ | ⟨_, k2⟩
  · rcases Nat.lt_trichotomy i k with q | q | q
    · have := k5 i q hf; rw [hr] at this; cases this
    · subst q; exact k2
    · have := hb k q k3; rw [k4] at this; cases this
  · have := k2 i hi; rw [hf] at this; cases this
  · have := k2 i hi hf; rw [hr] at this; cases this
theorem choose_not {h : Hs} {l : List Sz} (hh : hsOk h = true) (hl : szsOk l = true) (hb : ∀ j, j < l.length → fullF h l[j]! = true → hearF h l[j]! = false) {e : Int} (he : (e = 10 ∧ ∀ j, j < l.length → fullF h l[j]! = false) ∨ (e = 11 ∧ ∃ j, j < l.length ∧ fullF h l[j]! = true)) : chooseF h l = (0, e) := by
  rcases choose_facts hh hl with ⟨k, k1, k2, k3, k4, k5⟩ | ⟨k1, k2⟩ | ⟨k1, k2⟩
  · have := hb k k1 k3; rw [k4] at this; cases this
  · rcases he with ⟨rfl, _⟩ | ⟨rfl, j, hj, hf⟩
    · exact k1
    · have := k2 j hj; rw [hf] at this; cases this
  · rcases he with ⟨rfl, h10⟩ | ⟨rfl, _⟩
    · by_cases e0 : enoughF h l = []
      · have : chooseF h l = (0, 10) := by unfold chooseF; rw [if_pos (by unfold errF; rw [if_pos hh, if_pos hl]), e0]
        exact this
      · exfalso
        obtain ⟨x, hx⟩ := List.exists_mem_of_ne_nil _ e0
        unfold enoughF enoughUp at hx
        obtain ⟨q1, q2⟩ := List.mem_filter.1 hx
        rw [h10 x (List.mem_range.1 q1)] at q2; cases q2
    · exact k1
set_option maxRecDepth 100000 in
set_option maxHeartbeats 6400000 in
theorem rChoose_any (h : Hs) (a1 : Option Addr) (c1 : Nat) (a2 : Option Addr) (c2 : Nat) (l : List Sz) (v : Value) (w : World) (hh : HsAt w h a1 c1 a2 c2) (hl : TabAt 4 szC w v l) : Calls Try.prog 19 #[hsV h a1 c1 a2 c2, v] w (IntR w (chooseF h l)) := by
  obtain ⟨la, lc, rfl⟩ := hl.shape
  have mt : h.tp.length ≤ 9223372036854775807 := hh.tp.1
  have ml : l.length ≤ 9223372036854775807 := hl.1
  obtain ⟨⟨r0, r1⟩, hrr⟩ : ∃ x, chooseF h l = x := ⟨_, rfl⟩
  rw [hrr]
  have HRR := Lib.hid hrr
  obtain ⟨W0, hW0⟩ : ∃ X, X = w.alloc (.cells #[.int .i64 h.head, .int .i64 h.drip, .slice a1 h.tp.length c1, .slice a2 h.rl.length c2] 25) := ⟨_, rfl⟩
  have hal : W0 = al w [(.cells #[.int .i64 h.head, .int .i64 h.drip, .slice a1 h.tp.length c1, .slice a2 h.rl.length c2] 25)] := hW0
  have hb0 : Below w.heap.size w W0 := by rw [hal]; exact al_below w _ (Nat.le_refl _)
  have hs0 : W0.heap.size = w.heap.size + 1 := by rw [hal]; exact al_size w _
  have hr0 : W0.heap[w.heap.size]? = some (.cells #[.int .i64 h.head, .int .i64 h.drip, .slice a1 h.tp.length c1, .slice a2 h.rl.length c2] 25 (0, 0)) := by rw [hal]; exact al_get w _ 0 _ rfl
  obtain ⟨P, hP0⟩ : ∃ x, w.heap.size = x := ⟨_, rfl⟩
  rw [hP0] at hr0 hs0
  clear hal
  have HB0 := Lib.hid hb0
  have HP0 := Lib.hid hr0
  have hh0 := hh.below hb0
  have HH0 := Lib.hid hh0
  have HL0 := Lib.hid (hl.below hb0)
  have KH := Lib.hid (House_any h a1 c1 a2 c2 W0 hh0)
  obtain ⟨g, hg⟩ : ∃ b, hsOk h = b := ⟨_, rfl⟩
  have EV : hsV h a1 c1 a2 c2 = .agg #[.int .i64 h.head, .int .i64 h.drip, .slice a1 h.tp.length c1, .slice a2 h.rl.length c2] := rfl
  have HEV := Lib.hid EV
  rw [hg] at KH
  rw [EV] at KH ⊢
  have HG := Lib.hid hg
  obtain ⟨y0, y1, y2, y3⟩ := four_cells hr0
  unfold IntR
  clear hb0 hr0 hs0 hh hh0 hl EV hrr hg
  go_enter Try.func19, Try.ntmps19
  go_upto_region 1 with fail
  rw [← hW0]
  clear hW0 hP0
  go_wp2_with (go_at_call 25; fail)
  refine KH.out.mono ?_
  rintro e w2 ⟨rfl, hb2⟩
  have HB2 := Lib.hid (HB0.out.trans (hb2.mono HB0.out.size))
  have H2 := Lib.hid (box_step (w0 := w) HP0.out hb2)
  have HH2 := Lib.hid (HH0.out.below hb2)
  have hl2 := HL0.out.below hb2
  have HL2 := Lib.hid hl2
  clear hb2 y0 y1 y2 y3
  cases g with
  | false =>
    have he : chooseF h l = (0, 1) := by
      have e0 : errF h l = 1 := by unfold errF; rw [HG.out]; rfl
      unfold chooseF; rw [e0]; rfl
    rw [HRR.out] at he
    simp only [Prod.mk.injEq] at he
    obtain ⟨rfl, rfl⟩ := he
    clear hl2
    go_wp2
    exact bodyPost_ret (results_tmp2 rfl _ _ _) rfl ⟨rfl, HB2.out⟩
  | true =>
  have hok := HG.out
  have KE := Lib.hid (Sizes_any l _ w2 hl2)
  obtain ⟨g, hg⟩ : ∃ b, szsOk l = b := ⟨_, rfl⟩
  rw [hg] at KE
  have HZ := Lib.hid hg
  clear hg hl2
  go_wp2_with (go_at_call 29; fail)
  refine KE.out.mono ?_
  rintro e w3 ⟨rfl, hb3⟩
  have HB3 := Lib.hid (HB2.out.trans (hb3.mono HB2.out.size))
  have H3 := Lib.hid (box_step (w0 := w) H2.out hb3)
  have HH3 := Lib.hid (HH2.out.below hb3)
  have HL3 := Lib.hid (HL2.out.below hb3)
  clear hb3
  cases g with
  | false =>
    have he : chooseF h l = (0, 2) := by
      have e0 : errF h l = 2 := by unfold errF; rw [HG.out, HZ.out]; rfl
      unfold chooseF; rw [e0]; rfl
    rw [HRR.out] at he
    simp only [Prod.mk.injEq] at he
    obtain ⟨rfl, rfl⟩ := he
    go_wp2
    exact bodyPost_ret (results_tmp2 rfl _ _ _) rfl ⟨rfl, HB3.out⟩
  | true =>
  have hsz := HZ.out
  go_wp2_with fail
  go_loopw [6, 7] (fun e i wr => ∃ (j : Nat) (ev : Int), j ≤ l.length ∧ i = .int .i64 j ∧ e = .int .i64 ev ∧ ((ev = 10 ∧ ∀ y, y < j → fullF h l[y]! = false) ∨ (ev = 11 ∧ ∃ y, y < j ∧ fullF h l[y]! = true)) ∧ (∀ y, y < j → fullF h l[y]! = true → hearF h l[y]! = false) ∧ Below w3.heap.size w3 wr) (fun _ i _ => l.length - (intOf i).toNat)
  case atStart => exact ⟨0, 10, by omega, rfl, rfl, .inl ⟨rfl, fun y hy => absurd hy (Nat.not_lt_zero _)⟩, (fun y hy => absurd hy (Nat.not_lt_zero _)), Below.refl _ _⟩
  case round =>
    obtain ⟨j, ev, hj, rfl, rfl, hev, hfo, hbw⟩ := hrel
    have HEVV := Lib.hid hev
    have HFO := Lib.hid hfo
    have HBW := Lib.hid hbw
    by_cases hlt : j < l.length
    · obtain ⟨lb, lo, e1, hlb, hlx⟩ := HL3.out.at (by omega)
      subst e1
      have x0 := (hbw.cell (p := ⟨lb, lo + j * 4 + 0, none⟩) hlb).trans (hlx j hlt 0 (by omega))
      have x1 := (hbw.cell (p := ⟨lb, lo + j * 4 + 1, none⟩) hlb).trans (hlx j hlt 1 (by omega))
      have x2 := (hbw.cell (p := ⟨lb, lo + j * 4 + 2, none⟩) hlb).trans (hlx j hlt 2 (by omega))
      have x3 := (hbw.cell (p := ⟨lb, lo + j * 4 + 3, none⟩) hlb).trans (hlx j hlt 3 (by omega))
      have hzok : szOk (l.getD j default) = true := by
        have := (szsOk_iff.1 hsz).2 j hlt
        unfold SzOkAt at this
        rw [Bool.and_eq_true] at this
        rw [getD_bang l hlt]
        exact this.1
      have hge := getD_bang l hlt
      obtain ⟨⟨s0, s1, s2, s3⟩, hz⟩ : ∃ z, l.getD j default = z := ⟨_, rfl⟩
      rw [hz] at x0 x1 x2 x3 hzok hge
      simp only [Nat.add_zero, szC] at x0 x1 x2 x3
      have KS := fun X hx => starvedR_any h hok a1 c1 a2 c2 ⟨s0, s1, s2, s3⟩ hzok X hx
      have hz0 := starvedP_zero hok hzok
      obtain ⟨⟨sx, sp⟩, hsp⟩ : ∃ x, starvedP h ⟨s0, s1, s2, s3⟩ = x := ⟨_, rfl⟩
      rw [hsp] at KS hz0
      rw [hge] at hz0
      obtain ⟨F, hF⟩ : ∃ b, fullF h l[j]! = b := ⟨_, rfl⟩
      rw [hF] at hz0
      have hhr : hearF h l[j]! = decide (s0 ≤ h.drip) := by rw [← hge]; rfl
      have HF := Lib.hid hF
      have HHR := Lib.hid hhr
      simp only [] at hz0
      unfold szV at KS
      rw [HEV.out] at KS
      simp only [] at KS
      have hp := box_step (w0 := w) H3.out hbw
      have hhw := HH3.out.below hbw
      obtain ⟨y0, y1, y2, y3⟩ := four_cells hp
      have ij0 : (0 : Int) ≤ (j : Int) := by omega
      have ij1 : (j : Int) < (l.length : Int) := Int.ofNat_lt.2 hlt
      have w1 : IntKind.i64.wrap ((j : Int) + 1) = (j : Int) + 1 := IntWalk.i64_in _ (by omega)
      have k0 := cell_regrown y0
      have k1 := cell_regrown y1
      have k2 := cell_regrown y2
      have k3 := cell_regrown y3
      have k5 := cell_regrown x0
      have k6 := cell_regrown x1
      have k7 := cell_regrown x2
      have k8 := cell_regrown x3
      have C1 := fun d os => Calls.regrown_of (w := wr) (d := d) (os := os) (KS _ (hhw.below (below_regrown wr d os)))
      have HX := Lib.hid (show wr.cell? ⟨lb, lo + j * 4, none⟩ = some (.int .i64 s0) ∧ wr.cell? ⟨P, 1, none⟩ = some (.int .i64 h.drip) ∧ lb < wr.heap.size ∧ P < wr.heap.size from ⟨x0, y1, Nat.lt_of_lt_of_le hlb hbw.size, (Array.getElem?_eq_some_iff.1 hp).1⟩)
      clear hlx hge hz hsp hF hhr hzok hp hhw KS hev hfo hbw hlb
      go_upto_region 9 with fail
      clear x0 x1 x2 x3 y0 y1 y2 y3
      refine wp_region_quiet_below (by kernel_rfl) (by kernel_rfl) ?_
      repeat (go_big_quiet_step (first | with_reducible exact C1 _ _))
      refine wpQuiet_nil ?_
      intro Y hw'
      have hbr : Below wr.heap.size wr Y := by obtain ⟨⟨dq, osq⟩, hw2⟩ := hw'; rw [hw2]; exact below_regrown wr dq osq
      clear hw' C1 k0 k1 k2 k3 k5 k6 k7 k8
      have HBY := Lib.hid (HBW.out.trans (hbr.mono HBW.out.size))
      obtain ⟨q0, q1, q2, q3⟩ := HX.out
      have x0 := (hbr.cell (p := ⟨lb, lo + j * 4, none⟩) q2).trans q0
      have y1 := (hbr.cell (p := ⟨P, 1, none⟩) q3).trans q1
      clear q0 q1 q2 q3 hbr HX
      cases F with
      | false =>
        have hz1 : ¬ sx = 0 := by simpa using hz0
        go_upto_region 10 with fail
        go_quiet (fail)
        go_wp2
        go_roundw
        case rel => exact ⟨j + 1, ev, by omega, by go_num, rfl, (by
          rcases HEVV.out with ⟨e1, e2⟩ | ⟨e1, y, e2, e3⟩
          · exact .inl ⟨e1, fun y hy => by
              by_cases e : y = j
              · subst e; exact HF.out
              · exact e2 y (by omega)⟩
          · exact .inr ⟨e1, y, by omega, e3⟩), (fun y hy hf => by
          by_cases e : y = j
          · subst e; rw [HF.out] at hf; cases hf
          · exact HFO.out y (by omega) hf), below_drewn HBY.out _⟩
        case measure => simp [intOf]; omega
      | true =>
        have hz1 : sx = 0 := by simpa using hz0
        subst hz1
        by_cases g3 : s0 ≤ h.drip
        · have he := choose_at hok hsz hlt HF.out (by rw [HHR.out]; simpa using g3) HFO.out
          rw [HRR.out] at he
          simp only [Prod.mk.injEq] at he
          obtain ⟨rfl, rfl⟩ := he
          go_upto_region 10 with fail
          go_quiet (fail)
          go_wp2
          exact bodyPost_ret (results_tmp2 rfl _ _ _) rfl ⟨rfl, below_drewn (HB3.out.trans (HBY.out.mono HB3.out.size)) _⟩
        · have g3b : decide (s0 ≤ h.drip) = false := by simpa using g3
          have HG3 := Lib.hid g3b
          go_upto_region 10 with fail
          go_quiet (fail)
          go_wp2
          go_roundw
          case rel => exact ⟨j + 1, 11, by omega, by go_num, rfl, .inr ⟨rfl, j, by omega, HF.out⟩, (fun y hy hf => by
            by_cases e : y = j
            · subst e; rw [HHR.out]; exact HG3.out
            · exact HFO.out y (by omega) hf), below_drewn HBY.out _⟩
          case measure => simp [intOf]; omega
    · have hjl : j = l.length := by omega
      have i1 : ¬ (j : Int) < (l.length : Int) := by omega
      subst hjl
      have he := choose_not hok hsz hfo hev
      rw [HRR.out] at he
      simp only [Prod.mk.injEq] at he
      obtain ⟨rfl, rfl⟩ := he
      clear hev hfo hbw
      go_wp2
      exact bodyPost_ret (results_tmp2 rfl _ _ _) rfl ⟨rfl, HB3.out.trans (HBW.out.mono HB3.out.size)⟩
end Go.Proofs.Ytlcmedfjghcigaa
