/- Size: the walk of SizePair. -/
import Derived.Test.YtlcmedfjghcigaaM3
import Derived.Test.YtlcmedfjghcigaaA24
import Derived.Test.YtlcmedfjghcigaaA21
namespace Go.Proofs.Ytlcmedfjghcigaa
set_option linter.unusedSimpArgs false
set_option linter.unusedVariables false
open Go.RowKit Go.Maps Go.BigFrame

set_option maxRecDepth 100000 in
set_option maxHeartbeats 6400000 in
theorem goodC_any (h : Hs) (hok : hsOk h = true) (a1 : Option Addr) (c1 : Nat) (a2 : Option Addr) (c2 P Q : Nat) (l : List Sz) (la : Option Addr) (lc : Nat) (i k : Nat) (hi : i < l.length) (hk : k < l.length) (hz : szOk l[k]! = true) (w : World) (hh : HsAt w h a1 c1 a2 c2) (hl : TabAt 4 szC w (.slice la l.length lc) l) (hp : w.heap[P]? = some (.cells #[.int .i64 h.head, .int .i64 h.drip, .slice a1 h.tp.length c1, .slice a2 h.rl.length c2] 25 (0, 0))) (hq : w.heap[Q]? = some (.cells #[.slice la l.length lc] 38 (0, 0))) : Calls Try.prog 33 #[.int .i64 (i : Nat), .int .i64 (k : Nat), .pointer (some ⟨P, 0, none⟩), .pointer (some ⟨Q, 0, none⟩)] w fun e w' => e = .returned (.bool (goodL h l i k)) ∧ Below w.heap.size w w' := by
  have hll : l.length ≤ 9223372036854775807 := hl.1
  obtain ⟨lb, lo, e1, hlb, hlx⟩ := hl.at (by omega)
  subst e1
  have gi := getD_bang l hi
  have gk := getD_bang l hk
  have x0 := hlx k hk 0 (by omega)
  have x1 := hlx k hk 1 (by omega)
  have x2 := hlx k hk 2 (by omega)
  have x3 := hlx k hk 3 (by omega)
  have u0 := hlx i hi 0 (by omega)
  have u1 := hlx i hi 1 (by omega)
  have hg : goodL h l i k = (decide (i < k) && (fullF h (l.getD k default) && (decide ((l.getD i default).start ≤ h.drip) && decide ((l.getD k default).start ≤ (l.getD i default).full)))) := by rw [gi, gk]; rfl
  rw [← gk] at hz
  obtain ⟨⟨s0, s1, s2, s3⟩, hzk⟩ : ∃ z, l.getD k default = z := ⟨_, rfl⟩
  obtain ⟨⟨r0, r1, r2, r3⟩, hzi⟩ : ∃ z, l.getD i default = z := ⟨_, rfl⟩
  rw [hzk] at x0 x1 x2 x3 hg hz
  rw [hzi] at u0 u1 hg
  simp only [Nat.add_zero, szC] at x0 x1 x2 x3 u0 u1
  have KS := fun X => Starved_any h a1 c1 a2 c2 ⟨s0, s1, s2, s3⟩ X
  obtain ⟨f0, f1, f2, hr⟩ : ∃ x b e, starvedF h ⟨s0, s1, s2, s3⟩ = (x, b, e) := ⟨_, _, _, rfl⟩
  have hn := none_full hok hz
  have hn2 : noneF h ⟨s0, s1, s2, s3⟩ = decide (f2 = 4) := by unfold noneF; rw [hr]
  rw [hn2] at hn
  rw [hr] at KS
  unfold MixR szV hsV at KS
  rw [hg, ← hn]
  obtain ⟨y0, y1, y2, y3⟩ := four_cells hp
  have z0 := one_cell hq
  have ij0 : (0 : Int) ≤ (k : Int) := by omega
  have ij1 : (k : Int) < (l.length : Int) := Int.ofNat_lt.2 hk
  have ii0 : (0 : Int) ≤ (i : Int) := by omega
  have ii1 : (i : Int) < (l.length : Int) := Int.ofNat_lt.2 hi
  have k0 := cell_regrown y0
  have k1 := cell_regrown y1
  have k2 := cell_regrown y2
  have k3 := cell_regrown y3
  have k4 := cell_regrown z0
  have k5 := cell_regrown x0
  have k6 := cell_regrown x1
  have k7 := cell_regrown x2
  have k8 := cell_regrown x3
  have C1 := fun d os => Calls.regrown_of (w := w) (d := d) (os := os) (KS _ (hh.below (below_regrown w d os)))
  have HX := Lib.hid (show w.cell? ⟨lb, lo + k * 4, none⟩ = some (.int .i64 s0) ∧ w.cell? ⟨lb, lo + i * 4, none⟩ = some (.int .i64 r0) ∧ w.cell? ⟨lb, lo + i * 4 + 1, none⟩ = some (.int .i64 r1) ∧ w.cell? ⟨P, 1, none⟩ = some (.int .i64 h.drip) ∧ w.cell? ⟨Q, 0, none⟩ = some (.slice (some ⟨lb, lo, none⟩) l.length lc) from ⟨x0, u0, u1, y1, z0⟩)
  have HPB := Lib.hid (show P < w.heap.size ∧ Q < w.heap.size ∧ lb < w.heap.size from ⟨(Array.getElem?_eq_some_iff.1 hp).1, (Array.getElem?_eq_some_iff.1 hq).1, hlb⟩)
  clear hlx hl hh hp hq gi gk hzk hzi hr hn hn2 hg hz KS u0 u1
  go_enter Try.func33, Try.ntmps33
  go_upto_region 1 with fail
  clear x0 x1 x2 x3 y0 y1 y2 y3 z0
  refine wp_region_quiet_below (by kernel_rfl) (by kernel_rfl) ?_
  repeat (go_big_quiet_step (first | with_reducible exact C1 _ _))
  refine wpQuiet_nil ?_
  intro W5 hw'
  have hbr : Below w.heap.size w W5 := by obtain ⟨⟨dq, osq⟩, hw''⟩ := hw'; rw [hw'']; exact below_regrown w dq osq
  clear hw' C1 k0 k1 k2 k3 k4 k5 k6 k7 k8
  have HBR := Lib.hid hbr
  obtain ⟨q0, q1, q2, q3, q4⟩ := HX.out
  have x0 := (hbr.cell (p := ⟨lb, lo + k * 4, none⟩) HPB.out.2.2).trans q0
  have u0 := (hbr.cell (p := ⟨lb, lo + i * 4, none⟩) HPB.out.2.2).trans q1
  have u1 := (hbr.cell (p := ⟨lb, lo + i * 4 + 1, none⟩) HPB.out.2.2).trans q2
  have y1 := (hbr.cell (p := ⟨P, 1, none⟩) HPB.out.1).trans q3
  have z0 := (hbr.cell (p := ⟨Q, 0, none⟩) HPB.out.2.1).trans q4
  clear q0 q1 q2 q3 q4 hbr HX
  by_cases g1 : i < k
  · have g1i : (i : Int) < (k : Int) := by omega
    by_cases g2 : f2 = 4
    · have g2b : (f2 == 4) = true := by simpa using g2
      subst g2
      by_cases g3 : r0 ≤ h.drip
      · by_cases g4 : s0 ≤ r1
        · go_upto_region 2 with fail
          go_quiet (fail)
          go_wp2
          go_ret
          exact ⟨by simp [g1, g3, g4], below_drewn HBR.out _⟩
        · have g4b : decide (s0 ≤ r1) = false := by simpa using g4
          go_upto_region 2 with fail
          go_quiet (fail)
          go_wp2
          go_ret
          exact ⟨by simp [g1, g3, g4], below_drewn HBR.out _⟩
      · have g3b : decide (r0 ≤ h.drip) = false := by simpa using g3
        go_upto_region 2 with fail
        go_quiet (fail)
        go_wp2
        go_ret
        exact ⟨by simp [g1, g3], below_drewn HBR.out _⟩
    · have g2b : (f2 == 4) = false := by simpa using g2
      go_upto_region 2 with fail
      go_quiet (fail)
      go_wp2
      go_ret
      exact ⟨by simp [g1, g2], below_drewn HBR.out _⟩
  · have g1b : decide ((i : Int) < (k : Int)) = false := by simp; omega
    have g1c : decide (i < k) = false := by simpa using g1
    go_upto_region 2 with fail
    go_quiet (fail)
    go_wp2
    go_ret
    exact ⟨by simp [g1], below_drewn HBR.out _⟩
set_option maxRecDepth 100000 in
set_option maxHeartbeats 12800000 in
theorem pair_law (h : Hs) (a1 : Option Addr) (c1 : Nat) (a2 : Option Addr) (c2 : Nat) (l : List Sz) (v : Value) (ta tb : Nat) (hta : ta ≤ 255) (htb : tb ≤ 255) (w : World) (hh : HsAt w h a1 c1 a2 c2) (hl : TabAt 4 szC w v l) : Calls Try.prog 9 #[hsV h a1 c1 a2 c2, v, .int .u8 (ta : Nat), .int .u8 (tb : Nat)] w fun e w' => e = .returned (.bool true) ∧ Below w.heap.size w w' := by
  obtain ⟨la, lc, rfl⟩ := hl.shape
  have mt : h.tp.length ≤ 9223372036854775807 := hh.tp.1
  have ml : l.length ≤ 9223372036854775807 := hl.1
  obtain ⟨W0, hW0⟩ : ∃ X, X = (w.alloc (.cells #[.int .i64 h.head, .int .i64 h.drip, .slice a1 h.tp.length c1, .slice a2 h.rl.length c2] 25)).alloc (.cells #[.slice la l.length lc] 38) := ⟨_, rfl⟩
  have hal : W0 = al w [(.cells #[.int .i64 h.head, .int .i64 h.drip, .slice a1 h.tp.length c1, .slice a2 h.rl.length c2] 25), (.cells #[.slice la l.length lc] 38)] := hW0
  have hb0 : Below w.heap.size w W0 := by rw [hal]; exact al_below w _ (Nat.le_refl _)
  have hs0 : W0.heap.size = w.heap.size + 2 := by rw [hal]; exact al_size w _
  have hr0 : W0.heap[w.heap.size]? = some (.cells #[.int .i64 h.head, .int .i64 h.drip, .slice a1 h.tp.length c1, .slice a2 h.rl.length c2] 25 (0, 0)) := by rw [hal]; exact al_get w _ 0 _ rfl
  have hr1 : W0.heap[w.heap.size + 1]? = some (.cells #[.slice la l.length lc] 38 (0, 0)) := by rw [hal]; exact al_get w _ 1 _ rfl
  obtain ⟨P, hP0⟩ : ∃ x, w.heap.size = x := ⟨_, rfl⟩
  rw [hP0] at hr0 hr1 hs0
  obtain ⟨Q, hP1⟩ : ∃ x, P + 1 = x := ⟨_, rfl⟩
  rw [hP1] at hr1
  clear hal
  have HB := Lib.hid hb0
  have H0 := Lib.hid hr0
  have H1 := Lib.hid hr1
  have hh0 := hh.below hb0
  have HL0 := Lib.hid (hl.below hb0)
  have HH0 := Lib.hid hh0
  have KG := Lib.hid (great_any h a1 c1 a2 c2 7 W0 hh0)
  have KA := Lib.hid alive_any
  obtain ⟨g, hg⟩ : ∃ g, greatB h 7 = g := ⟨_, rfl⟩
  rw [hg] at KG
  obtain ⟨y0, y1, y2, y3⟩ := four_cells hr0
  have z0 := one_cell hr1
  clear hb0 hr0 hr1 hs0 hh hl hh0 hg
  have EV : hsV h a1 c1 a2 c2 = .agg #[.int .i64 h.head, .int .i64 h.drip, .slice a1 h.tp.length c1, .slice a2 h.rl.length c2] := rfl
  have HEV := Lib.hid EV
  rw [EV] at KG ⊢
  clear EV
  go_enter Try.func9, Try.ntmps9
  go_upto_region 1 with fail
  rw [← hW0]
  clear hW0 hP0 hP1
  cases g with
  | true =>
    go_wp2_with (go_at_call 12; fail)
    refine KG.out.mono ?_
    rintro e w2 ⟨rfl, hb2⟩
    have HB2 := Lib.hid (HB.out.trans (hb2.mono HB.out.size))
    have h2 := box_step (w0 := w) H0.out hb2
    have q2 := box_step (w0 := w) H1.out hb2
    have hh2 := HH0.out.below hb2
    have hl2 := HL0.out.below hb2
    have H2 := Lib.hid h2
    have Q2 := Lib.hid q2
    have HH2 := Lib.hid hh2
    have HL2 := Lib.hid hl2
    clear hb2 y0 y1 y2 y3 z0
    obtain ⟨y0, y1, y2, y3⟩ := four_cells h2
    have z0 := one_cell q2
    clear h2 q2 hl2
    go_wp2_with (go_at_call 13; fail)
    refine (KA.out _).mono ?_
    rintro e w3 ⟨rfl, hbz⟩
    go_wp2
    go_ret
    exact ⟨rfl, HB2.out.trans (hbz.mono HB2.out.size)⟩
  | false =>
  by_cases hl18 : 18 < l.length
  · have hg1 : ((l.length : Int) > 18) := by omega
    go_wp2_with (go_at_call 12; fail)
    refine KG.out.mono ?_
    rintro e w2 ⟨rfl, hb2⟩
    have HB2 := Lib.hid (HB.out.trans (hb2.mono HB.out.size))
    have h2 := box_step (w0 := w) H0.out hb2
    have q2 := box_step (w0 := w) H1.out hb2
    have hh2 := HH0.out.below hb2
    have hl2 := HL0.out.below hb2
    have H2 := Lib.hid h2
    have Q2 := Lib.hid q2
    have HH2 := Lib.hid hh2
    have HL2 := Lib.hid hl2
    clear hb2 y0 y1 y2 y3 z0
    obtain ⟨y0, y1, y2, y3⟩ := four_cells h2
    have z0 := one_cell q2
    clear h2 q2 hl2
    go_wp2_with (go_at_call 13; fail)
    refine (KA.out _).mono ?_
    rintro e w3 ⟨rfl, hbz⟩
    go_wp2
    go_ret
    exact ⟨rfl, HB2.out.trans (hbz.mono HB2.out.size)⟩
  · have hg1 : ¬ ((l.length : Int) > 18) := by omega
    by_cases hl2' : l.length < 2
    · have hg2 : ((l.length : Int) < 2) := by omega
      go_wp2_with (go_at_call 12; fail)
      refine KG.out.mono ?_
      rintro e w2 ⟨rfl, hb2⟩
      have HB2 := Lib.hid (HB.out.trans (hb2.mono HB.out.size))
      have h2 := box_step (w0 := w) H0.out hb2
      have q2 := box_step (w0 := w) H1.out hb2
      have hh2 := HH0.out.below hb2
      have hl2 := HL0.out.below hb2
      have H2 := Lib.hid h2
      have Q2 := Lib.hid q2
      have HH2 := Lib.hid hh2
      have HL2 := Lib.hid hl2
      clear hb2 y0 y1 y2 y3 z0
      obtain ⟨y0, y1, y2, y3⟩ := four_cells h2
      have z0 := one_cell q2
      clear h2 q2 hl2
      go_wp2_with (go_at_call 13; fail)
      refine (KA.out _).mono ?_
      rintro e w3 ⟨rfl, hbz⟩
      go_wp2
      go_ret
      exact ⟨rfl, HB2.out.trans (hbz.mono HB2.out.size)⟩
    · have hg2 : ¬ ((l.length : Int) < 2) := by omega
      go_wp2_with (go_at_call 12; fail)
      refine KG.out.mono ?_
      rintro e w2 ⟨rfl, hb2⟩
      have HB2 := Lib.hid (HB.out.trans (hb2.mono HB.out.size))
      have h2 := box_step (w0 := w) H0.out hb2
      have q2 := box_step (w0 := w) H1.out hb2
      have hh2 := HH0.out.below hb2
      have hl2 := HL0.out.below hb2
      have H2 := Lib.hid h2
      have Q2 := Lib.hid q2
      have HH2 := Lib.hid hh2
      have HL2 := Lib.hid hl2
      clear hb2 y0 y1 y2 y3 z0
      obtain ⟨y0, y1, y2, y3⟩ := four_cells h2
      have z0 := one_cell q2
      clear h2 q2 hl2
      have KH := Lib.hid (House_any h a1 c1 a2 c2 w2 hh2)
      rw [HEV.out] at KH
      obtain ⟨b, hb⟩ : ∃ b, hsOk h = b := ⟨_, rfl⟩
      rw [hb] at KH
      have HOK := Lib.hid hb
      clear hh2 hb
      go_wp2_with (go_at_call 25; fail)
      refine KH.out.mono ?_
      rintro e w3 ⟨rfl, hb3⟩
      have HB3 := Lib.hid (HB2.out.trans (hb3.mono HB2.out.size))
      have h3 := box_step (w0 := w) H2.out hb3
      have q3 := box_step (w0 := w) Q2.out hb3
      have H3 := Lib.hid h3
      have Q3 := Lib.hid q3
      have HH3 := Lib.hid (HH2.out.below hb3)
      have hl3 := HL2.out.below hb3
      have HL3 := Lib.hid hl3
      clear hb3 y0 y1 y2 y3 z0
      obtain ⟨y0, y1, y2, y3⟩ := four_cells h3
      have z0 := one_cell q3
      clear h3 q3
      cases b with
      | false =>
        go_wp2_with (go_at_call 13; fail)
        refine (KA.out _).mono ?_
        rintro e w4 ⟨rfl, hbz⟩
        go_wp2
        go_ret
        exact ⟨rfl, HB3.out.trans (hbz.mono HB3.out.size)⟩
      | true =>
        have hok := HOK.out
        have KE := Lib.hid (Sizes_any l _ w3 hl3)
        obtain ⟨b, hb⟩ : ∃ b, szsOk l = b := ⟨_, rfl⟩
        rw [hb] at KE
        have HSZ := Lib.hid hb
        clear hl3 hb
        go_wp2_with (go_at_call 29; fail)
        refine KE.out.mono ?_
        rintro e w4 ⟨rfl, hb4⟩
        have HB4 := Lib.hid (HB3.out.trans (hb4.mono HB3.out.size))
        have h4 := box_step (w0 := w) H3.out hb4
        have q4 := box_step (w0 := w) Q3.out hb4
        have H4 := Lib.hid h4
        have Q4 := Lib.hid q4
        have hh4 := HH3.out.below hb4
        have hl4 := HL3.out.below hb4
        have HH4 := Lib.hid hh4
        have HL4 := Lib.hid hl4
        clear hb4 y0 y1 y2 y3 z0
        obtain ⟨y0, y1, y2, y3⟩ := four_cells h4
        have z0 := one_cell q4
        clear h4 q4
        cases b with
        | false =>
          go_wp2_with (go_at_call 13; fail)
          refine (KA.out _).mono ?_
          rintro e w5 ⟨rfl, hbz⟩
          go_wp2
          go_ret
          exact ⟨rfl, HB4.out.trans (hbz.mono HB4.out.size)⟩
        | true =>
          have hsz := HSZ.out
          have hfa := pair_facts hok hsz
          have KP := Pair_any h a1 c1 a2 c2 l _ w4 hh4 hl4
          obtain ⟨p0, p1, p2, p3, hpr⟩ : ∃ a b c d, pairR h l = (a, b, c, d) := ⟨_, _, _, _, rfl⟩
          rw [hpr, HEV.out] at KP
          rw [hpr] at hfa
          unfold FourR at KP
          have KPP := Lib.hid KP
          have HFA := Lib.hid hfa
          have hmf : ∀ (fn : Fn) (first cap : Array Value) (w : World), (Instr.makeFunc fn first cap).run Try.prog w = .ok (.func fn first cap) w := fun _ _ _ _ => rfl
          clear KP hfa hpr hh4 hl4
          go_wp2_with (go_at_call 20; fail)
          refine KPP.out.mono ?_
          rintro e w5 ⟨rfl, hb5⟩
          have HB5 := Lib.hid (HB4.out.trans (hb5.mono HB4.out.size))
          have H5 := Lib.hid (box_step (w0 := w) H4.out hb5)
          have q5 := box_step (w0 := w) Q4.out hb5
          have Q5 := Lib.hid q5
          have HH5 := Lib.hid (HH4.out.below hb5)
          have HL5 := Lib.hid (HL4.out.below hb5)
          clear hb5 y0 y1 y2 y3 z0 KPP KE KH KG HB4 HB3 HB2 H4 H3 H2 H0 Q4 Q3 Q2 H1 HH4 HH3 HH2 HH0 HL4 HL3 HL2 HL0
          have hl0 : 0 < l.length := by omega
          obtain ⟨i, hi⟩ : ∃ i, ta % l.length = i := ⟨_, rfl⟩
          obtain ⟨k, hk⟩ : ∃ i, tb % l.length = i := ⟨_, rfl⟩
          have hil : i < l.length := by rw [← hi]; exact Nat.mod_lt _ hl0
          have hkl : k < l.length := by rw [← hk]; exact Nat.mod_lt _ hl0
          have htm : Int.tmod (ta : Int) (l.length : Int) = (i : Int) := by rw [Int.tmod_eq_emod_of_nonneg (by omega), ← hi]; rfl
          have htn : Int.tmod (tb : Int) (l.length : Int) = (k : Int) := by rw [Int.tmod_eq_emod_of_nonneg (by omega), ← hk]; rfl
          have v1 : IntKind.i64.wrap (ta : Int) = (ta : Int) := IntWalk.i64_in _ (by omega)
          have v2 : IntKind.i64.wrap (tb : Int) = (tb : Int) := IntWalk.i64_in _ (by omega)
          have v3 : IntKind.i64.wrap (i : Int) = (i : Int) := IntWalk.i64_in _ (by omega)
          have v4 : IntKind.i64.wrap (k : Int) = (k : Int) := IntWalk.i64_in _ (by omega)
          have inz : ¬ l = [] := fun e => by rw [e] at hl0; exact absurd hl0 (Nat.not_lt_zero _)
          have z0 := one_cell q5
          have k4 := cell_regrown z0
          clear q5
          go_upto_region 5 with fail
          clear z0
          refine wp_region_quiet_below (by kernel_rfl) (by kernel_rfl) ?_
          repeat (go_big_quiet_step (fail))
          refine wpQuiet_nil ?_
          intro W6 hw'
          have hbr : Below w5.heap.size w5 W6 := by obtain ⟨⟨dq, osq⟩, hw''⟩ := hw'; rw [hw'']; exact below_regrown w5 dq osq
          clear hw' k4 htm htn v1 v2 v3 v4
          have HB6 := Lib.hid (HB5.out.trans (hbr.mono HB5.out.size))
          have h6 := box_step (w0 := w) H5.out hbr
          have q6 := box_step (w0 := w) Q5.out hbr
          have H6 := Lib.hid h6
          have Q6 := Lib.hid q6
          have HH6 := Lib.hid (HH5.out.below hbr)
          have HL6 := Lib.hid (HL5.out.below hbr)
          clear hbr H5 Q5 HH5 HL5 HB5
          have HZO : Hid (∀ k, k < l.length → szOk l[k]! = true) := Lib.hid (fun k hk => by
            have := (szsOk_iff.1 hsz).2 k hk
            unfold SzOkAt at this
            rw [Bool.and_eq_true] at this
            exact this.1)
          have KN := Lib.hid (fun (i k : Nat) (hi : i < l.length) (hk : k < l.length) (w : World) hh hl hp hq => goodC_any h hok a1 c1 a2 c2 P Q l la lc i k hi hk (HZO.out k hk) w hh hl hp hq)
          rcases HFA.out with ⟨q1, q2⟩ | ⟨si, sk, q1, q2, q3, q4, q5⟩
          · simp only [Prod.mk.injEq] at q1
            obtain ⟨rfl, rfl, rfl, rfl⟩ := q1
            have K1 := KN.out i k hil hkl W6 HH6.out HL6.out h6 q6
            rw [q2 i k hil hkl] at K1
            have K1H := Lib.hid K1
            clear K1 h6 q6 HFA q2
            go_wp2_with (go_at_call 33; fail)
            refine K1H.out.mono ?_
            rintro e w7 ⟨rfl, hb7⟩
            have HB7 := Lib.hid (HB6.out.trans (hb7.mono HB6.out.size))
            clear hb7
            go_wp2_with (go_at_call 13; fail)
            refine (KA.out _).mono ?_
            rintro e w8 ⟨rfl, hbz⟩
            go_wp2
            go_ret
            exact ⟨rfl, HB7.out.trans (hbz.mono HB7.out.size)⟩
          · simp only [Prod.mk.injEq] at q3
            obtain ⟨rfl, rfl, rfl, rfl⟩ := q3
            obtain ⟨lb, lo, e1, hlb, hlx⟩ := HL6.out.at hl0
            subst e1
            have hsi : si < l.length := by omega
            have x3 := hlx si hsi 3 (by omega)
            have u3 := hlx sk q2 3 (by omega)
            have i3 := hlx i hil 3 (by omega)
            have k3 := hlx k hkl 3 (by omega)
            rw [getD_bang l hsi] at x3
            rw [getD_bang l q2] at u3
            rw [getD_bang l hil] at i3
            rw [getD_bang l hkl] at k3
            have b1 := (szOk_iff.1 (HZO.out si hsi)).2.2.2
            have b2 := (szOk_iff.1 (HZO.out sk q2)).2.2.2
            have b3 := (szOk_iff.1 (HZO.out i hil)).2.2.2
            have b4 := (szOk_iff.1 (HZO.out k hkl)).2.2.2
            simp only [szC] at x3 u3 i3 k3
            have HQ5 := Lib.hid (q5 i k hil hkl)
            have C0 := fun (W : World) hh hl hp hq => KN.out si sk hsi q2 W hh hl hp hq
            rw [q4] at C0
            obtain ⟨A1, hA1⟩ : ∃ x, l[si]!.price = x := ⟨_, rfl⟩
            obtain ⟨A2, hA2⟩ : ∃ x, l[sk]!.price = x := ⟨_, rfl⟩
            obtain ⟨A3, hA3⟩ : ∃ x, l[i]!.price = x := ⟨_, rfl⟩
            obtain ⟨A4, hA4⟩ : ∃ x, l[k]!.price = x := ⟨_, rfl⟩
            rw [hA1] at x3 b1 HQ5 ⊢
            rw [hA2] at u3 b2 HQ5 ⊢
            rw [hA3] at i3 b3 HQ5
            rw [hA4] at k3 b4 HQ5
            have w1 : IntKind.i64.wrap (A1 + A2) = A1 + A2 := IntWalk.i64_in _ (by omega)
            have w2 : IntKind.i64.wrap (A3 + A4) = A3 + A4 := IntWalk.i64_in _ (by omega)
            have s1 : decide ((si : Int) < 0) = false := by simp
            have s2 : decide ((sk : Int) ≤ (si : Int)) = false := by simp; omega
            have s3 : decide (sk ≤ si) = false := by simp; omega
            have s4 : decide ((sk : Int) ≥ (l.length : Int)) = false := by simp; omega
            have s5 : decide (l.length ≤ sk) = false := by simp; omega
            have j1 : (0 : Int) ≤ (si : Int) := by omega
            have j2 : (si : Int) < (l.length : Int) := by omega
            have j3 : (0 : Int) ≤ (sk : Int) := by omega
            have j4 : (sk : Int) < (l.length : Int) := by omega
            have z0 := one_cell q6
            have r0 := cell_regrown z0
            have r1 := cell_regrown x3
            have r2 := cell_regrown u3
            have C1 := fun d os => Calls.regrown_of (w := W6) (d := d) (os := os) (C0 _ (HH6.out.below (below_regrown W6 d os)) (HL6.out.below (below_regrown W6 d os)) (box_step (w0 := w) h6 (below_regrown W6 d os)) (box_step (w0 := w) q6 (below_regrown W6 d os)))
            have HX := Lib.hid (show W6.cell? ⟨lb, lo + i * 4 + 3, none⟩ = some (.int .i64 A3) ∧ W6.cell? ⟨lb, lo + k * 4 + 3, none⟩ = some (.int .i64 A4) from ⟨i3, k3⟩)
            clear q5 hA1 hA2 hA3 hA4 HFA C0 hlx h6 q6 i3 k3 b1 b2 b3 b4
            go_upto_region 8 with fail
            clear z0 x3 u3
            refine wp_region_quiet_below (by kernel_rfl) (by kernel_rfl) ?_
            try simp only [List.append]
            repeat (go_big_quiet_step (first | with_reducible exact C1 _ _))
            refine wpQuiet_nil ?_
            intro W7 hw'
            have hbr : Below W6.heap.size W6 W7 := by obtain ⟨⟨dq, osq⟩, hw''⟩ := hw'; rw [hw'']; exact below_regrown W6 dq osq
            clear hw' r0 r1 r2 C1
            have HB7 := Lib.hid (HB6.out.trans (hbr.mono HB6.out.size))
            have h7 := box_step (w0 := w) H6.out hbr
            have q7 := box_step (w0 := w) Q6.out hbr
            have H7 := Lib.hid h7
            have Q7 := Lib.hid q7
            have HBR := Lib.hid hbr
            have hlb7 : lb < W7.heap.size := Nat.lt_of_lt_of_le hlb hbr.size
            have K2 := KN.out i k hil hkl W7 (HH6.out.below hbr) (HL6.out.below hbr) h7 q7
            obtain ⟨B, hB⟩ : ∃ B, goodL h l i k = B := ⟨_, rfl⟩
            rw [hB] at K2
            have K2H := Lib.hid K2
            have HBB := Lib.hid hB
            clear K2 hbr hB h7 q7 H6 Q6 HL6 HH6 s1 s2 s3 s4 s5
            go_wp2_with (go_at_call 33; fail)
            refine K2H.out.mono ?_
            rintro e W8 ⟨rfl, hb8⟩
            have HB8 := Lib.hid (HB7.out.trans (hb8.mono HB7.out.size))
            have q8 := box_step (w0 := w) Q7.out hb8
            have i3 := (hb8.cell (p := ⟨lb, lo + i * 4 + 3, none⟩) hlb7).trans ((HBR.out.cell (p := ⟨lb, lo + i * 4 + 3, none⟩) hlb).trans HX.out.1)
            have k3 := (hb8.cell (p := ⟨lb, lo + k * 4 + 3, none⟩) hlb7).trans ((HBR.out.cell (p := ⟨lb, lo + k * 4 + 3, none⟩) hlb).trans HX.out.2)
            clear hb8
            cases B with
            | false =>
              clear q8 i3 k3
              go_wp2_with (go_at_call 13; fail)
              refine (KA.out _).mono ?_
              rintro e w9 ⟨rfl, hbz⟩
              go_wp2
              go_ret
              exact ⟨rfl, HB8.out.trans (hbz.mono HB8.out.size)⟩
            | true =>
              have hq := HQ5.out HBB.out
              have j5 : (0 : Int) ≤ (i : Int) := by omega
              have j6 : (i : Int) < (l.length : Int) := by omega
              have j7 : (0 : Int) ≤ (k : Int) := by omega
              have j8 : (k : Int) < (l.length : Int) := by omega
              have z0 := one_cell q8
              have r0 := cell_regrown z0
              have r1 := cell_regrown i3
              have r2 := cell_regrown k3
              clear q8
              go_upto_region 12 with fail
              clear z0 i3 k3
              refine wp_region_quiet_below (by kernel_rfl) (by kernel_rfl) ?_
              repeat (go_big_quiet_step (fail))
              refine wpQuiet_nil ?_
              intro W9 hw'
              have hbr : Below W8.heap.size W8 W9 := by obtain ⟨⟨dq, osq⟩, hw''⟩ := hw'; rw [hw'']; exact below_regrown W8 dq osq
              clear hw' r0 r1 r2
              have HB9 := Lib.hid (HB8.out.trans (hbr.mono HB8.out.size))
              clear hbr
              rcases hq with hq | ⟨hq, hq2⟩
              · have t1 : A3 + A4 ≥ A1 + A2 := by omega
                have t2 : A3 + A4 > A1 + A2 := by omega
                go_wp2_with (go_at_call 13; fail)
                refine (KA.out _).mono ?_
                rintro e w10 ⟨rfl, hbz⟩
                go_wp2
                go_ret
                exact ⟨rfl, HB9.out.trans (hbz.mono HB9.out.size)⟩
              · have t1 : A3 + A4 ≥ A1 + A2 := by omega
                have t2 : decide (A3 + A4 > A1 + A2) = false := by simp; omega
                have t3 : ¬ A3 + A4 > A1 + A2 := by omega
                rcases hq2 with hq2 | ⟨rfl, hq2⟩
                · have t4 : (i : Int) > (si : Int) := by omega
                  go_wp2_with (go_at_call 13; fail)
                  refine (KA.out _).mono ?_
                  rintro e w10 ⟨rfl, hbz⟩
                  go_wp2
                  go_ret
                  exact ⟨rfl, HB9.out.trans (hbz.mono HB9.out.size)⟩
                · have t4 : ¬ (i : Int) > (i : Int) := by omega
                  have t5 : (k : Int) ≥ (sk : Int) := by omega
                  go_wp2_with (go_at_call 13; fail)
                  refine (KA.out _).mono ?_
                  rintro e w10 ⟨rfl, hbz⟩
                  go_wp2
                  go_ret
                  exact ⟨rfl, HB9.out.trans (hbz.mono HB9.out.size)⟩
end Go.Proofs.Ytlcmedfjghcigaa
