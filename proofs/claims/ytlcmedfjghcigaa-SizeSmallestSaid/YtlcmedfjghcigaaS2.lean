/- Size: the walk of SizeSmallest. -/
import Derived.Test.YtlcmedfjghcigaaM2
import Derived.Test.YtlcmedfjghcigaaA24
import Derived.Test.YtlcmedfjghcigaaA21
namespace Go.Proofs.Ytlcmedfjghcigaa
set_option linter.unusedSimpArgs false
set_option linter.unusedVariables false
open Go.RowKit Go.Maps

set_option maxRecDepth 100000 in
set_option maxHeartbeats 3200000 in
theorem noneC_any (h : Hs) (a1 : Option Addr) (c1 : Nat) (a2 : Option Addr) (c2 P : Nat) (z : Sz) (w : World) (hh : HsAt w h a1 c1 a2 c2) (hp : w.heap[P]? = some (.cells #[.int .i64 h.head, .int .i64 h.drip, .slice a1 h.tp.length c1, .slice a2 h.rl.length c2] 25 (0, 0))) : Calls Try.prog 32 #[szV z, .pointer (some ⟨P, 0, none⟩)] w fun e w' => e = .returned (.bool (noneF h z)) ∧ Below w.heap.size w w' := by
  obtain ⟨s0, s1, s2, s3⟩ := z
  obtain ⟨W0, hW0⟩ : ∃ X, X = w.alloc (.cells #[.int .i64 s0, .int .i64 s1, .int .i64 s2, .int .i64 s3] 27) := ⟨_, rfl⟩
  have hal : W0 = al w [(.cells #[.int .i64 s0, .int .i64 s1, .int .i64 s2, .int .i64 s3] 27)] := hW0
  have hb0 : Below w.heap.size w W0 := by rw [hal]; exact al_below w _ (Nat.le_refl _)
  have hs0 : W0.heap.size = w.heap.size + 1 := by rw [hal]; exact al_size w _
  have hr0 : W0.heap[w.heap.size]? = some (.cells #[.int .i64 s0, .int .i64 s1, .int .i64 s2, .int .i64 s3] 27 (0, 0)) := by rw [hal]; exact al_get w _ 0 _ rfl
  obtain ⟨Q, hP0⟩ : ∃ x, w.heap.size = x := ⟨_, rfl⟩
  rw [hP0] at hr0 hs0
  clear hal
  rw [hP0] at hb0
  have HS := Lib.hid (show w.heap.size = Q ∧ W0.heap.size = Q + 1 from ⟨by omega, by omega⟩)
  have HB := Lib.hid hb0
  have hh0 := hh.below (by rw [hP0]; exact hb0)
  have hp0 := box_step (w0 := w) hp (by rw [hP0]; exact hb0)
  have KS := Lib.hid (Starved_any h a1 c1 a2 c2 ⟨s0, s1, s2, s3⟩ W0 hh0)
  obtain ⟨x, b, e, hr⟩ : ∃ x b e, starvedF h ⟨s0, s1, s2, s3⟩ = (x, b, e) := ⟨_, _, _, rfl⟩
  have hn : noneF h ⟨s0, s1, s2, s3⟩ = decide (e = 4) := by unfold noneF; rw [hr]
  rw [hr] at KS
  rw [hn]
  unfold MixR szV hsV at KS
  obtain ⟨y0, y1, y2, y3⟩ := four_cells hp0
  obtain ⟨x0, x1, x2, x3⟩ := four_cells hr0
  obtain ⟨D, hD⟩ : ∃ D, decide (e = 4) = D := ⟨_, rfl⟩
  have HD := Lib.hid hD
  rw [hD]
  clear hb0 hr0 hs0 hh hp hh0 hp0 hr hn hD
  unfold szV at *
  go_enter Try.func32, Try.ntmps32
  go_upto_region 1 with fail
  rw [← hW0]
  clear hW0 hP0
  go_wp2_with (go_at_call 16; fail)
  refine KS.out.mono ?_
  rintro e2 w2 ⟨rfl, hb2⟩
  go_wp2
  go_ret
  exact ⟨by rw [← HD.out]; rfl, by rw [HS.out.1]; exact HB.out.trans (hb2.mono (by have := HS.out; omega))⟩
set_option maxRecDepth 100000 in
set_option maxHeartbeats 6400000 in
theorem smallest_any (h : Hs) (a1 : Option Addr) (c1 : Nat) (a2 : Option Addr) (c2 : Nat) (l : List Sz) (v : Value) (loss : Int) (t : Nat) (ht : t ≤ 255) (w : World) (hh : HsAt w h a1 c1 a2 c2) (hl : TabAt 4 szC w v l) : Calls Try.prog 8 #[hsV h a1 c1 a2 c2, v, .int .i64 loss, .int .u8 (t : Nat)] w fun e w' => e = .returned (.bool true) ∧ Below w.heap.size w w' := by
  obtain ⟨la, lc, rfl⟩ := hl.shape
  have mt : h.tp.length ≤ 9223372036854775807 := hh.tp.1
  have ml : l.length ≤ 9223372036854775807 := hl.1
  obtain ⟨W0, hW0⟩ : ∃ X, X = w.alloc (.cells #[.int .i64 h.head, .int .i64 h.drip, .slice a1 h.tp.length c1, .slice a2 h.rl.length c2] 25) := ⟨_, rfl⟩
  have hal : W0 = al w [(.cells #[.int .i64 h.head, .int .i64 h.drip, .slice a1 h.tp.length c1, .slice a2 h.rl.length c2] 25)] := hW0
  have hb0 : Below w.heap.size w W0 := by rw [hal]; exact al_below w _ (Nat.le_refl _)
  have hs0 : W0.heap.size = w.heap.size + 1 := by rw [hal]; exact al_size w _
  have hr0 : W0.heap[w.heap.size]? = some (.cells #[.int .i64 h.head, .int .i64 h.drip, .slice a1 h.tp.length c1, .slice a2 h.rl.length c2] 25 (0, 0)) := by rw [hal]; exact al_get w _ 0 _ rfl
  obtain ⟨P, hP0⟩ : ∃ x, w.heap.size = x := ⟨_, rfl⟩
  rw [hP0] at hr0 hs0
  clear hal
  have HB := Lib.hid hb0
  have H0 := Lib.hid hr0
  have hh0 := hh.below hb0
  have HL0 := Lib.hid (hl.below hb0)
  have HH0 := Lib.hid hh0
  have KG := Lib.hid (great_any h a1 c1 a2 c2 7 W0 hh0)
  have KA := Lib.hid alive_any
  obtain ⟨g, hg⟩ : ∃ g, greatB h 7 = g := ⟨_, rfl⟩
  rw [hg] at KG
  obtain ⟨y0, y1, y2, y3⟩ := four_cells hr0
  clear hb0 hr0 hs0 hh hl hh0 hg
  have EV : hsV h a1 c1 a2 c2 = .agg #[.int .i64 h.head, .int .i64 h.drip, .slice a1 h.tp.length c1, .slice a2 h.rl.length c2] := rfl
  have HEV := Lib.hid EV
  rw [EV] at KG ⊢
  clear EV
  go_enter Try.func8, Try.ntmps8
  go_upto_region 1 with fail
  rw [← hW0]
  clear hW0 hP0
  cases g with
  | true =>
    go_wp2_with (go_at_call 12; fail)
    refine KG.out.mono ?_
    rintro e w2 ⟨rfl, hb2⟩
    have HB2 := Lib.hid (HB.out.trans (hb2.mono HB.out.size))
    clear hb2 y0 y1 y2 y3
    go_wp2_with (go_at_call 13; fail)
    refine (KA.out _).mono ?_
    rintro e w3 ⟨rfl, hb3⟩
    go_wp2
    go_ret
    exact ⟨rfl, HB2.out.trans (hb3.mono HB2.out.size)⟩
  | false =>
  by_cases hl18 : 18 < l.length
  · have hg1 : ((l.length : Int) > 18) := by omega
    go_wp2_with (go_at_call 12; fail)
    refine KG.out.mono ?_
    rintro e w2 ⟨rfl, hb2⟩
    have HB2 := Lib.hid (HB.out.trans (hb2.mono HB.out.size))
    clear hb2 y0 y1 y2 y3
    go_wp2_with (go_at_call 13; fail)
    refine (KA.out _).mono ?_
    rintro e w3 ⟨rfl, hb3⟩
    go_wp2
    go_ret
    exact ⟨rfl, HB2.out.trans (hb3.mono HB2.out.size)⟩
  · have hg1 : ¬ ((l.length : Int) > 18) := by omega
    go_wp2_with (go_at_call 12; fail)
    refine KG.out.mono ?_
    rintro e w2 ⟨rfl, hb2⟩
    have HB2 := Lib.hid (HB.out.trans (hb2.mono HB.out.size))
    have H2 := Lib.hid (box_step (w0 := w) H0.out hb2)
    have hh2 := HH0.out.below hb2
    have HL2 := Lib.hid (HL0.out.below hb2)
    have HH2 := Lib.hid hh2
    have KH := Lib.hid (House_any h a1 c1 a2 c2 w2 hh2)
    rw [HEV.out] at KH
    obtain ⟨b, hb⟩ : ∃ b, hsOk h = b := ⟨_, rfl⟩
    rw [hb] at KH
    have HOK := Lib.hid hb
    clear hb2 hh2 hb y0 y1 y2 y3
    obtain ⟨y0, y1, y2, y3⟩ := four_cells H2.out
    cases b with
    | false =>
      go_wp2_with (go_at_call 25; fail)
      refine KH.out.mono ?_
      rintro e w3 ⟨rfl, hb3⟩
      have HB3 := Lib.hid (HB2.out.trans (hb3.mono HB2.out.size))
      clear hb3 y0 y1 y2 y3
      go_wp2_with (go_at_call 13; fail)
      refine (KA.out _).mono ?_
      rintro e w4 ⟨rfl, hb4⟩
      go_wp2
      go_ret
      exact ⟨rfl, HB3.out.trans (hb4.mono HB3.out.size)⟩
    | true =>
      have hok := HOK.out
      go_wp2_with (go_at_call 25; fail)
      refine KH.out.mono ?_
      rintro e w3 ⟨rfl, hb3⟩
      have HB3 := Lib.hid (HB2.out.trans (hb3.mono HB2.out.size))
      have H3 := Lib.hid (box_step (w0 := w) H2.out hb3)
      have hh3 := HH2.out.below hb3
      have hl3 := HL2.out.below hb3
      have HH3 := Lib.hid hh3
      have HL3 := Lib.hid hl3
      have KC := Choose_any h a1 c1 a2 c2 l _ w3 hh3 hl3
      have KE := Lib.hid (Sizes_any l (.slice la l.length lc))
      obtain ⟨k, e, hc⟩ : ∃ k e, chooseF h l = (k, e) := ⟨_, _, rfl⟩
      rw [hc, HEV.out] at KC
      unfold IntR at KC
      have KCC := Lib.hid KC
      have HC := Lib.hid hc
      have hmf : ∀ (fn : Fn) (first cap : Array Value) (w : World), (Instr.makeFunc fn first cap).run Try.prog w = .ok (.func fn first cap) w := fun _ _ _ _ => rfl
      clear hb3 y0 y1 y2 y3 KC hc hh3 hl3
      obtain ⟨y0, y1, y2, y3⟩ := four_cells H3.out
      go_wp2_with (go_at_call 18; fail)
      refine KCC.out.mono ?_
      rintro e1 w4 ⟨rfl, hb4⟩
      have HB4 := Lib.hid (HB3.out.trans (hb4.mono HB3.out.size))
      have H4 := Lib.hid (box_step (w0 := w) H3.out hb4)
      have HH4 := Lib.hid (HH3.out.below hb4)
      have HL4 := Lib.hid (HL3.out.below hb4)
      clear hb4 y0 y1 y2 y3
      go_upto_region 5 with fail
      go_cut [42] (fun u wx => u = .bool (szsOk l && decide (0 < l.length)) ∧ Below w4.heap.size w4 wx)
      case first =>
        obtain ⟨b, hb⟩ : ∃ b, szsOk l = b := ⟨_, rfl⟩
        rw [hb] at KE
        have hb' := Lib.hid hb
        clear hb
        cases b with
        | false =>
          go_wp2_with (go_at_call 29; fail)
          refine (KE.out w4 HL4.out).mono ?_
          rintro e2 w5 ⟨rfl, hb5⟩
          go_wp2
          go_meet
          case rel => exact ⟨by rw [hb'.out]; rfl, hb5⟩
        | true =>
          by_cases hl0 : 0 < l.length
          · have hg2 : ((l.length : Int) > 0) := by omega
            go_wp2_with (go_at_call 29; fail)
            refine (KE.out w4 HL4.out).mono ?_
            rintro e2 w5 ⟨rfl, hb5⟩
            go_wp2
            go_meet
            case rel => exact ⟨by rw [hb'.out]; simp [hl0], hb5⟩
          · have hg2 : ¬ ((l.length : Int) > 0) := by omega
            go_wp2_with (go_at_call 29; fail)
            refine (KE.out w4 HL4.out).mono ?_
            rintro e2 w5 ⟨rfl, hb5⟩
            go_wp2
            go_meet
            case rel => exact ⟨by rw [hb'.out]; simp [hl0], hb5⟩
      case rest =>
      obtain ⟨rfl, hb5⟩ := hcut
      have HBc := Lib.hid (HB4.out.trans (hb5.mono HB4.out.size))
      have H5 := Lib.hid (box_step (w0 := w) H4.out hb5)
      have HH5 := Lib.hid (HH4.out.below hb5)
      have HL5 := Lib.hid (HL4.out.below hb5)
      clear hb5 KCC KE HB4 HB3 HB2 H4 H3 H2 HH4 HH3 HH2 HL4 HL3 HL2 KG KH
      obtain ⟨Wd, rfl⟩ : ∃ X : World, X = wc := ⟨_, rfl⟩
      go_upto_if 42 with fail
      go_cut [12] (fun _ wx => Below Wd.heap.size Wd wx)
      case first =>
        obtain ⟨B, hB⟩ : ∃ B, (szsOk l && decide (0 < l.length)) = B := ⟨_, rfl⟩
        rw [hB]
        cases B with
        | false =>
          go_wp2
          go_meet
          case rel => exact Below.refl _ _
        | true =>
          have hsz : szsOk l = true ∧ 0 < l.length := by simpa using hB
          obtain ⟨hsz, hl0⟩ := hsz
          obtain ⟨i, hi⟩ : ∃ i, t % l.length = i := ⟨_, rfl⟩
          have hil : i < l.length := by rw [← hi]; exact Nat.mod_lt _ hl0
          have htm : Int.tmod (t : Int) (l.length : Int) = (i : Int) := by rw [Int.tmod_eq_emod_of_nonneg (by omega), ← hi]; rfl
          have w1 : IntKind.i64.wrap (t : Int) = (t : Int) := IntWalk.i64_in _ (by omega)
          have w2 : IntKind.i64.wrap (i : Int) = (i : Int) := IntWalk.i64_in _ (by omega)
          have inz : ¬ l = [] := fun e => by rw [e] at hl0; exact absurd hl0 (Nat.not_lt_zero _)
          have ij0 : (0 : Int) ≤ (i : Int) := by omega
          have ij1 : (i : Int) < (l.length : Int) := Int.ofNat_lt.2 hil
          obtain ⟨lb, lo, e1, hlb, hlx⟩ := HL5.out.at hl0
          subst e1
          have hzok : szOk l[i]! = true := by
            have := (szsOk_iff.1 hsz).2 i hil
            unfold SzOkAt at this
            rw [Bool.and_eq_true] at this
            exact this.1
          have hfa := choose_facts hok hsz
          rw [HC.out] at hfa
          rw [← getD_bang l hil] at hzok
          have KN := noneC_any h a1 c1 a2 c2 P (l.getD i default) Wd HH5.out H5.out
          rw [none_full hok hzok] at KN
          have x0 := hlx i hil 0 (by omega)
          have x1 := hlx i hil 1 (by omega)
          have x2 := hlx i hil 2 (by omega)
          have x3 := hlx i hil 3 (by omega)
          have hge : l.getD i default = l[i]! := getD_bang l hil
          obtain ⟨z, hz⟩ : ∃ z, l.getD i default = z := ⟨_, rfl⟩
          rw [hz] at hge KN x0 x1 x2 x3
          have HZ := Lib.hid hge
          obtain ⟨s0, s1, s2, s3⟩ := z
          obtain ⟨F, hF⟩ : ∃ F, fullF h ⟨s0, s1, s2, s3⟩ = F := ⟨_, rfl⟩
          rw [hF] at KN
          unfold szV at KN
          simp only [Nat.add_zero, szC] at x0 x1 x2 x3
          have HR : Hid ((e = 0 ∧ (∃ k2 : Nat, k = (k2 : Int) ∧ k2 < l.length ∧ (i < k2 → F = true → h.drip < s0) ∧ (i = k2 → F = true ∧ s0 ≤ h.drip))) ∨ (e = 10 ∧ F = false) ∨ (e = 11 ∧ (F = true → h.drip < s0))) := by
            have hhear : hearF h l[i]! = decide (s0 ≤ h.drip) := by rw [← HZ.out]; rfl
            have hfull : fullF h l[i]! = F := by rw [← HZ.out]; exact hF
            refine Lib.hid ?_
            rcases hfa with ⟨k2, q1, q2, q3, q4, q5⟩ | ⟨q1, q2⟩ | ⟨q1, q2⟩
            · simp only [Prod.mk.injEq] at q2
              refine .inl ⟨q2.2, k2, q2.1, q1, fun q6 q7 => ?_, fun q6 => ?_⟩
              · have := q5 i q6 (hfull.trans q7)
                rw [hhear] at this
                have := of_decide_eq_false this
                omega
              · subst q6
                rw [hhear] at q4
                exact ⟨hfull.symm.trans q3, of_decide_eq_true q4⟩
            · simp only [Prod.mk.injEq] at q1
              exact .inr (.inl ⟨q1.2, hfull.symm.trans (q2 i hil)⟩)
            · simp only [Prod.mk.injEq] at q1
              refine .inr (.inr ⟨q1.2, fun q3 => ?_⟩)
              have := q2 i hil (hfull.trans q3)
              rw [hhear] at this
              have := of_decide_eq_false this
              omega
          have KNN := Lib.hid KN
          clear hlx hfa hzok hz hge KN hF hB
          go_wp2_with (go_at_call 32; fail)
          refine KNN.out.mono ?_
          rintro e2 w6 ⟨rfl, hb6⟩
          have HB6 := Lib.hid hb6
          have u0 := (hb6.cell (p := ⟨lb, lo + i * 4, none⟩) hlb).trans x0
          have hp6 := box_step (w0 := w) H5.out hb6
          clear x0 x1 x2 x3 hb6 htm w1 w2
          obtain ⟨y0, y1, y2, y3⟩ := four_cells hp6
          clear hp6 y0 y2 y3
          rcases HR.out with ⟨rfl, k2, rfl, q2, q3, q4⟩ | ⟨rfl, rfl⟩ | ⟨rfl, q1⟩
          · have kl : (k2 : Int) < (l.length : Int) := by omega
            have kl2 : decide ((k2 : Int) ≥ (l.length : Int)) = false := by simp; omega
            have kl3 : decide (l.length ≤ k2) = false := by simp; omega
            rcases Nat.lt_trichotomy i k2 with q5 | q5 | q5
            · have g1 : (i : Int) < (k2 : Int) := by omega
              have g2 : decide ((i : Int) = (k2 : Int)) = false := by simp; omega
              have g4 : decide (i = k2) = false := by simp; omega
              have g6 : ((i : Int) == (k2 : Int)) = false := by simp; omega
              have g7 : (i == k2) = false := by simp; omega
              cases F with
              | false =>
                clear q3 q4 HR
                as_aux_lemma =>
                  go_upto_region 8 with fail
                  simp only [List.append]
                  go_big_quiet (fail)
                  go_wp2
                  go_meet
                  case rel => exact below_drewn HB6.out _
              | true =>
                have g3 : decide (s0 ≤ h.drip) = false := by have := q3 q5 rfl; simp; omega
                clear q3 q4 HR
                as_aux_lemma =>
                  go_upto_region 8 with fail
                  simp only [List.append]
                  go_big_quiet (fail)
                  go_wp2
                  go_meet
                  case rel => exact below_drewn HB6.out _
            · obtain ⟨rfl, g3⟩ := q4 q5
              subst q5
              clear q3 q4 HR
              as_aux_lemma =>
                go_upto_region 8 with fail
                simp only [List.append]
                go_big_quiet (fail)
                go_wp2
                go_meet
                case rel => exact below_drewn HB6.out _
            · have g1 : decide ((i : Int) < (k2 : Int)) = false := by simp; omega
              have g5 : decide (i < k2) = false := by simp; omega
              have g2 : decide ((i : Int) = (k2 : Int)) = false := by simp; omega
              have g4 : decide (i = k2) = false := by simp; omega
              have g6 : ((i : Int) == (k2 : Int)) = false := by simp; omega
              have g7 : (i == k2) = false := by simp; omega
              clear q3 q4 HR
              as_aux_lemma =>
                go_upto_region 8 with fail
                simp only [List.append]
                go_big_quiet (fail)
                go_wp2
                go_meet
                case rel => exact below_drewn HB6.out _
          · clear HR
            as_aux_lemma =>
              go_upto_region 8 with fail
              simp only [List.append]
              go_big_quiet (fail)
              go_wp2
              go_meet
              case rel => exact below_drewn HB6.out _
          · cases F with
            | false =>
              clear HR q1
              as_aux_lemma =>
                go_upto_region 8 with fail
                simp only [List.append]
                go_big_quiet (fail)
                go_wp2
                go_meet
                case rel => exact below_drewn HB6.out _
            | true =>
              have g3 : decide (s0 ≤ h.drip) = false := by have := q1 rfl; simp; omega
              clear HR q1
              as_aux_lemma =>
                go_upto_region 8 with fail
                simp only [List.append]
                go_big_quiet (fail)
                go_wp2
                go_meet
                case rel => exact below_drewn HB6.out _
      case rest =>
      have HBd := Lib.hid (HBc.out.trans (hcut.mono HBc.out.size))
      have H7 := Lib.hid (box_step (w0 := w) H5.out hcut)
      have hh7 := HH5.out.below hcut
      have HH7 := Lib.hid hh7
      have KL := Least_any h a1 c1 a2 c2 loss wc hh7
      have hlf := least_facts (h := h) (loss := loss) hok
      obtain ⟨n, f, hnf⟩ : ∃ n f, leastF h loss = (n, f) := ⟨_, _, rfl⟩
      rw [hnf] at KL hlf
      unfold IntR at KL
      rw [HEV.out] at KL
      have KLL := Lib.hid KL
      have HLF := Lib.hid hlf
      clear KL hlf hh7 hcut H5 HH5 HL5 HC hnf
      obtain ⟨y0, y1, y2, y3⟩ := four_cells H7.out
      go_wp2_with (go_at_call 22; fail)
      refine KLL.out.mono ?_
      rintro e2 w8 ⟨rfl, hb8⟩
      have HB8 := Lib.hid (HBd.out.trans (hb8.mono HBd.out.size))
      have h8 := box_step (w0 := w) H7.out hb8
      have hh8 := HH7.out.below hb8
      have H8 := Lib.hid h8
      have HH8 := Lib.hid hh8
      have hzk : inF loss 0 10000 = true → ∀ n : Int, 1 ≤ n → n ≤ 1000000 → szOk ⟨0, n, loss, 0⟩ = true := fun q n q1 q2 => szOk_iff.2 ⟨⟨q1, q2⟩, ⟨by show (0 : Int) ≤ 0; omega, by show (0 : Int) ≤ n; omega⟩, inF_iff.1 q, by show (0 : Int) ≤ 0; omega, by show (0 : Int) ≤ 1000000; omega⟩
      have KN := fun (n : Int) (q : szOk ⟨0, n, loss, 0⟩ = true) (w : World) hh hp => none_full hok q ▸ noneC_any h a1 c1 a2 c2 P ⟨0, n, loss, 0⟩ w hh hp
      unfold szV at KN
      have HKN := Lib.hid KN
      have HZK := Lib.hid hzk
      clear y0 y1 y2 y3 hb8 h8 hh8 KLL KN hzk
      rcases HLF.out with ⟨q1, q2⟩ | ⟨q1, q2, q3⟩ | ⟨q1, n2, q2, q3, q4, q5, q6⟩
      · simp only [Prod.mk.injEq] at q2
        obtain ⟨rfl, rfl⟩ := q2
        clear HLF
        by_cases g1 : loss < 0
        · go_wp2_with (go_at_call 13; fail)
          refine (KA.out _).mono ?_
          rintro e w9 ⟨rfl, hb9⟩
          go_wp2
          go_ret
          exact ⟨rfl, HB8.out.trans (hb9.mono HB8.out.size)⟩
        · have g2 : ¬ loss ≤ 10000 := fun q => by rw [inF_iff.2 ⟨by omega, q⟩] at q1; cases q1
          have g3 : 10000 < loss := by omega
          go_wp2_with (go_at_call 13; fail)
          refine (KA.out _).mono ?_
          rintro e w9 ⟨rfl, hb9⟩
          go_wp2
          go_ret
          exact ⟨rfl, HB8.out.trans (hb9.mono HB8.out.size)⟩
      · simp only [Prod.mk.injEq] at q2
        obtain ⟨rfl, rfl⟩ := q2
        have K1 := HKN.out 1000000 (HZK.out q1 1000000 (by omega) (by omega)) w8 HH8.out H8.out
        rw [q3] at K1
        have K1H := Lib.hid K1
        clear HLF K1
        go_wp2_with (go_at_call 32; fail)
        refine K1H.out.mono ?_
        rintro e w9 ⟨rfl, hb9⟩
        have HB9 := Lib.hid (HB8.out.trans (hb9.mono HB8.out.size))
        clear hb9
        go_wp2_with (go_at_call 13; fail)
        refine (KA.out _).mono ?_
        rintro e w10 ⟨rfl, hb10⟩
        go_wp2
        go_ret
        exact ⟨rfl, HB9.out.trans (hb10.mono HB9.out.size)⟩
      · simp only [Prod.mk.injEq] at q4
        obtain ⟨rfl, rfl⟩ := q4
        have K1 := HKN.out n (HZK.out q1 n q2 q3) w8 HH8.out H8.out
        rw [q5] at K1
        have K1H := Lib.hid K1
        clear HLF K1
        go_wp2_with (go_at_call 32; fail)
        refine K1H.out.mono ?_
        rintro e w9 ⟨rfl, hb9⟩
        have HB9 := Lib.hid (HB8.out.trans (hb9.mono HB8.out.size))
        have h9 := box_step (w0 := w) H8.out hb9
        have hh9 := HH8.out.below hb9
        by_cases g1 : n = 1
        · subst g1
          clear hb9 q6
          go_wp2_with (go_at_call 13; fail)
          refine (KA.out _).mono ?_
          rintro e w10 ⟨rfl, hb10⟩
          go_wp2
          go_ret
          exact ⟨rfl, HB9.out.trans (hb10.mono HB9.out.size)⟩
        · have q7 : fullF h ⟨0, n - 1, loss, 0⟩ = false := q6.resolve_left g1
          have w1 : IntKind.i64.wrap (n - 1) = n - 1 := IntWalk.i64_in _ (by omega)
          have K2 := HKN.out (n - 1) (HZK.out q1 (n - 1) (by omega) (by omega)) w9 hh9 h9
          rw [q7] at K2
          have K2H := Lib.hid K2
          clear hb9 q6 K2 hh9 h9
          go_wp2_with (go_at_call 32; fail)
          refine K2H.out.mono ?_
          rintro e w10 ⟨rfl, hb10⟩
          have HB10 := Lib.hid (HB9.out.trans (hb10.mono HB9.out.size))
          clear hb10
          go_wp2_with (go_at_call 13; fail)
          refine (KA.out _).mono ?_
          rintro e w11 ⟨rfl, hb11⟩
          go_wp2
          go_ret
          exact ⟨rfl, HB10.out.trans (hb11.mono HB10.out.size)⟩
end Go.Proofs.Ytlcmedfjghcigaa
