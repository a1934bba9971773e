/- Size: the reference: Least. -/
import Derived.Test.YtlcmedfjghcigaaA26
import Derived.Test.YtlcmedfjghcigaaA14
namespace Go.Proofs.Ytlcmedfjghcigaa
set_option linter.unusedSimpArgs false
set_option linter.unusedVariables false
open Go.RowKit Go.Maps Go.BigFrame

theorem starvedP_zero' {h : Hs} {z : Sz} (hok : hsOk h = true) (hz : szOk z = true) : ((starvedP h z).1 == 0) = fullF h z := by
  unfold starvedP
  cases k : starveF h z with
  | none => rw [starve_none.1 k]; rfl
  | some x =>
    have hx0 : x ≠ 0 := fun e => by have := (starve_first k).2.2.1; rw [e, bad_zero hok hz] at this; cases this
    have : fullF h z = false := by
      cases k2 : fullF h z with
      | false => rfl
      | true => rw [starve_none.2 k2] at k; cases k
    rw [this]
    simp only [beq_eq_false_iff_ne, ne_eq]
    omega
set_option maxRecDepth 100000 in
set_option maxHeartbeats 6400000 in
theorem rLeast_any (h : Hs) (a1 : Option Addr) (c1 : Nat) (a2 : Option Addr) (c2 : Nat) (loss : Int) (w : World) (hh : HsAt w h a1 c1 a2 c2) : Calls Try.prog 23 #[hsV h a1 c1 a2 c2, .int .i64 loss] w (IntR w (leastF h loss)) := by
  have mt : h.tp.length ≤ 9223372036854775807 := hh.tp.1
  obtain ⟨⟨r0, r1⟩, hrr⟩ : ∃ x, leastF h loss = x := ⟨_, rfl⟩
  rw [hrr]
  have HRR := Lib.hid hrr
  obtain ⟨W0, hW0⟩ : ∃ X, X = w.alloc (.cells #[.int .i64 h.head, .int .i64 h.drip, .slice a1 h.tp.length c1, .slice a2 h.rl.length c2] 25) := ⟨_, rfl⟩
  have hal : W0 = al w [(.cells #[.int .i64 h.head, .int .i64 h.drip, .slice a1 h.tp.length c1, .slice a2 h.rl.length c2] 25)] := hW0
  have hb0 : Below w.heap.size w W0 := by rw [hal]; exact al_below w _ (Nat.le_refl _)
  have hs0 : W0.heap.size = w.heap.size + 1 := by rw [hal]; exact al_size w _
  have hr0 : W0.heap[w.heap.size]? = some (.cells #[.int .i64 h.head, .int .i64 h.drip, .slice a1 h.tp.length c1, .slice a2 h.rl.length c2] 25 (0, 0)) := by rw [hal]; exact al_get w _ 0 _ rfl
  obtain ⟨P, hP0⟩ : ∃ x, w.heap.size = x := ⟨_, rfl⟩
  rw [hP0] at hr0 hs0
  clear hal
  have HB0 := Lib.hid hb0
  have HP0 := Lib.hid hr0
  have hh0 := hh.below hb0
  have HH0 := Lib.hid hh0
  have KH := Lib.hid (House_any h a1 c1 a2 c2 W0 hh0)
  obtain ⟨g, hg⟩ : ∃ b, hsOk h = b := ⟨_, rfl⟩
  have EV : hsV h a1 c1 a2 c2 = .agg #[.int .i64 h.head, .int .i64 h.drip, .slice a1 h.tp.length c1, .slice a2 h.rl.length c2] := rfl
  have HEV := Lib.hid EV
  rw [hg] at KH
  rw [EV] at KH ⊢
  have HG := Lib.hid hg
  obtain ⟨y0, y1, y2, y3⟩ := four_cells hr0
  unfold IntR
  clear hb0 hr0 hs0 hh hh0 EV hrr hg
  go_enter Try.func23, Try.ntmps23
  go_upto_region 1 with fail
  rw [← hW0]
  clear hW0 hP0
  go_wp2_with (go_at_call 25; fail)
  refine KH.out.mono ?_
  rintro e w2 ⟨rfl, hb2⟩
  have HB2 := Lib.hid (HB0.out.trans (hb2.mono HB0.out.size))
  have H2 := Lib.hid (box_step (w0 := w) HP0.out hb2)
  have HH2 := Lib.hid (HH0.out.below hb2)
  clear hb2 y0 y1 y2 y3
  cases g with
  | false =>
    have he := least_no (loss := loss) HG.out
    rw [HRR.out] at he
    simp only [Prod.mk.injEq] at he
    obtain ⟨rfl, rfl⟩ := he
    go_wp2
    exact bodyPost_ret (results_tmp2 rfl _ _ _) rfl ⟨rfl, HB2.out⟩
  | true =>
  have hok := HG.out
  have kf := fun X => in_any loss 0 10000 X
  obtain ⟨g, hg⟩ : ∃ b, inF loss 0 10000 = b := ⟨_, rfl⟩
  simp only [hg] at kf
  have KF := Lib.hid kf
  have HZ := Lib.hid hg
  clear hg kf
  cases g with
  | false =>
    have he := least_range hok HZ.out
    rw [HRR.out] at he
    simp only [Prod.mk.injEq] at he
    obtain ⟨rfl, rfl⟩ := he
    go_wp2_with (go_at_call 51; (with_reducible refine (KF.out _).mono ?_); rintro e w3 ⟨rfl, rfl⟩)
    exact bodyPost_ret (results_tmp2 rfl _ _ _) rfl ⟨rfl, HB2.out⟩
  | true =>
  have hin := inF_iff.1 HZ.out
  have he := least_yes hok HZ.out
  obtain ⟨r, hr⟩ : ∃ r, searchF (leastP h loss) 20 0 1000000 = r := ⟨_, rfl⟩
  rw [hr, HRR.out] at he
  have hrl := (search_le (p := leastP h loss) 20 0 1000000 (by omega)).2
  rw [hr] at hrl
  have HR := Lib.hid hr
  have HE := Lib.hid he
  clear hr he
  go_wp2_with (go_at_call 51; (with_reducible refine (KF.out _).mono ?_); rintro e w3 ⟨rfl, rfl⟩)
  go_loopw [6, 7] (fun a b wr => ∃ i j f : Nat, i ≤ j ∧ j ≤ 1000000 ∧ a = .int .i64 ((i : Int) + 1) ∧ b = .int .i64 ((j : Int) + 1) ∧ j - i < 2 ^ f ∧ searchF (leastP h loss) f i j = r ∧ Below w2.heap.size w2 wr) (fun a b _ => (intOf b).toNat - (intOf a).toNat)
  case atStart => exact ⟨0, 1000000, 20, by omega, by omega, rfl, rfl, by decide, HR.out, Below.refl _ _⟩
  case round =>
    obtain ⟨i, j, f, hij, hj, rfl, rfl, hf, hsr, hbw⟩ := hrel
    have HBW := Lib.hid hbw
    by_cases hlt : i < j
    · have hlt2 : (i : Int) + 1 < (j : Int) + 1 := by omega
      obtain ⟨m, hm⟩ : ∃ m, (i + j) / 2 = m := ⟨_, rfl⟩
      cases f with
      | zero => exact absurd hf (by omega)
      | succ f =>
      rw [search_step hlt, hm] at hsr
      have hml : m < 1000000 := by omega
      have hzok : szOk ⟨0, (m : Int) + 1, loss, 0⟩ = true := szOk_iff.2 ⟨⟨by show 1 ≤ (m : Int) + 1; omega, by show (m : Int) + 1 ≤ 1000000; omega⟩, ⟨by show (0 : Int) ≤ 0; omega, by show (0 : Int) ≤ (m : Int) + 1; omega⟩, hin, by show (0 : Int) ≤ 0; omega, by show (0 : Int) ≤ 1000000; omega⟩
      have hlp : leastP h loss m = fullF h ⟨0, (m : Int) + 1, loss, 0⟩ := rfl
      have KS := starvedR_any h hok a1 c1 a2 c2 ⟨0, (m : Int) + 1, loss, 0⟩ hzok wr (HH2.out.below hbw)
      have hz0 := starvedP_zero' hok hzok
      obtain ⟨⟨sx, sp⟩, hsp⟩ : ∃ x, starvedP h ⟨0, (m : Int) + 1, loss, 0⟩ = x := ⟨_, rfl⟩
      obtain ⟨F, hF⟩ : ∃ b, fullF h ⟨0, (m : Int) + 1, loss, 0⟩ = b := ⟨_, rfl⟩
      rw [hsp] at KS hz0
      rw [hF] at hz0 hlp
      rw [hlp] at hsr
      simp only [] at hz0
      unfold szV at KS
      rw [HEV.out] at KS
      simp only [] at KS
      have KSS := Lib.hid KS
      have hp3 := box_step (w0 := w) H2.out hbw
      obtain ⟨y0, y1, y2, y3⟩ := four_cells hp3
      have hsum : ((i : Int) + 1 + ((j : Int) + 1)) = ((i + j + 2 : Nat) : Int) := by omega
      have w1 : IntKind.i64.wrap ((i : Int) + 1 + ((j : Int) + 1)) = ((i + j + 2 : Nat) : Int) := by rw [hsum]; exact IntWalk.i64_in _ (by omega)
      have hdv : Int.tdiv ((i + j + 2 : Nat) : Int) 2 = (m : Int) + 1 := by rw [Int.tdiv_eq_ediv_of_nonneg (by omega)]; omega
      have w2' : IntKind.i64.wrap ((m : Int) + 1) = (m : Int) + 1 := IntWalk.i64_in _ (by omega)
      have w3 : IntKind.i64.wrap ((m : Int) + 1 + 1) = (m : Int) + 1 + 1 := IntWalk.i64_in _ (by omega)
      obtain ⟨n2, hn2⟩ : ∃ n, i + j + 2 = n := ⟨_, rfl⟩
      rw [hn2] at w1 hdv
      have HSR := Lib.hid hsr
      clear hsr KS hsp hF hlp hzok hsum hp3
      cases F with
      | true =>
        have hz1 : sx = 0 := by simpa using hz0
        subst hz1
        clear hz0
        go_wp2_with (go_at_call 44; fail)
        refine KSS.out.mono ?_
        rintro e w4 ⟨rfl, hb4⟩
        clear y0 y1 y2 y3
        go_wp2
        go_roundw
        case rel => exact ⟨i, m, f, by omega, by omega, rfl, rfl, by have : j - i < 2 ^ f * 2 := hf; omega, HSR.out, HBW.out.trans (hb4.mono HBW.out.size)⟩
        case measure => simp [intOf]; omega
      | false =>
        have hz1 : ¬ sx = 0 := by simpa using hz0
        clear hz0
        go_wp2_with (go_at_call 44; fail)
        refine KSS.out.mono ?_
        rintro e w4 ⟨rfl, hb4⟩
        clear y0 y1 y2 y3
        go_wp2
        go_roundw
        case rel => exact ⟨m + 1, j, f, by omega, by omega, by go_num, rfl, by have : j - i < 2 ^ f * 2 := hf; omega, HSR.out, HBW.out.trans (hb4.mono HBW.out.size)⟩
        case measure => simp [intOf]; omega
    · have hij2 : i = j := by omega
      subst hij2
      rw [search_end hlt] at hsr
      subst hsr
      have hi1 : ¬ (i : Int) + 1 < (i : Int) + 1 := by omega
      clear hrl hij hf hlt
      have he := HE.out
      by_cases hi : i = 1000000
      · rw [if_pos hi] at he
        simp only [Prod.mk.injEq] at he
        obtain ⟨rfl, rfl⟩ := he
        have hg : (i : Int) + 1 > 1000000 := by omega
        clear HE HR hi
        go_wp2
        exact bodyPost_ret (results_tmp2 rfl _ _ _) rfl ⟨rfl, HB2.out.trans (HBW.out.mono HB2.out.size)⟩
      · rw [if_neg hi] at he
        simp only [Prod.mk.injEq] at he
        obtain ⟨rfl, rfl⟩ := he
        have hg : ¬ (i : Int) + 1 > 1000000 := by omega
        clear HE HR hi
        go_wp2
        exact bodyPost_ret (results_tmp2 rfl _ _ _) rfl ⟨rfl, HB2.out.trans (HBW.out.mono HB2.out.size)⟩
end Go.Proofs.Ytlcmedfjghcigaa
