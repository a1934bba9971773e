/- Term: the reference's Count. -/
import Derived.Test.YtcmfplfnpjknlaaC6
import Derived.Test.YtcmfplfnpjknlaaM8
namespace Go.Proofs.Ytcmfplfnpjknlaa
set_option linter.unusedSimpArgs false
set_option linter.unusedVariables false
open Go.RowKit Go.Maps

def BndT (t : T4) (N : Int) : Prop := (0 ≤ t.1 ∧ t.1 ≤ N) ∧ (0 ≤ t.2.1 ∧ t.2.1 ≤ N) ∧ (0 ≤ t.2.2.1 ∧ t.2.2.1 ≤ N) ∧ (0 ≤ t.2.2.2 ∧ t.2.2.2 ≤ N)
theorem bnd_more {t : T4} {N M : Int} (h : BndT t N) (hm : N ≤ M) : BndT t M := by unfold BndT at *; omega
def CntAt (w : World) (C : Nat) (t : T4) : Prop := w.heap[C]? = some (.cells #[.int .i64 t.1, .int .i64 t.2.1, .int .i64 t.2.2.1, .int .i64 t.2.2.2] 3 (0, 0))
theorem cnt_set {w : World} {C : Nat} {t : T4} (h : CntAt w C t) (j : Nat) (x : Int) (t' : T4) (ht : (#[.int .i64 t.1, .int .i64 t.2.1, .int .i64 t.2.2.1, .int .i64 t.2.2.2] : Array Value).setIfInBounds j (.int .i64 x) = #[.int .i64 t'.1, .int .i64 t'.2.1, .int .i64 t'.2.2.1, .int .i64 t'.2.2.2]) : CntAt (w.setCell ⟨C, j, none⟩ (.int .i64 x)) C t' := by
  unfold CntAt at *
  rw [heap_setCell_same w C j _ 3 (.int .i64 x) h, ht]
set_option maxRecDepth 100000 in
set_option maxHeartbeats 12800000 in
theorem refCount_any (s : Stk) (v : Value) (day : Int) (w : World) (hs : StkAt w v s) : Calls Try.prog 11 #[v, .int .i64 day] w (ListRes w (countF s day)) := by
  obtain ⟨cv, rv, pv, bv, rfl, hc, hr, hp, hb⟩ := hs
  obtain ⟨cs, rs, ps, bs⟩ := s
  simp only [] at hc hr hp hb
  obtain ⟨ca, cc, rfl⟩ := hc.shape
  obtain ⟨ra, rc, rfl⟩ := hr.shape
  obtain ⟨pa, pc, rfl⟩ := hp.shape
  obtain ⟨ba, bc, rfl⟩ := hb.shape
  have m1 : cs.length ≤ 9223372036854775807 := hc.1
  have m2 : rs.length ≤ 9223372036854775807 := hr.1
  have m3 : ps.length ≤ 9223372036854775807 := hp.1
  have m4 : bs.length ≤ 9223372036854775807 := hb.1
  obtain ⟨W0, hW0⟩ : ∃ X, X = w.alloc (.cells #[.slice ca cs.length cc, .slice ra rs.length rc, .slice pa ps.length pc, .slice ba bs.length bc] 27) := ⟨_, rfl⟩
  have hb0 : Below w.heap.size w W0 := by rw [hW0]; exact (Below.refl _ _).alloc (Nat.le_refl _) _
  have hr0 : W0.heap[w.heap.size]? = some (.cells #[.slice ca cs.length cc, .slice ra rs.length rc, .slice pa ps.length pc, .slice ba bs.length bc] 27 (0, 0)) := by rw [hW0]; exact alloc_heap w _
  have hc0 := Lib.hid (hc.below hb0)
  have hq0 := Lib.hid (hr.below hb0)
  have hp0 := Lib.hid (hp.below hb0)
  have hs0 := Lib.hid (hb.below hb0)
  obtain ⟨P, hP⟩ : ∃ P, w.heap.size = P := ⟨_, rfl⟩
  rw [hP] at hr0
  obtain ⟨d0, d1, d2, d3⟩ := four_cells hr0
  have HB := Lib.hid hb0
  have HR0 := Lib.hid hr0
  clear hr0 hb0 hc hr hp hb
  have hz0 : StkAt W0 (.agg #[.slice ca cs.length cc, .slice ra rs.length rc, .slice pa ps.length pc, .slice ba bs.length bc]) ⟨cs, rs, ps, bs⟩ := ⟨_, _, _, _, rfl, hc0.out, hq0.out, hp0.out, hs0.out⟩
  have HZ0 := Lib.hid hz0
  have kt := refTerms_any ⟨cs, rs, ps, bs⟩ _ W0 hz0
  have hbad := fun h => count_bad (s := ⟨cs, rs, ps, bs⟩) (day := day) h
  have hgood := fun h => count_good (s := ⟨cs, rs, ps, bs⟩) (day := day) h
  have hparts := fun h => right_parts (s := ⟨cs, rs, ps, bs⟩) h
  have htsok := fun h1 h => terms_tsOk (s := ⟨cs, rs, ps, bs⟩) h1 h
  have hbrow := fun h (i : Nat) (hi : i < rs.length) (b : Int × Int) (hb : b ∈ bs) (hh : hasF rs[i]! b.1 = true) => brk_row (s := ⟨cs, rs, ps, bs⟩) h hi hb hh
  obtain ⟨⟨ti, te, tl⟩, hT⟩ : ∃ x, termsF ⟨cs, rs, ps, bs⟩ = x := ⟨_, rfl⟩
  rw [hT] at kt hbad hgood hparts htsok hbrow
  simp only [] at kt hbad hgood hparts htsok hbrow
  have KT := Lib.hid kt
  have HBAD := Lib.hid hbad
  have HGOOD := Lib.hid hgood
  have HPARTS := Lib.hid hparts
  have HTSOK := Lib.hid htsok
  have HBROW := Lib.hid hbrow
  clear hz0 kt hbad hgood hparts htsok hbrow hT
  have hsz : W0.heap.size = P + 1 := by rw [hW0, ← hP]; simp
  have HSZ := Lib.hid hsz
  have HWP := Lib.hid hP
  clear hsz
  go_enter Try.func11, Try.ntmps11
  go_upto_region 1 with fail
  rw [← hW0]
  clear hW0 hP
  go_wp2_with fail
  refine KT.out.mono ?_
  rintro e w1 ⟨⟨lv, rfl, hlv⟩, hb1⟩
  have HB1 := Lib.hid hb1
  have HLV := Lib.hid hlv
  clear hb1 hlv d0 d1 d2 d3 KT
  by_cases hte : te = 0
  · subst hte
    obtain ⟨htl, hnl⟩ := HLV.out rfl
    obtain ⟨hok, _, hbse, _⟩ := HPARTS.out rfl
    have hts := HTSOK.out hok rfl
    have hnd := bs_nodup hbse
    have hgd := HGOOD.out rfl
    have kin := fun (X : World) => in_any day 0 131072 X
    obtain ⟨b, hb⟩ : ∃ b, inF day 0 131072 = b := ⟨_, rfl⟩
    rw [hb] at hgd
    simp only [hb] at kin
    have HGD := Lib.hid hgd
    have KIN := Lib.hid kin
    have HTL := Lib.hid htl
    have HOK := Lib.hid hok
    have HTS := Lib.hid hts
    have HND := Lib.hid hnd
    have HBR := Lib.hid (HBROW.out rfl)
    have HB1W := Lib.hid (HB.out.trans (HB1.out.mono HB.out.size))
    clear hgd kin htl hok hts hnd hb hnl hbse HBROW HGOOD HBAD HPARTS HTSOK HLV
    cases b with
    | false =>
      have hen := HGD.out
      rw [if_pos rfl] at hen
      have HEN := Lib.hid hen
      clear hen
      go_wp2_with (go_at_call 28; (with_reducible refine (KIN.out _).mono ?_); rintro e w2 ⟨rfl, rfl⟩)
      go_ret2
      exact ⟨none, 0, by rw [HEN.out]; rfl, by rw [HEN.out]; exact tab_nil _, (fun b off e => by cases e), HB1W.out⟩
    | true =>
      have hen := HGD.out
      rw [if_neg (by decide)] at hen
      have HEN := Lib.hid hen
      clear hen HGD
      obtain ⟨la, lc, rfl⟩ := HTL.out.shape
      have hll := HTS.out.1
      simp only [] at hll
      have HLL := Lib.hid hll
      have HTL2 := Lib.hid HTL.out
      obtain ⟨W2, hW2⟩ : ∃ X, X = w1.alloc (.cells #[.int .i64 0, .int .i64 0, .int .i64 0, .int .i64 0] 3) := ⟨_, rfl⟩
      have hb2 : Below w1.heap.size w1 W2 := by rw [hW2]; exact (Below.refl _ _).alloc (Nat.le_refl _) _
      have hcn : CntAt W2 w1.heap.size (0, 0, 0, 0) := by rw [hW2]; exact alloc_heap w1 _
      have HB2 := Lib.hid hb2
      have HCN := Lib.hid hcn
      clear hll hb2 hcn
      go_wp2_with (go_at_call 28; (with_reducible refine (KIN.out _).mono ?_); rintro e w2 ⟨rfl, rfl⟩)
      rw [← hW2]
      have HCW := Lib.hid (show W2.heap.size = w1.heap.size + 1 by rw [hW2]; simp)
      obtain ⟨C, hC⟩ : ∃ C, w1.heap.size = C := ⟨_, rfl⟩
      rw [hC] at HCN ⊢
      have HCC := Lib.hid hC
      clear hW2 hC
      have hfew := stk_few HOK.out
      simp only [] at hfew
      have HFW := Lib.hid hfew.2.1
      have m5 : rs.length ≤ 24 := hfew.2.1
      clear hfew
      go_loopw [10] (fun i wr => ∃ (k : Nat) (t : T4), k ≤ rs.length ∧ i = .int .i64 k ∧ CntAt wr C t ∧ BndT t ((k : Int) * 1000000) ∧ ((rowsT ⟨cs, rs, ps, bs⟩ tl).take k).foldl (tallyF bs day) (0, 0, 0, 0) = t ∧ Below w1.heap.size w1 wr) (fun i _ => rs.length - (intOf i).toNat)
      case atStart => exact ⟨0, _, by omega, rfl, HCN.out, by simp [BndT], rfl, HB2.out⟩
      case round =>
        obtain ⟨k, t, hk, rfl, hcn, hbn, hfold, hbw⟩ := hrel
        have HBW := Lib.hid (HB1.out.trans (hbw.mono HB1.out.size))
        have HBX := Lib.hid hbw
        obtain ⟨d0, d1, d2, d3⟩ := four_cells (box_step (w0 := w) HR0.out HBW.out)
        by_cases hlt : k < rs.length
        · obtain ⟨rb, ro, e1, hrb, hrx⟩ := hq0.out.at (show 0 < rs.length by omega)
          subst e1
          have g0 := hrx k hlt 0 (by omega)
          have g1 := hrx k hlt 1 (by omega)
          have hgood := row_good HOK.out hlt
          have hstep := tally_step HTS.out.1 hlt day
          simp only [] at hstep hgood
          rw [hfold] at hstep
          have hkt : k < tl.length := by rw [HLL.out]; exact hlt
          have hbrk := HBR.out k hlt
          rw [← getD_bang rs hlt, ← getD_bang tl hkt] at hstep
          rw [← getD_bang rs hlt] at hbrk
          have kst := fun (n : Int) (X : World) (hX : Below w1.heap.size w1 X) => refStatus_any ⟨cs, rs, ps, bs⟩ tl k n day _ _ X (HZ0.out.below (HB1.out.trans (hX.mono HB1.out.size))) (HTL2.out.below hX) hlt hkt
          simp only [] at kst
          obtain ⟨⟨r0, r1, r2, r3⟩, hr⟩ : ∃ x : Row, rs.getD k default = x := ⟨_, rfl⟩
          obtain ⟨⟨t0, t1⟩, ht⟩ : ∃ x : Int × Int, tl.getD k default = x := ⟨_, rfl⟩
          rw [hr] at g0 g1 hgood hstep hbrk
          rw [ht] at hstep
          simp only [hr, ht] at kst
          simp only [Nat.add_zero, rowC] at g0 g1
          simp only [] at hgood
          obtain ⟨b1, b2, b3, b4, b5, b6, b7⟩ := hgood
          have hbday : ∀ m : Nat, (m : Int) < r1 - r0 + 1 → brkBy bs (r0 + m) day = true → r3 ≤ day := fun m hm hbb => by
            unfold brkBy at hbb
            cases hd : brkDay bs (r0 + m) with
            | none => rw [hd] at hbb; cases hbb
            | some d =>
              rw [hd] at hbb
              obtain ⟨i, hi, hie⟩ := brkDay_at hd
              have h1 := hbrk bs[i]! (by rw [getElem!_pos bs i hi]; exact List.getElem_mem hi) (by rw [hie]; unfold hasF; rw [inF_iff]; simp only []; omega)
              rw [hie] at h1
              have h2 : d ≤ day := of_decide_eq_true hbb
              simp only [] at h1
              omega
          have hpall := fun (m : Nat) (hm : (m : Int) = r1 - r0 + 1) => part_all bs day t (⟨r0, r1, r2, r3⟩, (t0, t1)) m hm
          have hpst := fun (m : Nat) (hm : (m : Int) < r1 - r0 + 1) => part_step HND.out day t ⟨r0, r1, r2, r3⟩ t0 m (hbday m hm)
          simp only [] at hpall hpst
          have HPALL := Lib.hid hpall
          have HPST := Lib.hid hpst
          have HSTEP := Lib.hid hstep
          have HG0 := Lib.hid g0
          have HG1 := Lib.hid g1
          have KST := Lib.hid kst
          have HCN2 := Lib.hid hcn
          have HBN := Lib.hid hbn
          have g0' := (HBW.out.cell (p := ⟨rb, ro + k * 4, none⟩) hrb).trans g0
          have ik1 : (k : Int) < (rs.length : Int) := Int.ofNat_lt.2 hlt
          clear hrx g0 g1 hstep hbrk kst hr ht hbday hpall hpst hcn hbn hfold hbw
          obtain ⟨wo, hwo⟩ : ∃ wo : World, wo = wr := ⟨_, rfl⟩
          subst hwo
          go_wp2
          clear d0 d1 d2 d3 g0'
          go_loopw [11] (fun i wr2 => ∃ (m : Nat), (m : Int) ≤ r1 - r0 + 1 ∧ i = .int .i64 (r0 + m) ∧ CntAt wr2 C (partF bs day t ⟨r0, r1, r2, r3⟩ t0 m) ∧ BndT (partF bs day t ⟨r0, r1, r2, r3⟩ t0 m) ((k : Int) * 1000000 + m) ∧ Below w1.heap.size w1 wr2) (fun i _ => (r1 + 1 - intOf i).toNat)
          case atStart => exact ⟨0, by omega, by simp, by rw [part_zero]; exact HCN2.out, by rw [part_zero]; simpa using HBN.out, HBX.out⟩
          case round =>
            obtain ⟨m, hm, rfl, hcn, hbn, hbd⟩ := hrel
            have HBD := Lib.hid hbd
            have HBD2 := Lib.hid (HB1.out.trans (hbd.mono HB1.out.size))
            obtain ⟨d0, d1, d2, d3⟩ := four_cells (box_step (w0 := w) HR0.out HBD2.out)
            have g1' := (HBD2.out.cell (p := ⟨rb, ro + k * 4 + 1, none⟩) hrb).trans HG1.out
            by_cases hml : r0 + (m : Int) ≤ r1
            · have hps := HPST.out m (by omega)
              obtain ⟨⟨a, b, c, d⟩, hp⟩ : ∃ x : T4, partF bs day t ⟨r0, r1, r2, r3⟩ t0 m = x := ⟨_, rfl⟩
              rw [hp] at hcn hbn hps
              have ks := KST.out (r0 + m) wr HBD.out
              have h4 := refStat_four bs ⟨r0, r1, r2, r3⟩ t0 (r0 + m) day
              obtain ⟨K, hK⟩ : ∃ x, refStatF bs ⟨r0, r1, r2, r3⟩ t0 (r0 + m) day = x := ⟨_, rfl⟩
              rw [hK] at hps h4 ks
              have KS := Lib.hid ks
              have HPS := Lib.hid hps
              have HC1 := Lib.hid hcn
              have HN1 := Lib.hid hbn
              have HK4 := Lib.hid h4
              clear hp hps ks hK hcn hbn hbd h4
              go_wp2_with fail
              refine KS.out.mono ?_
              rintro e w5 ⟨rfl, hb5⟩
              have HB5 := Lib.hid (HBD.out.trans (hb5.mono HBD.out.size))
              have hc5 : CntAt w5 C (a, b, c, d) := box_step (w0 := w) HC1.out hb5
              have HC5 := Lib.hid hc5
              unfold CntAt at hc5
              obtain ⟨x0, x1, x2, x3⟩ := four_cells hc5
              have fz : ∀ o, w5.frozen? ⟨C, o, none⟩ = false := fun o => by simp [World.frozen?, hc5]
              obtain ⟨⟨l0, l1⟩, ⟨l2, l3⟩, ⟨l4, l5⟩, ⟨l6, l7⟩⟩ := HN1.out
              simp only [] at l0 l1 l2 l3 l4 l5 l6 l7
              have wn : IntKind.i64.wrap (r0 + (m : Int) + 1) = r0 + (m : Int) + 1 := IntWalk.i64_in _ (by omega)
              have wa : IntKind.i64.wrap (a + 1) = a + 1 := IntWalk.i64_in _ (by omega)
              have wb : IntKind.i64.wrap (b + 1) = b + 1 := IntWalk.i64_in _ (by omega)
              have wc' : IntKind.i64.wrap (c + 1) = c + 1 := IntWalk.i64_in _ (by omega)
              have wd : IntKind.i64.wrap (d + 1) = d + 1 := IntWalk.i64_in _ (by omega)
              have HBB := Lib.hid (show ∀ K, BndT (bumpF (a, b, c, d) K) ((k : Int) * 1000000 + (m + 1 : Nat)) from fun K => by
                unfold BndT bumpF
                simp only []
                refine ⟨?_, ?_, ?_, ?_⟩ <;> split <;> omega)
              have fz0 := fz 0
              have fz1 := fz 1
              have fz2 := fz 2
              have fz3 := fz 3
              clear hb5 hc5 d0 d1 d2 d3 g1' fz l0 l1 l2 l3 l4 l5 l6 l7
              rcases HK4.out with rfl | rfl | rfl | rfl
              · have hn := HPS.out
                have hc6 := cnt_set HC5.out 0 (a + 1) (bumpF (a, b, c, d) 0) (by simp [bumpF])
                have hb6 : Below w1.heap.size w1 (w5.setCell ⟨C, 0, none⟩ (.int .i64 (a + 1))) := HB5.out.setCell (by rw [HCC.out]; exact Nat.le_refl _) _
                rw [← hn] at hc6
                have hbb := HBB.out 0
                rw [← hn] at hbb
                have HC6 := Lib.hid hc6
                have HB6 := Lib.hid hb6
                have HB7 := Lib.hid hbb
                clear hn hc6 hb6 hbb
                go_wp2
                go_roundw
                case rel => exact ⟨m + 1, by omega, by rw [show r0 + ((m + 1 : Nat) : Int) = r0 + (m : Int) + 1 by omega], HC6.out, HB7.out, HB6.out⟩
                case measure => simp [intOf]; omega
              · have hn := HPS.out
                have hc6 := cnt_set HC5.out 1 (b + 1) (bumpF (a, b, c, d) 1) (by simp [bumpF])
                have hb6 : Below w1.heap.size w1 (w5.setCell ⟨C, 1, none⟩ (.int .i64 (b + 1))) := HB5.out.setCell (by rw [HCC.out]; exact Nat.le_refl _) _
                rw [← hn] at hc6
                have hbb := HBB.out 1
                rw [← hn] at hbb
                have HC6 := Lib.hid hc6
                have HB6 := Lib.hid hb6
                have HB7 := Lib.hid hbb
                clear hn hc6 hb6 hbb
                go_wp2
                go_roundw
                case rel => exact ⟨m + 1, by omega, by rw [show r0 + ((m + 1 : Nat) : Int) = r0 + (m : Int) + 1 by omega], HC6.out, HB7.out, HB6.out⟩
                case measure => simp [intOf]; omega
              · have hn := HPS.out
                have hc6 := cnt_set HC5.out 2 (c + 1) (bumpF (a, b, c, d) 2) (by simp [bumpF])
                have hb6 : Below w1.heap.size w1 (w5.setCell ⟨C, 2, none⟩ (.int .i64 (c + 1))) := HB5.out.setCell (by rw [HCC.out]; exact Nat.le_refl _) _
                rw [← hn] at hc6
                have hbb := HBB.out 2
                rw [← hn] at hbb
                have HC6 := Lib.hid hc6
                have HB6 := Lib.hid hb6
                have HB7 := Lib.hid hbb
                clear hn hc6 hb6 hbb
                go_wp2
                go_roundw
                case rel => exact ⟨m + 1, by omega, by rw [show r0 + ((m + 1 : Nat) : Int) = r0 + (m : Int) + 1 by omega], HC6.out, HB7.out, HB6.out⟩
                case measure => simp [intOf]; omega
              · have hn := HPS.out
                have hc6 := cnt_set HC5.out 3 (d + 1) (bumpF (a, b, c, d) 3) (by simp [bumpF])
                have hb6 : Below w1.heap.size w1 (w5.setCell ⟨C, 3, none⟩ (.int .i64 (d + 1))) := HB5.out.setCell (by rw [HCC.out]; exact Nat.le_refl _) _
                rw [← hn] at hc6
                have hbb := HBB.out 3
                rw [← hn] at hbb
                have HC6 := Lib.hid hc6
                have HB6 := Lib.hid hb6
                have HB7 := Lib.hid hbb
                clear hn hc6 hb6 hbb
                go_wp2
                go_roundw
                case rel => exact ⟨m + 1, by omega, by rw [show r0 + ((m + 1 : Nat) : Int) = r0 + (m : Int) + 1 by omega], HC6.out, HB7.out, HB6.out⟩
                case measure => simp [intOf]; omega
            · have hme : (m : Int) = r1 - r0 + 1 := by omega
              have hpa := HPALL.out m hme
              have hst := HSTEP.out
              rw [← hpa] at hst
              have HST2 := Lib.hid hst
              have HC1 := Lib.hid hcn
              have HN1 := Lib.hid (bnd_more hbn (show (k : Int) * 1000000 + m ≤ ((k + 1 : Nat) : Int) * 1000000 by omega))
              clear hme hpa hst hcn hbn hbd
              go_wp2
              go_roundw
              case rel => exact ⟨k + 1, _, by omega, by go_num, HC1.out, HN1.out, HST2.out, HBD.out⟩
              case measure => simp [intOf]; omega
        · have hkl : k = rs.length := by omega
          have i1 : ¬ (k : Int) < (rs.length : Int) := by omega
          have hal : tallyAll ⟨cs, rs, ps, bs⟩ tl day = t := by
            unfold tallyAll
            rw [← hfold, hkl, List.take_of_length_le (by rw [rowsT_len HTS.out.1]; exact Nat.le_refl _)]
          have hen := HEN.out
          rw [hal] at hen
          obtain ⟨a, b, c, d⟩ := t
          simp only [] at hen
          have HEN2 := Lib.hid hen
          have HTF := Lib.hid (tab_four hcn)
          clear hkl hal hen hfold hcn hbn hbw hlt hk
          go_wp2
          go_ret2
          exact ⟨some ⟨C, 0, none⟩, 4, by rw [HEN2.out]; rfl, by rw [HEN2.out]; exact HTF.out, (fun b off e => by cases e; have := HB1W.out.size; rw [← HCC.out]; exact this), HB.out.trans (HBW.out.mono HB.out.size)⟩
  · have hen := HBAD.out hte
    have HEN := Lib.hid hen
    have e1 : (te != 0) = true := by simpa using hte
    clear hen
    go_wp2
    go_ret2
    exact ⟨none, 0, by rw [HEN.out]; rfl, by rw [HEN.out]; exact tab_nil _, (fun b off e => by cases e), HB.out.trans (HB1.out.mono HB.out.size)⟩
end Go.Proofs.Ytcmfplfnpjknlaa
