/- Sound: the walk of SoundEnds. -/
import Derived.Test.YtdbjifpnbghbaaaL11a
namespace Go.Proofs.Ytdbjifpnbghbaaa
set_option linter.unusedSimpArgs false
set_option linter.unusedVariables false
open Go.RowKit Go.Maps Go.BigFrame Go.ChangeShapes Go.WideShapes Go.ChangeAt

set_option maxRecDepth 100000 in
set_option maxHeartbeats 12800000 in
theorem ends_law (l : List Pi) (v : Value) (h : He) (w : World) (hl : TabAt 3 piC w v l) : Calls Try.prog 7 #[v, heV h] w fun e w' => e = .returned (.bool true) ∧ Below w.heap.size w w' := by
  obtain ⟨a, c, rfl⟩ := hl.shape
  obtain ⟨x, y, lo, hi⟩ := h
  have hw := where_one l ⟨x, y, lo, hi⟩
  have KW1 := Lib.hid (fun v2 X hX hX2 => Where_any l (.slice a l.length c) [⟨x, y, lo, hi⟩] v2 X hX hX2)
  have hfew := whereF_few l [⟨x, y, lo, hi⟩]
  obtain ⟨⟨S, re⟩, hR⟩ : ∃ r, whereF l [⟨x, y, lo, hi⟩] = r := ⟨_, rfl⟩
  rw [hR] at KW1 hfew hw
  unfold WhereR at KW1
  simp only [] at KW1 hfew
  have KL := Lib.hid (fun X hX => Line_any l (.slice a l.length c) X hX)
  have KA := Lib.hid alive_any
  have hgf := fun h => great_few (l := l) (far := 1073741824) h
  unfold heV
  simp only []
  obtain ⟨W0, hW0⟩ : ∃ X, X = w.alloc (.cells #[.int .i64 x, .int .i64 y, .int .i64 lo, .int .i64 hi] 26) := ⟨_, rfl⟩
  have hb0 : Below w.heap.size w W0 := by rw [hW0]; exact (Below.refl _ _).alloc (Nat.le_refl _) _
  have hr0 : W0.heap[w.heap.size]? = some (.cells #[.int .i64 x, .int .i64 y, .int .i64 lo, .int .i64 hi] 26 (0, 0)) := by rw [hW0]; exact alloc_heap w _
  have KG := Lib.hid (great_any l (.slice a l.length c) 1073741824 W0 (hl.below hb0))
  obtain ⟨gr, hgr⟩ : ∃ g, greatB l 1073741824 = g := ⟨_, rfl⟩
  rw [hgr] at KG hgf
  obtain ⟨ok, hok⟩ : ∃ g, lineOk l = g := ⟨_, rfl⟩
  have HOK := Lib.hid hok
  rw [hok] at KL hw
  obtain ⟨P, hP⟩ : ∃ z, w.heap.size = z := ⟨_, rfl⟩
  rw [hP] at hr0
  have HL0 := Lib.hid (hl.below hb0)
  have H0 := Lib.hid hr0
  have HB0 := Lib.hid hb0
  have HF := Lib.hid hfew
  have HGF := Lib.hid hgf
  have HWW := Lib.hid hw
  clear hl hb0 hr0 hgr hok hR hw hfew hgf
  go_enter Try.func7, Try.ntmps7
  go_upto_region 1 with fail
  rw [← hW0]
  try rw [hP]
  clear hW0 hP
  go_wp2_with (go_at_call 11; fail)
  refine KG.out.mono ?_
  rintro e w2 ⟨rfl, hb2⟩
  have HL2 := Lib.hid (HL0.out.below hb2)
  have H2 := Lib.hid (box_step (w0 := w) H0.out hb2)
  have HB2 := Lib.hid (HB0.out.trans (hb2.mono HB0.out.size))
  clear hb2 HL0 H0 HB0 KG
  cases gr with
  | true =>
    go_wp2_with (go_at_call 12; fail)
    refine (KA.out _).mono ?_
    rintro e9 w3 ⟨rfl, hbz⟩
    go_wp2
    go_ret
    exact ⟨rfl, HB2.out.trans (hbz.mono HB2.out.size)⟩
  | false =>
    have h12 := HGF.out rfl
    have HL12 := Lib.hid h12
    have HS := Lib.hid (show S.length ≤ 12 by have := HF.out; omega)
    clear h12 HF HGF
    obtain ⟨y0, y1, y2, y3⟩ := four_cells H2.out
    obtain ⟨Q, hQ⟩ : ∃ z, w2.heap.size = z := ⟨_, rfl⟩
    obtain ⟨W3, hW3⟩ : ∃ X, w2.alloc (.cells #[.int .i64 x, .int .i64 y, .int .i64 lo, .int .i64 hi] 26) = X := ⟨_, rfl⟩
    have hb3 : Below w2.heap.size w2 W3 := by rw [← hW3]; exact (Below.refl _ _).alloc (Nat.le_refl _) _
    have hr3 : W3.heap[Q]? = some (.cells #[.int .i64 x, .int .i64 y, .int .i64 lo, .int .i64 hi] 26 (0, 0)) := by rw [← hW3, ← hQ]; exact alloc_heap w2 _
    have KW3 := Lib.hid (KW1.out _ W3 (HL2.out.below hb3) (tab_of_block (f := heC) (k := 4) (L := [⟨x, y, lo, hi⟩]) hr3 (by simp)))
    have HL3 := Lib.hid (HL2.out.below hb3)
    have H3 := Lib.hid (box_step (w0 := w) H2.out hb3)
    have HB3 := Lib.hid (HB2.out.trans (hb3.mono HB2.out.size))
    clear hb3 hr3 HL2 H2 HB2 KW1
    go_wp2_with (go_at_call 18; fail)
    refine KW3.out.mono ?_
    rintro e w4 ⟨v4, rfl, ho4, hb4⟩
    clear hW3 hQ y0 y1 y2 y3 KW3
    have ht4 := outT_tab ho4 (by have := HS.out; omega)
    obtain ⟨a4, c4, rfl⟩ := ht4.shape
    have HT4 := Lib.hid ht4
    have HL4 := Lib.hid (HL3.out.below hb4)
    have H4 := Lib.hid (box_step (w0 := w) H3.out hb4)
    have HB4 := Lib.hid (HB3.out.trans (hb4.mono HB3.out.size))
    clear ho4 ht4 hb4 HL3 H3 HB3
    obtain ⟨y0, y1, y2, y3⟩ := four_cells H4.out
    go_wp2_with (go_at_call 24; fail)
    refine (KL.out _ HL4.out).mono ?_
    rintro e w5 ⟨rfl, hb5⟩
    have HT5 := Lib.hid (HT4.out.below hb5)
    have HL5 := Lib.hid (HL4.out.below hb5)
    have H5 := Lib.hid (box_step (w0 := w) H4.out hb5)
    have HB5 := Lib.hid (HB4.out.trans (hb5.mono HB4.out.size))
    clear hb5 y0 y1 y2 y3 HT4 HL4 H4 HB4
    cases ok with
    | false =>
      have hw := HWW.out
      simp only [Bool.false_eq_true, if_false, Prod.mk.injEq] at hw
      obtain ⟨rfl, rfl⟩ := hw
      clear HWW
      go_wp2_with (go_at_call 24; fail)
      refine (KL.out _ HL5.out).mono ?_
      rintro e w6 ⟨rfl, hb6⟩
      have HB6 := Lib.hid (HB5.out.trans (hb6.mono HB5.out.size))
      clear hb6
      go_wp2_with (go_at_call 12; fail)
      refine (KA.out _).mono ?_
      rintro e9 w7 ⟨rfl, hbz⟩
      go_wp2
      go_ret
      exact ⟨rfl, HB6.out.trans (hbz.mono HB6.out.size)⟩
    | true =>
      have hok := HOK.out
      have hw := HWW.out
      rw [if_pos rfl] at hw
      have kh := rHearing_any l hok (.slice a l.length c) ⟨x, y, lo, hi⟩ w5 HL5.out
      unfold heV at kh
      simp only [] at kh
      obtain ⟨b, hb⟩ : ∃ b, hearOk l ⟨x, y, lo, hi⟩ = b := ⟨_, rfl⟩
      have HHB := Lib.hid hb
      rw [hb] at kh hw
      have KHH := Lib.hid kh
      have HW2 := Lib.hid hw
      obtain ⟨y0, y1, y2, y3⟩ := four_cells H5.out
      clear hok hw kh hb HWW
      go_wp2_with (go_at_call 29; fail)
      refine KHH.out.mono ?_
      rintro e w6 ⟨rfl, hb6⟩
      have HT6 := Lib.hid (HT5.out.below hb6)
      have HL6 := Lib.hid (HL5.out.below hb6)
      have H6 := Lib.hid (box_step (w0 := w) H5.out hb6)
      have HB6 := Lib.hid (HB5.out.trans (hb6.mono HB5.out.size))
      clear hb6 y0 y1 y2 y3 HT5 HL5 H5 HB5 KHH
      cases b with
      | false =>
        have hw := HW2.out
        simp only [Bool.false_eq_true, if_false, Prod.mk.injEq] at hw
        obtain ⟨rfl, rfl⟩ := hw
        clear HW2
        go_wp2_with (go_at_call 24; fail)
        refine (KL.out _ HL6.out).mono ?_
        rintro e w7 ⟨rfl, hb7⟩
        have HB7 := Lib.hid (HB6.out.trans (hb7.mono HB6.out.size))
        clear hb7
        go_wp2_with (go_at_call 12; fail)
        refine (KA.out _).mono ?_
        rintro e9 w8 ⟨rfl, hbz⟩
        go_wp2
        go_ret
        exact ⟨rfl, HB7.out.trans (hbz.mono HB7.out.size)⟩
      | true =>
        have hok := HOK.out
        have hw := HW2.out
        rw [if_pos rfl] at hw
        have hE := end_in hok
        have hxy : (0 ≤ x ∧ x ≤ y ∧ y ≤ endF l) ∧ -1099511627776 ≤ lo ∧ lo ≤ hi ∧ hi ≤ 1099511627776 := by
          have h1 := HHB.out
          unfold hearOk at h1
          simp only [Bool.and_eq_true, earsF_iff, withinF_iff] at h1
          exact h1
        have KE := Lib.hid (End_any l (.slice a l.length c) w6 HL6.out (fun i hi => by have := pos_small hok hi; omega))
        have KAL := fun t X hX => rAllows_any l hok (.slice a l.length c) ⟨x, y, lo, hi⟩ t HHB.out X hX
        unfold heV at KAL
        simp only [] at KAL
        have hlagR : ∀ t, 0 ≤ t → t ≤ endF l → lagR l x y t = (lagsF l x y t, 0) := fun t h0 h1 => by
          unfold lagR
          rw [if_pos hok, if_pos (by unfold placeF; simp only [Bool.and_eq_true, inF_iff, earsF_iff]; omega)]
        have HLR := Lib.hid hlagR
        have KALL := Lib.hid KAL
        by_cases hS : strUp l (spanF l [⟨x, y, lo, hi⟩]) l.length = []
        · as_aux_lemma =>
            rw [if_pos hS] at hw
            obtain ⟨hn0, hn1⟩ := none_math hok ⟨x, y, lo, hi⟩ hS
            simp only [Prod.mk.injEq] at hw
            obtain ⟨rfl, rfl⟩ := hw
            have hl0 := hlagR 0 (by omega) (by omega)
            have hl1 := hlagR (endF l) (by omega) (by omega)
            have hm0 := lag_mono hok false x y (show 0 ≤ endF l by omega)
            have hm1 := lag_mono hok true x y (show 0 ≤ endF l by omega)
            have hd0 : lagsF l x y 0 = (lagF false l x y 0, lagF true l x y 0) := rfl
            have hd1 : lagsF l x y (endF l) = (lagF false l x y (endF l), lagF true l x y (endF l)) := rfl
            rw [hd0] at hl0
            rw [hd1] at hl1
            have KL0 := fun X hX => Lag_any l (.slice a l.length c) x y 0 X hX
            have KL1 := fun X hX => Lag_any l (.slice a l.length c) x y (endF l) X hX
            have KA0 := KAL 0
            have KA1 := KAL (endF l)
            rw [hl0] at KL0
            rw [hl1] at KL1
            rw [hn0] at KA0
            rw [hn1] at KA1
            unfold LagR at KL0 KL1
            simp only [] at KL0 KL1
            obtain ⟨E, hEe⟩ : ∃ E, endF l = E := ⟨_, rfl⟩
            rw [hEe] at hm0 hm1 KL1 KA1 KE
            obtain ⟨g0, hg0⟩ : ∃ z, lagF false l x y 0 = z := ⟨_, rfl⟩
            obtain ⟨q0, hq0⟩ : ∃ z, lagF true l x y 0 = z := ⟨_, rfl⟩
            obtain ⟨g1, hg1⟩ : ∃ z, lagF false l x y E = z := ⟨_, rfl⟩
            obtain ⟨q1, hq1⟩ : ∃ z, lagF true l x y E = z := ⟨_, rfl⟩
            rw [hg0] at hm0 KL0
            rw [hq0] at hm1 KL0
            rw [hg1] at hm0 KL1
            rw [hq1] at hm1 KL1
            have KL00 := Lib.hid KL0
            have KL11 := Lib.hid KL1
            have KA00 := Lib.hid KA0
            have KA11 := Lib.hid KA1
            obtain ⟨y0, y1, y2, y3⟩ := four_cells H6.out
            clear hok hS hn0 hn1 hl0 hl1 hd0 hd1 hE hxy hEe hg0 hq0 hg1 hq1 KAL KL0 KL1 KA0 KA1 HW2 hlagR KALL HLR
            go_wp2_with (first | (go_at_call 25; (with_reducible refine KE.out.mono ?_); rintro e w7 ⟨rfl, rfl⟩) | (go_at_call 13; fail))
            refine (KL00.out _ HL6.out).mono ?_
            rintro e w8 ⟨rfl, hb8⟩
            obtain ⟨W9, hW9⟩ : ∃ X, X = w8.alloc (.cells #[.int .i64 g0, .int .i64 q0] 24) := ⟨_, rfl⟩
            have hb9 : Below w8.heap.size w8 W9 := by rw [hW9]; exact (Below.refl _ _).alloc (Nat.le_refl _) _
            have hr9 : W9.heap[w8.heap.size]? = some (.cells #[.int .i64 g0, .int .i64 q0] 24 (0, 0)) := by rw [hW9]; exact alloc_heap w8 _
            have hb69 := hb8.trans (hb9.mono hb8.size)
            have HL9 := Lib.hid (HL6.out.below hb69)
            have H9 := Lib.hid (box_step (w0 := w) H6.out hb69)
            have HB9 := Lib.hid (HB6.out.trans (hb69.mono HB6.out.size))
            have HR9 := Lib.hid hr9
            clear y0 y1 y2 y3 hb8 hb9 hr9 hb69 HL6 H6 HB6 KL00 HT6
            go_upto_region 9 with fail
            rw [← hW9]
            have hr9 := HR9.out
            obtain ⟨A, hA⟩ : ∃ z, w8.heap.size = z := ⟨_, rfl⟩
            rw [hA] at hr9
            try rw [hA]
            have HA9 := Lib.hid hr9
            clear hW9 hA hr9 HR9
            obtain ⟨y0, y1, y2, y3⟩ := four_cells H9.out
            go_wp2_with (go_at_call 13; fail)
            refine (KL11.out _ HL9.out).mono ?_
            rintro e w10 ⟨rfl, hb10⟩
            obtain ⟨W11, hW11⟩ : ∃ X, X = w10.alloc (.cells #[.int .i64 g1, .int .i64 q1] 24) := ⟨_, rfl⟩
            have hb11 : Below w10.heap.size w10 W11 := by rw [hW11]; exact (Below.refl _ _).alloc (Nat.le_refl _) _
            have hr11 : W11.heap[w10.heap.size]? = some (.cells #[.int .i64 g1, .int .i64 q1] 24 (0, 0)) := by rw [hW11]; exact alloc_heap w10 _
            have hb911 := hb10.trans (hb11.mono hb10.size)
            have HL11 := Lib.hid (HL9.out.below hb911)
            have H11 := Lib.hid (box_step (w0 := w) H9.out hb911)
            have HA11 := Lib.hid (box_step (w0 := w) HA9.out hb911)
            have HB11 := Lib.hid (HB9.out.trans (hb911.mono HB9.out.size))
            have HR11 := Lib.hid hr11
            clear y0 y1 y2 y3 hb10 hb11 hr11 hb911 HL9 H9 HB9 HA9 KL11
            go_upto_region 10 with fail
            rw [← hW11]
            have hr11 := HR11.out
            obtain ⟨B, hB⟩ : ∃ z, w10.heap.size = z := ⟨_, rfl⟩
            rw [hB] at hr11
            try rw [hB]
            have HBB11 := Lib.hid hr11
            clear hW11 hB hr11 HR11
            obtain ⟨y0, y1, y2, y3⟩ := four_cells H11.out
            go_wp2_with (go_at_call 30; fail)
            refine (KA00.out _ HL11.out).mono ?_
            rintro e w12 ⟨rfl, hb12⟩
            have HL12' := Lib.hid (HL11.out.below hb12)
            have H12 := Lib.hid (box_step (w0 := w) H11.out hb12)
            have HA12 := Lib.hid (box_step (w0 := w) HA11.out hb12)
            have HBB12 := Lib.hid (box_step (w0 := w) HBB11.out hb12)
            have HB12 := Lib.hid (HB11.out.trans (hb12.mono HB11.out.size))
            clear y0 y1 y2 y3 hb12 HL11 H11 HA11 HBB11 HB11 KA00
            obtain ⟨y0, y1, y2, y3⟩ := four_cells H12.out
            go_wp2_with (go_at_call 30; fail)
            refine (KA11.out _ HL12'.out).mono ?_
            rintro e w13 ⟨rfl, hb13⟩
            have HB13 := Lib.hid (HB12.out.trans (hb13.mono HB12.out.size))
            obtain ⟨p0, p1⟩ := two_cells (box_step (w0 := w) HA12.out hb13)
            obtain ⟨p2, p3⟩ := two_cells (box_step (w0 := w) HBB12.out hb13)
            clear y0 y1 y2 y3 hb13 HL12' H12 HA12 HBB12 HB12 KA11
            go_wp2_with (go_at_call 12; fail)
            refine (KA.out _).mono ?_
            rintro e9 w14 ⟨rfl, hbz⟩
            go_wp2
            go_ret
            exact ⟨rfl, HB13.out.trans (hbz.mono HB13.out.size)⟩
        · rw [if_neg hS] at hw
          simp only [Prod.mk.injEq] at hw
          obtain ⟨hSe, rfl⟩ := hw
          obtain ⟨hrow, first, last, hf, hlst, hbnd, ha1, ha2, hn1, hn2⟩ := ends_math hok ⟨x, y, lo, hi⟩ S hSe.symm (by rw [hSe]; exact hS)
          have hne : 0 < S.length := List.length_pos_iff.2 (by rw [hSe]; exact hS)
          have hne0 : ¬ S = [] := by rw [hSe]; exact hS
          obtain ⟨E, hEe⟩ : ∃ E, endF l = E := ⟨_, rfl⟩
          rw [hEe] at hE KE hbnd hn2 hxy
          simp only [hEe] at hlagR
          have HROW := Lib.hid hrow
          have HFL := Lib.hid (And.intro hf hlst)
          have HBN := Lib.hid hbnd
          have HAA := Lib.hid (And.intro ha1 ha2)
          have HNN := Lib.hid (And.intro hn1 hn2)
          have HE := Lib.hid hE
          have HXY := Lib.hid hxy
          have HLR2 := Lib.hid hlagR
          clear hok hS hSe hE hxy hEe KAL hlagR HLR HW2 hrow hf hlst hbnd ha1 ha2 hn1 hn2
          go_wp2_with (go_at_call 25; (with_reducible refine KE.out.mono ?_); rintro e w7 ⟨rfl, rfl⟩)
          go_loopw [12, 13, 138] (fun _ _ i wr => ∃ k : Nat, k ≤ S.length ∧ i = .int .i64 k ∧ Below w6.heap.size w6 wr) (fun _ _ i _ => S.length - (intOf i).toNat)
          case atStart => exact ⟨0, by omega, rfl, Below.refl _ _⟩
          case round =>
            obtain ⟨k, hk, rfl, hbw⟩ := hrel
            by_cases hlt : k < S.length
            · obtain ⟨sb, sof, ec, hsb, hsx⟩ := (HT6.out.below hbw).at (by omega)
              subst ec
              obtain ⟨hro, hro2⟩ := HROW.out k hlt
              have x0 := hsx k hlt 0 (by omega)
              have x1 := hsx k hlt 1 (by omega)
              have x2 := hsx k hlt 2 (by omega)
              have hs12 := HS.out
              by_cases k0 : k = 0
              · as_aux_lemma =>
                  subst k0
                  clear hro2
                  obtain ⟨⟨p, t0, t1⟩, hrw⟩ : ∃ z : St, S.getD 0 default = z := ⟨_, rfl⟩
                  rw [hrw] at x0 x1 x2 hro
                  simp only [Nat.add_zero, Nat.zero_mul, stC] at x0 x1 x2 hro
                  obtain ⟨⟨hp0, hp1⟩, ha, hab, hb⟩ := hro
                  obtain ⟨q, rfl⟩ : ∃ q : Nat, p = q := ⟨p.toNat, by omega⟩
                  rw [Int.toNat_natCast] at hb
                  have hq : q < l.length := by omega
                  obtain ⟨lb, lof, ei, hlb, hlx⟩ := (HL6.out.below hbw).at (by omega)
                  subst ei
                  have z0 := hlx q hq 0 (by omega)
                  obtain ⟨⟨t2, t3, t4⟩, hrow2⟩ : ∃ z : Pi, l.getD q default = z := ⟨_, rfl⟩
                  rw [hrow2] at z0 hb
                  simp only [Nat.add_zero, piC] at z0 hb
                  have b1 : decide ((q : Int) < 0) = false := decide_eq_false (by omega)
                  have b2 : decide ((l.length : Int) ≤ (q : Int)) = false := decide_eq_false (by omega)
                  have b3 : decide (l.length ≤ q) = false := decide_eq_false (by omega)
                  have b4 : decide (t0 < 0) = false := decide_eq_false (by omega)
                  have b5 : decide (t1 < t0) = false := decide_eq_false (by omega)
                  have b6 : decide (t2 < t1) = false := decide_eq_false (by omega)
                  have ij0 : (0 : Int) ≤ (q : Int) := by omega
                  have ij1 : (q : Int) < (l.length : Int) := Int.ofNat_lt.2 hq
                  have ik1 : (0 : Int) < (S.length : Int) := by omega
                  obtain ⟨W1, hW1⟩ : ∃ Z, Z = wr.alloc (.cells #[.int .i64 q, .int .i64 t0, .int .i64 t1] 49) := ⟨_, rfl⟩
                  have hb1 : Below wr.heap.size wr W1 := by rw [hW1]; exact (Below.refl _ _).alloc (Nat.le_refl _) _
                  have hr1 : W1.heap[wr.heap.size]? = some (.cells #[.int .i64 q, .int .i64 t0, .int .i64 t1] 49 (0, 0)) := by rw [hW1]; exact alloc_heap wr _
                  have HR1 := Lib.hid hr1
                  have HZ1 := Lib.hid (cell_step z0 hb1)
                  have HB1 := Lib.hid (hbw.trans (hb1.mono hbw.size))
                  clear hsb hsx hrw hp0 hp1 ha hab hb hlb hlx hrow2 hs12 hb1 hr1 hbw z0
                  go_upto_region 14 with fail
                  rw [← hW1]
                  have hr1 := HR1.out
                  obtain ⟨X, hX⟩ : ∃ z, wr.heap.size = z := ⟨_, rfl⟩
                  rw [hX] at hr1
                  try rw [hX]
                  obtain ⟨m0, m1, m2⟩ := three_cells hr1
                  have k0 := cell_regrown m0
                  have k1 := cell_regrown m1
                  have k2 := cell_regrown m2
                  have k3 := cell_regrown HZ1.out
                  clear hW1 hX x0 x1 x2 m0 m1 m2 hr1 HR1 HZ1
                  try simp only [List.append]
                  refine wp_region_quiet_below (by kernel_rfl) (by kernel_rfl) ?_
                  repeat (go_big_quiet_step (fail))
                  refine wpQuiet_nil ?_
                  intro Z hw'
                  have hbr : Below W1.heap.size W1 Z := by obtain ⟨⟨dq, osq⟩, hw''⟩ := hw'; rw [hw'']; exact below_regrown W1 dq osq
                  have HBZ := Lib.hid (HB1.out.trans (hbr.mono HB1.out.size))
                  clear hw' hbr k0 k1 k2 k3
                  go_wp2
                  go_roundw
                  case rel => exact ⟨1, by omega, by go_num, HBZ.out⟩
                  case measure => simp [intOf]; omega
              · as_aux_lemma =>
                  obtain ⟨m, hm⟩ : ∃ m, k - 1 = m := ⟨_, rfl⟩
                  have hml : m < S.length := by omega
                  have hro3 := hro2 (by omega)
                  obtain ⟨hroy, _⟩ := HROW.out m hml
                  have y0 := hsx m hml 0 (by omega)
                  have y2 := hsx m hml 2 (by omega)
                  rw [hm] at hro3
                  obtain ⟨⟨p, t0, t1⟩, hrw⟩ : ∃ z : St, S.getD k default = z := ⟨_, rfl⟩
                  obtain ⟨⟨pp, d0, d1⟩, hrwy⟩ : ∃ z : St, S.getD m default = z := ⟨_, rfl⟩
                  rw [hrw] at x0 x1 x2 hro hro3
                  rw [hrwy] at y0 y2 hro3 hroy
                  simp only [Nat.add_zero, stC] at x0 x1 x2 y0 y2 hro hro3 hroy
                  obtain ⟨⟨hp0, hp1⟩, ha, hab, hb⟩ := hro
                  obtain ⟨⟨hpp0, hpp1⟩, _⟩ := hroy
                  obtain ⟨hpe, rfl, hd1⟩ := hro3
                  obtain ⟨q, rfl⟩ : ∃ q : Nat, p = q := ⟨p.toNat, by omega⟩
                  obtain ⟨r, rfl⟩ : ∃ q : Nat, pp = q := ⟨pp.toNat, by omega⟩
                  rw [Int.toNat_natCast] at hb hd1
                  have hq : q < l.length := by omega
                  have hr : r < l.length := by omega
                  obtain ⟨lb, lof, ei, hlb, hlx⟩ := (HL6.out.below hbw).at (by omega)
                  subst ei
                  have z0 := hlx q hq 0 (by omega)
                  have z1 := hlx r hr 0 (by omega)
                  obtain ⟨⟨t2, t3, t4⟩, hrow2⟩ : ∃ z : Pi, l.getD q default = z := ⟨_, rfl⟩
                  obtain ⟨⟨s2, s3, s4⟩, hrow3⟩ : ∃ z : Pi, l.getD r default = z := ⟨_, rfl⟩
                  rw [hrow2] at z0 hb
                  rw [hrow3] at z1 hd1
                  simp only [Nat.add_zero, piC] at z0 z1 hb hd1
                  subst hd1
                  have v1 : IntKind.i64.wrap ((k : Int) - 1) = (m : Int) := by rw [IntWalk.i64_in _ (by omega)]; omega
                  have v2 : IntKind.i64.wrap ((r : Int) + 1) = (q : Int) := by rw [IntWalk.i64_in _ (by have := HL12.out; omega)]; omega
                  have v3 : IntKind.i64.wrap ((k : Int) + 1) = (k : Int) + 1 := IntWalk.i64_in _ (by omega)
                  have b1 : decide ((q : Int) < 0) = false := decide_eq_false (by omega)
                  have b2 : decide ((l.length : Int) ≤ (q : Int)) = false := decide_eq_false (by omega)
                  have b3 : decide (l.length ≤ q) = false := decide_eq_false (by omega)
                  have b5 : decide (t1 < 0) = false := decide_eq_false (by omega)
                  have b6 : decide (t2 < t1) = false := decide_eq_false (by omega)
                  have b7 : decide ((0 : Int) < (k : Int)) = true := decide_eq_true (by omega)
                  have b8 : decide (0 < k) = true := decide_eq_true (by omega)
                  have ij0 : (0 : Int) ≤ (q : Int) := by omega
                  have ij1 : (q : Int) < (l.length : Int) := Int.ofNat_lt.2 hq
                  have ir0 : (0 : Int) ≤ (r : Int) := by omega
                  have ir1 : (r : Int) < (l.length : Int) := Int.ofNat_lt.2 hr
                  have im0 : (0 : Int) ≤ (m : Int) := by omega
                  have im1 : (m : Int) < (S.length : Int) := Int.ofNat_lt.2 hml
                  have ik1 : (k : Int) < (S.length : Int) := Int.ofNat_lt.2 hlt
                  obtain ⟨W1, hW1⟩ : ∃ Z, Z = wr.alloc (.cells #[.int .i64 q, .int .i64 0, .int .i64 t1] 49) := ⟨_, rfl⟩
                  have hb1 : Below wr.heap.size wr W1 := by rw [hW1]; exact (Below.refl _ _).alloc (Nat.le_refl _) _
                  have hr1 : W1.heap[wr.heap.size]? = some (.cells #[.int .i64 q, .int .i64 0, .int .i64 t1] 49 (0, 0)) := by rw [hW1]; exact alloc_heap wr _
                  have HR1 := Lib.hid hr1
                  have HZ1 := Lib.hid (And.intro (cell_step z0 hb1) (And.intro (cell_step z1 hb1) (And.intro (cell_step y0 hb1) (cell_step y2 hb1))))
                  have HB1 := Lib.hid (hbw.trans (hb1.mono hbw.size))
                  clear hsb hsx hrw hrwy hp0 hp1 hpp0 hpp1 hpe ha hab hb hlb hlx hrow2 hrow3 hs12 hb1 hr1 hbw z0 z1 y0 y2 hm hro2
                  go_upto_region 14 with fail
                  rw [← hW1]
                  have hr1 := HR1.out
                  obtain ⟨X, hX⟩ : ∃ z, wr.heap.size = z := ⟨_, rfl⟩
                  rw [hX] at hr1
                  try rw [hX]
                  obtain ⟨m0, m1, m2⟩ := three_cells hr1
                  have k0' := cell_regrown m0
                  have k1 := cell_regrown m1
                  have k2 := cell_regrown m2
                  have k3 := cell_regrown HZ1.out.1
                  have k4 := cell_regrown HZ1.out.2.1
                  have k5 := cell_regrown HZ1.out.2.2.1
                  have k6 := cell_regrown HZ1.out.2.2.2
                  clear hW1 hX x0 x1 x2 m0 m1 m2 hr1 HR1 HZ1
                  try simp only [List.append]
                  refine wp_region_quiet_below (by kernel_rfl) (by kernel_rfl) ?_
                  repeat (go_big_quiet_step (fail))
                  refine wpQuiet_nil ?_
                  intro Z hw'
                  have hbr : Below W1.heap.size W1 Z := by obtain ⟨⟨dq, osq⟩, hw''⟩ := hw'; rw [hw'']; exact below_regrown W1 dq osq
                  have HBZ := Lib.hid (HB1.out.trans (hbr.mono HB1.out.size))
                  clear hw' hbr k0' k1 k2 k3 k4 k5 k6
                  go_wp2
                  go_roundw
                  case rel => exact ⟨k + 1, by omega, by go_num, HBZ.out⟩
                  case measure => simp [intOf]; omega
            · as_aux_lemma =>
                have j1 : ¬ (k : Int) < (S.length : Int) := by omega
                obtain ⟨sb, sof, ec, hsb, hsx⟩ := (HT6.out.below hbw).at (by omega)
                subst ec
                obtain ⟨m, hm⟩ : ∃ m, S.length - 1 = m := ⟨_, rfl⟩
                have hml : m < S.length := by omega
                obtain ⟨hro, _⟩ := HROW.out 0 hne
                obtain ⟨hrl, _⟩ := HROW.out m hml
                obtain ⟨hf, hlst⟩ := HFL.out
                rw [hm] at hlst
                have x0 := hsx 0 hne 0 (by omega)
                have x1 := hsx 0 hne 1 (by omega)
                have y0 := hsx m hml 0 (by omega)
                have y2 := hsx m hml 2 (by omega)
                obtain ⟨⟨p, t0, t1⟩, hrw⟩ : ∃ z : St, S.getD 0 default = z := ⟨_, rfl⟩
                obtain ⟨⟨pp, d0, d1⟩, hrwy⟩ : ∃ z : St, S.getD m default = z := ⟨_, rfl⟩
                rw [hrw] at x0 x1 hro hf
                rw [hrwy] at y0 y2 hrl hlst
                simp only [Nat.add_zero, Nat.zero_mul, stC] at x0 x1 y0 y2 hro hrl hf hlst
                obtain ⟨⟨hp0, hp1⟩, ha, hab, hb⟩ := hro
                obtain ⟨⟨hpp0, hpp1⟩, ha', hab', hb'⟩ := hrl
                obtain ⟨q, rfl⟩ : ∃ q : Nat, p = q := ⟨p.toNat, by omega⟩
                obtain ⟨r, rfl⟩ : ∃ q : Nat, pp = q := ⟨pp.toNat, by omega⟩
                rw [Int.toNat_natCast] at hf hlst hb hb'
                have hq : q < l.length := by omega
                have hr : r < l.length := by omega
                have hpq := pos_small HOK.out (i := q) (by omega)
                have hpr := pos_small HOK.out (i := r) (by omega)
                have hlq := pipe_in HOK.out hq
                have hlr := pipe_in HOK.out hr
                have hlw := HL6.out.below hbw
                obtain ⟨lb, lof, ei, hlb, hlx⟩ := hlw.at (by omega)
                subst ei
                have hcap : l.length ≤ c := by
                  obtain ⟨_, ⟨h0, _⟩ | ⟨b', off', cap, e, h1, _⟩⟩ := hlw
                  · subst h0; simp at hq
                  · simp only [Value.slice.injEq] at e; omega
                have hE1 := fun (i : Nat) (hi : i < l.length) X (hX : TabAt 3 piC X (.slice (some ⟨lb, lof, none⟩) l.length c) l) => show Calls Try.prog 25 #[.slice (some ⟨lb, lof, none⟩) i c] X fun e w' => e = .returned (.int .i64 (posF l i)) ∧ Below X.heap.size X w' from by
                  have hln : (l.take i).length = i := by simp; omega
                  have KE := End_any (l.take i) (.slice (some ⟨lb, lof, none⟩) i c) X (hX.take (i := i) (by omega) (by omega)) (fun j hj => by
                    rw [hln] at hj
                    rw [pos_take l i j hj]
                    have := pos_small HOK.out (i := j) (by omega)
                    omega)
                  have he : endF (l.take i) = posF l i := by unfold endF; rw [hln, pos_take l i i (Nat.le_refl _)]
                  rw [he] at KE
                  exact KE.mono (fun e w' h => ⟨h.1, by rw [← h.2]; exact Below.refl _ _⟩)
                have HE1 := Lib.hid hE1
                obtain ⟨B0, hB0⟩ : ∃ B, posF l q = B := ⟨_, rfl⟩
                obtain ⟨B1, hB1⟩ : ∃ B, posF l r = B := ⟨_, rfl⟩
                rw [hB0] at hf hpq
                rw [hB1] at hlst hpr
                have C0 := fun d os => Calls.regrown_of (w := wr) (d := d) (os := os) (hE1 q hq _ (hlw.below (below_regrown wr d os)))
                rw [hB0] at C0
                have HC1 := Lib.hid (fun X hX => hE1 r hr X hX)
                rw [hB1] at HC1
                have hs12 := HS.out
                have hl12 := HL12.out
                have v1 : IntKind.i64.wrap (B0 + t0) = first := by rw [← hf]; exact IntWalk.i64_in _ (by omega)
                have v2 : IntKind.i64.wrap (B1 + d1) = last := by rw [← hlst]; exact IntWalk.i64_in _ (by omega)
                have v3 : IntKind.i64.wrap ((S.length : Int) - 1) = (m : Int) := by rw [IntWalk.i64_in _ (by omega)]; omega
                have iq0 : (0 : Int) ≤ (q : Int) := by omega
                have iq1 : (q : Int) < (l.length : Int) := Int.ofNat_lt.2 hq
                have iq2 : (q : Int) ≤ (c : Int) := by omega
                have iq3 : q ≤ c := by omega
                have ir0 : (0 : Int) ≤ (r : Int) := by omega
                have ir1 : (r : Int) < (l.length : Int) := Int.ofNat_lt.2 hr
                have ir2 : (r : Int) ≤ (c : Int) := by omega
                have ir3 : r ≤ c := by omega
                have im0 : (0 : Int) ≤ (m : Int) := by omega
                have im1 : (m : Int) < (S.length : Int) := Int.ofNat_lt.2 hml
                have is0 : (0 : Int) < (S.length : Int) := by omega
                have is1 : ¬ (S.length : Int) = 0 := by omega
                have is2 : ((S.length : Int) == 0) = false := by simp; exact hne0
                have HLW := Lib.hid hlw
                have HPW := Lib.hid (box_step (w0 := w) H6.out hbw)
                have HBW := Lib.hid (HB6.out.trans (hbw.mono HB6.out.size))
                have HY := Lib.hid (And.intro y0 y2)
                have k0 := cell_regrown x0
                have k1 := cell_regrown x1
                clear hsb hsx hm hrw hrwy hp0 hp1 hpp0 hpp1 ha hab hb ha' hab' hb' hpq hpr hlq hlr hlb hlx hE1 hB0 hB1 hf hlst hbw hlw hs12 hl12 x0 x1 y0 y2 HL6 HB6 HT6 H6 KE
                go_upto_region 19 with fail
                try simp only [List.append]
                refine wp_region_quiet_below (by kernel_rfl) (by kernel_rfl) ?_
                repeat (go_big_quiet_step (first | with_reducible exact C0 _ _))
                refine wpQuiet_nil ?_
                intro Y1 hw'
                have hbr : Below wr.heap.size wr Y1 := by obtain ⟨⟨dq, osq⟩, hw''⟩ := hw'; rw [hw'']; exact below_regrown wr dq osq
                have HLY := Lib.hid (HLW.out.below hbr)
                have HPY := Lib.hid (box_step (w0 := w) HPW.out hbr)
                have HBY := Lib.hid (HBW.out.trans (hbr.mono HBW.out.size))
                have k2 := cell_regrown (cell_step HY.out.1 hbr)
                have k3 := cell_regrown (cell_step HY.out.2 hbr)
                have C1 := fun d os => Calls.regrown_of (w := Y1) (d := d) (os := os) (HC1.out _ (HLY.out.below (below_regrown Y1 d os)))
                clear hw' hbr k0 k1 C0 HLW HPW HBW HY
                go_upto_region 20 with fail
                try simp only [List.append]
                refine wp_region_quiet_below (by kernel_rfl) (by kernel_rfl) ?_
                repeat (go_big_quiet_step (first | with_reducible exact C1 _ _))
                refine wpQuiet_nil ?_
                intro Y2 hw'
                have hbr : Below Y1.heap.size Y1 Y2 := by obtain ⟨⟨dq, osq⟩, hw''⟩ := hw'; rw [hw'']; exact below_regrown Y1 dq osq
                have HLZ := Lib.hid (HLY.out.below hbr)
                have HPZ := Lib.hid (box_step (w0 := w) HPY.out hbr)
                have HBZ := Lib.hid (HBY.out.trans (hbr.mono HBY.out.size))
                clear hw' hbr k2 k3 C1 HLY HPY HBY HC1
                obtain ⟨W10, hW10⟩ : ∃ Z, Z = Y2.alloc (.cells #[.int .i64 first, .int .i64 last] 3) := ⟨_, rfl⟩
                have hb10 : Below Y2.heap.size Y2 W10 := by rw [hW10]; exact (Below.refl _ _).alloc (Nat.le_refl _) _
                have hr10 : W10.heap[Y2.heap.size]? = some (.cells #[.int .i64 first, .int .i64 last] 3 (0, 0)) := by rw [hW10]; exact alloc_heap Y2 _
                have HR10 := Lib.hid hr10
                have HL10 := Lib.hid (HLZ.out.below hb10)
                have HP10 := Lib.hid (box_step (w0 := w) HPZ.out hb10)
                have HB10 := Lib.hid (HBZ.out.trans (hb10.mono HBZ.out.size))
                clear hb10 hr10 HLZ HPZ HBZ
                go_upto_region 22 with fail
                rw [← hW10]
                have hr10 := HR10.out
                obtain ⟨Q2, hQ2⟩ : ∃ z, Y2.heap.size = z := ⟨_, rfl⟩
                rw [hQ2] at hr10
                try rw [hQ2]
                have HQ10 := Lib.hid hr10
                clear hW10 hQ2 hr10 HR10
                clear hk hlt j1 v1 v2 v3 iq0 iq1 iq2 iq3 ir0 ir1 ir2 ir3 im0 im1 is0 is1 is2 HE1 hcap hml hq hr HROW HFL hne hne0 HS
                go_wp2_with fail
                go_loopw [17, 18, 19, 20, 21, 22, 23, 24, 25, 26, 254] (fun _ _ _ _ _ _ _ _ _ _ i wr => ∃ k : Nat, k ≤ 2 ∧ i = .int .i64 k ∧ Below W10.heap.size W10 wr) (fun _ _ _ _ _ _ _ _ _ _ i _ => 2 - (intOf i).toNat)
                case atStart => exact ⟨0, by omega, rfl, Below.refl _ _⟩
                case round =>
                  obtain ⟨k, hk, rfl, hbw⟩ := hrel
                  by_cases hlt : k < 2
                  · have hok := HOK.out
                    have hqw := box_step (w0 := w) HQ10.out hbw
                    have hbn := HBN.out
                    have hxy := HXY.out
                    have hT : ∃ T, wr.cell? ⟨Q2, k, none⟩ = some (.int .i64 T) ∧ (0 ≤ T ∧ T ≤ E) ∧ allowsF l ⟨x, y, lo, hi⟩ T = true := by
                      obtain ⟨c0, c1⟩ := two_cells hqw
                      obtain ⟨ha1, ha2⟩ := HAA.out
                      rcases (show k = 0 ∨ k = 1 by omega) with rfl | rfl
                      · exact ⟨first, c0, by omega, ha1⟩
                      · exact ⟨last, c1, by omega, ha2⟩
                    obtain ⟨T, hcT, hT, haT⟩ := hT
                    have hlr := HLR2.out T hT.1 hT.2
                    have hd0 : lagsF l x y T = (lagF false l x y T, lagF true l x y T) := rfl
                    have hall : (lagF false l x y T) ≤ hi ∧ lo ≤ (lagF true l x y T) := by
                      unfold allowsF at haT
                      simp only [Bool.and_eq_true, decide_eq_true_eq] at haT
                      exact haT
                    have hlow : ∀ e, lagT l (lowsF l x y T e l.length) x y T l.length = lagF e l x y T := fun e => low_lag hok x y T e l.length (Nat.le_refl _)
                    have hlb : ∀ e i, i < l.length → 1 ≤ (lowsF l x y T e l.length).getD i default ∧ (lowsF l x y T e l.length).getD i default ≤ 10000 := fun e i hi => by
                      rw [lows_at l x y T e hi]; exact low_in hok x y T e hi
                    have KLL := fun (e : Bool) v2 X hX hX2 => lag_any l hok (.slice (some ⟨lb, lof, none⟩) l.length c) (lowsF l x y T e l.length) (lows_len ..) (hlb e) v2 x y T (by omega) (by omega) (by have := HE.out; omega) (by omega) (by have := HE.out; omega) X hX hX2
                    simp only [hlow] at KLL
                    have KLG := fun X hX => Lag_any l (.slice (some ⟨lb, lof, none⟩) l.length c) x y T X hX
                    rw [hlr, hd0] at KLG
                    unfold LagR at KLG
                    simp only [] at KLG
                    have KC := counts_any l hok (.slice (some ⟨lb, lof, none⟩) l.length c) x y T (by omega) (by omega) (by have := HE.out; omega) wr (HL10.out.below hbw)
                    have KLF := Lib.hid (KLL false)
                    have KLT := Lib.hid (KLL true)
                    obtain ⟨g, hg⟩ : ∃ z, lagF false l x y T = z := ⟨_, rfl⟩
                    obtain ⟨h, hh⟩ : ∃ z, lagF true l x y T = z := ⟨_, rfl⟩
                    rw [hg, hh] at hall KLG
                    rw [hg] at KLF
                    rw [hh] at KLT
                    have KCC := Lib.hid KC
                    have KGG := Lib.hid KLG
                    have b1 : decide (hi < g) = false := decide_eq_false (by omega)
                    have b2 : decide (h < lo) = false := decide_eq_false (by omega)
                    have ik1 : (k : Int) < 2 := by omega
                    have ik0 : (0 : Int) ≤ (k : Int) := by omega
                    have v3 : IntKind.i64.wrap ((k : Int) + 1) = (k : Int) + 1 := IntWalk.i64_in _ (by omega)
                    have hpw := box_step (w0 := w) HP10.out hbw
                    have HPW := Lib.hid hpw
                    obtain ⟨y0, y1, y2, y3⟩ := four_cells hpw
                    have HBW := Lib.hid hbw
                    have HKK := Lib.hid hlt
                    clear hqw hbn hxy hT haT hlr hd0 hall hlow hlb KLL KLG KC hg hh hpw hbw hok
                    go_wp2_with (go_at_call 31; fail)
                    refine KCC.out.mono ?_
                    rintro e w12 ⟨vc, rfl, hown, hb12⟩
                    have htc := tab_of_own hown (cnt_len l x y T l.length).symm (by rw [cnt_len]; have := HL12.out; unfold maxLen; omega)
                    obtain ⟨ac, cc, ec⟩ := htc.shape
                    rw [cnt_len] at ec
                    subst ec
                    have HTC := Lib.hid htc
                    have HB12 := Lib.hid (HBW.out.trans (hb12.mono HBW.out.size))
                    have HP12 := Lib.hid (box_step (w0 := w) HPW.out hb12)
                    clear hown htc hb12 y0 y1 y2 y3 hcT KCC HBW HPW
                    go_wp2_with fail
                    go_loopw [19, 20, 21, 22, 23, 24, 267] (fun lw hg _ _ _ _ i wr => ∃ k : Nat, k ≤ l.length ∧ i = .int .i64 k ∧ Below w12.heap.size w12 wr ∧ wr.ownsRow w12.heap.size 3 1 lw k (flatK 1 inC (lowsF l x y T false k)) ∧ wr.ownsRow w12.heap.size 3 1 hg k (flatK 1 inC (lowsF l x y T true k)) ∧ Apart lw hg) (fun _ _ _ _ _ _ i _ => l.length - (intOf i).toNat)
                    case atStart => exact ⟨0, by omega, rfl, Below.refl _ _, ⟨rfl, .inl ⟨rfl, rfl⟩⟩, ⟨rfl, .inl ⟨rfl, rfl⟩⟩, fun g h => by cases h⟩
                    case round =>
                      obtain ⟨j, hj, rfl, hbi, ho1, ho2, hap⟩ := hrel
                      by_cases hjl : j < l.length
                      · obtain ⟨_, _, ei, hlb, hlx⟩ := ((HL10.out.below HB12.out).below hbi).at (by omega)
                        cases ei
                        obtain ⟨sb, so, ed, hsb, hsx⟩ := ints_row (HTC.out.below hbi) (by rw [cnt_len]; omega)
                        subst ed
                        have x0 := hlx j hjl 0 (by omega)
                        have x1 := hlx j hjl 1 (by omega)
                        have x2 := hlx j hjl 2 (by omega)
                        have z0 := hsx j (by rw [cnt_len]; exact hjl)
                        rw [cnt_at l x y T hjl] at z0
                        have hdl := low_def l x y T j
                        have hs1 := lows_snoc l x y T false j
                        have hs2 := lows_snoc l x y T true j
                        obtain ⟨⟨t0, t1, t2⟩, hrow⟩ : ∃ z : Pi, l.getD j default = z := ⟨_, rfl⟩
                        obtain ⟨sh, hsh⟩ : ∃ z, shareF l x y (nearF (x, y) T) j = z := ⟨_, rfl⟩
                        rw [hrow, hsh] at hdl
                        rw [hrow] at x0 x1 x2
                        rw [hsh] at z0
                        simp only [Nat.add_zero, piC] at x0 x1 x2 hdl
                        have ij0 : (0 : Int) ≤ (j : Int) := by omega
                        have ij1 : (j : Int) < (l.length : Int) := Int.ofNat_lt.2 hjl
                        have v7 : IntKind.i64.wrap ((j : Int) + 1) = (j : Int) + 1 := IntWalk.i64_in _ (by have := HL12.out; omega)
                        obtain ⟨W1, hW1⟩ : ∃ X, X = wr.alloc (.cells #[.int .i64 t0, .int .i64 t1, .int .i64 t2] 59) := ⟨_, rfl⟩
                        have hbY : Below wr.heap.size wr W1 := by rw [hW1]; exact (Below.refl _ _).alloc (Nat.le_refl _) _
                        have hrY : W1.heap[wr.heap.size]? = some (.cells #[.int .i64 t0, .int .i64 t1, .int .i64 t2] 59 (0, 0)) := by rw [hW1]; exact alloc_heap wr _
                        have HRY := Lib.hid hrY
                        have HZ := Lib.hid (cell_step z0 hbY)
                        have HO1 := Lib.hid (row_below ho1 hbY)
                        have HO2 := Lib.hid (row_below ho2 hbY)
                        have HAP := Lib.hid hap
                        have HBI := Lib.hid (hbi.trans (hbY.mono hbi.size))
                        have HDL := Lib.hid hdl
                        have HS12 := Lib.hid (And.intro hs1 hs2)
                        clear hlb hlx hsb hsx z0 hdl hs1 hs2 hrow hsh hbY hrY ho1 ho2 hap hbi
                        go_upto_region 29 with fail
                        rw [← hW1]
                        have hrY := HRY.out
                        obtain ⟨D, hD⟩ : ∃ z, wr.heap.size = z := ⟨_, rfl⟩
                        rw [hD] at hrY
                        try rw [hD]
                        obtain ⟨_, m1, m2⟩ := three_cells hrY
                        have k1 := cell_regrown m1
                        have k2 := cell_regrown m2
                        clear hW1 hD x0 x1 x2 m1 m2 hrY HRY
                        try simp only [List.append]
                        refine wp_region_quiet_below (by kernel_rfl) (by kernel_rfl) ?_
                        repeat (go_big_quiet_step (fail))
                        refine wpQuiet_nil ?_
                        intro Y hw'
                        have hbr : Below W1.heap.size W1 Y := by obtain ⟨⟨dq, osq⟩, hw''⟩ := hw'; rw [hw'']; exact below_regrown W1 dq osq
                        have hbz := HBI.out.trans (hbr.mono HBI.out.size)
                        have zz := cell_step HZ.out hbr
                        have o1 := row_below HO1.out hbr
                        have o2 := row_below HO2.out hbr
                        have hap := HAP.out
                        have hl12 := HL12.out
                        have hdl := HDL.out
                        have hs12 := HS12.out
                        clear hw' hbr k1 k2
                        by_cases hsg : sh < 0
                        · as_aux_lemma =>
                            rw [if_pos hsg, if_pos hsg] at hdl
                            obtain ⟨g1, c1, Wb, g2, c2, Wd, hr1, hr2, p1, p2, hap2, hbd⟩ := two_rows Y w12.heap.size o1 o2 hap t2 t1 (by omega) hbz.size
                            have q1 : Wd.ownsRow w12.heap.size 3 1 (.slice (some ⟨g1, 0, none⟩) (j + 1) c1) (j + 1) (flatK 1 inC (lowsF l x y T false (j + 1))) := by rw [hs12.1, hdl.1, flat_snoc]; exact p1
                            have q2 : Wd.ownsRow w12.heap.size 3 1 (.slice (some ⟨g2, 0, none⟩) (j + 1) c2) (j + 1) (flatK 1 inC (lowsF l x y T true (j + 1))) := by rw [hs12.2, hdl.2, flat_snoc]; exact p2
                            have HQ1 := Lib.hid q1
                            have HQ2 := Lib.hid q2
                            have HAP2 := Lib.hid hap2
                            have HBDD := Lib.hid (hbz.trans hbd)
                            clear o1 o2 hap hl12 hdl hs12 p1 p2 q1 q2 hap2 hbd hbz
                            go_wp2_with (first | (at_builtin; refine wpList_append_run rfl _ _ 54 rfl rfl rfl hr1 ?_) | (at_builtin; refine wpList_append_run rfl _ _ 54 rfl rfl rfl hr2 ?_))
                            go_roundw
                            case rel => exact ⟨j + 1, by omega, by go_num, HBDD.out, HQ1.out, HQ2.out, HAP2.out⟩
                            case measure => simp [intOf]; omega
                        · as_aux_lemma =>
                            rw [if_neg hsg, if_neg hsg] at hdl
                            obtain ⟨g1, c1, Wb, g2, c2, Wd, hr1, hr2, p1, p2, hap2, hbd⟩ := two_rows Y w12.heap.size o1 o2 hap t1 t2 (by omega) hbz.size
                            have q1 : Wd.ownsRow w12.heap.size 3 1 (.slice (some ⟨g1, 0, none⟩) (j + 1) c1) (j + 1) (flatK 1 inC (lowsF l x y T false (j + 1))) := by rw [hs12.1, hdl.1, flat_snoc]; exact p1
                            have q2 : Wd.ownsRow w12.heap.size 3 1 (.slice (some ⟨g2, 0, none⟩) (j + 1) c2) (j + 1) (flatK 1 inC (lowsF l x y T true (j + 1))) := by rw [hs12.2, hdl.2, flat_snoc]; exact p2
                            have HQ1 := Lib.hid q1
                            have HQ2 := Lib.hid q2
                            have HAP2 := Lib.hid hap2
                            have HBDD := Lib.hid (hbz.trans hbd)
                            clear o1 o2 hap hl12 hdl hs12 p1 p2 q1 q2 hap2 hbd hbz
                            go_wp2_with (first | (at_builtin; refine wpList_append_run rfl _ _ 54 rfl rfl rfl hr1 ?_) | (at_builtin; refine wpList_append_run rfl _ _ 54 rfl rfl rfl hr2 ?_))
                            go_roundw
                            case rel => exact ⟨j + 1, by omega, by go_num, HBDD.out, HQ1.out, HQ2.out, HAP2.out⟩
                            case measure => simp [intOf]; omega
                      · as_aux_lemma =>
                          have j1 : ¬ (j : Int) < (l.length : Int) := by omega
                          have hje : j = l.length := by omega
                          subst hje
                          have h12 := HL12.out
                          have ht1 := tab_of_own ho1 (lows_len ..).symm (by rw [lows_len]; unfold maxLen; omega)
                          have ht2 := tab_of_own ho2 (lows_len ..).symm (by rw [lows_len]; unfold maxLen; omega)
                          obtain ⟨al, cl, el⟩ := ht1.shape
                          rw [lows_len] at el
                          subst el
                          obtain ⟨ah, ch, eh⟩ := ht2.shape
                          rw [lows_len] at eh
                          subst eh
                          have hbw2 := HB12.out.trans (hbi.mono HB12.out.size)
                          have hpw := box_step (w0 := w) HP12.out hbi
                          have KG2 := Lib.hid (KGG.out wr (HL10.out.below hbw2))
                          have HTT := Lib.hid (And.intro ht1 ht2)
                          have HBW2 := Lib.hid hbw2
                          have HPW2 := Lib.hid hpw
                          obtain ⟨y0, y1, y2, y3⟩ := four_cells hpw
                          clear ho1 ho2 hap hbi ht1 ht2 hbw2 hpw h12 KGG HTC HB12 HP12
                          go_wp2_with (go_at_call 13; fail)
                          refine KG2.out.mono ?_
                          rintro e w14 ⟨rfl, hb14⟩
                          obtain ⟨W15, hW15⟩ : ∃ X, X = w14.alloc (.cells #[.int .i64 g, .int .i64 h] 24) := ⟨_, rfl⟩
                          have hb15 : Below w14.heap.size w14 W15 := by rw [hW15]; exact (Below.refl _ _).alloc (Nat.le_refl _) _
                          have hr15 : W15.heap[w14.heap.size]? = some (.cells #[.int .i64 g, .int .i64 h] 24 (0, 0)) := by rw [hW15]; exact alloc_heap w14 _
                          have hb145 := hb14.trans (hb15.mono hb14.size)
                          have HR15 := Lib.hid hr15
                          have HB15 := Lib.hid (HBW2.out.trans (hb145.mono HBW2.out.size))
                          have HP15 := Lib.hid (box_step (w0 := w) HPW2.out hb145)
                          have HT15 := Lib.hid (And.intro (HTT.out.1.below hb145) (HTT.out.2.below hb145))
                          clear hb14 hb15 hr15 hb145 y0 y1 y2 y3 HTT HBW2 HPW2 KG2
                          go_upto_region 35 with fail
                          rw [← hW15]
                          have hr15 := HR15.out
                          obtain ⟨R, hR⟩ : ∃ z, w14.heap.size = z := ⟨_, rfl⟩
                          rw [hR] at hr15
                          try rw [hR]
                          clear hW15 hR HR15
                          obtain ⟨m0, m1⟩ := two_cells hr15
                          obtain ⟨y0, y1, y2, y3⟩ := four_cells HP15.out
                          have k0 := cell_regrown m0
                          have k1 := cell_regrown m1
                          have k2 := cell_regrown y0
                          have k3 := cell_regrown y1
                          have k4 := cell_regrown y2
                          have k5 := cell_regrown y3
                          have C1 := fun d os => Calls.regrown_of (w := W15) (d := d) (os := os) (KLF.out (.slice al l.length cl) _ ((HL10.out.below HB15.out).below (below_regrown W15 d os)) (HT15.out.1.below (below_regrown W15 d os)))
                          have C2 := fun d os => Calls.regrown_of (w := W15) (d := d) (os := os) (KLT.out (.slice ah l.length ch) _ ((HL10.out.below HB15.out).below (below_regrown W15 d os)) (HT15.out.2.below (below_regrown W15 d os)))
                          have C3 := fun d os => Calls.regrown_of (w := W15) (d := d) (os := os) (span_any g h _)
                          clear m0 m1 y0 y1 y2 y3 hr15 HP15
                          try simp only [List.append]
                          refine wp_region_quiet_below (by kernel_rfl) (by kernel_rfl) ?_
                          repeat (go_big_quiet_step (first | with_reducible exact C1 _ _ | with_reducible exact C2 _ _ | with_reducible exact C3 _ _))
                          refine wpQuiet_nil ?_
                          intro Z hw'
                          have hbr : Below W15.heap.size W15 Z := by obtain ⟨⟨dq, osq⟩, hw''⟩ := hw'; rw [hw'']; exact below_regrown W15 dq osq
                          have HBZ := Lib.hid (HB15.out.trans (hbr.mono HB15.out.size))
                          clear hw' hbr k0 k1 k2 k3 k4 k5 C1 C2 C3
                          go_wp2
                          go_roundw
                          case rel => exact ⟨k + 1, by have := HKK.out; omega, by go_num, HBZ.out⟩
                          case measure => simp [intOf]; have := HKK.out; omega
                  · as_aux_lemma =>
                      have j1 : ¬ (k : Int) < 2 := by omega
                      have hbn := HBN.out
                      have hE := HE.out
                      have hlw := HL10.out.below hbw
                      have hpw := box_step (w0 := w) HP10.out hbw
                      have HBW := Lib.hid (HB10.out.trans (hbw.mono HB10.out.size))
                      have HLW := Lib.hid hlw
                      have HPW := Lib.hid hpw
                      have v1 : IntKind.i64.wrap (first - 1) = first - 1 := IntWalk.i64_in _ (by omega)
                      have v2 : IntKind.i64.wrap (last + 1) = last + 1 := IntWalk.i64_in _ (by omega)
                      have K1 := KALL.out (first - 1)
                      have K2 := KALL.out (last + 1)
                      obtain ⟨hn1, hn2⟩ := HNN.out
                      obtain ⟨y0, y1, y2, y3⟩ := four_cells hpw
                      clear hbw hbn hE hlw hpw HBN HE HXY HAA HNN HLR2 KALL HQ10 HL10 HP10 HB10
                      by_cases f0 : first = 0
                      · by_cases l0 : last = E
                        · have f1 : (first == 0) = true := by simp [f0]
                          have l1 : (last == E) = true := by simp [l0]
                          clear hn1 hn2 K1 K2
                          go_wp2_with (go_at_call 12; fail)
                          refine (KA.out _).mono ?_
                          rintro e9 wz ⟨rfl, hbz⟩
                          go_wp2
                          go_ret
                          exact ⟨rfl, HBW.out.trans (hbz.mono HBW.out.size)⟩
                        · have f1 : (first == 0) = true := by simp [f0]
                          have l1 : (last == E) = false := by simp [l0]
                          rw [hn2 l0] at K2
                          have K22 := Lib.hid K2
                          clear hn1 hn2 K1 K2
                          go_wp2_with (go_at_call 30; fail)
                          refine (K22.out _ HLW.out).mono ?_
                          rintro e wx ⟨rfl, hbx⟩
                          have HBX := Lib.hid (HBW.out.trans (hbx.mono HBW.out.size))
                          clear hbx y0 y1 y2 y3
                          go_wp2_with (go_at_call 12; fail)
                          refine (KA.out _).mono ?_
                          rintro e9 wz ⟨rfl, hbz⟩
                          go_wp2
                          go_ret
                          exact ⟨rfl, HBX.out.trans (hbz.mono HBX.out.size)⟩
                      · rw [hn1 f0] at K1
                        have K11 := Lib.hid K1
                        have f1 : (first == 0) = false := by simp [f0]
                        by_cases l0 : last = E
                        · have l1 : (last == E) = true := by simp [l0]
                          clear hn1 hn2 K1 K2
                          go_wp2_with (go_at_call 30; fail)
                          refine (K11.out _ HLW.out).mono ?_
                          rintro e wx ⟨rfl, hbx⟩
                          have HBX := Lib.hid (HBW.out.trans (hbx.mono HBW.out.size))
                          clear hbx y0 y1 y2 y3
                          go_wp2_with (go_at_call 12; fail)
                          refine (KA.out _).mono ?_
                          rintro e9 wz ⟨rfl, hbz⟩
                          go_wp2
                          go_ret
                          exact ⟨rfl, HBX.out.trans (hbz.mono HBX.out.size)⟩
                        · have l1 : (last == E) = false := by simp [l0]
                          rw [hn2 l0] at K2
                          have K22 := Lib.hid K2
                          clear hn1 hn2 K1 K2
                          go_wp2_with (go_at_call 30; fail)
                          refine (K11.out _ HLW.out).mono ?_
                          rintro e wx ⟨rfl, hbx⟩
                          have HBX := Lib.hid (HBW.out.trans (hbx.mono HBW.out.size))
                          have HLX := Lib.hid (HLW.out.below hbx)
                          have hpx := box_step (w0 := w) HPW.out hbx
                          clear hbx y0 y1 y2 y3
                          obtain ⟨y0, y1, y2, y3⟩ := four_cells hpx
                          go_wp2_with (go_at_call 30; fail)
                          refine (K22.out _ HLX.out).mono ?_
                          rintro e wy ⟨rfl, hby⟩
                          have HBY := Lib.hid (HBX.out.trans (hby.mono HBX.out.size))
                          clear hby y0 y1 y2 y3
                          go_wp2_with (go_at_call 12; fail)
                          refine (KA.out _).mono ?_
                          rintro e9 wz ⟨rfl, hbz⟩
                          go_wp2
                          go_ret
                          exact ⟨rfl, HBY.out.trans (hbz.mono HBY.out.size)⟩
end Go.Proofs.Ytdbjifpnbghbaaa
