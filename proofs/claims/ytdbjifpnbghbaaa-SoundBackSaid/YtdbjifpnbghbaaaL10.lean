/- Sound: the walk of SoundBack. -/
import Derived.Test.YtdbjifpnbghbaaaM5
namespace Go.Proofs.Ytdbjifpnbghbaaa
set_option linter.unusedSimpArgs false
set_option linter.unusedVariables false
open Go.RowKit Go.Maps Go.BigFrame Go.ChangeShapes Go.WideShapes Go.ChangeAt

theorem cell_four_new (w : World) (x y z u : Value) (t : TypeId) : ∀ j v, [x, y, z, u][j]? = some v → (w.alloc (.cells #[x, y, z, u] t)).cell? ((⟨w.heap.size, 0, none⟩ : Addr).add j) = some v := by
  intro j v hj
  have hq := alloc_heap w (.cells #[x, y, z, u] t)
  rw [Addr.add_lit, Nat.zero_add]
  generalize w.alloc (.cells #[x, y, z, u] t) = W at hq ⊢
  simp [World.cell?, hq, hj]
theorem taken_next {α : Type} [Inhabited α] (L : List α) {k : Nat} (h : k < L.length) : L.take (k + 1) = L.take k ++ [L.getD k default] := by
  rw [List.take_succ_eq_append_getElem h, List.getD, List.getElem?_eq_getElem h]; rfl
set_option maxRecDepth 100000 in
set_option maxHeartbeats 12800000 in
theorem back_law (l : List Pi) (v : Value) (hs : List He) (v2 : Value) (x y t : Int) (w : World) (hl : TabAt 3 piC w v l) (hh : TabAt 4 heC w v2 hs) : Calls Try.prog 9 #[v, v2, .int .i64 x, .int .i64 y, .int .i64 t] w fun e w' => e = .returned (.bool true) ∧ Below w.heap.size w w' := by
  obtain ⟨a, c, rfl⟩ := hl.shape
  obtain ⟨la, lc, rfl⟩ := hh.shape
  have ml : hs.length ≤ 9223372036854775807 := hh.1
  have KG := Lib.hid (great_any l (.slice a l.length c) 1073741824 w hl)
  have KA := Lib.hid alive_any
  have KL := Lib.hid (fun X hX => Line_any l (.slice a l.length c) X hX)
  have KW1 := Lib.hid (fun X hX hX2 => Where_any l (.slice a l.length c) hs (.slice la hs.length lc) X hX hX2)
  have KL1 := Lib.hid (fun X hX => Lag_any l (.slice a l.length c) x y t X hX)
  have hfew := whereF_few l hs
  have hw : whereF l hs = if lineOk l then (if hs.length ≤ 8 then (if hs.all (hearOk l) then
    (if strUp l (spanF l hs) l.length = [] then ([], 4) else (strUp l (spanF l hs) l.length, 0)) else ([], 2)) else ([], 3)) else ([], 1) := rfl
  have hg : lagR l x y t = if lineOk l then (if placeF l t && earsF l x y then (lagsF l x y t, 0) else ((0, 0), 2)) else ((0, 0), 1) := rfl
  have hwr := fun hok hh => where_rev (l := l) (hs := hs) hok hh
  obtain ⟨⟨S1, re⟩, hR⟩ : ∃ r, whereF l hs = r := ⟨_, rfl⟩
  obtain ⟨⟨⟨r0, r1⟩, rf⟩, hRf⟩ : ∃ r, lagR l x y t = r := ⟨_, rfl⟩
  rw [hR] at KW1 hfew hw hwr
  rw [hRf] at KL1 hg
  unfold WhereR at KW1
  unfold LagR at KL1
  simp only [] at KW1 KL1 hfew
  have hgf := fun h => great_few (l := l) (far := 1073741824) h
  obtain ⟨gr, hgr⟩ : ∃ g, greatB l 1073741824 = g := ⟨_, rfl⟩
  rw [hgr] at KG hgf
  obtain ⟨ok, hok⟩ : ∃ g, lineOk l = g := ⟨_, rfl⟩
  have HOK := Lib.hid hok
  rw [hok] at KL hw hg
  have HL := Lib.hid hl
  have HH := Lib.hid hh
  have HF := Lib.hid hfew
  have HGF := Lib.hid hgf
  have HWW := Lib.hid hw
  have HGG := Lib.hid hg
  have HWR := Lib.hid hwr
  have HRF := Lib.hid hRf
  have HR := Lib.hid hR
  clear hl hh hgr hok hR hRf hw hg hfew hgf hwr
  go_enter Try.func9, Try.ntmps9
  go_wp2_with (go_at_call 11; fail)
  refine KG.out.mono ?_
  rintro e w2 ⟨rfl, hb2⟩
  have HB2 := Lib.hid hb2
  have HL2 := Lib.hid (HL.out.below hb2)
  have HH2 := Lib.hid (HH.out.below hb2)
  clear hb2 KG HL HH
  cases gr with
  | true =>
    go_wp2_with (go_at_call 12; fail)
    refine (KA.out _).mono ?_
    rintro e9 w3 ⟨rfl, hbz⟩
    go_wp2
    go_ret
    exact ⟨rfl, HB2.out.trans (hbz.mono HB2.out.size)⟩
  | false =>
    by_cases h12 : (12 : Int) < (hs.length : Int)
    · have g2 : decide (12 < hs.length) = true := decide_eq_true (by omega)
      go_wp2_with (go_at_call 12; fail)
      refine (KA.out _).mono ?_
      rintro e9 w3 ⟨rfl, hbz⟩
      go_wp2
      go_ret
      exact ⟨rfl, HB2.out.trans (hbz.mono HB2.out.size)⟩
    · have g2 : decide (12 < hs.length) = false := decide_eq_false (by omega)
      have h12' := HGF.out rfl
      have HL12 := Lib.hid (show l.length ≤ 12 ∧ hs.length ≤ 12 from ⟨h12', by omega⟩)
      have HS := Lib.hid (show S1.length ≤ 12 by have := HF.out; omega)
      clear h12' HF HGF
      go_wp2_with (go_at_call 18; fail)
      refine (KW1.out _ HL2.out HH2.out).mono ?_
      rintro e w3 ⟨v3, rfl, ho3, hb3⟩
      have ht3 := outT_tab ho3 (by have := HS.out; omega)
      obtain ⟨a3, c3, rfl⟩ := ht3.shape
      have HT3 := Lib.hid ht3
      have HL3 := Lib.hid (HL2.out.below hb3)
      have HH3 := Lib.hid (HH2.out.below hb3)
      have HB3 := Lib.hid (HB2.out.trans (hb3.mono HB2.out.size))
      clear ho3 ht3 hb3 HL2 HH2 HB2 KW1
      go_wp2_with (go_at_call 13; fail)
      refine (KL1.out _ HL3.out).mono ?_
      rintro e w4 ⟨rfl, hb4⟩
      obtain ⟨W5, hW5⟩ : ∃ X, X = w4.alloc (.cells #[.int .i64 r0, .int .i64 r1] 24) := ⟨_, rfl⟩
      have hb5 : Below w4.heap.size w4 W5 := by rw [hW5]; exact (Below.refl _ _).alloc (Nat.le_refl _) _
      have hr5 : W5.heap[w4.heap.size]? = some (.cells #[.int .i64 r0, .int .i64 r1] 24 (0, 0)) := by rw [hW5]; exact alloc_heap w4 _
      have hb45 := hb4.trans (hb5.mono hb4.size)
      have HR5 := Lib.hid hr5
      have HT5 := Lib.hid (HT3.out.below hb45)
      have HL5 := Lib.hid (HL3.out.below hb45)
      have HH5 := Lib.hid (HH3.out.below hb45)
      have HB5 := Lib.hid (HB3.out.trans (hb45.mono HB3.out.size))
      clear hb4 hb5 hr5 hb45 HT3 HL3 HH3 HB3 KL1
      go_upto_region 5 with fail
      rw [← hW5]
      have hr5 := HR5.out
      obtain ⟨P, hP⟩ : ∃ z, w4.heap.size = z := ⟨_, rfl⟩
      rw [hP] at hr5
      try rw [hP]
      have HP5 := Lib.hid hr5
      clear hW5 hP hr5 HR5
      go_wp2_with (go_at_call 24; fail)
      refine (KL.out _ HL5.out).mono ?_
      rintro e w6 ⟨rfl, hb6⟩
      have HP6 := Lib.hid (box_step (w0 := w) HP5.out hb6)
      have HT6 := Lib.hid (HT5.out.below hb6)
      have HL6 := Lib.hid (HL5.out.below hb6)
      have HH6 := Lib.hid (HH5.out.below hb6)
      have HB6 := Lib.hid (HB5.out.trans (hb6.mono HB5.out.size))
      clear hb6 HP5 HT5 HL5 HH5 HB5 KL
      cases ok with
      | false =>
        have hw := HWW.out
        have hg := HGG.out
        simp only [Bool.false_eq_true, if_false, Prod.mk.injEq] at hw hg
        obtain ⟨rfl, rfl⟩ := hw
        obtain ⟨⟨rfl, rfl⟩, rfl⟩ := hg
        clear HWW HGG HWR
        go_wp2_with (go_at_call 12; fail)
        refine (KA.out _).mono ?_
        rintro e9 w7 ⟨rfl, hbz⟩
        go_wp2
        go_ret
        exact ⟨rfl, HB6.out.trans (hbz.mono HB6.out.size)⟩
      | true =>
        have hok := HOK.out
        have hw := HWW.out
        have hg := HGG.out
        rw [if_pos rfl] at hw hg
        have HW2 := Lib.hid hw
        have HG2 := Lib.hid hg
        have hE := end_in hok
        have KE := Lib.hid (End_any l (.slice a l.length c) w6 HL6.out (fun i hi => by have := pos_small hok hi; omega))
        obtain ⟨E, hEe⟩ : ∃ s, endF l = s := ⟨_, rfl⟩
        rw [hEe] at KE hE
        have HEE := Lib.hid hEe
        have HE := Lib.hid hE
        clear hw hg HWW HGG hok hE hEe
        go_wp2_with (go_at_call 25; (with_reducible refine KE.out.mono ?_); rintro e w7 ⟨rfl, rfl⟩)
        go_loopw [16, 17, 67] (fun b _ i wr => ∃ k : Nat, k ≤ l.length ∧ i = .int .i64 k ∧ Below w6.heap.size w6 wr ∧ wr.ownsRow w6.heap.size 59 3 b k (flatK 3 piC (l.reverse.take k))) (fun _ _ i _ => l.length - (intOf i).toNat)
        case atStart => exact ⟨0, by omega, rfl, Below.refl _ _, ⟨rfl, .inl ⟨rfl, rfl⟩⟩⟩
        case round =>
          obtain ⟨k, hk, rfl, hbw, hd⟩ := hrel
          by_cases hlt : k < l.length
          · obtain ⟨i0, hi0, hz0, hz1, hz2⟩ := info_parts Try.info59
            obtain ⟨m, hm⟩ : ∃ m, l.length - 1 - k = m := ⟨_, rfl⟩
            have hml : m < l.length := by omega
            obtain ⟨lb, lof, ec, hlb, hlx⟩ := (HL6.out.below hbw).at (by omega)
            subst ec
            have x0 := hlx m hml 0 (by omega)
            have x1 := hlx m hml 1 (by omega)
            have x2 := hlx m hml 2 (by omega)
            have hsn := taken_next l.reverse (k := k) (by rw [List.length_reverse]; exact hlt)
            rw [rev_at l hlt, hm] at hsn
            obtain ⟨⟨t0, t1, t2⟩, hrow⟩ : ∃ z : Pi, l.getD m default = z := ⟨_, rfl⟩
            rw [hrow] at x0 x1 x2 hsn
            simp only [Nat.add_zero, piC] at x0 x1 x2
            have h12 := HL12.out
            have v1 : IntKind.i64.wrap ((l.length : Int) - 1) = (l.length : Int) - 1 := IntWalk.i64_in _ (by omega)
            have v2 : IntKind.i64.wrap ((l.length : Int) - 1 - (k : Int)) = (m : Int) := by rw [IntWalk.i64_in _ (by omega)]; omega
            have v3 : IntKind.i64.wrap ((k : Int) + 1) = (k : Int) + 1 := IntWalk.i64_in _ (by omega)
            have ij0 : (0 : Int) ≤ (m : Int) := by omega
            have ij1 : (m : Int) < (l.length : Int) := Int.ofNat_lt.2 hml
            have ij2 : (k : Int) < (l.length : Int) := Int.ofNat_lt.2 hlt
            have G1 := Lib.hid (show flatK 3 piC (l.reverse.take k) ++ [.int .i64 t0, .int .i64 t1, .int .i64 t2] = flatK 3 piC (l.reverse.take (k + 1)) by rw [hsn, flat_snoc]; rfl)
            generalize flatK 3 piC (l.reverse.take k) = L1 at *
            have HBW := Lib.hid hbw
            have hws := hbw.size
            have hdl := hd.lt
            clear hlb hlx hsn hrow hm hbw
            go_wp2_with (at_builtin; refine wpList_append_own_at _ rfl (.tmp 70) (.tmp 79) 22 rfl w6.heap.size 59 i0 (.agg #[.int .i64 0, .int .i64 0, .int .i64 0]) 3 24 Try.underlying22 hi0 hz0 hz1 hz2 rfl (by decide) _ _ _ rfl (hd.alloc _) ⟨_, 0, none⟩ 1 1 [.int .i64 t0, .int .i64 t1, .int .i64 t2] rfl rfl (cell_three_new _ _ _ _ _) (ints_oneCell .i64 [t0, t1, t2]) (by unfold maxLen; omega) (by omega) (by simp; try omega) ?_; intro v1 w9 hd1 hg1 hnil1 hloc1)
            go_roundw
            case rel =>
              refine ⟨k + 1, by omega, by go_num, ?_, ?_⟩
              · exact (HBW.out.alloc hws _).grown hg1 (by simp; omega) (fun t ht => (hdl t ht).1)
              · rw [← G1.out]; exact hd1
            case measure => simp [intOf]; omega
          · have j1 : ¬ (k : Int) < (l.length : Int) := by omega
            have hkl : k = l.length := by omega
            subst hkl
            have hrl : l.reverse.take l.length = l.reverse := List.take_of_length_le (by rw [List.length_reverse]; exact Nat.le_refl _)
            rw [hrl] at hd
            have htab := tab_of_own hd (by rw [List.length_reverse]) (by rw [List.length_reverse]; have := HL12.out; unfold maxLen; omega)
            obtain ⟨ab, cb, eb⟩ := htab.shape
            rw [List.length_reverse] at eb
            subst eb
            obtain ⟨wc, hwc⟩ : ∃ z : World, z = wr := ⟨_, rfl⟩
            subst hwc
            have HTB := Lib.hid htab
            have HBC := Lib.hid (HB6.out.trans (hbw.mono HB6.out.size))
            have HPC := Lib.hid (box_step (w0 := w) HP6.out hbw)
            have HTC := Lib.hid (HT6.out.below hbw)
            have HLC := Lib.hid (HL6.out.below hbw)
            have HHC := Lib.hid (HH6.out.below hbw)
            clear hrl hd htab hbw HB6 HP6 HT6 HL6 HH6 KE
            go_wp2_with fail
            go_loopw [18, 20, 84] (fun b _ i wr => ∃ k : Nat, k ≤ hs.length ∧ i = .int .i64 k ∧ (∀ j, j < k → hearOk l (hs.getD j default) = true) ∧ Below wc.heap.size wc wr ∧ wr.ownsRow wc.heap.size 26 4 b k (flatK 4 heC ((hs.map (backH l)).take k))) (fun _ _ i _ => hs.length - (intOf i).toNat)
            case atStart => exact ⟨0, by omega, rfl, fun j hj => absurd hj (Nat.not_lt_zero _), Below.refl _ _, ⟨rfl, .inl ⟨rfl, rfl⟩⟩⟩
            case round =>
              obtain ⟨k, hk, rfl, hfo, hbw, hd⟩ := hrel
              have HFO := Lib.hid hfo
              clear hfo
              by_cases hlt : k < hs.length
              · obtain ⟨i0, hi0, hz0, hz1, hz2⟩ := info_parts Try.info26
                obtain ⟨lb, lof, ec, hlb, hlx⟩ := (HHC.out.below hbw).at (by omega)
                subst ec
                have x0 := hlx k hlt 0 (by omega)
                have x1 := hlx k hlt 1 (by omega)
                have x2 := hlx k hlt 2 (by omega)
                have x3 := hlx k hlt 3 (by omega)
                have hbad : hearOk l (hs.getD k default) = false → re = 2 ∨ re = 3 := fun h => by
                  have hw := HW2.out
                  by_cases h8 : hs.length ≤ 8
                  · rw [if_pos h8, if_neg (by intro h2; rw [all_iff.1 h2 k hlt] at h; cases h)] at hw
                    simp only [Prod.mk.injEq] at hw
                    exact .inl hw.2
                  · rw [if_neg h8] at hw
                    simp only [Prod.mk.injEq] at hw
                    exact .inr hw.2
                have hnx : hearOk l (hs.getD k default) = true → ∀ j, j < k + 1 → hearOk l (hs.getD j default) = true := fun h j hj => by
                  by_cases e : j = k
                  · rw [e]; exact h
                  · exact HFO.out j (by omega)
                have hsn := taken_next (hs.map (backH l)) (k := k) (by rw [List.length_map]; exact hlt)
                have hgm : (hs.map (backH l)).getD k default = backH l (hs.getD k default) := by
                  rw [List.getD, List.getD, List.getElem?_map, List.getElem?_eq_getElem hlt]; rfl
                rw [hgm] at hsn
                obtain ⟨⟨p, q, lo, hi⟩, hrow⟩ : ∃ z : He, hs.getD k default = z := ⟨_, rfl⟩
                rw [hrow] at x0 x1 x2 x3 hsn hbad hnx
                have hbk : backH l ⟨p, q, lo, hi⟩ = ⟨endF l - q, endF l - p, -hi, -lo⟩ := rfl
                rw [hbk, HEE.out] at hsn
                simp only [Nat.add_zero, heC] at x0 x1 x2 x3
                have hbnd : hearOk l ⟨p, q, lo, hi⟩ = true → (0 ≤ p ∧ p ≤ q ∧ q ≤ E) ∧ -1099511627776 ≤ lo ∧ lo ≤ hi ∧ hi ≤ 1099511627776 := fun h => by
                  unfold hearOk at h
                  simp only [Bool.and_eq_true, earsF_iff, withinF_iff, HEE.out] at h
                  exact h
                obtain ⟨W1, hW1⟩ : ∃ X, X = wr.alloc (.cells #[.int .i64 p, .int .i64 q, .int .i64 lo, .int .i64 hi] 26) := ⟨_, rfl⟩
                have hr1 : W1.heap[wr.heap.size]? = some (.cells #[.int .i64 p, .int .i64 q, .int .i64 lo, .int .i64 hi] 26 (0, 0)) := by rw [hW1]; exact alloc_heap wr _
                have hbb : Below wr.heap.size wr W1 := by rw [hW1]; exact (Below.refl _ _).alloc (Nat.le_refl _) _
                have hb1 := hbw.trans (hbb.mono hbw.size)
                have kw := rHearing_any l HOK.out (.slice a l.length c) ⟨p, q, lo, hi⟩ W1 (HLC.out.below hb1)
                unfold heV at kw
                simp only [] at kw
                obtain ⟨b, hb⟩ : ∃ b, hearOk l ⟨p, q, lo, hi⟩ = b := ⟨_, rfl⟩
                rw [hb] at kw hbad hnx hbnd
                have KW := Lib.hid kw
                have HBA := Lib.hid hbad
                have HNX := Lib.hid hnx
                have HBN := Lib.hid hbnd
                have HR1 := Lib.hid hr1
                have HB1 := Lib.hid hb1
                have HD1 := Lib.hid (And.intro (row_below hd hbb) (fun t ht => (hd.lt t ht).2))
                have G1 := Lib.hid (show flatK 4 heC ((hs.map (backH l)).take k) ++ [.int .i64 (E - q), .int .i64 (E - p), .int .i64 (-hi), .int .i64 (-lo)] = flatK 4 heC ((hs.map (backH l)).take (k + 1)) by rw [hsn, flat_snoc]; rfl)
                generalize flatK 4 heC ((hs.map (backH l)).take k) = L1 at *
                have ij1 : (k : Int) < (hs.length : Int) := Int.ofNat_lt.2 hlt
                have h12 := HL12.out
                have v3 : IntKind.i64.wrap ((k : Int) + 1) = (k : Int) + 1 := IntWalk.i64_in _ (by omega)
                clear hlb hlx hsn hgm hbk hrow hb kw hbad hnx hbnd hr1 hbb hb1 hbw hd h12
                go_upto_region 18 with fail
                rw [← hW1]
                have hr1 := HR1.out
                obtain ⟨X, hX⟩ : ∃ z, wr.heap.size = z := ⟨_, rfl⟩
                rw [hX] at hr1
                try rw [hX]
                have HXX := Lib.hid hX
                obtain ⟨p0, p1, p2, p3⟩ := four_cells hr1
                have HX1 := Lib.hid hr1
                clear hW1 hX x0 x1 x2 x3 hr1 HR1
                go_wp2_with (go_at_call 29; fail)
                refine KW.out.mono ?_
                rintro e w3 ⟨rfl, hb3⟩
                have HB3 := Lib.hid (HB1.out.trans (hb3.mono HB1.out.size))
                have HD3 := Lib.hid (And.intro (row_below HD1.out.1 hb3) HD1.out.2)
                have HX3 := Lib.hid (box_step (w0 := w) HX1.out hb3)
                clear hb3 p0 p1 p2 p3 HB1 HD1 HX1 KW
                cases b with
                | false =>
                  rcases HBA.out rfl with rfl | rfl
                  · go_wp2_with (go_at_call 12; fail)
                    refine (KA.out _).mono ?_
                    rintro e9 w7 ⟨rfl, hbz⟩
                    go_wp2
                    go_ret
                    exact ⟨rfl, HBC.out.trans ((HB3.out.trans (hbz.mono HB3.out.size)).mono HBC.out.size)⟩
                  · go_wp2_with (go_at_call 12; fail)
                    refine (KA.out _).mono ?_
                    rintro e9 w7 ⟨rfl, hbz⟩
                    go_wp2
                    go_ret
                    exact ⟨rfl, HBC.out.trans ((HB3.out.trans (hbz.mono HB3.out.size)).mono HBC.out.size)⟩
                | true =>
                  have hbn := HBN.out rfl
                  have hE := HE.out
                  have HNX2 := Lib.hid (HNX.out rfl)
                  have u1 : IntKind.i64.wrap (E - q) = E - q := IntWalk.i64_in _ (by omega)
                  have u2 : IntKind.i64.wrap (E - p) = E - p := IntWalk.i64_in _ (by omega)
                  have u3 : IntKind.i64.wrap (-hi) = -hi := IntWalk.i64_in _ (by omega)
                  have u4 : IntKind.i64.wrap (-lo) = -lo := IntWalk.i64_in _ (by omega)
                  clear hbn hE HNX HBN HBA
                  go_upto_region 20 with fail
                  obtain ⟨W2, hW2⟩ : ∃ Z, Z = w3.drew := ⟨_, rfl⟩
                  have hbD : Below w3.heap.size w3 W2 := by rw [hW2]; exact (Below.refl _ _).drew
                  have HT := Lib.hid (box_step (w0 := w) HX3.out hbD)
                  have HD4 := Lib.hid (And.intro (row_below HD3.out.1 hbD) HD3.out.2)
                  have HB4 := Lib.hid (HB3.out.trans (hbD.mono HB3.out.size))
                  clear hbD HX3 HD3 HB3
                  refine wp_region_held_drew (S := fun w' => w'.heap[X]? = some (.cells #[.int .i64 p, .int .i64 q, .int .i64 lo, .int .i64 hi] 26 (0, 0))) (by kernel_rfl) (by rw [← hW2]; exact HT.out) (fun hHeld => ?_)
                  rw [← hW2]
                  clear hW2 hHeld
                  refine wpAnyH_take (i := 0) (oi := _) (v := ?_) rfl (by kernel_rfl) (by kernel_rfl) (by kernel_rfl) (fun _ _ _ h => h) (Or.inl ⟨by rfl, ?_⟩) HT.out ?_
                  rotate_left
                  · intro w1 hSw
                    obtain ⟨z0, z1, z2, z3⟩ := four_cells hSw
                    go_simp; with_reducible rfl
                  simp only [List.getElem_toArray, List.getElem_cons_succ, List.getElem_cons_zero, Act.put, List.setIfInBounds_toArray, List.set_cons_zero, List.set_cons_succ]
                  refine wpAnyH_take (i := 1) (oi := _) (v := ?_) rfl (by kernel_rfl) (by kernel_rfl) (by kernel_rfl) (fun _ _ _ h => h) (Or.inl ⟨by rfl, ?_⟩) HT.out ?_
                  rotate_left
                  · intro w1 hSw
                    obtain ⟨z0, z1, z2, z3⟩ := four_cells hSw
                    go_simp; with_reducible rfl
                  simp only [List.getElem_toArray, List.getElem_cons_succ, List.getElem_cons_zero, Act.put, List.setIfInBounds_toArray, List.set_cons_zero, List.set_cons_succ]
                  refine wpAnyH_take (i := 2) (oi := _) (v := ?_) rfl (by kernel_rfl) (by kernel_rfl) (by kernel_rfl) (fun _ _ _ h => h) (Or.inl ⟨by rfl, ?_⟩) HT.out ?_
                  rotate_left
                  · intro w1 hSw
                    obtain ⟨z0, z1, z2, z3⟩ := four_cells hSw
                    go_simp; with_reducible rfl
                  simp only [List.getElem_toArray, List.getElem_cons_succ, List.getElem_cons_zero, Act.put, List.setIfInBounds_toArray, List.set_cons_zero, List.set_cons_succ]
                  refine wpAnyH_take (i := 3) (oi := _) (v := ?_) rfl (by kernel_rfl) (by kernel_rfl) (by kernel_rfl) (fun _ _ _ h => h) (Or.inl ⟨by rfl, ?_⟩) HT.out ?_
                  rotate_left
                  · intro w1 hSw
                    obtain ⟨z0, z1, z2, z3⟩ := four_cells hSw
                    go_simp; with_reducible rfl
                  simp only [List.getElem_toArray, List.getElem_cons_succ, List.getElem_cons_zero, Act.put, List.setIfInBounds_toArray, List.set_cons_zero, List.set_cons_succ]
                  refine wpAnyH_take (i := 4) (oi := _) (v := ?_) rfl (by kernel_rfl) (by kernel_rfl) (by kernel_rfl) (fun _ _ _ h => h) (Or.inl ⟨by rfl, ?_⟩) HT.out ?_
                  rotate_left
                  · intro w1 hSw
                    obtain ⟨z0, z1, z2, z3⟩ := four_cells hSw
                    go_simp; with_reducible rfl
                  simp only [List.getElem_toArray, List.getElem_cons_succ, List.getElem_cons_zero, Act.put, List.setIfInBounds_toArray, List.set_cons_zero, List.set_cons_succ]
                  refine wpAnyH_take (i := 5) (oi := _) (v := ?_) rfl (by kernel_rfl) (by kernel_rfl) (by kernel_rfl) (fun _ _ _ h => h) (Or.inl ⟨by rfl, ?_⟩) HT.out ?_
                  rotate_left
                  · intro w1 hSw
                    obtain ⟨z0, z1, z2, z3⟩ := four_cells hSw
                    go_simp; with_reducible rfl
                  simp only [List.getElem_toArray, List.getElem_cons_succ, List.getElem_cons_zero, Act.put, List.setIfInBounds_toArray, List.set_cons_zero, List.set_cons_succ]
                  refine wpAnyH_take (i := 6) (oi := _) (v := ?_) rfl (by kernel_rfl) (by kernel_rfl) (by kernel_rfl) (fun _ _ _ h => h) (Or.inl ⟨by rfl, ?_⟩) HT.out ?_
                  rotate_left
                  · intro w1 hSw
                    obtain ⟨z0, z1, z2, z3⟩ := four_cells hSw
                    go_simp; with_reducible rfl
                  simp only [List.getElem_toArray, List.getElem_cons_succ, List.getElem_cons_zero, Act.put, List.setIfInBounds_toArray, List.set_cons_zero, List.set_cons_succ]
                  refine wpAnyH_take (i := 7) (oi := _) (v := ?_) rfl (by kernel_rfl) (by kernel_rfl) (by kernel_rfl) (fun _ _ _ h => h) (Or.inl ⟨by rfl, ?_⟩) HT.out ?_
                  rotate_left
                  · intro w1 hSw
                    obtain ⟨z0, z1, z2, z3⟩ := four_cells hSw
                    go_simp; with_reducible rfl
                  simp only [List.getElem_toArray, List.getElem_cons_succ, List.getElem_cons_zero, Act.put, List.setIfInBounds_toArray, List.set_cons_zero, List.set_cons_succ]
                  refine wpAnyH_take (i := 8) (oi := _) (v := ?_) rfl (by kernel_rfl) (by kernel_rfl) (by kernel_rfl) (fun _ _ _ h => h) (Or.inl ⟨by rfl, ?_⟩) HT.out ?_
                  rotate_left
                  · intro w1 hSw
                    obtain ⟨z0, z1, z2, z3⟩ := four_cells hSw
                    go_simp; with_reducible rfl
                  simp only [List.getElem_toArray, List.getElem_cons_succ, List.getElem_cons_zero, Act.put, List.setIfInBounds_toArray, List.set_cons_zero, List.set_cons_succ]
                  refine wpAnyH_take (i := 9) (oi := _) (v := ?_) rfl (by kernel_rfl) (by kernel_rfl) (by kernel_rfl) (fun _ _ _ h => h) (Or.inl ⟨by rfl, ?_⟩) HT.out ?_
                  rotate_left
                  · intro w1 hSw
                    obtain ⟨z0, z1, z2, z3⟩ := four_cells hSw
                    go_simp; with_reducible rfl
                  simp only [List.getElem_toArray, List.getElem_cons_succ, List.getElem_cons_zero, Act.put, List.setIfInBounds_toArray, List.set_cons_zero, List.set_cons_succ]
                  refine wpAnyH_take (i := 10) (oi := _) (v := ?_) rfl (by kernel_rfl) (by kernel_rfl) (by kernel_rfl) (fun _ _ _ h => h) (Or.inl ⟨by rfl, ?_⟩) HT.out ?_
                  rotate_left
                  · intro w1 hSw
                    obtain ⟨z0, z1, z2, z3⟩ := four_cells hSw
                    go_simp; with_reducible rfl
                  simp only [List.getElem_toArray, List.getElem_cons_succ, List.getElem_cons_zero, Act.put, List.setIfInBounds_toArray, List.set_cons_zero, List.set_cons_succ]
                  refine wpAnyH_take (i := 11) (oi := _) (v := ?_) rfl (by kernel_rfl) (by kernel_rfl) (by kernel_rfl) (fun _ _ _ h => h) (Or.inl ⟨by rfl, ?_⟩) HT.out ?_
                  rotate_left
                  · intro w1 hSw
                    obtain ⟨z0, z1, z2, z3⟩ := four_cells hSw
                    go_simp; with_reducible rfl
                  simp only [List.getElem_toArray, List.getElem_cons_succ, List.getElem_cons_zero, Act.put, List.setIfInBounds_toArray, List.set_cons_zero, List.set_cons_succ]
                  refine wpAnyH_take (i := 12) (oi := _) (v := ?_) rfl (by kernel_rfl) (by kernel_rfl) (by kernel_rfl) (fun _ _ _ h => h) (Or.inl ⟨by rfl, ?_⟩) HT.out ?_
                  rotate_left
                  · intro w1 hSw
                    obtain ⟨z0, z1, z2, z3⟩ := four_cells hSw
                    go_simp; with_reducible rfl
                  simp only [List.getElem_toArray, List.getElem_cons_succ, List.getElem_cons_zero, Act.put, List.setIfInBounds_toArray, List.set_cons_zero, List.set_cons_succ]
                  refine wpAnyH_take (i := 13) (oi := _) (v := ?_) rfl (by kernel_rfl) (by kernel_rfl) (by kernel_rfl) (fun _ _ _ h => h) (Or.inl ⟨by rfl, ?_⟩) HT.out ?_
                  rotate_left
                  · intro w1 hSw
                    obtain ⟨z0, z1, z2, z3⟩ := four_cells hSw
                    go_simp; with_reducible rfl
                  simp only [List.getElem_toArray, List.getElem_cons_succ, List.getElem_cons_zero, Act.put, List.setIfInBounds_toArray, List.set_cons_zero, List.set_cons_succ]
                  refine wpAnyH_take (i := 14) (oi := _) (v := ?_) rfl (by kernel_rfl) (by kernel_rfl) (by kernel_rfl) (fun _ _ _ h => h) (Or.inl ⟨by rfl, ?_⟩) HT.out ?_
                  rotate_left
                  · intro w1 hSw
                    obtain ⟨z0, z1, z2, z3⟩ := four_cells hSw
                    go_simp; with_reducible rfl
                  simp only [List.getElem_toArray, List.getElem_cons_succ, List.getElem_cons_zero, Act.put, List.setIfInBounds_toArray, List.set_cons_zero, List.set_cons_succ]
                  refine wpAnyH_take (i := 15) (oi := _) (v := ?_) rfl (by kernel_rfl) (by kernel_rfl) (by kernel_rfl) (fun _ _ _ h => h) (Or.inl ⟨by rfl, ?_⟩) HT.out ?_
                  rotate_left
                  · intro w1 hSw
                    obtain ⟨z0, z1, z2, z3⟩ := four_cells hSw
                    go_simp; with_reducible rfl
                  simp only [List.getElem_toArray, List.getElem_cons_succ, List.getElem_cons_zero, Act.put, List.setIfInBounds_toArray, List.set_cons_zero, List.set_cons_succ]
                  refine wpAnyH_take (i := 16) (oi := _) (v := ?_) rfl (by kernel_rfl) (by kernel_rfl) (by kernel_rfl) (fun _ _ _ h => h) (Or.inl ⟨by rfl, ?_⟩) HT.out ?_
                  rotate_left
                  · intro w1 hSw
                    obtain ⟨z0, z1, z2, z3⟩ := four_cells hSw
                    go_simp; with_reducible rfl
                  simp only [List.getElem_toArray, List.getElem_cons_succ, List.getElem_cons_zero, Act.put, List.setIfInBounds_toArray, List.set_cons_zero, List.set_cons_succ]
                  refine wpAnyH_all (rs := [17]) (by kernel_rfl) (by simp) ?_
                  intro i hi; obtain rfl := List.mem_singleton.1 hi; clear hi
                  refine wpOp_step rfl (fun K3 hK3 => ?_)
                  have HK3 := Lib.hid hK3
                  clear hK3
                  rw [if_pos (by rfl)]
                  go_simp
                  refine (span_any (-hi) (-lo) W2).mono ?_
                  rintro e w5 ⟨rfl, hbn⟩
                  have HT5' := Lib.hid (box_step (w0 := w) HT.out hbn)
                  have HD5 := Lib.hid (And.intro (row_below HD4.out.1 hbn) HD4.out.2)
                  have HB5' := Lib.hid (HB4.out.trans (hbn.mono HB4.out.size))
                  clear hbn
                  refine HK3.out _ _ ⟨HT5'.out, ?_⟩
                  clear HK3 K3
                  try simp only [List.getElem_toArray, List.getElem_cons_succ, List.getElem_cons_zero, Act.put, List.setIfInBounds_toArray, List.set_cons_zero, List.set_cons_succ]
                  refine wpAnyH_take (i := 18) (oi := _) (v := ?_) rfl (by kernel_rfl) (by kernel_rfl) (by kernel_rfl) (fun _ _ _ h => h) (Or.inl ⟨by rfl, ?_⟩) HT5'.out ?_
                  rotate_left
                  · intro w1 hSw
                    obtain ⟨z0, z1, z2, z3⟩ := four_cells hSw
                    go_simp; with_reducible rfl
                  simp only [List.getElem_toArray, List.getElem_cons_succ, List.getElem_cons_zero, Act.put, List.setIfInBounds_toArray, List.set_cons_zero, List.set_cons_succ]
                  refine wpAnyH_all (rs := [19]) (by kernel_rfl) (by simp) ?_
                  intro i hi; obtain rfl := List.mem_singleton.1 hi; clear hi
                  refine wpOp_step rfl (fun K3 hK3 => ?_)
                  have HK3 := Lib.hid hK3
                  clear hK3
                  rw [if_pos (by rfl)]
                  go_simp
                  have hbC : Below w5.heap.size w5 (w5.alloc (.cells #[.int .i64 (E - q), .int .i64 (E - p), .int .i64 (-hi), .int .i64 (-lo)] 26)) := (Below.refl _ _).alloc (Nat.le_refl _) _
                  have hnew := cell_four_new w5 (.int .i64 (E - q)) (.int .i64 (E - p)) (.int .i64 (-hi)) (.int .i64 (-lo)) 26
                  obtain ⟨C, hC⟩ : ∃ x, w5.heap.size = x := ⟨_, rfl⟩
                  obtain ⟨W6, hW6⟩ : ∃ X, X = w5.alloc (.cells #[.int .i64 (E - q), .int .i64 (E - p), .int .i64 (-hi), .int .i64 (-lo)] 26) := ⟨_, rfl⟩
                  rw [← hW6] at hbC hnew
                  rw [hC] at hnew
                  rw [← hW6]
                  try rw [hC]
                  have hT6 := box_step (w0 := w) HT5'.out hbC
                  have hd6 := row_below HD5.out.1 hbC
                  have hb6 := HB5'.out.trans (hbC.mono HB5'.out.size)
                  clear hW6 hC hbC
                  refine HK3.out _ _ ⟨hT6, ?_⟩
                  clear HK3 K3
                  try simp only [List.getElem_toArray, List.getElem_cons_succ, List.getElem_cons_zero, Act.put, List.setIfInBounds_toArray, List.set_cons_zero, List.set_cons_succ]
                  refine wpAnyH_all (rs := [20]) (by kernel_rfl) (by simp) ?_
                  intro i hi; obtain rfl := List.mem_singleton.1 hi; clear hi
                  refine wpOp_step rfl (fun K3 hK3 => ?_)
                  have HK3 := Lib.hid hK3
                  clear hK3
                  rw [if_pos (by rfl)]
                  simp only [List.getElem_toArray, List.getElem_cons_succ, List.getElem_cons_zero]
                  refine wp_append_own (P := Try.prog) W6 (.tmp 101) (.tmp 120) 37 (by rfl) wc.heap.size 26 i0 (.agg #[.int .i64 0, .int .i64 0, .int .i64 0, .int .i64 0]) 4 32 Try.underlying37 hi0 hz0 hz1 hz2 rfl (by decide) _ k L1 (by rfl) hd6 ⟨C, 0, none⟩ 1 1 [.int .i64 (E - q), .int .i64 (E - p), .int .i64 (-hi), .int .i64 (-lo)] (by rfl) rfl hnew (ints_oneCell .i64 [E - q, E - p, -hi, -lo]) (by have := HL12.out; unfold maxLen; omega) (by have := HL12.out; omega) hb6.size ?_
                  intro v' w7 hown hg _
                  have hT7 := (hg.block X (Array.getElem?_eq_some_iff.1 hT6).1 (fun e => by have h1 := HD5.out.2 X e.symm; have h2 := HXX.out; omega)).trans hT6
                  have HB7 := Lib.hid (hb6.grown hg hb6.size (fun k hk => (hd6.lt k hk).1))
                  have HO7 := Lib.hid hown
                  clear hown hg hd6 hb6 hnew hT6
                  refine HK3.out _ _ ⟨hT7, ?_⟩
                  clear HK3 K3
                  try simp only [List.getElem_toArray, List.getElem_cons_succ, List.getElem_cons_zero, Act.put, List.setIfInBounds_toArray, List.set_cons_zero, List.set_cons_succ]
                  refine wpAnyH_take (i := 21) (oi := _) (v := ?_) rfl (by kernel_rfl) (by kernel_rfl) (by kernel_rfl) (fun _ _ _ h => h) (Or.inl ⟨by rfl, ?_⟩) hT7 ?_
                  rotate_left
                  · intro w1 hSw
                    obtain ⟨z0, z1, z2, z3⟩ := four_cells hSw
                    go_simp; with_reducible rfl
                  simp only [List.getElem_toArray, List.getElem_cons_succ, List.getElem_cons_zero, Act.put, List.setIfInBounds_toArray, List.set_cons_zero, List.set_cons_succ]
                  refine wpAnyH_done (by kernel_rfl) ?_ _
                  clear hT7
                  go_wp2
                  go_roundw
                  case rel => exact ⟨k + 1, by omega, by go_num, HNX2.out, HB7.out, by rw [← G1.out]; exact HO7.out⟩
                  case measure => simp [intOf]; omega
              · have j2 : ¬ (k : Int) < (hs.length : Int) := by omega
                have hkl : k = hs.length := by omega
                subst hkl
                have hhs : ∀ h ∈ hs, hearOk l h = true := fun h hm => by
                  obtain ⟨i, hi, rfl⟩ := List.mem_iff_getElem.1 hm
                  have := HFO.out i hi
                  rwa [List.getD, List.getElem?_eq_getElem hi] at this
                have hwr := HWR.out HOK.out hhs
                have hrl : (hs.map (backH l)).take hs.length = hs.map (backH l) := List.take_of_length_le (by rw [List.length_map]; exact Nat.le_refl _)
                rw [hrl] at hd
                have htab := tab_of_own hd (by rw [List.length_map]) (by rw [List.length_map]; have := HL12.out; unfold maxLen; omega)
                obtain ⟨at', ct, et⟩ := htab.shape
                rw [List.length_map] at et
                subst et
                have KWB := Where_any l.reverse (.slice ab l.length cb) (hs.map (backH l)) (.slice at' hs.length ct) wr (HTB.out.below hbw) htab
                rw [hwr] at KWB
                unfold WhereR at KWB
                simp only [] at KWB
                have hrows : ∀ i, i < S1.length → (0 ≤ (S1.getD i default).p ∧ (S1.getD i default).p < (l.length : Int)) ∧ (0 ≤ (S1.getD i default).a ∧ (S1.getD i default).a ≤ 100000) ∧ (0 ≤ (S1.getD i default).b ∧ (S1.getD i default).b ≤ 100000) := by
                  have hw := HW2.out
                  have hS : S1 = [] ∨ S1 = strUp l (spanF l hs) l.length := by
                    split at hw
                    · split at hw
                      · split at hw
                        · simp only [Prod.mk.injEq] at hw; exact .inl hw.1
                        · simp only [Prod.mk.injEq] at hw; exact .inr hw.1
                      · simp only [Prod.mk.injEq] at hw; exact .inl hw.1
                    · simp only [Prod.mk.injEq] at hw; exact .inl hw.1
                  intro i hi
                  rcases hS with rfl | rfl
                  · simp at hi
                  · exact stOk_of (str_rows HOK.out _ _ (Nat.le_refl _)) i hi
                have HROWS := Lib.hid hrows
                have hmir : ∀ i, i < S1.length → ((S1.map (mirF l)).reverse).getD (S1.length - 1 - i) default = mirF l (S1.getD i default) := fun i hi => by
                  rw [List.getD, List.getD, List.getElem?_reverse (by rw [List.length_map]; omega), List.getElem?_map, List.length_map, show S1.length - 1 - (S1.length - 1 - i) = i by omega, List.getElem?_eq_getElem hi]; rfl
                have hml : ((S1.map (mirF l)).reverse).length = S1.length := by simp
                obtain ⟨R1, hR1⟩ : ∃ R, (S1.map (mirF l)).reverse = R := ⟨_, rfl⟩
                rw [hR1] at KWB hmir hml
                have HMIR := Lib.hid hmir
                have HML := Lib.hid hml
                have KWW := Lib.hid KWB
                have HBR := Lib.hid (HBC.out.trans (hbw.mono HBC.out.size))
                have HPR := Lib.hid (box_step (w0 := w) HPC.out hbw)
                have HTR := Lib.hid (HTC.out.below hbw)
                have HLR := Lib.hid (HLC.out.below hbw)
                have HTBR := Lib.hid (HTB.out.below hbw)
                clear hhs hwr hrl hd htab KWB hrows hmir hml hR1 hbw HFO HBC HPC HTC HLC HTB HHC HWR HW2
                go_wp2_with (go_at_call 18; fail)
                refine KWW.out.mono ?_
                rintro e wd ⟨vd, rfl, hod, hbd⟩
                have htd := outT_tab hod (by rw [HML.out]; have := HS.out; omega)
                obtain ⟨ad, cd, ed⟩ := htd.shape
                rw [HML.out] at ed
                subst ed
                have HTD := Lib.hid htd
                have HBD := Lib.hid (HBR.out.trans (hbd.mono HBR.out.size))
                have HPD := Lib.hid (box_step (w0 := w) HPR.out hbd)
                have HTRD := Lib.hid (HTR.out.below hbd)
                have HLD := Lib.hid (HLR.out.below hbd)
                have HTBD := Lib.hid (HTBR.out.below hbd)
                clear hod hbd htd KWW HBR HPR HTR HLR HTBR
                go_wp2_with fail
                go_loopw [23, 24, 25, 141] (fun _ _ _ i wr => ∃ k : Nat, k ≤ S1.length ∧ i = .int .i64 k ∧ Below wd.heap.size wd wr) (fun _ _ _ i _ => S1.length - (intOf i).toNat)
                case atStart => exact ⟨0, by omega, rfl, Below.refl _ _⟩
                case round =>
                  obtain ⟨k, hk, rfl, hbw⟩ := hrel
                  by_cases hlt : k < S1.length
                  · obtain ⟨m, hm⟩ : ∃ m, S1.length - 1 - k = m := ⟨_, rfl⟩
                    have hml : m < S1.length := by omega
                    obtain ⟨sb, sof, ec, hsb, hsx⟩ := (HTRD.out.below hbw).at (by omega)
                    subst ec
                    obtain ⟨db, dof, ef, hdb, hdx⟩ := (HTD.out.below hbw).at (by rw [HML.out]; omega)
                    subst ef
                    have x0 := hsx k hlt 0 (by omega)
                    have x1 := hsx k hlt 1 (by omega)
                    have x2 := hsx k hlt 2 (by omega)
                    have y0 := hdx m (by rw [HML.out]; exact hml) 0 (by omega)
                    have y1 := hdx m (by rw [HML.out]; exact hml) 1 (by omega)
                    have y2 := hdx m (by rw [HML.out]; exact hml) 2 (by omega)
                    have hmm := HMIR.out k hlt
                    rw [hm] at hmm
                    have hro := HROWS.out k hlt
                    rw [hmm] at y0 y1 y2
                    obtain ⟨⟨p, t0, t1⟩, hrow⟩ : ∃ z : St, S1.getD k default = z := ⟨_, rfl⟩
                    rw [hrow] at x0 x1 x2 y0 y1 y2 hro
                    simp only [Nat.add_zero, stC, mirF] at x0 x1 x2 y0 y1 y2 hro
                    obtain ⟨⟨hp0, hp1⟩, ha, hb⟩ := hro
                    obtain ⟨q, rfl⟩ : ∃ q : Nat, p = q := ⟨p.toNat, by omega⟩
                    simp only [Int.toNat_natCast] at y0 y1 y2
                    have hq : q < l.length := by omega
                    obtain ⟨lb, lof, ei, hlb, hlx⟩ := (HLD.out.below hbw).at (by omega)
                    subst ei
                    have z0 := hlx q hq 0 (by omega)
                    have hpi := pipe_in HOK.out hq
                    obtain ⟨⟨t2, t3, t4⟩, hrow2⟩ : ∃ z : Pi, l.getD q default = z := ⟨_, rfl⟩
                    rw [hrow2] at z0 hpi y1 y2
                    simp only [Nat.add_zero, piC] at z0 hpi y1 y2
                    have h12 := HL12.out
                    have hs12 := HS.out
                    have v1 : IntKind.i64.wrap ((S1.length : Int) - 1) = (S1.length : Int) - 1 := IntWalk.i64_in _ (by omega)
                    have v2 : IntKind.i64.wrap ((S1.length : Int) - 1 - (k : Int)) = (m : Int) := by rw [IntWalk.i64_in _ (by omega)]; omega
                    have v3 : IntKind.i64.wrap ((k : Int) + 1) = (k : Int) + 1 := IntWalk.i64_in _ (by omega)
                    have v4 : IntKind.i64.wrap ((l.length : Int) - 1) = (l.length : Int) - 1 := IntWalk.i64_in _ (by omega)
                    have v5 : IntKind.i64.wrap ((l.length : Int) - 1 - (q : Int)) = (l.length : Int) - 1 - (q : Int) := IntWalk.i64_in _ (by omega)
                    have v6 : IntKind.i64.wrap (t2 - t1) = t2 - t1 := IntWalk.i64_in _ (by omega)
                    have v7 : IntKind.i64.wrap (t2 - t0) = t2 - t0 := IntWalk.i64_in _ (by omega)
                    have b1 : decide ((q : Int) < 0) = false := decide_eq_false (by omega)
                    have b2 : decide ((l.length : Int) ≤ (q : Int)) = false := decide_eq_false (by omega)
                    have b3 : decide (l.length ≤ q) = false := decide_eq_false (by omega)
                    have ij0 : (0 : Int) ≤ (q : Int) := by omega
                    have ij1 : (q : Int) < (l.length : Int) := Int.ofNat_lt.2 hq
                    have im0 : (0 : Int) ≤ (m : Int) := by omega
                    have im1 : (m : Int) < (S1.length : Int) := Int.ofNat_lt.2 hml
                    have ik1 : (k : Int) < (S1.length : Int) := Int.ofNat_lt.2 hlt
                    obtain ⟨W1, hW1⟩ : ∃ Z, Z = wr.alloc (.cells #[.int .i64 q, .int .i64 t0, .int .i64 t1] 49) := ⟨_, rfl⟩
                    have hb1 : Below wr.heap.size wr W1 := by rw [hW1]; exact (Below.refl _ _).alloc (Nat.le_refl _) _
                    have hr1 : W1.heap[wr.heap.size]? = some (.cells #[.int .i64 q, .int .i64 t0, .int .i64 t1] 49 (0, 0)) := by rw [hW1]; exact alloc_heap wr _
                    have HR1 := Lib.hid hr1
                    have HYC := Lib.hid (And.intro (cell_step y0 hb1) (And.intro (cell_step y1 hb1) (And.intro (cell_step y2 hb1) (cell_step z0 hb1))))
                    have HB1 := Lib.hid (hbw.trans (hb1.mono hbw.size))
                    clear hsb hsx hdb hdx hmm hrow hp0 hp1 ha hb hlb hlx hpi hrow2 h12 hs12 hb1 hr1 hbw hm y0 y1 y2 z0
                    go_upto_region 28 with fail
                    rw [← hW1]
                    have hr1 := HR1.out
                    obtain ⟨X, hX⟩ : ∃ z, wr.heap.size = z := ⟨_, rfl⟩
                    rw [hX] at hr1
                    try rw [hX]
                    clear hW1 hX x0 x1 x2 HR1
                    obtain ⟨y0, y1, y2, z0⟩ := HYC.out
                    obtain ⟨W2, hW2⟩ : ∃ Z, Z = W1.alloc (.cells #[.int .i64 ((l.length : Int) - 1 - (q : Int)), .int .i64 (t2 - t1), .int .i64 (t2 - t0)] 49) := ⟨_, rfl⟩
                    have hb2 : Below W1.heap.size W1 W2 := by rw [hW2]; exact (Below.refl _ _).alloc (Nat.le_refl _) _
                    have hr2 : W2.heap[W1.heap.size]? = some (.cells #[.int .i64 ((l.length : Int) - 1 - (q : Int)), .int .i64 (t2 - t1), .int .i64 (t2 - t0)] 49 (0, 0)) := by rw [hW2]; exact alloc_heap W1 _
                    have HR2 := Lib.hid hr2
                    have HX2 := Lib.hid (box_step (w0 := w) hr1 hb2)
                    have HZ2 := Lib.hid (cell_step z0 hb2)
                    have HB2 := Lib.hid (HB1.out.trans (hb2.mono HB1.out.size))
                    clear hr1 hb2 hr2 z0 HYC HB1
                    go_upto_region 29 with fail
                    rw [← hW2]
                    have hr2 := HR2.out
                    obtain ⟨Y, hY⟩ : ∃ z, W1.heap.size = z := ⟨_, rfl⟩
                    rw [hY] at hr2
                    try rw [hY]
                    clear hW2 hY y0 y1 y2 HR2
                    obtain ⟨m0, m1, m2⟩ := three_cells HX2.out
                    obtain ⟨m3, m4, m5⟩ := three_cells hr2
                    have k0 := cell_regrown m0
                    have k1 := cell_regrown m1
                    have k2 := cell_regrown m2
                    have k3 := cell_regrown m3
                    have k4 := cell_regrown m4
                    have k5 := cell_regrown m5
                    have k6 := cell_regrown HZ2.out
                    clear m0 m1 m2 m3 m4 m5 hr2 HX2 HZ2
                    refine wp_region_quiet_below (by kernel_rfl) (by kernel_rfl) ?_
                    repeat (go_big_quiet_step (fail))
                    refine wpQuiet_nil ?_
                    intro Z hw'
                    have hbr : Below W2.heap.size W2 Z := by obtain ⟨⟨dq, osq⟩, hw''⟩ := hw'; rw [hw'']; exact below_regrown W2 dq osq
                    have HBZ := Lib.hid (HB2.out.trans (hbr.mono HB2.out.size))
                    clear hw' hbr k0 k1 k2 k3 k4 k5 k6
                    go_wp2
                    go_roundw
                    case rel => exact ⟨k + 1, by omega, by go_num, HBZ.out⟩
                    case measure => simp [intOf]; omega
                  · have j3 : ¬ (k : Int) < (S1.length : Int) := by omega
                    have HBW := Lib.hid (HBD.out.trans (hbw.mono HBD.out.size))
                    have hpw := box_step (w0 := w) HPD.out hbw
                    have HTBW := Lib.hid (HTBD.out.below hbw)
                    have hg := HG2.out
                    clear hbw HBD HPD HTRD HLD HTBD HTD
                    cases hpl : (placeF l t && earsF l x y) with
                    | false =>
                      rw [hpl] at hg
                      simp only [Bool.false_eq_true, if_false, Prod.mk.injEq] at hg
                      obtain ⟨⟨rfl, rfl⟩, rfl⟩ := hg
                      obtain ⟨p0, p1⟩ := two_cells hpw
                      clear hpl HG2 hpw
                      go_wp2_with (go_at_call 12; fail)
                      refine (KA.out _).mono ?_
                      rintro e9 wz ⟨rfl, hbz⟩
                      go_wp2
                      go_ret
                      exact ⟨rfl, HBW.out.trans (hbz.mono HBW.out.size)⟩
                    | true =>
                      rw [hpl] at hg
                      simp only [if_true, Prod.mk.injEq] at hg
                      have hpl2 := hpl
                      unfold placeF at hpl
                      simp only [Bool.and_eq_true, inF_iff, earsF_iff, HEE.out] at hpl
                      have hlr := lags_rev HOK.out (show x ≤ y by omega) t
                      rw [← hg.1, HEE.out] at hlr
                      have hE := HE.out
                      have hlag : lagR l.reverse (E - y) (E - x) (E - t) = ((-r1, -r0), 0) := by
                        unfold lagR
                        rw [if_pos (by rw [ok_rev]; exact HOK.out), if_pos (by
                          unfold placeF
                          simp only [Bool.and_eq_true, inF_iff, earsF_iff, end_rev, HEE.out]
                          omega), hlr]
                      have hb0 := lagF_in HOK.out false x y t
                      have hb1 := lagF_in HOK.out true x y t
                      have hlg : lagsF l x y t = (lagF false l x y t, lagF true l x y t) := rfl
                      rw [← hg.1, Prod.mk.injEq] at hlg
                      rw [← hlg.1] at hb0
                      rw [← hlg.2] at hb1
                      obtain ⟨_, rfl⟩ := hg
                      have KLB := Lag_any l.reverse (.slice ab l.length cb) (E - y) (E - x) (E - t) wr HTBW.out
                      rw [hlag] at KLB
                      unfold LagR at KLB
                      simp only [] at KLB
                      have KLBB := Lib.hid KLB
                      have u1 : IntKind.i64.wrap (E - y) = E - y := IntWalk.i64_in _ (by omega)
                      have u2 : IntKind.i64.wrap (E - x) = E - x := IntWalk.i64_in _ (by omega)
                      have u3 : IntKind.i64.wrap (E - t) = E - t := IntWalk.i64_in _ (by omega)
                      have u4 : IntKind.i64.wrap (-r1) = -r1 := IntWalk.i64_in _ (by omega)
                      have u5 : IntKind.i64.wrap (-r0) = -r0 := IntWalk.i64_in _ (by omega)
                      have HPW := Lib.hid hpw
                      clear hpl hpl2 HG2 hlr hE hlag hb0 hb1 hlg KLB hpw
                      go_wp2_with (go_at_call 13; fail)
                      refine KLBB.out.mono ?_
                      rintro e wf ⟨rfl, hbf⟩
                      obtain ⟨W9, hW9⟩ : ∃ Z, Z = wf.alloc (.cells #[.int .i64 (-r1), .int .i64 (-r0)] 24) := ⟨_, rfl⟩
                      have hb9 : Below wf.heap.size wf W9 := by rw [hW9]; exact (Below.refl _ _).alloc (Nat.le_refl _) _
                      have hr9 : W9.heap[wf.heap.size]? = some (.cells #[.int .i64 (-r1), .int .i64 (-r0)] 24 (0, 0)) := by rw [hW9]; exact alloc_heap wf _
                      have HR9 := Lib.hid hr9
                      have hbf9 := hbf.trans (hb9.mono hbf.size)
                      have HP9 := Lib.hid (box_step (w0 := w) HPW.out hbf9)
                      have HB9 := Lib.hid (HBW.out.trans (hbf9.mono HBW.out.size))
                      clear hbf hb9 hr9 hbf9 HPW HBW KLBB
                      go_upto_region 35 with fail
                      rw [← hW9]
                      have hr9 := HR9.out
                      obtain ⟨Y, hY⟩ : ∃ z, wf.heap.size = z := ⟨_, rfl⟩
                      rw [hY] at hr9
                      try rw [hY]
                      clear hW9 hY HR9
                      obtain ⟨m0, m1⟩ := two_cells HP9.out
                      obtain ⟨m3, m4⟩ := two_cells hr9
                      have k0 := cell_regrown m0
                      have k1 := cell_regrown m1
                      have k3 := cell_regrown m3
                      have k4 := cell_regrown m4
                      have C1 := fun d os => Calls.regrown_of (w := W9) (d := d) (os := os) (span_any (-r1) (-r0) _)
                      have C2 := fun d os => Calls.regrown_of (w := W9) (d := d) (os := os) (KA.out _)
                      clear m0 m1 m3 m4 hr9 HP9
                      try simp only [List.append]
                      refine wp_region_quiet_below (by kernel_rfl) (by kernel_rfl) ?_
                      repeat (go_big_quiet_step (first | with_reducible exact C1 _ _ | with_reducible exact C2 _ _))
                      refine wpQuiet_nil ?_
                      intro Z hw'
                      have hbr : Below W9.heap.size W9 Z := by obtain ⟨⟨dq, osq⟩, hw''⟩ := hw'; rw [hw'']; exact below_regrown W9 dq osq
                      have HBZ := Lib.hid (HB9.out.trans (hbr.mono HB9.out.size))
                      clear hw' hbr k0 k1 k3 k4 C1 C2
                      go_wp2
                      go_ret
                      exact ⟨rfl, HBZ.out⟩
end Go.Proofs.Ytdbjifpnbghbaaa
