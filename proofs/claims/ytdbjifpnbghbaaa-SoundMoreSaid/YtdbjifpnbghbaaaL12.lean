/- Sound: the walk of SoundMore. -/
import Derived.Test.YtdbjifpnbghbaaaQ1
namespace Go.Proofs.Ytdbjifpnbghbaaa
set_option linter.unusedSimpArgs false
set_option linter.unusedVariables false
open Go.RowKit Go.Maps Go.BigFrame Go.ChangeShapes Go.WideShapes Go.ChangeAt

/-- what lives through SoundMore -/
structure MB (l : List Pi) (hs : List He) (S : List St) (E re : Int) (x y lo hi : Int) (a : Option Addr) (c : Nat) (la : Option Addr) (lc : Nat) (sa : Option Addr) (sc PE PL PM PS Pe : Nat) (w wr : World) : Prop where
  fb : Below w.heap.size w wr
  fl : TabAt 3 piC wr (.slice a l.length c) l
  fh : TabAt 4 heC wr (.slice la hs.length lc) hs
  fs : TabAt 3 stC wr (.slice sa S.length sc) S
  pl : wr.heap[PL]? = some (.cells #[.slice a l.length c] 22 (0, 0))
  pm : wr.heap[PM]? = some (.cells #[.int .i64 x, .int .i64 y, .int .i64 lo, .int .i64 hi] 26 (0, 0))
  ps : wr.heap[PS]? = some (.cells #[.slice sa S.length sc] 38 (0, 0))
  pe : wr.heap[Pe]? = some (.cells #[.int .i64 re] 29 (0, 0))
  pn : wr.heap[PE]? = some (.cells #[.int .i64 E] 3 (0, 0))
theorem MB.next {l : List Pi} {hs : List He} {S : List St} {E re x y lo hi : Int} {a : Option Addr} {c : Nat} {la : Option Addr} {lc : Nat} {sa : Option Addr} {sc PE PL PM PS Pe : Nat} {w wr w' : World} (k : MB l hs S E re x y lo hi a c la lc sa sc PE PL PM PS Pe w wr) (hb : Below wr.heap.size wr w') : MB l hs S E re x y lo hi a c la lc sa sc PE PL PM PS Pe w w' :=
  ⟨k.fb.trans (hb.mono k.fb.size), k.fl.below hb, k.fh.below hb, k.fs.below hb, box_step (w0 := w) k.pl hb, box_step (w0 := w) k.pm hb, box_step (w0 := w) k.ps hb, box_step (w0 := w) k.pe hb, box_step (w0 := w) k.pn hb⟩
set_option maxRecDepth 100000 in
set_option maxHeartbeats 12800000 in
theorem more_law (l : List Pi) (v : Value) (hs : List He) (v2 : Value) (mo : He) (t : Int) (tn by' : Nat) (htn : tn ≤ 255) (hby : by' ≤ 255) (w : World) (hl : TabAt 3 piC w v l) (hh : TabAt 4 heC w v2 hs) (nl : NilOk v) (nh : NilOk v2) : Calls Try.prog 8 #[v, v2, heV mo, .int .i64 t, .int .u8 (tn : Nat), .int .u8 (by' : Nat)] w fun e w' => e = .returned (.bool true) ∧ Below w.heap.size w w' := by
  obtain ⟨a, c, rfl⟩ := hl.shape
  obtain ⟨la, lc, rfl⟩ := hh.shape
  obtain ⟨x, y, lo, hi⟩ := mo
  have ml : hs.length ≤ 9223372036854775807 := hh.1
  have NL := Lib.hid nl
  have NH := Lib.hid nh
  have KA := Lib.hid alive_any
  have KL := Lib.hid (fun X hX => Line_any l (.slice a l.length c) X hX)
  have KW1 := Lib.hid (fun X hX hX2 => Where_any l (.slice a l.length c) hs (.slice la hs.length lc) X hX hX2)
  have hw : whereF l hs = if lineOk l then (if hs.length ≤ 8 then (if hs.all (hearOk l) then
    (if strUp l (spanF l hs) l.length = [] then ([], 4) else (strUp l (spanF l hs) l.length, 0)) else ([], 2)) else ([], 3)) else ([], 1) := rfl
  have hfew := whereF_few l hs
  obtain ⟨⟨S, re⟩, hR⟩ : ∃ r, whereF l hs = r := ⟨_, rfl⟩
  have HR := Lib.hid hR
  rw [hR] at KW1 hw hfew
  unfold WhereR at KW1
  simp only [] at KW1 hfew
  obtain ⟨ok, hok⟩ : ∃ g, lineOk l = g := ⟨_, rfl⟩
  have HOK := Lib.hid hok
  rw [hok] at KL hw
  unfold heV
  simp only []
  obtain ⟨W0, hW0⟩ : ∃ X, X = (w.alloc (.cells #[.slice a l.length c] 22)).alloc (.cells #[.int .i64 x, .int .i64 y, .int .i64 lo, .int .i64 hi] 26) := ⟨_, rfl⟩
  have hal : W0 = al w [(.cells #[.slice a l.length c] 22), (.cells #[.int .i64 x, .int .i64 y, .int .i64 lo, .int .i64 hi] 26)] := hW0
  have hb0 : Below w.heap.size w W0 := by rw [hal]; exact al_below w _ (Nat.le_refl _)
  have hr0 : W0.heap[w.heap.size]? = some (.cells #[.slice a l.length c] 22 (0, 0)) := by rw [hal]; exact al_get w _ 0 _ rfl
  have hr1 : W0.heap[w.heap.size + 1]? = some (.cells #[.int .i64 x, .int .i64 y, .int .i64 lo, .int .i64 hi] 26 (0, 0)) := by rw [hal]; exact al_get w _ 1 _ rfl
  have KG := Lib.hid (great_any l (.slice a l.length c) 2000 W0 (hl.below hb0))
  have hgf := fun h => great_few (l := l) (far := 2000) h
  obtain ⟨gr, hgr⟩ : ∃ g, greatB l 2000 = g := ⟨_, rfl⟩
  rw [hgr] at KG hgf
  obtain ⟨PL, hP0⟩ : ∃ z, w.heap.size = z := ⟨_, rfl⟩
  rw [hP0] at hr0 hr1
  obtain ⟨PM, hP1⟩ : ∃ z, PL + 1 = z := ⟨_, rfl⟩
  rw [hP1] at hr1
  have HL0 := Lib.hid (hl.below hb0)
  have HH0 := Lib.hid (hh.below hb0)
  have HP0 := Lib.hid (And.intro hr0 hr1)
  have HB0 := Lib.hid hb0
  have HWW := Lib.hid hw
  have HF := Lib.hid hfew
  have HGF := Lib.hid hgf
  clear hl hh nl nh hR hok hal hb0 hr0 hr1 hgr hw hfew hgf
  go_enter Try.func8, Try.ntmps8
  go_upto_region 1 with fail
  rw [← hW0]
  try rw [hP0]
  try rw [hP1]
  clear hW0 hP0 hP1
  have y0 := one_cell HP0.out.1
  go_wp2_with (go_at_call 11; fail)
  refine KG.out.mono ?_
  rintro e w2 ⟨rfl, hb2⟩
  have HL2 := Lib.hid (HL0.out.below hb2)
  have HH2 := Lib.hid (HH0.out.below hb2)
  have HP2 := Lib.hid (And.intro (box_step (w0 := w) HP0.out.1 hb2) (box_step (w0 := w) HP0.out.2 hb2))
  have HB2 := Lib.hid (HB0.out.trans (hb2.mono HB0.out.size))
  clear y0 hb2 HL0 HH0 HP0 HB0 KG
  cases gr with
  | true =>
    go_wp2_with (go_at_call 12; fail)
    refine (KA.out _).mono ?_
    rintro e9 w3 ⟨rfl, hbz⟩
    go_wp2
    go_ret
    exact ⟨rfl, HB2.out.trans (hbz.mono HB2.out.size)⟩
  | false =>
    by_cases h8 : (8 : Int) ≤ (hs.length : Int)
    · have g2 : decide (8 ≤ hs.length) = true := decide_eq_true (by omega)
      go_wp2_with (go_at_call 12; fail)
      refine (KA.out _).mono ?_
      rintro e9 w3 ⟨rfl, hbz⟩
      go_wp2
      go_ret
      exact ⟨rfl, HB2.out.trans (hbz.mono HB2.out.size)⟩
    · have g2 : decide (8 ≤ hs.length) = false := decide_eq_false (by omega)
      have H7 := Lib.hid (show hs.length ≤ 7 by omega)
      have HL12 := Lib.hid (HGF.out rfl)
      have y0 := one_cell HP2.out.1
      clear HGF
      go_wp2_with (go_at_call 24; fail)
      refine (KL.out _ HL2.out).mono ?_
      rintro e w3 ⟨rfl, hb3⟩
      have HL3 := Lib.hid (HL2.out.below hb3)
      have HH3 := Lib.hid (HH2.out.below hb3)
      have HP3 := Lib.hid (And.intro (box_step (w0 := w) HP2.out.1 hb3) (box_step (w0 := w) HP2.out.2 hb3))
      have HB3 := Lib.hid (HB2.out.trans (hb3.mono HB2.out.size))
      clear y0 hb3 HL2 HH2 HP2 HB2 KL
      cases ok with
      | false =>
        go_wp2_with (go_at_call 12; fail)
        refine (KA.out _).mono ?_
        rintro e9 w4 ⟨rfl, hbz⟩
        go_wp2
        go_ret
        exact ⟨rfl, HB3.out.trans (hbz.mono HB3.out.size)⟩
      | true =>
        have y0 := one_cell HP3.out.1
        go_wp2_with (go_at_call 18; fail)
        refine (KW1.out _ HL3.out HH3.out).mono ?_
        rintro e w4 ⟨v4, rfl, ho4, hb4⟩
        have ht4 := outT_tab ho4 (by have := HF.out; have := HL12.out; omega)
        obtain ⟨sa, sc, rfl⟩ := ht4.shape
        obtain ⟨W5, hW5⟩ : ∃ X, X = (w4.alloc (.cells #[.slice sa S.length sc] 38)).alloc (.cells #[.int .i64 re] 29) := ⟨_, rfl⟩
        have hal : W5 = al w4 [(.cells #[.slice sa S.length sc] 38), (.cells #[.int .i64 re] 29)] := hW5
        have hb5 : Below w4.heap.size w4 W5 := by rw [hal]; exact al_below w4 _ (Nat.le_refl _)
        have hr0 : W5.heap[w4.heap.size]? = some (.cells #[.slice sa S.length sc] 38 (0, 0)) := by rw [hal]; exact al_get w4 _ 0 _ rfl
        have hr1 : W5.heap[w4.heap.size + 1]? = some (.cells #[.int .i64 re] 29 (0, 0)) := by rw [hal]; exact al_get w4 _ 1 _ rfl
        have hb35 := hb4.trans (hb5.mono hb4.size)
        have HS0 := Lib.hid (And.intro hr0 hr1)
        have HT5 := Lib.hid (ht4.below hb5)
        have HL5 := Lib.hid (HL3.out.below hb35)
        have HH5 := Lib.hid (HH3.out.below hb35)
        have HP5 := Lib.hid (And.intro (box_step (w0 := w) HP3.out.1 hb35) (box_step (w0 := w) HP3.out.2 hb35))
        have HB5 := Lib.hid (HB3.out.trans (hb35.mono HB3.out.size))
        clear y0 ho4 ht4 hb4 hb5 hr0 hr1 hb35 hal HL3 HH3 HP3 HB3 KW1
        go_upto_region 4 with fail
        rw [← hW5]
        obtain ⟨hr0, hr1⟩ := HS0.out
        obtain ⟨PS, hPS⟩ : ∃ z, w4.heap.size = z := ⟨_, rfl⟩
        rw [hPS] at hr0 hr1 ⊢
        obtain ⟨Pe, hPe⟩ : ∃ z, PS + 1 = z := ⟨_, rfl⟩
        rw [hPe] at hr1 ⊢
        have HS5 := Lib.hid (And.intro hr0 hr1)
        have y1 := one_cell hr1
        have y2 := one_cell hr0
        clear hW5 hPS hPe hr0 hr1 HS0
        by_cases he2 : re = 2
        · have hw := HWW.out
          subst he2
          have hS : S = [] := by
            simp only [if_true] at hw
            rw [if_pos (by have := H7.out; omega)] at hw
            split at hw
            · split at hw
              · simp only [Prod.mk.injEq] at hw; omega
              · simp only [Prod.mk.injEq] at hw; omega
            · simp only [Prod.mk.injEq] at hw; exact hw.1
          subst hS
          clear hw HWW
          go_wp2_with (go_at_call 12; fail)
          refine (KA.out _).mono ?_
          rintro e9 w6 ⟨rfl, hbz⟩
          go_wp2
          go_ret
          exact ⟨rfl, HB5.out.trans (hbz.mono HB5.out.size)⟩
        · have hok := HOK.out
          have hw := HWW.out
          have h7 := H7.out
          simp only [if_true] at hw
          rw [if_pos (by omega)] at hw
          have hall : hs.all (hearOk l) = true := by
            cases h : hs.all (hearOk l) with
            | true => rfl
            | false => rw [h] at hw; simp only [Bool.false_eq_true, if_false, Prod.mk.injEq] at hw; omega
          rw [if_pos hall] at hw
          have hre : re = 0 ∨ re = 4 := by
            split at hw
            · simp only [Prod.mk.injEq] at hw; exact .inr hw.2
            · simp only [Prod.mk.injEq] at hw; exact .inl hw.2
          have hSo : StOk l S := by
            split at hw
            · simp only [Prod.mk.injEq] at hw
              rw [hw.1]; intro i hi; exact absurd hi (Nat.not_lt_zero _)
            · simp only [Prod.mk.injEq] at hw
              rw [hw.1]; exact stOk_of (str_rows hok _ _ (Nat.le_refl _))
          have HALL := Lib.hid (List.all_eq_true.1 hall)
          have HRE := Lib.hid hre
          have HSO := Lib.hid hSo
          have KE := Lib.hid (End_any l (.slice a l.length c) W5 HL5.out (fun i hi => by have := pos_small hok hi; omega))
          obtain ⟨E, hEe⟩ : ∃ E, endF l = E := ⟨_, rfl⟩
          have hE := end_in hok
          rw [hEe] at KE hE
          have HEE := Lib.hid hEe
          have HE := Lib.hid hE
          obtain ⟨W6, hW6⟩ : ∃ X, X = W5.alloc (.cells #[.int .i64 E] 3) := ⟨_, rfl⟩
          have hb6 : Below W5.heap.size W5 W6 := by rw [hW6]; exact (Below.refl _ _).alloc (Nat.le_refl _) _
          have hr6 : W6.heap[W5.heap.size]? = some (.cells #[.int .i64 E] 3 (0, 0)) := by rw [hW6]; exact alloc_heap W5 _
          have HR6 := Lib.hid hr6
          have HB6 := Lib.hid hb6
          have z0 := one_cell HP5.out.1
          clear hok hw h7 hall hre hSo hEe hE hb6 hr6 HWW HF
          go_upto_region 8 with (go_at_call 25; (with_reducible refine KE.out.mono ?_); rintro e w7 ⟨rfl, rfl⟩)
          try rw [← hW6]
          have hr6 := HR6.out
          obtain ⟨PE, hPE⟩ : ∃ z, W5.heap.size = z := ⟨_, rfl⟩
          rw [hPE] at hr6
          try rw [hPE]
          have hb6 := HB6.out
          have HMB := Lib.hid (show MB l hs S E re x y lo hi a c la lc sa sc PE PL PM PS Pe w W6 from ⟨HB5.out.trans (hb6.mono HB5.out.size), HL5.out.below hb6, HH5.out.below hb6, HT5.out.below hb6, box_step (w0 := w) HP5.out.1 hb6, box_step (w0 := w) HP5.out.2 hb6, box_step (w0 := w) HS5.out.1 hb6, box_step (w0 := w) HS5.out.2 hb6, hr6⟩)
          clear hW6 hPE hr6 hb6 HR6 HB6 HB5 HL5 HH5 HT5 HP5 HS5 KE y1 y2 z0
          have KNO := Lib.hid (fun m gs v1 v2 hless wr (hb : Below W6.heap.size W6 wr) hm hg => no_any l HOK.out S HSO.out re m gs v1 v2 hless PE PL PS Pe a c (.slice sa S.length sc) wr hm hg (HMB.out.next hb).fl (HMB.out.next hb).fs (by rw [HEE.out]; exact (HMB.out.next hb).pn) (HMB.out.next hb).pl (HMB.out.next hb).ps (HMB.out.next hb).pe)
          have hlw : LessW l S re (whereF l (hs ++ [⟨x, y, lo, hi⟩])).1 (whereF l (hs ++ [⟨x, y, lo, hi⟩])).2 := by
            have h := where_less HOK.out (nar_refl HOK.out) (hs := hs) (gs := hs ++ [⟨x, y, lo, hi⟩]) (by have := H7.out; omega) (by have := H7.out; simp; omega) HALL.out (fun t _ _ ha => more_all _ t ha)
            rw [HR.out] at h
            exact h
          have HLW := Lib.hid hlw
          obtain ⟨i0, hi0, hz0, hz1, hz2⟩ := info_parts Try.info26
          clear hlw
          go_cut [74] (fun p wc => p = .bool false ∧ Below W6.heap.size W6 wc)
          case first =>
            as_aux_lemma =>
              refine wp_region_held_drew (S := fun w' => Below W6.heap.size W6 w') (by kernel_rfl) ((Below.refl _ _).drew) (fun hHeld => ?_)
              obtain ⟨Y0, hY0⟩ : ∃ X, X = W6.drew := ⟨_, rfl⟩
              have hbX : Below W6.heap.size W6 Y0 := by rw [hY0]; exact (Below.refl _ _).drew
              rw [← hY0]
              replace hbX := Lib.hid hbX
              clear hY0 hHeld
              refine wpAnyH_take (i := 0) (oi := _) (v := ?_) rfl (by kernel_rfl) (by kernel_rfl) (by kernel_rfl) (fun _ _ _ h => h) (Or.inl ⟨by rfl, ?_⟩) hbX.out ?_
              rotate_left
              · intro w1 hSw
                have s1 := (HMB.out.next hSw).pl
                have z1 := one_cell s1
                have s2 := (HMB.out.next hSw).pm
                obtain ⟨z2, z3, z4, z5⟩ := four_cells s2
                clear s1 s2 hSw
                go_simp; with_reducible rfl
              simp only [List.getElem_toArray, List.getElem_cons_succ, List.getElem_cons_zero, Act.put, List.setIfInBounds_toArray, List.set_cons_zero, List.set_cons_succ]
              refine wpAnyH_take (i := 1) (oi := _) (v := ?_) rfl (by kernel_rfl) (by kernel_rfl) (by kernel_rfl) (fun _ _ _ h => h) (Or.inl ⟨by rfl, ?_⟩) hbX.out ?_
              rotate_left
              · intro w1 hSw
                have s1 := (HMB.out.next hSw).pl
                have z1 := one_cell s1
                have s2 := (HMB.out.next hSw).pm
                obtain ⟨z2, z3, z4, z5⟩ := four_cells s2
                clear s1 s2 hSw
                go_simp; with_reducible rfl
              simp only [List.getElem_toArray, List.getElem_cons_succ, List.getElem_cons_zero, Act.put, List.setIfInBounds_toArray, List.set_cons_zero, List.set_cons_succ]
              refine wpAnyH_take (i := 3) (oi := _) (v := ?_) rfl (by kernel_rfl) (by kernel_rfl) (by kernel_rfl) (fun _ _ _ h => h) (Or.inl ⟨by rfl, ?_⟩) hbX.out ?_
              rotate_left
              · intro w1 hSw
                have s1 := (HMB.out.next hSw).pl
                have z1 := one_cell s1
                have s2 := (HMB.out.next hSw).pm
                obtain ⟨z2, z3, z4, z5⟩ := four_cells s2
                clear s1 s2 hSw
                go_simp; with_reducible rfl
              simp only [List.getElem_toArray, List.getElem_cons_succ, List.getElem_cons_zero, Act.put, List.setIfInBounds_toArray, List.set_cons_zero, List.set_cons_succ]
              refine wpAnyH_take (i := 5) (oi := _) (v := ?_) rfl (by kernel_rfl) (by kernel_rfl) (by kernel_rfl) (fun _ _ _ h => h) (Or.inl ⟨by rfl, ?_⟩) hbX.out ?_
              rotate_left
              · intro w1 hSw
                have s1 := (HMB.out.next hSw).pl
                have z1 := one_cell s1
                have s2 := (HMB.out.next hSw).pm
                obtain ⟨z2, z3, z4, z5⟩ := four_cells s2
                clear s1 s2 hSw
                go_simp; with_reducible rfl
              simp only [List.getElem_toArray, List.getElem_cons_succ, List.getElem_cons_zero, Act.put, List.setIfInBounds_toArray, List.set_cons_zero, List.set_cons_succ]
              refine wpAnyH_all (rs := [2, 6]) (by kernel_rfl) (by simp) ?_
              intro i hmi
              rcases List.mem_cons.1 hmi with rfl | hmi
              ·
                clear hmi
                refine wpOp_step rfl (fun K3 hK3 => ?_)
                have HK3 := Lib.hid hK3
                clear hK3
                rw [if_pos (by rfl)]
                go_simp
                obtain ⟨g1, eg1⟩ : ∃ g, g = Y0.heap.size := ⟨_, rfl⟩
                obtain ⟨Y1, eY⟩ : ∃ Y, Y = Y0.alloc (.cells #[] 26) := ⟨_, rfl⟩
                have hXY : Below Y0.heap.size Y0 Y1 := by rw [eY]; exact (Below.refl _ _).alloc (Nat.le_refl _) _
                have h1 : Y1.ownsRow W6.heap.size 26 4 (.slice (some ⟨g1, 0, none⟩) 0 0) 0 [] := by rw [eY, eg1]; exact World.ownsRow_lit Y0 #[] 0 hbX.out.size (by decide) rfl
                rw [← eY, ← eg1]
                have hg1 : g1 < Y1.heap.size := (h1.lt g1 rfl).2
                replace hbX := Lib.hid (hbX.out.trans (hXY.mono hbX.out.size))
                clear eY eg1 hXY
                refine HK3.out _ _ ⟨hbX.out, ?_⟩
                clear HK3 K3
                try simp only [List.getElem_toArray, List.getElem_cons_succ, List.getElem_cons_zero, Act.put, List.setIfInBounds_toArray, List.set_cons_zero, List.set_cons_succ]
                refine wpAnyH_all (rs := [4, 6]) (by kernel_rfl) (by simp) ?_
                intro i hmi
                rcases List.mem_cons.1 hmi with rfl | hmi
                ·
                  clear hmi
                  refine wpOp_step rfl (fun K3 hK3 => ?_)
                  have HK3 := Lib.hid hK3
                  clear hK3
                  rw [if_pos (by rfl)]
                  simp only [List.getElem_toArray, List.getElem_cons_succ, List.getElem_cons_zero]
                  refine wp_copyT (.tmp 67) (.tmp 68) 37 26 4 32 (.agg #[.int .i64 0, .int .i64 0, .int .i64 0, .int .i64 0]) heC Try.underlying37 Try.info26 rfl (by decide) (by decide) (by rfl) W6.heap.size g1 (by rfl) h1 (by rfl) (HMB.out.next hbX.out).fh NH.out (by have := H7.out; omega) hbX.out.size ?_
                  intro v1 Y2 ho1 hXY
                  replace hbX := Lib.hid (hbX.out.grown hXY hbX.out.size (fun q hq => by cases hq; exact (h1.lt g1 rfl).1))
                  clear hXY h1
                  refine HK3.out _ _ ⟨hbX.out, ?_⟩
                  clear HK3 K3
                  try simp only [List.getElem_toArray, List.getElem_cons_succ, List.getElem_cons_zero, Act.put, List.setIfInBounds_toArray, List.set_cons_zero, List.set_cons_succ]
                  refine wpAnyH_all (rs := [6]) (by kernel_rfl) (by simp) ?_
                  intro i hmi; obtain rfl := List.mem_singleton.1 hmi; clear hmi
                  refine wpOp_step rfl (fun K3 hK3 => ?_)
                  have HK3 := Lib.hid hK3
                  clear hK3
                  rw [if_pos (by rfl)]
                  go_simp
                  obtain ⟨q6, eq6⟩ : ∃ g, g = Y2.heap.size := ⟨_, rfl⟩
                  obtain ⟨Y3, eY⟩ : ∃ Y, Y = Y2.alloc (.cells #[.int .i64 x, .int .i64 y, .int .i64 lo, .int .i64 hi] 26) := ⟨_, rfl⟩
                  have hXY : Below Y2.heap.size Y2 Y3 := by rw [eY]; exact (Below.refl _ _).alloc (Nat.le_refl _) _
                  have hq6 : Y3.heap[q6]? = some (.cells #[.int .i64 x, .int .i64 y, .int .i64 lo, .int .i64 hi] 26 (0, 0)) := by rw [eY, eq6]; exact alloc_heap Y2 _
                  rw [← eY, ← eq6]
                  replace ho1 := row_below ho1 hXY
                  replace hbX := Lib.hid (hbX.out.trans (hXY.mono hbX.out.size))
                  clear eY eq6 hXY
                  refine HK3.out _ _ ⟨hbX.out, ?_⟩
                  clear HK3 K3
                  try simp only [List.getElem_toArray, List.getElem_cons_succ, List.getElem_cons_zero, Act.put, List.setIfInBounds_toArray, List.set_cons_zero, List.set_cons_succ]
                  refine wpAnyH_all (rs := [7]) (by kernel_rfl) (by simp) ?_
                  intro i hmi; obtain rfl := List.mem_singleton.1 hmi; clear hmi
                  refine wpOp_step rfl (fun K3 hK3 => ?_)
                  have HK3 := Lib.hid hK3
                  clear hK3
                  rw [if_pos (by rfl)]
                  simp only [List.getElem_toArray, List.getElem_cons_succ, List.getElem_cons_zero]
                  refine wp_append_own (P := Try.prog) Y3 (.tmp 69) (.tmp 71) 37 (by rfl) W6.heap.size 26 i0 (.agg #[.int .i64 0, .int .i64 0, .int .i64 0, .int .i64 0]) 4 32 Try.underlying37 hi0 hz0 hz1 hz2 rfl (by decide) v1 hs.length _ (by rfl) ho1 ⟨q6, 0, none⟩ 1 1 [.int .i64 x, .int .i64 y, .int .i64 lo, .int .i64 hi] (by rfl) rfl (cell_four_at hq6) (ints_oneCell .i64 [x, y, lo, hi]) (by have := H7.out; unfold maxLen; omega) (by have := H7.out; omega) hbX.out.size ?_
                  intro v3 YA1 ho3 hg3 _
                  have hm3 : YA1.ownsRow W6.heap.size 26 4 v3 (hs.length + 1) (flatK 4 heC (hs ++ [⟨x, y, lo, hi⟩])) := by rw [flat_snoc]; exact ho3
                  replace hbX := Lib.hid (hbX.out.grown hg3 hbX.out.size (fun q hq => (ho1.lt q hq).1))
                  have hm4 := tab_of_own hm3 (by simp) (by have := H7.out; simp; unfold maxLen; omega)
                  clear ho3 hg3 hm3 ho1 hq6
                  refine HK3.out _ _ ⟨hbX.out, ?_⟩
                  clear HK3 K3
                  try simp only [List.getElem_toArray, List.getElem_cons_succ, List.getElem_cons_zero, Act.put, List.setIfInBounds_toArray, List.set_cons_zero, List.set_cons_succ]
                  refine wpAnyH_all (rs := [8]) (by kernel_rfl) (by simp) ?_
                  intro i hmi; obtain rfl := List.mem_singleton.1 hmi; clear hmi
                  refine wpOp_step rfl (fun K3 hK3 => ?_)
                  have HK3 := Lib.hid hK3
                  clear hK3
                  rw [if_pos (by rfl)]
                  go_simp
                  refine (KNO.out l (hs ++ [⟨x, y, lo, hi⟩]) _ v3 HLW.out YA1 hbX.out (HMB.out.next hbX.out).fl hm4).mono ?_
                  rintro e YB1 ⟨rfl, hbn⟩
                  replace hbX := Lib.hid (hbX.out.trans (hbn.mono hbX.out.size))
                  clear hbn hm4
                  refine HK3.out _ _ ⟨hbX.out, ?_⟩
                  clear HK3 K3
                  try simp only [List.getElem_toArray, List.getElem_cons_succ, List.getElem_cons_zero, Act.put, List.setIfInBounds_toArray, List.set_cons_zero, List.set_cons_succ]
                  refine wpAnyH_take (i := 9) (oi := _) (v := ?_) rfl (by kernel_rfl) (by kernel_rfl) (by kernel_rfl) (fun _ _ _ h => h) (Or.inl ⟨by rfl, ?_⟩) hbX.out ?_
                  rotate_left
                  · intro w1 hSw
                    have s1 := (HMB.out.next hSw).pl
                    have z1 := one_cell s1
                    have s2 := (HMB.out.next hSw).pm
                    obtain ⟨z2, z3, z4, z5⟩ := four_cells s2
                    clear s1 s2 hSw
                    go_simp; with_reducible rfl
                  simp only [List.getElem_toArray, List.getElem_cons_succ, List.getElem_cons_zero, Act.put, List.setIfInBounds_toArray, List.set_cons_zero, List.set_cons_succ]
                  refine wpAnyH_done (by kernel_rfl) ?_ _
                  go_wp2
                  go_meet
                  case rel => exact ⟨rfl, hbX.out⟩
                ·
                  obtain rfl := List.mem_singleton.1 hmi; clear hmi
                  refine wpOp_step rfl (fun K3 hK3 => ?_)
                  have HK3 := Lib.hid hK3
                  clear hK3
                  rw [if_pos (by rfl)]
                  go_simp
                  obtain ⟨q6, eq6⟩ : ∃ g, g = Y1.heap.size := ⟨_, rfl⟩
                  obtain ⟨Y2, eY⟩ : ∃ Y, Y = Y1.alloc (.cells #[.int .i64 x, .int .i64 y, .int .i64 lo, .int .i64 hi] 26) := ⟨_, rfl⟩
                  have hXY : Below Y1.heap.size Y1 Y2 := by rw [eY]; exact (Below.refl _ _).alloc (Nat.le_refl _) _
                  have hq6 : Y2.heap[q6]? = some (.cells #[.int .i64 x, .int .i64 y, .int .i64 lo, .int .i64 hi] 26 (0, 0)) := by rw [eY, eq6]; exact alloc_heap Y1 _
                  rw [← eY, ← eq6]
                  have hgq : g1 ≠ q6 := by have := (h1.lt g1 rfl).2; omega
                  replace h1 := row_below h1 hXY
                  replace hbX := Lib.hid (hbX.out.trans (hXY.mono hbX.out.size))
                  clear eY eq6 hXY
                  refine HK3.out _ _ ⟨hbX.out, ?_⟩
                  clear HK3 K3
                  try simp only [List.getElem_toArray, List.getElem_cons_succ, List.getElem_cons_zero, Act.put, List.setIfInBounds_toArray, List.set_cons_zero, List.set_cons_succ]
                  refine wpAnyH_all (rs := [4]) (by kernel_rfl) (by simp) ?_
                  intro i hmi; obtain rfl := List.mem_singleton.1 hmi; clear hmi
                  refine wpOp_step rfl (fun K3 hK3 => ?_)
                  have HK3 := Lib.hid hK3
                  clear hK3
                  rw [if_pos (by rfl)]
                  simp only [List.getElem_toArray, List.getElem_cons_succ, List.getElem_cons_zero]
                  refine wp_copyT (.tmp 67) (.tmp 68) 37 26 4 32 (.agg #[.int .i64 0, .int .i64 0, .int .i64 0, .int .i64 0]) heC Try.underlying37 Try.info26 rfl (by decide) (by decide) (by rfl) W6.heap.size g1 (by rfl) h1 (by rfl) (HMB.out.next hbX.out).fh NH.out (by have := H7.out; omega) hbX.out.size ?_
                  intro v1 Y3 ho1 hXY
                  replace hq6 := (hXY.block q6 (Array.getElem?_eq_some_iff.1 hq6).1 (fun e => hgq (Option.some.inj e).symm)).trans hq6
                  replace hbX := Lib.hid (hbX.out.grown hXY hbX.out.size (fun q hq => by cases hq; exact (h1.lt g1 rfl).1))
                  clear hXY h1
                  refine HK3.out _ _ ⟨hbX.out, ?_⟩
                  clear HK3 K3
                  try simp only [List.getElem_toArray, List.getElem_cons_succ, List.getElem_cons_zero, Act.put, List.setIfInBounds_toArray, List.set_cons_zero, List.set_cons_succ]
                  refine wpAnyH_all (rs := [7]) (by kernel_rfl) (by simp) ?_
                  intro i hmi; obtain rfl := List.mem_singleton.1 hmi; clear hmi
                  refine wpOp_step rfl (fun K3 hK3 => ?_)
                  have HK3 := Lib.hid hK3
                  clear hK3
                  rw [if_pos (by rfl)]
                  simp only [List.getElem_toArray, List.getElem_cons_succ, List.getElem_cons_zero]
                  refine wp_append_own (P := Try.prog) Y3 (.tmp 69) (.tmp 71) 37 (by rfl) W6.heap.size 26 i0 (.agg #[.int .i64 0, .int .i64 0, .int .i64 0, .int .i64 0]) 4 32 Try.underlying37 hi0 hz0 hz1 hz2 rfl (by decide) v1 hs.length _ (by rfl) ho1 ⟨q6, 0, none⟩ 1 1 [.int .i64 x, .int .i64 y, .int .i64 lo, .int .i64 hi] (by rfl) rfl (cell_four_at hq6) (ints_oneCell .i64 [x, y, lo, hi]) (by have := H7.out; unfold maxLen; omega) (by have := H7.out; omega) hbX.out.size ?_
                  intro v3 YA2 ho3 hg3 _
                  have hm3 : YA2.ownsRow W6.heap.size 26 4 v3 (hs.length + 1) (flatK 4 heC (hs ++ [⟨x, y, lo, hi⟩])) := by rw [flat_snoc]; exact ho3
                  replace hbX := Lib.hid (hbX.out.grown hg3 hbX.out.size (fun q hq => (ho1.lt q hq).1))
                  have hm4 := tab_of_own hm3 (by simp) (by have := H7.out; simp; unfold maxLen; omega)
                  clear ho3 hg3 hm3 ho1 hq6
                  refine HK3.out _ _ ⟨hbX.out, ?_⟩
                  clear HK3 K3
                  try simp only [List.getElem_toArray, List.getElem_cons_succ, List.getElem_cons_zero, Act.put, List.setIfInBounds_toArray, List.set_cons_zero, List.set_cons_succ]
                  refine wpAnyH_all (rs := [8]) (by kernel_rfl) (by simp) ?_
                  intro i hmi; obtain rfl := List.mem_singleton.1 hmi; clear hmi
                  refine wpOp_step rfl (fun K3 hK3 => ?_)
                  have HK3 := Lib.hid hK3
                  clear hK3
                  rw [if_pos (by rfl)]
                  go_simp
                  refine (KNO.out l (hs ++ [⟨x, y, lo, hi⟩]) _ v3 HLW.out YA2 hbX.out (HMB.out.next hbX.out).fl hm4).mono ?_
                  rintro e YB2 ⟨rfl, hbn⟩
                  replace hbX := Lib.hid (hbX.out.trans (hbn.mono hbX.out.size))
                  clear hbn hm4
                  refine HK3.out _ _ ⟨hbX.out, ?_⟩
                  clear HK3 K3
                  try simp only [List.getElem_toArray, List.getElem_cons_succ, List.getElem_cons_zero, Act.put, List.setIfInBounds_toArray, List.set_cons_zero, List.set_cons_succ]
                  refine wpAnyH_take (i := 9) (oi := _) (v := ?_) rfl (by kernel_rfl) (by kernel_rfl) (by kernel_rfl) (fun _ _ _ h => h) (Or.inl ⟨by rfl, ?_⟩) hbX.out ?_
                  rotate_left
                  · intro w1 hSw
                    have s1 := (HMB.out.next hSw).pl
                    have z1 := one_cell s1
                    have s2 := (HMB.out.next hSw).pm
                    obtain ⟨z2, z3, z4, z5⟩ := four_cells s2
                    clear s1 s2 hSw
                    go_simp; with_reducible rfl
                  simp only [List.getElem_toArray, List.getElem_cons_succ, List.getElem_cons_zero, Act.put, List.setIfInBounds_toArray, List.set_cons_zero, List.set_cons_succ]
                  refine wpAnyH_done (by kernel_rfl) ?_ _
                  go_wp2
                  go_meet
                  case rel => exact ⟨rfl, hbX.out⟩
              ·
                obtain rfl := List.mem_singleton.1 hmi; clear hmi
                refine wpOp_step rfl (fun K3 hK3 => ?_)
                have HK3 := Lib.hid hK3
                clear hK3
                rw [if_pos (by rfl)]
                go_simp
                obtain ⟨q6, eq6⟩ : ∃ g, g = Y0.heap.size := ⟨_, rfl⟩
                obtain ⟨Y1, eY⟩ : ∃ Y, Y = Y0.alloc (.cells #[.int .i64 x, .int .i64 y, .int .i64 lo, .int .i64 hi] 26) := ⟨_, rfl⟩
                have hXY : Below Y0.heap.size Y0 Y1 := by rw [eY]; exact (Below.refl _ _).alloc (Nat.le_refl _) _
                have hq6 : Y1.heap[q6]? = some (.cells #[.int .i64 x, .int .i64 y, .int .i64 lo, .int .i64 hi] 26 (0, 0)) := by rw [eY, eq6]; exact alloc_heap Y0 _
                rw [← eY, ← eq6]
                replace hbX := Lib.hid (hbX.out.trans (hXY.mono hbX.out.size))
                clear eY eq6 hXY
                refine HK3.out _ _ ⟨hbX.out, ?_⟩
                clear HK3 K3
                try simp only [List.getElem_toArray, List.getElem_cons_succ, List.getElem_cons_zero, Act.put, List.setIfInBounds_toArray, List.set_cons_zero, List.set_cons_succ]
                refine wpAnyH_all (rs := [2]) (by kernel_rfl) (by simp) ?_
                intro i hmi; obtain rfl := List.mem_singleton.1 hmi; clear hmi
                refine wpOp_step rfl (fun K3 hK3 => ?_)
                have HK3 := Lib.hid hK3
                clear hK3
                rw [if_pos (by rfl)]
                go_simp
                obtain ⟨g1, eg1⟩ : ∃ g, g = Y1.heap.size := ⟨_, rfl⟩
                obtain ⟨Y2, eY⟩ : ∃ Y, Y = Y1.alloc (.cells #[] 26) := ⟨_, rfl⟩
                have hXY : Below Y1.heap.size Y1 Y2 := by rw [eY]; exact (Below.refl _ _).alloc (Nat.le_refl _) _
                have h1 : Y2.ownsRow W6.heap.size 26 4 (.slice (some ⟨g1, 0, none⟩) 0 0) 0 [] := by rw [eY, eg1]; exact World.ownsRow_lit Y1 #[] 0 hbX.out.size (by decide) rfl
                rw [← eY, ← eg1]
                have hgq : g1 ≠ q6 := by rw [eg1]; exact fun e => by have := (Array.getElem?_eq_some_iff.1 hq6).1; omega
                replace hq6 := box_step (w0 := w) hq6 hXY
                replace hbX := Lib.hid (hbX.out.trans (hXY.mono hbX.out.size))
                clear eY eg1 hXY
                refine HK3.out _ _ ⟨hbX.out, ?_⟩
                clear HK3 K3
                try simp only [List.getElem_toArray, List.getElem_cons_succ, List.getElem_cons_zero, Act.put, List.setIfInBounds_toArray, List.set_cons_zero, List.set_cons_succ]
                refine wpAnyH_all (rs := [4]) (by kernel_rfl) (by simp) ?_
                intro i hmi; obtain rfl := List.mem_singleton.1 hmi; clear hmi
                refine wpOp_step rfl (fun K3 hK3 => ?_)
                have HK3 := Lib.hid hK3
                clear hK3
                rw [if_pos (by rfl)]
                simp only [List.getElem_toArray, List.getElem_cons_succ, List.getElem_cons_zero]
                refine wp_copyT (.tmp 67) (.tmp 68) 37 26 4 32 (.agg #[.int .i64 0, .int .i64 0, .int .i64 0, .int .i64 0]) heC Try.underlying37 Try.info26 rfl (by decide) (by decide) (by rfl) W6.heap.size g1 (by rfl) h1 (by rfl) (HMB.out.next hbX.out).fh NH.out (by have := H7.out; omega) hbX.out.size ?_
                intro v1 Y3 ho1 hXY
                replace hq6 := (hXY.block q6 (Array.getElem?_eq_some_iff.1 hq6).1 (fun e => hgq (Option.some.inj e).symm)).trans hq6
                replace hbX := Lib.hid (hbX.out.grown hXY hbX.out.size (fun q hq => by cases hq; exact (h1.lt g1 rfl).1))
                clear hXY h1
                refine HK3.out _ _ ⟨hbX.out, ?_⟩
                clear HK3 K3
                try simp only [List.getElem_toArray, List.getElem_cons_succ, List.getElem_cons_zero, Act.put, List.setIfInBounds_toArray, List.set_cons_zero, List.set_cons_succ]
                refine wpAnyH_all (rs := [7]) (by kernel_rfl) (by simp) ?_
                intro i hmi; obtain rfl := List.mem_singleton.1 hmi; clear hmi
                refine wpOp_step rfl (fun K3 hK3 => ?_)
                have HK3 := Lib.hid hK3
                clear hK3
                rw [if_pos (by rfl)]
                simp only [List.getElem_toArray, List.getElem_cons_succ, List.getElem_cons_zero]
                refine wp_append_own (P := Try.prog) Y3 (.tmp 69) (.tmp 71) 37 (by rfl) W6.heap.size 26 i0 (.agg #[.int .i64 0, .int .i64 0, .int .i64 0, .int .i64 0]) 4 32 Try.underlying37 hi0 hz0 hz1 hz2 rfl (by decide) v1 hs.length _ (by rfl) ho1 ⟨q6, 0, none⟩ 1 1 [.int .i64 x, .int .i64 y, .int .i64 lo, .int .i64 hi] (by rfl) rfl (cell_four_at hq6) (ints_oneCell .i64 [x, y, lo, hi]) (by have := H7.out; unfold maxLen; omega) (by have := H7.out; omega) hbX.out.size ?_
                intro v3 YA3 ho3 hg3 _
                have hm3 : YA3.ownsRow W6.heap.size 26 4 v3 (hs.length + 1) (flatK 4 heC (hs ++ [⟨x, y, lo, hi⟩])) := by rw [flat_snoc]; exact ho3
                replace hbX := Lib.hid (hbX.out.grown hg3 hbX.out.size (fun q hq => (ho1.lt q hq).1))
                have hm4 := tab_of_own hm3 (by simp) (by have := H7.out; simp; unfold maxLen; omega)
                clear ho3 hg3 hm3 ho1 hq6
                refine HK3.out _ _ ⟨hbX.out, ?_⟩
                clear HK3 K3
                try simp only [List.getElem_toArray, List.getElem_cons_succ, List.getElem_cons_zero, Act.put, List.setIfInBounds_toArray, List.set_cons_zero, List.set_cons_succ]
                refine wpAnyH_all (rs := [8]) (by kernel_rfl) (by simp) ?_
                intro i hmi; obtain rfl := List.mem_singleton.1 hmi; clear hmi
                refine wpOp_step rfl (fun K3 hK3 => ?_)
                have HK3 := Lib.hid hK3
                clear hK3
                rw [if_pos (by rfl)]
                go_simp
                refine (KNO.out l (hs ++ [⟨x, y, lo, hi⟩]) _ v3 HLW.out YA3 hbX.out (HMB.out.next hbX.out).fl hm4).mono ?_
                rintro e YB3 ⟨rfl, hbn⟩
                replace hbX := Lib.hid (hbX.out.trans (hbn.mono hbX.out.size))
                clear hbn hm4
                refine HK3.out _ _ ⟨hbX.out, ?_⟩
                clear HK3 K3
                try simp only [List.getElem_toArray, List.getElem_cons_succ, List.getElem_cons_zero, Act.put, List.setIfInBounds_toArray, List.set_cons_zero, List.set_cons_succ]
                refine wpAnyH_take (i := 9) (oi := _) (v := ?_) rfl (by kernel_rfl) (by kernel_rfl) (by kernel_rfl) (fun _ _ _ h => h) (Or.inl ⟨by rfl, ?_⟩) hbX.out ?_
                rotate_left
                · intro w1 hSw
                  have s1 := (HMB.out.next hSw).pl
                  have z1 := one_cell s1
                  have s2 := (HMB.out.next hSw).pm
                  obtain ⟨z2, z3, z4, z5⟩ := four_cells s2
                  clear s1 s2 hSw
                  go_simp; with_reducible rfl
                simp only [List.getElem_toArray, List.getElem_cons_succ, List.getElem_cons_zero, Act.put, List.setIfInBounds_toArray, List.set_cons_zero, List.set_cons_succ]
                refine wpAnyH_done (by kernel_rfl) ?_ _
                go_wp2
                go_meet
                case rel => exact ⟨rfl, hbX.out⟩
          case rest =>
            obtain ⟨rfl, hbc⟩ := hcut
            obtain ⟨g7, hg7⟩ : ∃ z, wc.heap.size = z := ⟨_, rfl⟩
            obtain ⟨W7, hW7⟩ : ∃ X, wc.alloc (.cells #[] 59) = X := ⟨_, rfl⟩
            have hb7 : Below wc.heap.size wc W7 := by rw [← hW7]; exact (Below.refl _ _).alloc (Nat.le_refl _) _
            have hbb7 := hbc.trans (hb7.mono hbc.size)
            have h1 : W7.ownsRow W6.heap.size 59 3 (.slice (some ⟨g7, 0, none⟩) 0 0) 0 [] := by rw [← hW7, ← hg7]; exact World.ownsRow_lit wc #[] 0 hbc.size (by decide) rfl
            obtain ⟨p7, W8, hrun1, ho1, hgr1⟩ := run_copyT 22 22 59 3 24 _ piC Try.underlying22 Try.info59 rfl (by decide) (by decide) W6.heap.size g7 h1 (HMB.out.next hbb7).fl NL.out (by have := HL12.out; omega) hbb7.size
            have hbb8 := hbb7.grown hgr1 hbb7.size (fun q hq => by cases hq; exact (h1.lt g7 rfl).1)
            have t7 := tab_of_own ho1 rfl (by have := HL12.out; unfold maxLen; omega)
            obtain ⟨x7, k7, rfl⟩ := t7.shape
            have hlen := line_few HOK.out
            obtain ⟨gn, rfl⟩ := own_pos ho1 (by omega)
            obtain ⟨cur7, hcur7, _⟩ := own_room ho1 rfl
            obtain ⟨kk, hkk⟩ : ∃ k, tn % l.length = k := ⟨_, rfl⟩
            have hkl : kk < l.length := by rw [← hkk]; exact Nat.mod_lt _ (by omega)
            have htm : Int.tmod (tn : Int) (l.length : Int) = (kk : Int) := by rw [Int.tmod_eq_emod_of_nonneg (by omega), ← hkk]; rfl
            have y0 := one_cell (HMB.out.next hbc).pl
            have y1 := one_cell (HMB.out.next hbb7).pl
            have y2 := one_cell (HMB.out.next hbb8).pl
            have v1 : IntKind.i64.wrap (tn : Int) = (tn : Int) := IntWalk.i64_in _ (by omega)
            have v2 : IntKind.i64.wrap (by' : Int) = (by' : Int) := IntWalk.i64_in _ (by omega)
            have v3 : IntKind.i64.wrap (kk : Int) = (kk : Int) := IntWalk.i64_in _ (by omega)
            have v9 : ¬ (l.length : Int) = 0 := by omega
            have v9b : ¬ l = [] := fun e => by rw [e] at hlen; simp at hlen
            have HB8 := Lib.hid hbb8
            have HT7 := Lib.hid t7
            have HO7 := Lib.hid (And.intro ho1 hcur7)
            have HKL := Lib.hid hkl
            clear hb7 hbb7 h1 ho1 hgr1 hbb8 t7 hcur7 hkk hkl hlen hbc
            go_upto_region 12 with (at_builtin; refine wpList_append_run rfl _ _ 22 rfl rfl rfl hrun1 ?_)
            clear hrun1 hW7 hg7 y0 y1 y2
            obtain ⟨_, _, e7, hb7g, hx7⟩ := HT7.out.at (by have := line_few HOK.out; omega)
            cases e7
            have x1 := hx7 kk HKL.out 1 (by omega)
            have x2 := hx7 kk HKL.out 2 (by omega)
            have hpi := pipe_in HOK.out HKL.out
            obtain ⟨⟨q0, q1, q2⟩, hrow⟩ : ∃ z : Pi, l.getD kk default = z := ⟨_, rfl⟩
            rw [hrow] at x1 x2 hpi
            simp only [Nat.zero_add, piC] at x1 x2 hpi
            have HROW := Lib.hid hrow
            have HPI := Lib.hid hpi
            have v4 : IntKind.i64.wrap (q2 - (by' : Int)) = q2 - (by' : Int) := IntWalk.i64_in _ (by omega)
            have ij0 : (0 : Int) ≤ (kk : Int) := by omega
            have ij1 : (kk : Int) < (l.length : Int) := Int.ofNat_lt.2 HKL.out
            obtain ⟨W9, hW9⟩ : ∃ X, X = W8.drew := ⟨_, rfl⟩
            have hb9 : Below W8.heap.size W8 W9 := by rw [hW9]; exact (Below.refl _ _).drew
            have hT9 : W9.cell? ⟨gn, kk * 3 + 1, none⟩ = some (.int .i64 q1) ∧ W9.cell? ⟨gn, kk * 3 + 2, none⟩ = some (.int .i64 q2) := ⟨cell_step x1 hb9, cell_step x2 hb9⟩
            have HT9 := Lib.hid hT9
            have HN9 := Lib.hid (And.intro (HT7.out.below hb9) (box_step (w0 := w) HO7.out.2 hb9))
            have HG9 := Lib.hid (HO7.out.1.lt gn rfl).1
            have HB9 := Lib.hid (HB8.out.trans (hb9.mono HB8.out.size))
            obtain ⟨zz, hzz⟩ : ∃ z, max q1 (q2 - (by' : Int)) = z := ⟨_, rfl⟩
            have HZ := Lib.hid hzz
            clear hb7g hx7 x1 x2 hrow hpi hb9 hT9 HT7 HO7 HB8
            refine wp_region_last (fun w' => w'.cell? ⟨gn, kk * 3 + 1, none⟩ = some (.int .i64 q1) ∧ w'.cell? ⟨gn, kk * 3 + 2, none⟩ = some (.int .i64 q2)) 21 (by kernel_rfl) (by rw [← hW9]; exact HT9.out) (fun hHeld => ?_)
            rw [← hW9]
            clear hW9 hHeld
            refine wpLast_take (i := 0) (oi := _) (v := ?_) rfl (by kernel_rfl) (by kernel_rfl) (by decide) (by kernel_rfl) (by kernel_rfl) (fun _ _ _ h => h) (Or.inl ⟨by rfl, ?_⟩) HT9.out ?_
            rotate_left
            · intro w1 hSw
              obtain ⟨z1, z2⟩ := hSw
              go_simp; with_reducible rfl
            simp only [List.getElem_toArray, List.getElem_cons_succ, List.getElem_cons_zero, Act.put, List.setIfInBounds_toArray, List.set_cons_zero, List.set_cons_succ]
            refine wpLast_take (i := 1) (oi := _) (v := ?_) rfl (by kernel_rfl) (by kernel_rfl) (by decide) (by kernel_rfl) (by kernel_rfl) (fun _ _ _ h => h) (Or.inl ⟨by rfl, ?_⟩) HT9.out ?_
            rotate_left
            · intro w1 hSw
              obtain ⟨z1, z2⟩ := hSw
              go_simp; with_reducible rfl
            simp only [List.getElem_toArray, List.getElem_cons_succ, List.getElem_cons_zero, Act.put, List.setIfInBounds_toArray, List.set_cons_zero, List.set_cons_succ]
            refine wpLast_take (i := 2) (oi := _) (v := ?_) rfl (by kernel_rfl) (by kernel_rfl) (by decide) (by kernel_rfl) (by kernel_rfl) (fun _ _ _ h => h) (Or.inl ⟨by rfl, ?_⟩) HT9.out ?_
            rotate_left
            · intro w1 hSw
              obtain ⟨z1, z2⟩ := hSw
              go_simp; with_reducible rfl
            simp only [List.getElem_toArray, List.getElem_cons_succ, List.getElem_cons_zero, Act.put, List.setIfInBounds_toArray, List.set_cons_zero, List.set_cons_succ]
            refine wpLast_take (i := 3) (oi := _) (v := ?_) rfl (by kernel_rfl) (by kernel_rfl) (by decide) (by kernel_rfl) (by kernel_rfl) (fun _ _ _ h => h) (Or.inl ⟨by rfl, ?_⟩) HT9.out ?_
            rotate_left
            · intro w1 hSw
              obtain ⟨z1, z2⟩ := hSw
              go_simp; with_reducible rfl
            simp only [List.getElem_toArray, List.getElem_cons_succ, List.getElem_cons_zero, Act.put, List.setIfInBounds_toArray, List.set_cons_zero, List.set_cons_succ]
            refine wpLast_take (i := 4) (oi := _) (v := ?_) rfl (by kernel_rfl) (by kernel_rfl) (by decide) (by kernel_rfl) (by kernel_rfl) (fun _ _ _ h => h) (Or.inl ⟨by rfl, ?_⟩) HT9.out ?_
            rotate_left
            · intro w1 hSw
              obtain ⟨z1, z2⟩ := hSw
              go_simp; with_reducible rfl
            simp only [List.getElem_toArray, List.getElem_cons_succ, List.getElem_cons_zero, Act.put, List.setIfInBounds_toArray, List.set_cons_zero, List.set_cons_succ]
            refine wpLast_take (i := 5) (oi := _) (v := ?_) rfl (by kernel_rfl) (by kernel_rfl) (by decide) (by kernel_rfl) (by kernel_rfl) (fun _ _ _ h => h) (Or.inl ⟨by rfl, ?_⟩) HT9.out ?_
            rotate_left
            · intro w1 hSw
              obtain ⟨z1, z2⟩ := hSw
              go_simp; with_reducible rfl
            simp only [List.getElem_toArray, List.getElem_cons_succ, List.getElem_cons_zero, Act.put, List.setIfInBounds_toArray, List.set_cons_zero, List.set_cons_succ]
            refine wpLast_take (i := 6) (oi := _) (v := ?_) rfl (by kernel_rfl) (by kernel_rfl) (by decide) (by kernel_rfl) (by kernel_rfl) (fun _ _ _ h => h) (Or.inl ⟨by rfl, ?_⟩) HT9.out ?_
            rotate_left
            · intro w1 hSw
              obtain ⟨z1, z2⟩ := hSw
              go_simp; with_reducible rfl
            simp only [List.getElem_toArray, List.getElem_cons_succ, List.getElem_cons_zero, Act.put, List.setIfInBounds_toArray, List.set_cons_zero, List.set_cons_succ]
            refine wpLast_take (i := 7) (oi := _) (v := ?_) rfl (by kernel_rfl) (by kernel_rfl) (by decide) (by kernel_rfl) (by kernel_rfl) (fun _ _ _ h => h) (Or.inl ⟨by rfl, ?_⟩) HT9.out ?_
            rotate_left
            · intro w1 hSw
              obtain ⟨z1, z2⟩ := hSw
              go_simp; with_reducible rfl
            simp only [List.getElem_toArray, List.getElem_cons_succ, List.getElem_cons_zero, Act.put, List.setIfInBounds_toArray, List.set_cons_zero, List.set_cons_succ]
            refine wpLast_take (i := 8) (oi := _) (v := ?_) rfl (by kernel_rfl) (by kernel_rfl) (by decide) (by kernel_rfl) (by kernel_rfl) (fun _ _ _ h => h) (Or.inl ⟨by rfl, ?_⟩) HT9.out ?_
            rotate_left
            · intro w1 hSw
              obtain ⟨z1, z2⟩ := hSw
              go_simp; with_reducible rfl
            simp only [List.getElem_toArray, List.getElem_cons_succ, List.getElem_cons_zero, Act.put, List.setIfInBounds_toArray, List.set_cons_zero, List.set_cons_succ]
            refine wpLast_take (i := 9) (oi := _) (v := ?_) rfl (by kernel_rfl) (by kernel_rfl) (by decide) (by kernel_rfl) (by kernel_rfl) (fun _ _ _ h => h) (Or.inl ⟨by rfl, ?_⟩) HT9.out ?_
            rotate_left
            · intro w1 hSw
              obtain ⟨z1, z2⟩ := hSw
              go_simp; with_reducible rfl
            simp only [List.getElem_toArray, List.getElem_cons_succ, List.getElem_cons_zero, Act.put, List.setIfInBounds_toArray, List.set_cons_zero, List.set_cons_succ]
            refine wpLast_take (i := 10) (oi := _) (v := ?_) rfl (by kernel_rfl) (by kernel_rfl) (by decide) (by kernel_rfl) (by kernel_rfl) (fun _ _ _ h => h) (Or.inl ⟨by rfl, ?_⟩) HT9.out ?_
            rotate_left
            · intro w1 hSw
              obtain ⟨z1, z2⟩ := hSw
              go_simp; with_reducible rfl
            simp only [List.getElem_toArray, List.getElem_cons_succ, List.getElem_cons_zero, Act.put, List.setIfInBounds_toArray, List.set_cons_zero, List.set_cons_succ]
            refine wpLast_take (i := 11) (oi := _) (v := ?_) rfl (by kernel_rfl) (by kernel_rfl) (by decide) (by kernel_rfl) (by kernel_rfl) (fun _ _ _ h => h) (Or.inl ⟨by rfl, ?_⟩) HT9.out ?_
            rotate_left
            · intro w1 hSw
              obtain ⟨z1, z2⟩ := hSw
              go_simp; with_reducible rfl
            simp only [List.getElem_toArray, List.getElem_cons_succ, List.getElem_cons_zero, Act.put, List.setIfInBounds_toArray, List.set_cons_zero, List.set_cons_succ]
            refine wpLast_take (i := 12) (oi := _) (v := ?_) rfl (by kernel_rfl) (by kernel_rfl) (by decide) (by kernel_rfl) (by kernel_rfl) (fun _ _ _ h => h) (Or.inl ⟨by rfl, ?_⟩) HT9.out ?_
            rotate_left
            · intro w1 hSw
              obtain ⟨z1, z2⟩ := hSw
              go_simp; with_reducible rfl
            simp only [List.getElem_toArray, List.getElem_cons_succ, List.getElem_cons_zero, Act.put, List.setIfInBounds_toArray, List.set_cons_zero, List.set_cons_succ]
            refine wpLast_take (i := 13) (oi := _) (v := ?_) rfl (by kernel_rfl) (by kernel_rfl) (by decide) (by kernel_rfl) (by kernel_rfl) (fun _ _ _ h => h) (Or.inl ⟨by rfl, ?_⟩) HT9.out ?_
            rotate_left
            · intro w1 hSw
              obtain ⟨z1, z2⟩ := hSw
              go_simp; with_reducible rfl
            simp only [List.getElem_toArray, List.getElem_cons_succ, List.getElem_cons_zero, Act.put, List.setIfInBounds_toArray, List.set_cons_zero, List.set_cons_succ]
            refine wpLast_take (i := 14) (oi := _) (v := ?_) rfl (by kernel_rfl) (by kernel_rfl) (by decide) (by kernel_rfl) (by kernel_rfl) (fun _ _ _ h => h) (Or.inl ⟨by rfl, ?_⟩) HT9.out ?_
            rotate_left
            · intro w1 hSw
              obtain ⟨z1, z2⟩ := hSw
              go_simp; with_reducible rfl
            simp only [List.getElem_toArray, List.getElem_cons_succ, List.getElem_cons_zero, Act.put, List.setIfInBounds_toArray, List.set_cons_zero, List.set_cons_succ]
            refine wpLast_take (i := 15) (oi := _) (v := ?_) rfl (by kernel_rfl) (by kernel_rfl) (by decide) (by kernel_rfl) (by kernel_rfl) (fun _ _ _ h => h) (Or.inl ⟨by rfl, ?_⟩) HT9.out ?_
            rotate_left
            · intro w1 hSw
              obtain ⟨z1, z2⟩ := hSw
              go_simp; with_reducible rfl
            simp only [List.getElem_toArray, List.getElem_cons_succ, List.getElem_cons_zero, Act.put, List.setIfInBounds_toArray, List.set_cons_zero, List.set_cons_succ]
            refine wpLast_take (i := 16) (oi := _) (v := ?_) rfl (by kernel_rfl) (by kernel_rfl) (by decide) (by kernel_rfl) (by kernel_rfl) (fun _ _ _ h => h) (Or.inl ⟨by rfl, ?_⟩) HT9.out ?_
            rotate_left
            · intro w1 hSw
              obtain ⟨z1, z2⟩ := hSw
              go_simp; with_reducible rfl
            simp only [List.getElem_toArray, List.getElem_cons_succ, List.getElem_cons_zero, Act.put, List.setIfInBounds_toArray, List.set_cons_zero, List.set_cons_succ]
            refine wpLast_take (i := 17) (oi := _) (v := ?_) rfl (by kernel_rfl) (by kernel_rfl) (by decide) (by kernel_rfl) (by kernel_rfl) (fun _ _ _ h => h) (Or.inl ⟨by rfl, ?_⟩) HT9.out ?_
            rotate_left
            · intro w1 hSw
              obtain ⟨z1, z2⟩ := hSw
              go_simp; with_reducible rfl
            simp only [List.getElem_toArray, List.getElem_cons_succ, List.getElem_cons_zero, Act.put, List.setIfInBounds_toArray, List.set_cons_zero, List.set_cons_succ]
            try rw [hzz]
            refine wpLast_ready (rs := [18]) (by kernel_rfl) (by simp) ?_
            intro i hi; obtain rfl := List.mem_singleton.1 hi; clear hi
            refine wpOp_step rfl (fun K3 hK3 => ?_)
            have HK3 := Lib.hid hK3
            clear hK3
            rw [if_pos (by rfl)]
            go_simp
            refine HK3.out _ _ ⟨fun _ => HT9.out, fun _ => ?_⟩
            clear HK3 K3
            try simp only [List.getElem_toArray, List.getElem_cons_succ, List.getElem_cons_zero, Act.put, List.setIfInBounds_toArray, List.set_cons_zero, List.set_cons_succ]
            refine wpLast_ready (rs := [19]) (by kernel_rfl) (by simp) ?_
            intro i hi; obtain rfl := List.mem_singleton.1 hi; clear hi
            refine wpOp_step rfl (fun K3 hK3 => ?_)
            have HK3 := Lib.hid hK3
            clear hK3
            rw [if_pos (by rfl)]
            go_simp
            refine HK3.out _ _ ⟨fun _ => HT9.out, fun _ => ?_⟩
            clear HK3 K3
            try simp only [List.getElem_toArray, List.getElem_cons_succ, List.getElem_cons_zero, Act.put, List.setIfInBounds_toArray, List.set_cons_zero, List.set_cons_succ]
            refine wpLast_ready (rs := [20]) (by kernel_rfl) (by simp) ?_
            intro i hi; obtain rfl := List.mem_singleton.1 hi; clear hi
            refine wpOp_step rfl (fun K3 hK3 => ?_)
            have HK3 := Lib.hid hK3
            clear hK3
            rw [if_pos (by rfl)]
            go_simp
            refine HK3.out _ _ ⟨fun _ => HT9.out, fun _ => ?_⟩
            clear HK3 K3
            try simp only [List.getElem_toArray, List.getElem_cons_succ, List.getElem_cons_zero, Act.put, List.setIfInBounds_toArray, List.set_cons_zero, List.set_cons_succ]
            obtain ⟨z1, z2⟩ := HT9.out
            have zf : W9.frozen? ⟨gn, kk * 3 + 2, none⟩ = false := frozen_of HN9.out.2
            refine wpLast_ready (rs := [21]) (by kernel_rfl) (by simp) ?_
            intro i hi; obtain rfl := List.mem_singleton.1 hi; clear hi
            refine wpOp_step rfl (fun K3 hK3 => ?_)
            have HK3 := Lib.hid hK3
            clear hK3
            rw [if_pos (by rfl)]
            go_simp
            refine HK3.out _ _ ⟨fun h => absurd rfl h, fun _ => ?_⟩
            clear HK3 K3 zf z1 z2
            try simp only [List.getElem_toArray, List.getElem_cons_succ, List.getElem_cons_zero, Act.put, List.setIfInBounds_toArray, List.set_cons_zero, List.set_cons_succ]
            refine wpLast_done (by kernel_rfl) ?_ _
            obtain ⟨W10, hW10⟩ : ∃ X, X = W9.setCell ⟨gn, kk * 3 + 2, none⟩ (.int .i64 zz) := ⟨_, rfl⟩
            have htn1 := tab_set (z := zz) HN9.out.2 HN9.out.1 HKL.out
            rw [HROW.out] at htn1
            dsimp only at htn1
            rw [← hW10] at htn1
            have hb10 : Below W6.heap.size W6 W10 := by rw [hW10]; exact HB9.out.setCell (p := ⟨gn, kk * 3 + 2, none⟩) HG9.out _
            have hnar : NarL l (l.set kk ⟨q0, q1, zz⟩) := by
              refine ⟨by rw [List.length_set], fun i hi => ?_⟩
              have hgd : (l.set kk ⟨q0, q1, zz⟩).getD i default = if kk = i then ⟨q0, q1, zz⟩ else l.getD i default := by
                rw [List.getD, List.getD, List.getElem?_set]
                by_cases e : kk = i
                · subst e; simp [hi]
                · simp [e]
              rw [hgd]
              have hpi := pipe_in HOK.out hi
              have hz := HZ.out
              by_cases e : kk = i
              · subst e
                rw [if_pos rfl, HROW.out]
                rw [HROW.out] at hpi
                dsimp only at hpi ⊢
                refine ⟨by trivial, ?_⟩
                omega
              · rw [if_neg e]
                omega
            have hless := where_less HOK.out hnar (hs := hs) (gs := hs) (by have := H7.out; omega) (by have := H7.out; omega) HALL.out (fun t _ _ ha => nar_all hnar t ha)
            rw [HR.out] at hless
            have HTN := Lib.hid htn1
            have HB10 := Lib.hid hb10
            have HLN := Lib.hid hless
            obtain ⟨nl, hnl⟩ : ∃ L, l.set kk ⟨q0, q1, zz⟩ = L := ⟨_, rfl⟩
            rw [hnl] at HTN HLN
            have HTN2 := Lib.hid (show TabAt 3 piC W10 (.slice (some ⟨gn, 0, none⟩) l.length k7) nl from HTN.out)
            clear htn1 hb10 hnar hless hnl HT9 HN9 HB9 HZ HROW HPI v4 ij0 ij1 v9 v9b HKL HTN
            go_wp2_with fail
            rw [← hW10]
            clear hW10
            go_loopw [19, 20, 21, 22, 106] (fun tv gv _ _ i wr => ∃ k : Nat, k ≤ hs.length ∧ i = .int .i64 k ∧ Below W10.heap.size W10 wr ∧ wr.ownsRow W10.heap.size 26 4 tv k (flatK 4 heC (rotH hs tn k)) ∧ wr.ownsRow W10.heap.size 26 4 gv k (flatK 4 heC ((hs.map (tightH by')).take k)) ∧ Apart tv gv) (fun _ _ _ _ i _ => hs.length - (intOf i).toNat)
            case atStart => exact ⟨0, by omega, rfl, Below.refl _ _, ⟨rfl, .inl ⟨rfl, rfl⟩⟩, ⟨rfl, .inl ⟨rfl, rfl⟩⟩, fun g h => by cases h⟩
            case round =>
              obtain ⟨k, hk, rfl, hbw, o1, o2, hap⟩ := hrel
              by_cases hlt : k < hs.length
              · as_aux_lemma =>
                  obtain ⟨lb, lof, ec, hlb, hlx⟩ := ((HMB.out.next HB10.out).fh.below hbw).at (by omega)
                  subst ec
                  obtain ⟨jm, hjm⟩ : ∃ j, (k + tn) % hs.length = j := ⟨_, rfl⟩
                  have hjl : jm < hs.length := by rw [← hjm]; exact Nat.mod_lt _ (by omega)
                  have x0 := hlx k hlt 0 (by omega)
                  have x1 := hlx k hlt 1 (by omega)
                  have x2 := hlx k hlt 2 (by omega)
                  have x3 := hlx k hlt 3 (by omega)
                  have z0 := hlx jm hjl 0 (by omega)
                  have z1 := hlx jm hjl 1 (by omega)
                  have z2 := hlx jm hjl 2 (by omega)
                  have z3 := hlx jm hjl 3 (by omega)
                  have hs1 := rot_snoc hs tn k
                  rw [hjm] at hs1
                  have hs2 := take_nx (hs.map (tightH by')) (k := k) (by rw [List.length_map]; exact hlt)
                  have hgm : (hs.map (tightH by')).getD k default = tightH by' (hs.getD k default) := by
                    rw [List.getD, List.getD, List.getElem?_map, List.getElem?_eq_getElem hlt]; rfl
                  rw [hgm] at hs2
                  have hok1 : hearOk l (hs.getD k default) = true := by rw [List.getD, List.getElem?_eq_getElem hlt]; exact HALL.out _ (List.getElem_mem hlt)
                  obtain ⟨⟨p, q, ll, lh⟩, hrow⟩ : ∃ z : He, hs.getD k default = z := ⟨_, rfl⟩
                  obtain ⟨⟨r0, r1, r2, r3⟩, hrow2⟩ : ∃ z : He, hs.getD jm default = z := ⟨_, rfl⟩
                  rw [hrow] at x0 x1 x2 x3 hs2 hok1
                  rw [hrow2] at z0 z1 z2 z3 hs1
                  have htg : tightH by' ⟨p, q, ll, lh⟩ = ⟨p, q, min lh (ll + by'), lh⟩ := rfl
                  rw [htg] at hs2
                  simp only [Nat.add_zero, heC] at x0 x1 x2 x3 z0 z1 z2 z3
                  unfold hearOk at hok1
                  simp only [Bool.and_eq_true, earsF_iff, withinF_iff] at hok1
                  have h7 := H7.out
                  have htm : Int.tmod ((k : Int) + (tn : Int)) (hs.length : Int) = (jm : Int) := by rw [Int.tmod_eq_emod_of_nonneg (by omega), ← hjm]; rfl
                  have v4 : IntKind.i64.wrap ((k : Int) + (tn : Int)) = (k : Int) + (tn : Int) := IntWalk.i64_in _ (by omega)
                  have v5 : IntKind.i64.wrap (jm : Int) = (jm : Int) := IntWalk.i64_in _ (by omega)
                  have v6 : IntKind.i64.wrap (ll + (by' : Int)) = ll + (by' : Int) := IntWalk.i64_in _ (by omega)
                  have v7 : IntKind.i64.wrap ((k : Int) + 1) = (k : Int) + 1 := IntWalk.i64_in _ (by omega)
                  have ij0 : (0 : Int) ≤ (jm : Int) := by omega
                  have ij1 : (jm : Int) < (hs.length : Int) := Int.ofNat_lt.2 hjl
                  have ik1 : (k : Int) < (hs.length : Int) := Int.ofNat_lt.2 hlt
                  have ih0 : ¬ (hs.length : Int) = 0 := by omega
                  have ih1 : ¬ hs = [] := fun e => by rw [e] at hlt; simp at hlt
                  obtain ⟨mn, hmn⟩ : ∃ m, min lh (ll + (by' : Int)) = m := ⟨_, rfl⟩
                  rw [hmn] at hs2
                  obtain ⟨W1, hW1⟩ : ∃ X, X = wr.alloc (.cells #[.int .i64 p, .int .i64 q, .int .i64 ll, .int .i64 lh] 26) := ⟨_, rfl⟩
                  have hb1 : Below wr.heap.size wr W1 := by rw [hW1]; exact (Below.refl _ _).alloc (Nat.le_refl _) _
                  have hr1 : W1.heap[wr.heap.size]? = some (.cells #[.int .i64 p, .int .i64 q, .int .i64 ll, .int .i64 lh] 26 (0, 0)) := by rw [hW1]; exact alloc_heap wr _
                  have o1' := row_below o1 hb1
                  have o2' := row_below o2 hb1
                  have hb01 := hbw.trans (hb1.mono hbw.size)
                  obtain ⟨g1, c1, Wb, g2, c2, Wd, hrn1, hXb, hXm, hrn2, p1, p2, hap2, hbd⟩ := two_hears W1 W10.heap.size wr.heap.size o1' o2' hap hr1 (fun g e => Nat.ne_of_lt (o1.lt g e).2) (fun g e => Nat.ne_of_lt (o2.lt g e).2) hbw.size r0 r1 r2 r3 mn (by omega) hb01.size
                  have HZZ := Lib.hid (And.intro (cell_step z0 hb1) (And.intro (cell_step z1 hb1) (And.intro (cell_step z2 hb1) (cell_step z3 hb1))))
                  have Q1 := Lib.hid (show Wd.ownsRow W10.heap.size 26 4 (.slice (some ⟨g1, 0, none⟩) (k + 1) c1) (k + 1) (flatK 4 heC (rotH hs tn (k + 1))) by rw [hs1, flat_snoc]; exact p1)
                  have Q2 := Lib.hid (show Wd.ownsRow W10.heap.size 26 4 (.slice (some ⟨g2, 0, none⟩) (k + 1) c2) (k + 1) (flatK 4 heC ((hs.map (tightH by')).take (k + 1))) by rw [hs2, flat_snoc]; exact p2)
                  have HAP := Lib.hid hap2
                  have HBD := Lib.hid (hb01.trans hbd)
                  have HR1 := Lib.hid hr1
                  have HXX := Lib.hid (And.intro hXb hXm)
                  have HMN := Lib.hid hmn
                  have HRUN := Lib.hid (And.intro hrn1 hrn2)
                  clear hlb hlx hs1 hs2 hgm hok1 hrow hrow2 htg h7 hjm hb1 o1 o2 o1' o2' hap hb01 hbw p1 p2 hap2 hbd hr1 z0 z1 z2 z3 hXb hXm hmn hrn1 hrn2
                  go_upto_region 17 with fail
                  rw [← hW1]
                  obtain ⟨hrn1, hrn2⟩ := HRUN.out
                  obtain ⟨hXb, hXm⟩ := HXX.out
                  have hr1 := HR1.out
                  obtain ⟨X, hX⟩ : ∃ z, wr.heap.size = z := ⟨_, rfl⟩
                  rw [hX] at hrn2 hXb hXm hr1
                  try rw [hX]
                  clear hW1 hX x0 x1 x2 x3 HRUN HXX HR1
                  obtain ⟨z0, z1, z2, z3⟩ := HZZ.out
                  go_upto_region 18 with (at_builtin; refine wpList_append_run rfl _ _ 37 rfl rfl rfl hrn1 ?_)
                  clear hrn1 z0 z1 z2 z3 hr1
                  obtain ⟨y0, y1, y2, y3⟩ := four_cells hXb
                  have yf : Wb.frozen? ⟨X, 2, none⟩ = false := frozen_of hXb
                  go_upto_region 19 with fail
                  rw [HMN.out]
                  obtain ⟨Wm, hWm⟩ : ∃ Z, Z = Wb.setCell ⟨X, 2, none⟩ (.int .i64 mn) := ⟨_, rfl⟩
                  rw [← hWm] at hrn2 hXm ⊢
                  clear y0 y1 y2 y3 yf hWm hXb
                  obtain ⟨y0, y1, y2, y3⟩ := four_cells hXm
                  go_wp2_with (at_builtin; refine wpList_append_run rfl _ _ 37 rfl rfl rfl hrn2 ?_)
                  go_roundw
                  case rel => exact ⟨k + 1, by omega, by go_num, HBD.out, Q1.out, Q2.out, HAP.out⟩
                  case measure => simp [intOf]; omega
              · as_aux_lemma =>
                  have j1 : ¬ (k : Int) < (hs.length : Int) := by omega
                  have hke : k = hs.length := by omega
                  subst hke
                  have h7 := H7.out
                  have hrl : (hs.map (tightH by')).take hs.length = hs.map (tightH by') := List.take_of_length_le (by rw [List.length_map]; exact Nat.le_refl _)
                  rw [hrl] at o2
                  have t1 := tab_of_own o1 (rot_len ..).symm (by rw [rot_len]; unfold maxLen; omega)
                  have t2 := tab_of_own o2 (by rw [List.length_map]) (by rw [List.length_map]; unfold maxLen; omega)
                  obtain ⟨a1, c1, e1⟩ := t1.shape
                  rw [rot_len] at e1
                  subst e1
                  obtain ⟨a2, c2, e2⟩ := t2.shape
                  rw [List.length_map] at e2
                  subst e2
                  have hb := HB10.out.trans (hbw.mono HB10.out.size)
                  have hls := where_less HOK.out (nar_refl HOK.out) (hs := hs) (gs := hs.map (tightH by')) (by omega) (by rw [List.length_map]; omega) HALL.out (fun t _ _ ha => tight_all (by omega) HALL.out t ha)
                  rw [HR.out] at hls
                  have K1 := Lib.hid (KNO.out nl hs _ (.slice la hs.length lc) HLN.out wr hb (HTN2.out.below hbw) (HMB.out.next hb).fh)
                  have HLS := Lib.hid hls
                  have HT12 := Lib.hid (And.intro t1 t2)
                  have HBW := Lib.hid hb
                  have y0 := one_cell (HMB.out.next hb).pl
                  clear hrl o1 o2 hap t1 t2 hb hls hbw h7
                  go_wp2_with (go_at_call 32; fail)
                  refine K1.out.mono ?_
                  rintro e w11 ⟨rfl, hb11⟩
                  have hbz := HBW.out.trans (hb11.mono HBW.out.size)
                  have K2 := Lib.hid (KNO.out l (hs.map (tightH by')) (.slice a l.length c) (.slice a2 hs.length c2) HLS.out w11 hbz (HMB.out.next hbz).fl (HT12.out.2.below hb11))
                  have HT1 := Lib.hid (HT12.out.1.below hb11)
                  clear y0 K1 HBW hb11 HT12
                  have y0 := one_cell (HMB.out.next hbz).pl
                  have HBW := Lib.hid hbz
                  clear hbz
                  go_wp2_with (go_at_call 32; fail)
                  refine K2.out.mono ?_
                  rintro e w12 ⟨rfl, hb12⟩
                  have hbz := HBW.out.trans (hb12.mono HBW.out.size)
                  have kw := Where_any l (.slice a l.length c) (rotH hs tn hs.length) (.slice a1 hs.length c1) w12 (HMB.out.next hbz).fl (HT1.out.below hb12)
                  rw [where_rot, HR.out] at kw
                  unfold WhereR at kw
                  simp only [] at kw
                  have KW := Lib.hid kw
                  clear y0 K2 HBW hb12 HT1 kw
                  have y0 := one_cell (HMB.out.next hbz).pl
                  have HBW := Lib.hid hbz
                  clear hbz
                  go_wp2_with (go_at_call 18; fail)
                  refine KW.out.mono ?_
                  rintro e w13 ⟨v13, rfl, ho13, hb13⟩
                  have hbz := HBW.out.trans (hb13.mono HBW.out.size)
                  have hSl := whereF_few l hs
                  rw [HR.out] at hSl
                  have ht13 := outT_tab ho13 (by have := HL12.out; simp only [] at hSl; omega)
                  have hkk := Stretches_any S S v13 (.slice sa S.length sc) w13 ht13 (HMB.out.next hbz).fs
                  rw [decide_eq_true (rfl : S = S)] at hkk
                  have KS := Lib.hid hkk
                  clear y0 KW HBW hb13 ho13 ht13 hkk hSl
                  have y0 := one_cell (HMB.out.next hbz).ps
                  have HBW := Lib.hid hbz
                  clear hbz
                  go_wp2_with (go_at_call 20; fail)
                  refine KS.out.mono ?_
                  rintro e w14 ⟨rfl, hb14⟩
                  have hbz := HBW.out.trans (hb14.mono HBW.out.size)
                  have KT := Tune_any l (.slice a l.length c) t ⟨x, y, lo, hi⟩ w14 (HMB.out.next hbz).fl
                  have hTe : ∀ T, tuneR l t ⟨x, y, lo, hi⟩ = (T, 0) → T = slowsF (tunedF l x y t lo hi) ∧ NarL l (tunedF l x y t lo hi) := fun T h => by
                    unfold tuneR at h
                    rw [if_pos HOK.out] at h
                    split at h
                    · rename_i hc
                      split at h
                      · simp only [Prod.mk.injEq] at h; omega
                      · rename_i he
                        simp only [Prod.mk.injEq] at h
                        rw [Bool.and_eq_true] at hc
                        have hle : lo ≤ hi := by
                          have h1 := hc.2
                          unfold hearOk at h1
                          simp only [Bool.and_eq_true, withinF_iff] at h1
                          exact h1.2.2.1
                        rw [allows_empty hle] at he
                        have ha : allowsF l ⟨x, y, lo, hi⟩ t = true := by
                          cases hb : allowsF l ⟨x, y, lo, hi⟩ t with
                          | true => rfl
                          | false => rw [hb] at he; exact absurd rfl he
                        unfold allowsF at ha
                        simp only [Bool.and_eq_true, decide_eq_true_eq] at ha
                        exact ⟨h.1.symm, tuned_nar HOK.out x y t lo hi hle ha.1 ha.2⟩
                    · simp only [Prod.mk.injEq] at h; omega
                  have HTE := Lib.hid hTe
                  obtain ⟨⟨T, rt⟩, hT⟩ : ∃ r, tuneR l t ⟨x, y, lo, hi⟩ = r := ⟨_, rfl⟩
                  have HTT := Lib.hid hT
                  rw [hT] at KT
                  unfold TuneR heV at KT
                  simp only [] at KT
                  have KTT := Lib.hid KT
                  clear y0 KS HBW hb14 KT hTe hT
                  have y0 := one_cell (HMB.out.next hbz).pl
                  have y1 := one_cell (HMB.out.next hbz).pe
                  obtain ⟨y2, y3, y4, y5⟩ := four_cells (HMB.out.next hbz).pm
                  have HBW := Lib.hid hbz
                  clear hbz
                  go_wp2_with (go_at_call 15; fail)
                  refine KTT.out.mono ?_
                  rintro e w15 ⟨v15, rfl, ho15, hb15⟩
                  have HB15 := Lib.hid (HBW.out.trans (hb15.mono HBW.out.size))
                  have HO15 := Lib.hid ho15
                  clear y0 y1 y2 y3 y4 y5 HBW hb15 ho15 KTT
                  by_cases hrt : rt = 0
                  · as_aux_lemma =>
                      subst hrt
                      obtain ⟨hTe, hnar⟩ := HTE.out T HTT.out
                      have hTl : T.length = l.length := by rw [hTe]; simp [slowsF, tunedF]
                      have hl12 := HL12.out
                      have htT := outS_tab HO15.out (by rw [hTl]; omega)
                      obtain ⟨a15, c15, e15⟩ := htT.shape
                      rw [hTl] at e15
                      subst e15
                      have hTat : ∀ i, i < l.length → T.getD i default = (((tunedF l x y t lo hi).getD i default).lo, ((tunedF l x y t lo hi).getD i default).hi) := fun i hi' => by
                        rw [hTe]
                        have hl : i < (tunedF l x y t lo hi).length := by rw [hnar.1]; exact hi'
                        simp [slowsF, List.getD, List.getElem?_map, List.getElem?_eq_getElem hl]
                      obtain ⟨N, hN⟩ : ∃ N, tunedF l x y t lo hi = N := ⟨_, rfl⟩
                      rw [hN] at hnar hTat
                      obtain ⟨g3, hg3⟩ : ∃ z, w15.heap.size = z := ⟨_, rfl⟩
                      obtain ⟨W16, hW16⟩ : ∃ X, w15.alloc (.cells #[] 59) = X := ⟨_, rfl⟩
                      have hb16 : Below w15.heap.size w15 W16 := by rw [← hW16]; exact (Below.refl _ _).alloc (Nat.le_refl _) _
                      have hbb16 := HB15.out.trans (hb16.mono HB15.out.size)
                      have h1 : W16.ownsRow w15.heap.size 59 3 (.slice (some ⟨g3, 0, none⟩) 0 0) 0 [] := by rw [← hW16, ← hg3]; exact World.ownsRow_lit w15 #[] 0 (Nat.le_refl _) (by decide) rfl
                      obtain ⟨p16, W17, hrun, ho1, hgr1⟩ := run_copyT 22 22 59 3 24 _ piC Try.underlying22 Try.info59 rfl (by decide) (by decide) w15.heap.size g3 h1 (HMB.out.next hbb16).fl NL.out (by omega) hb16.size
                      have hb17 := hb16.grown hgr1 hb16.size (fun q hq => by cases hq; exact (h1.lt g3 rfl).1)
                      have t17 := tab_of_own ho1 rfl (by unfold maxLen; omega)
                      obtain ⟨x17, k17, rfl⟩ := t17.shape
                      have hlen := line_few HOK.out
                      obtain ⟨gt, rfl⟩ := own_pos ho1 (by omega)
                      obtain ⟨cur17, hcur17, _⟩ := own_room ho1 rfl
                      have hgt := (ho1.lt gt rfl).1
                      have hls := where_less HOK.out hnar (hs := hs) (gs := hs) (by have := H7.out; omega) (by have := H7.out; omega) HALL.out (fun t _ _ ha => nar_all hnar t ha)
                      rw [HR.out] at hls
                      have HLS := Lib.hid hls
                      have HNAR := Lib.hid hnar
                      have HTAT := Lib.hid hTat
                      have HTL := Lib.hid hTl
                      have HTT15 := Lib.hid htT
                      have H17 := Lib.hid (And.intro t17 hcur17)
                      have HB17 := Lib.hid hb17
                      have HGT := Lib.hid hgt
                      have y0 := one_cell (HMB.out.next HB15.out).pl
                      have y1 := one_cell (HMB.out.next hbb16).pl
                      clear hTe hTl htT hTat hN hb16 hbb16 h1 ho1 hgr1 hb17 t17 hcur17 hgt hls hnar hlen HTE HTT HO15
                      go_wp2_with (at_builtin; refine wpList_append_run rfl _ _ 22 rfl rfl rfl hrun ?_)
                      clear hrun hW16 hg3 y0 y1
                      go_loopw [28, 187] (fun _ i wr => ∃ k : Nat, k ≤ l.length ∧ i = .int .i64 k ∧ Below w15.heap.size w15 wr ∧ ∃ (M : List Pi) (cur : Array Value), M.length = l.length ∧ (∀ i, i < l.length → M.getD i default = if i < k then N.getD i default else l.getD i default) ∧ wr.heap[gt]? = some (.cells cur 59 (0, 0)) ∧ TabAt 3 piC wr (.slice (some ⟨gt, 0, none⟩) l.length k17) M) (fun _ i _ => l.length - (intOf i).toNat)
                      case atStart => exact ⟨0, by omega, rfl, HB17.out, l, cur17, rfl, fun i hi' => by rw [if_neg (by omega)], H17.out.2, H17.out.1⟩
                      case round =>
                        obtain ⟨k, hk, rfl, hbw, M, cur, hM1, hM2, hM3, hM4⟩ := hrel
                        by_cases hlt : k < l.length
                        · as_aux_lemma =>
                            obtain ⟨ub, uof, eu, hub, hux⟩ := (HTT15.out.below hbw).at (by rw [HTL.out]; omega)
                            subst eu
                            have z0 := hux k (by rw [HTL.out]; exact hlt) 0 (by omega)
                            have z1 := hux k (by rw [HTL.out]; exact hlt) 1 (by omega)
                            rw [HTAT.out k hlt] at z0 z1
                            obtain ⟨_, _, e7, _, hx⟩ := hM4.at (by omega)
                            cases e7
                            have x1 := hx k (by omega) 1 (by omega)
                            have x2 := hx k (by omega) 2 (by omega)
                            obtain ⟨⟨s0, s1, s2⟩, hrow⟩ : ∃ z : Pi, N.getD k default = z := ⟨_, rfl⟩
                            rw [hrow] at z0 z1
                            simp only [Nat.add_zero, Nat.zero_add, piC, spC] at z0 z1 x1 x2
                            have hn := (HNAR.out.2 k hlt).1
                            rw [hrow] at hn
                            have hMl := hM4
                            rw [← hM1] at hMl
                            have hts := tab_set2 (L := M) (k := k) (y := s1) (z := s2) hM3 hMl (show k < M.length by omega)
                            rw [hM1, hM2 k hlt, if_neg (by omega), ← hn] at hts
                            have hg1 := heap_setCell_same wr gt (k * 3 + 1) _ 59 (.int .i64 s1) hM3
                            have hg2 := heap_setCell_same _ gt (k * 3 + 2) _ 59 (.int .i64 s2) hg1
                            have hm2 : ∀ i, i < l.length → (M.set k ⟨s0, s1, s2⟩).getD i default = if i < k + 1 then N.getD i default else l.getD i default := fun i hi' => by
                              rw [set_at M (by omega)]
                              by_cases e : k = i
                              · subst e
                                rw [if_pos rfl, if_pos (by omega), hrow]
                              · rw [if_neg e, hM2 i hi']
                                by_cases e2 : i < k
                                · rw [if_pos e2, if_pos (by omega)]
                                · rw [if_neg e2, if_neg (by omega)]
                            have f1 : wr.frozen? ⟨gt, k * 3 + 1, none⟩ = false := frozen_of hM3
                            have f2 : wr.frozen? ⟨gt, k * 3 + 1 + 1, none⟩ = false := frozen_of hM3
                            have f3 : wr.frozen? ⟨gt, k * 3 + 2, none⟩ = false := frozen_of hM3
                            have ij0 : (0 : Int) ≤ (k : Int) := by omega
                            have ij1 : (k : Int) < (l.length : Int) := Int.ofNat_lt.2 hlt
                            have v7 : IntKind.i64.wrap ((k : Int) + 1) = (k : Int) + 1 := IntWalk.i64_in _ (by have := HL12.out; omega)
                            have HQ := Lib.hid (show Below w15.heap.size w15 ((wr.setCell ⟨gt, k * 3 + 1, none⟩ (.int .i64 s1)).setCell ⟨gt, k * 3 + 2, none⟩ (.int .i64 s2)) from (hbw.setCell (p := ⟨gt, k * 3 + 1, none⟩) HGT.out _).setCell (p := ⟨gt, k * 3 + 2, none⟩) HGT.out _)
                            have HM := Lib.hid (And.intro hm2 (And.intro hg2 hts))
                            have HMl := Lib.hid hM1
                            clear hub hux hx hrow hn hMl hts hg1 hg2 hm2 hM1 hM2 hM3 hM4 hbw
                            go_wp2
                            go_roundw
                            case rel => exact ⟨k + 1, by omega, by go_num, HQ.out, M.set k ⟨s0, s1, s2⟩, _, by rw [List.length_set]; exact HMl.out, HM.out.1, HM.out.2.1, HM.out.2.2⟩
                            case measure => simp [intOf]; omega
                        · as_aux_lemma =>
                            have j2 : ¬ (k : Int) < (l.length : Int) := by omega
                            have hke : k = l.length := by omega
                            subst hke
                            have hMN : M = N := by
                              refine List.ext_getElem (by rw [hM1, HNAR.out.1]) (fun i h1 h2 => ?_)
                              have := hM2 i (by omega)
                              rw [if_pos (by omega), List.getD, List.getD, List.getElem?_eq_getElem h1, List.getElem?_eq_getElem h2] at this
                              exact this
                            subst hMN
                            have hbz := HB15.out.trans (hbw.mono HB15.out.size)
                            have K3 := Lib.hid (KNO.out M hs (.slice (some ⟨gt, 0, none⟩) l.length k17) (.slice la hs.length lc) HLS.out wr hbz hM4 (HMB.out.next hbz).fh)
                            have HBZ0 := Lib.hid hbz
                            clear hM1 hM2 hM3 hM4 hbw hbz
                            go_wp2_with (go_at_call 32; fail)
                            refine K3.out.mono ?_
                            rintro e w18 ⟨rfl, hb18⟩
                            have HB18 := Lib.hid (HBZ0.out.trans (hb18.mono HBZ0.out.size))
                            clear hb18 HBZ0 K3
                            have y0 := one_cell (HMB.out.next HB18.out).pl
                            have y1 := one_cell (HMB.out.next HB18.out).pn
                            have hE := HE.out
                            have KG1 := Lag_any l (.slice a l.length c) 0 E t w18 (HMB.out.next HB18.out).fl
                            have hG0e : ∀ s, lagR l 0 E s = if (decide (0 ≤ s) && decide (s ≤ E)) then (lagsF l 0 E s, 0) else ((0, 0), 2) := fun s => by
                              have h1 : earsF l 0 E = true := by rw [earsF_iff, HEE.out]; omega
                              unfold lagR placeF inF
                              rw [if_pos HOK.out, HEE.out, h1, Bool.and_true]
                            have HGE := Lib.hid hG0e
                            obtain ⟨⟨⟨g0, q0⟩, f0⟩, hG0⟩ : ∃ r, lagR l 0 E t = r := ⟨_, rfl⟩
                            have HG0 := Lib.hid hG0
                            rw [hG0] at KG1
                            unfold LagR at KG1
                            simp only [] at KG1
                            have KG11 := Lib.hid KG1
                            clear hE KG1 hG0e hG0
                            go_wp2_with (go_at_call 13; fail)
                            refine KG11.out.mono ?_
                            rintro e wu ⟨rfl, hbu⟩
                            obtain ⟨WA, hWA⟩ : ∃ X, X = wu.alloc (.cells #[.int .i64 g0, .int .i64 q0] 24) := ⟨_, rfl⟩
                            have hbA : Below wu.heap.size wu WA := by rw [hWA]; exact (Below.refl _ _).alloc (Nat.le_refl _) _
                            have hrA : WA.heap[wu.heap.size]? = some (.cells #[.int .i64 g0, .int .i64 q0] 24 (0, 0)) := by rw [hWA]; exact alloc_heap wu _
                            have HRA := Lib.hid hrA
                            have HBA := Lib.hid (HB18.out.trans ((hbu.trans (hbA.mono hbu.size)).mono HB18.out.size))
                            clear y0 y1 hbu hbA hrA KG11
                            go_upto_region 39 with fail
                            rw [← hWA]
                            have hrA := HRA.out
                            obtain ⟨PA, hPA⟩ : ∃ z, wu.heap.size = z := ⟨_, rfl⟩
                            rw [hPA] at hrA
                            try rw [hPA]
                            have HA1 := Lib.hid hrA
                            clear hWA hPA hrA HRA
                            have y0 := one_cell (HMB.out.next HBA.out).pl
                            have y1 := one_cell (HMB.out.next HBA.out).pn
                            obtain ⟨t1, ht1⟩ : ∃ z, IntKind.i64.wrap (t + 1) = z := ⟨_, rfl⟩
                            have HT1 := Lib.hid ht1
                            have KG2 := Lag_any l (.slice a l.length c) 0 E t1 WA (HMB.out.next HBA.out).fl
                            obtain ⟨⟨⟨g1, q1⟩, f1⟩, hG1⟩ : ∃ r, lagR l 0 E t1 = r := ⟨_, rfl⟩
                            have HG1 := Lib.hid hG1
                            rw [hG1] at KG2
                            unfold LagR at KG2
                            simp only [] at KG2
                            have KG22 := Lib.hid KG2
                            clear KG2 hG1
                            go_wp2_with (go_at_call 13; fail)
                            refine KG22.out.mono ?_
                            rintro e wv ⟨rfl, hbv⟩
                            obtain ⟨WB, hWB⟩ : ∃ X, X = wv.alloc (.cells #[.int .i64 g1, .int .i64 q1] 24) := ⟨_, rfl⟩
                            have hbB : Below wv.heap.size wv WB := by rw [hWB]; exact (Below.refl _ _).alloc (Nat.le_refl _) _
                            have hrB : WB.heap[wv.heap.size]? = some (.cells #[.int .i64 g1, .int .i64 q1] 24 (0, 0)) := by rw [hWB]; exact alloc_heap wv _
                            have HRB := Lib.hid hrB
                            have hbvB := hbv.trans (hbB.mono hbv.size)
                            have HA2 := Lib.hid (box_step (w0 := w) HA1.out hbvB)
                            have HBB := Lib.hid (HBA.out.trans (hbvB.mono HBA.out.size))
                            clear y0 y1 hbv hbB hrB hbvB KG22 HA1 HBA
                            go_upto_region 40 with fail
                            rw [← hWB]
                            have hrB := HRB.out
                            obtain ⟨PB, hPB⟩ : ∃ z, wv.heap.size = z := ⟨_, rfl⟩
                            rw [hPB] at hrB
                            try rw [hPB]
                            have HB2 := Lib.hid hrB
                            clear hWB hPB hrB HRB ht1
                            by_cases hf0 : f0 = 0
                            · by_cases hf1 : f1 = 0
                              · as_aux_lemma =>
                                  subst hf0
                                  subst hf1
                                  have hE := HE.out
                                  have h1 := HG0.out
                                  have h2 := HG1.out
                                  have h3 := HT1.out
                                  rw [HGE.out] at h1 h2
                                  have hr1 : 0 ≤ t ∧ t ≤ E := by
                                    by_cases hc : 0 ≤ t ∧ t ≤ E
                                    · exact hc
                                    · rw [if_neg (by rw [Bool.and_eq_true, decide_eq_true_eq, decide_eq_true_eq]; exact hc)] at h1
                                      simp only [Prod.mk.injEq] at h1
                                      omega
                                  rw [IntWalk.i64_in _ (by omega)] at h3
                                  have hr2 : 0 ≤ t1 ∧ t1 ≤ E := by
                                    by_cases hc : 0 ≤ t1 ∧ t1 ≤ E
                                    · exact hc
                                    · rw [if_neg (by rw [Bool.and_eq_true, decide_eq_true_eq, decide_eq_true_eq]; exact hc)] at h2
                                      simp only [Prod.mk.injEq] at h2
                                      omega
                                  rw [if_pos (by rw [Bool.and_eq_true, decide_eq_true_eq, decide_eq_true_eq]; exact hr1)] at h1
                                  rw [if_pos (by rw [Bool.and_eq_true, decide_eq_true_eq, decide_eq_true_eq]; exact hr2)] at h2
                                  have hd : ∀ s, lagsF l 0 E s = (lagF false l 0 E s, lagF true l 0 E s) := fun _ => rfl
                                  rw [hd] at h1 h2
                                  simp only [Prod.mk.injEq, and_true] at h1 h2
                                  have hgrow := fun e (j : Nat) hj p1 p2 => lag_grow HOK.out e (t := t) hr1.1 (j := j) hj p1 p2
                                  rw [HEE.out, h3] at hgrow
                                  have hgA := fun j hj p1 p2 => hgrow false j hj p1 p2
                                  have hgB := fun j hj p1 p2 => hgrow true j hj p1 p2
                                  rw [h1.1, h2.1] at hgA
                                  rw [h1.2, h2.2] at hgB
                                  have HGA := Lib.hid hgA
                                  have HGB := Lib.hid hgB
                                  have HR12 := Lib.hid (And.intro hr1 (And.intro hr2 h3))
                                  have hb0 := lagF_in HOK.out false 0 E t
                                  have hb1 := lagF_in HOK.out true 0 E t
                                  rw [h1.1] at hb0
                                  rw [h1.2] at hb1
                                  have HBN := Lib.hid (And.intro hb0 hb1)
                                  clear hE h1 h2 h3 hr1 hr2 hd hgrow hgA hgB hb0 hb1
                                  obtain ⟨lb, lof, ea, _⟩ := (HMB.out.next HBB.out).fl.at (by have := line_few HOK.out; omega)
                                  subst ea
                                  go_wp2_with fail
                                  go_loopw [33] (fun i wr => ∃ k : Nat, k < l.length ∧ i = .int .i64 k ∧ posF l k ≤ t ∧ Below WB.heap.size WB wr) (fun i _ => l.length - (intOf i).toNat)
                                  case atStart => exact ⟨0, by have := line_few HOK.out; omega, rfl, by have := HR12.out; show (0 : Int) ≤ t; omega, Below.refl _ _⟩
                                  case round =>
                                    obtain ⟨k, hk, rfl, hpk, hbw⟩ := hrel
                                    have hl12 := HL12.out
                                    have hbz := HBB.out.trans (hbw.mono HBB.out.size)
                                    have hfl := (HMB.out.next hbz).fl
                                    have hcap : l.length ≤ c := by
                                      obtain ⟨_, ⟨h0, _⟩ | ⟨b', off', cap, e, h1, _⟩⟩ := hfl
                                      · subst h0; simp at hk
                                      · simp only [Value.slice.injEq] at e; omega
                                    have hln : (l.take (k + 1)).length = k + 1 := by simp; omega
                                    have KE := End_any (l.take (k + 1)) (.slice (some ⟨lb, lof, none⟩) (k + 1) c) wr (hfl.take (i := k + 1) (by omega) (by omega)) (fun j hj => by
                                      rw [hln] at hj
                                      rw [pos_take l (k + 1) j hj]
                                      have := pos_small HOK.out (i := j) (by omega)
                                      omega)
                                    have he : endF (l.take (k + 1)) = posF l (k + 1) := by unfold endF; rw [hln, pos_take l (k + 1) (k + 1) (Nat.le_refl _)]
                                    rw [he] at KE
                                    have hend : endF l = posF l l.length := rfl
                                    rw [HEE.out] at hend
                                    have hr := HR12.out
                                    have v1 : IntKind.i64.wrap ((k : Int) + 1) = ((k + 1 : Nat) : Int) := by rw [IntWalk.i64_in _ (by omega)]; omega
                                    have ik0 : (0 : Int) ≤ ((k + 1 : Nat) : Int) := by omega
                                    have ik1 : ((k + 1 : Nat) : Int) ≤ (c : Int) := by omega
                                    have ik2 : k + 1 ≤ c := by omega
                                    have y0 := one_cell (HMB.out.next hbz).pl
                                    have hgA := HGA.out k hk hpk
                                    have hgB := HGB.out k hk hpk
                                    obtain ⟨p1, hp1⟩ : ∃ z, posF l (k + 1) = z := ⟨_, rfl⟩
                                    rw [hp1] at KE hgA hgB
                                    have HP1 := Lib.hid hp1
                                    have KEE := Lib.hid KE
                                    by_cases hle : p1 ≤ t
                                    · have hk2 : k + 1 < l.length := by
                                        by_cases e : k + 1 = l.length
                                        · rw [e] at hp1; omega
                                        · omega
                                      have HK2 := Lib.hid hk2
                                      have HBW := Lib.hid hbw
                                      clear hl12 hbz hfl hcap hln KE he hend hr hgA hgB hp1 hbw hpk hk2
                                      go_wp2_with (go_at_call 25; (with_reducible refine KEE.out.mono ?_); rintro e w9 ⟨rfl, rfl⟩)
                                      go_roundw
                                      case rel => exact ⟨k + 1, HK2.out, rfl, by rw [HP1.out]; exact hle, HBW.out⟩
                                      case measure => simp [intOf]; have := HK2.out; omega
                                    · obtain ⟨_, _, e7, hlb, hlx⟩ := hfl.at (by omega)
                                      cases e7
                                      have x1 := hlx k hk 1 (by omega)
                                      have hga := hgA (by omega)
                                      have hgb := hgB (by omega)
                                      have hpi := pipe_in HOK.out hk
                                      obtain ⟨⟨s0, s1, s2⟩, hrow⟩ : ∃ z : Pi, l.getD k default = z := ⟨_, rfl⟩
                                      rw [hrow] at x1 hga hgb hpi
                                      simp only [piC] at x1 hga hgb hpi
                                      have hbn := HBN.out
                                      have v2 : IntKind.i64.wrap (2 * s1) = 2 * s1 := IntWalk.i64_in _ (by omega)
                                      have v3 : IntKind.i64.wrap (g0 + 2 * s1) = g0 + 2 * s1 := IntWalk.i64_in _ (by omega)
                                      have v4 : IntKind.i64.wrap (q0 + 2 * s1) = q0 + 2 * s1 := IntWalk.i64_in _ (by omega)
                                      have b1 : decide (g0 + 2 * s1 ≤ g1) = true := decide_eq_true (by omega)
                                      have b2 : decide (q0 + 2 * s1 ≤ q1) = true := decide_eq_true (by omega)
                                      have b3 : g0 + 2 * s1 ≤ g1 := by omega
                                      have b4 : q0 + 2 * s1 ≤ q1 := by omega
                                      have ij0 : (0 : Int) ≤ (k : Int) := by omega
                                      have ij1 : (k : Int) < (l.length : Int) := Int.ofNat_lt.2 hk
                                      obtain ⟨z0, z1⟩ := two_cells (box_step (w0 := w) HA2.out hbw)
                                      obtain ⟨z2, z3⟩ := two_cells (box_step (w0 := w) HB2.out hbw)
                                      have HBZ := Lib.hid ((HMB.out.next hbz).fb)
                                      clear hl12 hbz hfl hcap hln KE he hend hr hgA hgB hp1 hbw hpk hlb hlx hga hgb hpi hrow hbn
                                      go_wp2_with (first | (go_at_call 25; (with_reducible refine KEE.out.mono ?_); rintro e w9 ⟨rfl, rfl⟩) | (go_at_call 12; fail))
                                      refine (KA.out _).mono ?_
                                      rintro e9 wz ⟨rfl, hbz⟩
                                      go_wp2
                                      go_ret
                                      exact ⟨rfl, HBZ.out.trans (hbz.mono HBZ.out.size)⟩
                              · have hf2 : (f1 == 0) = false := by simp [hf1]
                                have HBZ := Lib.hid ((HMB.out.next HBB.out).fb)
                                go_wp2_with (go_at_call 12; fail)
                                refine (KA.out _).mono ?_
                                rintro e9 wz ⟨rfl, hbz⟩
                                go_wp2
                                go_ret
                                exact ⟨rfl, HBZ.out.trans (hbz.mono HBZ.out.size)⟩
                            · have hf2 : (f0 == 0) = false := by simp [hf0]
                              have HBZ := Lib.hid ((HMB.out.next HBB.out).fb)
                              go_wp2_with (go_at_call 12; fail)
                              refine (KA.out _).mono ?_
                              rintro e9 wz ⟨rfl, hbz⟩
                              go_wp2
                              go_ret
                              exact ⟨rfl, HBZ.out.trans (hbz.mono HBZ.out.size)⟩
                  · as_aux_lemma =>
                      have hrt2 : (rt == 0) = false := by simp [hrt]
                      have y0 := one_cell (HMB.out.next HB15.out).pl
                      have y1 := one_cell (HMB.out.next HB15.out).pn
                      have hE := HE.out
                      have KG1 := Lag_any l (.slice a l.length c) 0 E t w15 (HMB.out.next HB15.out).fl
                      have hG0e : ∀ s, lagR l 0 E s = if (decide (0 ≤ s) && decide (s ≤ E)) then (lagsF l 0 E s, 0) else ((0, 0), 2) := fun s => by
                        have h1 : earsF l 0 E = true := by rw [earsF_iff, HEE.out]; omega
                        unfold lagR placeF inF
                        rw [if_pos HOK.out, HEE.out, h1, Bool.and_true]
                      have HGE := Lib.hid hG0e
                      obtain ⟨⟨⟨g0, q0⟩, f0⟩, hG0⟩ : ∃ r, lagR l 0 E t = r := ⟨_, rfl⟩
                      have HG0 := Lib.hid hG0
                      rw [hG0] at KG1
                      unfold LagR at KG1
                      simp only [] at KG1
                      have KG11 := Lib.hid KG1
                      clear hE KG1 hG0e hG0
                      go_wp2_with (go_at_call 13; fail)
                      refine KG11.out.mono ?_
                      rintro e wu ⟨rfl, hbu⟩
                      obtain ⟨WA, hWA⟩ : ∃ X, X = wu.alloc (.cells #[.int .i64 g0, .int .i64 q0] 24) := ⟨_, rfl⟩
                      have hbA : Below wu.heap.size wu WA := by rw [hWA]; exact (Below.refl _ _).alloc (Nat.le_refl _) _
                      have hrA : WA.heap[wu.heap.size]? = some (.cells #[.int .i64 g0, .int .i64 q0] 24 (0, 0)) := by rw [hWA]; exact alloc_heap wu _
                      have HRA := Lib.hid hrA
                      have HBA := Lib.hid (HB15.out.trans ((hbu.trans (hbA.mono hbu.size)).mono HB15.out.size))
                      clear y0 y1 hbu hbA hrA KG11
                      go_upto_region 39 with fail
                      rw [← hWA]
                      have hrA := HRA.out
                      obtain ⟨PA, hPA⟩ : ∃ z, wu.heap.size = z := ⟨_, rfl⟩
                      rw [hPA] at hrA
                      try rw [hPA]
                      have HA1 := Lib.hid hrA
                      clear hWA hPA hrA HRA
                      have y0 := one_cell (HMB.out.next HBA.out).pl
                      have y1 := one_cell (HMB.out.next HBA.out).pn
                      obtain ⟨t1, ht1⟩ : ∃ z, IntKind.i64.wrap (t + 1) = z := ⟨_, rfl⟩
                      have HT1 := Lib.hid ht1
                      have KG2 := Lag_any l (.slice a l.length c) 0 E t1 WA (HMB.out.next HBA.out).fl
                      obtain ⟨⟨⟨g1, q1⟩, f1⟩, hG1⟩ : ∃ r, lagR l 0 E t1 = r := ⟨_, rfl⟩
                      have HG1 := Lib.hid hG1
                      rw [hG1] at KG2
                      unfold LagR at KG2
                      simp only [] at KG2
                      have KG22 := Lib.hid KG2
                      clear KG2 hG1
                      go_wp2_with (go_at_call 13; fail)
                      refine KG22.out.mono ?_
                      rintro e wv ⟨rfl, hbv⟩
                      obtain ⟨WB, hWB⟩ : ∃ X, X = wv.alloc (.cells #[.int .i64 g1, .int .i64 q1] 24) := ⟨_, rfl⟩
                      have hbB : Below wv.heap.size wv WB := by rw [hWB]; exact (Below.refl _ _).alloc (Nat.le_refl _) _
                      have hrB : WB.heap[wv.heap.size]? = some (.cells #[.int .i64 g1, .int .i64 q1] 24 (0, 0)) := by rw [hWB]; exact alloc_heap wv _
                      have HRB := Lib.hid hrB
                      have hbvB := hbv.trans (hbB.mono hbv.size)
                      have HA2 := Lib.hid (box_step (w0 := w) HA1.out hbvB)
                      have HBB := Lib.hid (HBA.out.trans (hbvB.mono HBA.out.size))
                      clear y0 y1 hbv hbB hrB hbvB KG22 HA1 HBA
                      go_upto_region 40 with fail
                      rw [← hWB]
                      have hrB := HRB.out
                      obtain ⟨PB, hPB⟩ : ∃ z, wv.heap.size = z := ⟨_, rfl⟩
                      rw [hPB] at hrB
                      try rw [hPB]
                      have HB2 := Lib.hid hrB
                      clear hWB hPB hrB HRB ht1
                      by_cases hf0 : f0 = 0
                      · by_cases hf1 : f1 = 0
                        · as_aux_lemma =>
                            subst hf0
                            subst hf1
                            have hE := HE.out
                            have h1 := HG0.out
                            have h2 := HG1.out
                            have h3 := HT1.out
                            rw [HGE.out] at h1 h2
                            have hr1 : 0 ≤ t ∧ t ≤ E := by
                              by_cases hc : 0 ≤ t ∧ t ≤ E
                              · exact hc
                              · rw [if_neg (by rw [Bool.and_eq_true, decide_eq_true_eq, decide_eq_true_eq]; exact hc)] at h1
                                simp only [Prod.mk.injEq] at h1
                                omega
                            rw [IntWalk.i64_in _ (by omega)] at h3
                            have hr2 : 0 ≤ t1 ∧ t1 ≤ E := by
                              by_cases hc : 0 ≤ t1 ∧ t1 ≤ E
                              · exact hc
                              · rw [if_neg (by rw [Bool.and_eq_true, decide_eq_true_eq, decide_eq_true_eq]; exact hc)] at h2
                                simp only [Prod.mk.injEq] at h2
                                omega
                            rw [if_pos (by rw [Bool.and_eq_true, decide_eq_true_eq, decide_eq_true_eq]; exact hr1)] at h1
                            rw [if_pos (by rw [Bool.and_eq_true, decide_eq_true_eq, decide_eq_true_eq]; exact hr2)] at h2
                            have hd : ∀ s, lagsF l 0 E s = (lagF false l 0 E s, lagF true l 0 E s) := fun _ => rfl
                            rw [hd] at h1 h2
                            simp only [Prod.mk.injEq, and_true] at h1 h2
                            have hgrow := fun e (j : Nat) hj p1 p2 => lag_grow HOK.out e (t := t) hr1.1 (j := j) hj p1 p2
                            rw [HEE.out, h3] at hgrow
                            have hgA := fun j hj p1 p2 => hgrow false j hj p1 p2
                            have hgB := fun j hj p1 p2 => hgrow true j hj p1 p2
                            rw [h1.1, h2.1] at hgA
                            rw [h1.2, h2.2] at hgB
                            have HGA := Lib.hid hgA
                            have HGB := Lib.hid hgB
                            have HR12 := Lib.hid (And.intro hr1 (And.intro hr2 h3))
                            have hb0 := lagF_in HOK.out false 0 E t
                            have hb1 := lagF_in HOK.out true 0 E t
                            rw [h1.1] at hb0
                            rw [h1.2] at hb1
                            have HBN := Lib.hid (And.intro hb0 hb1)
                            clear hE h1 h2 h3 hr1 hr2 hd hgrow hgA hgB hb0 hb1
                            obtain ⟨lb, lof, ea, _⟩ := (HMB.out.next HBB.out).fl.at (by have := line_few HOK.out; omega)
                            subst ea
                            go_wp2_with fail
                            go_loopw [33] (fun i wr => ∃ k : Nat, k < l.length ∧ i = .int .i64 k ∧ posF l k ≤ t ∧ Below WB.heap.size WB wr) (fun i _ => l.length - (intOf i).toNat)
                            case atStart => exact ⟨0, by have := line_few HOK.out; omega, rfl, by have := HR12.out; show (0 : Int) ≤ t; omega, Below.refl _ _⟩
                            case round =>
                              obtain ⟨k, hk, rfl, hpk, hbw⟩ := hrel
                              have hl12 := HL12.out
                              have hbz := HBB.out.trans (hbw.mono HBB.out.size)
                              have hfl := (HMB.out.next hbz).fl
                              have hcap : l.length ≤ c := by
                                obtain ⟨_, ⟨h0, _⟩ | ⟨b', off', cap, e, h1, _⟩⟩ := hfl
                                · subst h0; simp at hk
                                · simp only [Value.slice.injEq] at e; omega
                              have hln : (l.take (k + 1)).length = k + 1 := by simp; omega
                              have KE := End_any (l.take (k + 1)) (.slice (some ⟨lb, lof, none⟩) (k + 1) c) wr (hfl.take (i := k + 1) (by omega) (by omega)) (fun j hj => by
                                rw [hln] at hj
                                rw [pos_take l (k + 1) j hj]
                                have := pos_small HOK.out (i := j) (by omega)
                                omega)
                              have he : endF (l.take (k + 1)) = posF l (k + 1) := by unfold endF; rw [hln, pos_take l (k + 1) (k + 1) (Nat.le_refl _)]
                              rw [he] at KE
                              have hend : endF l = posF l l.length := rfl
                              rw [HEE.out] at hend
                              have hr := HR12.out
                              have v1 : IntKind.i64.wrap ((k : Int) + 1) = ((k + 1 : Nat) : Int) := by rw [IntWalk.i64_in _ (by omega)]; omega
                              have ik0 : (0 : Int) ≤ ((k + 1 : Nat) : Int) := by omega
                              have ik1 : ((k + 1 : Nat) : Int) ≤ (c : Int) := by omega
                              have ik2 : k + 1 ≤ c := by omega
                              have y0 := one_cell (HMB.out.next hbz).pl
                              have hgA := HGA.out k hk hpk
                              have hgB := HGB.out k hk hpk
                              obtain ⟨p1, hp1⟩ : ∃ z, posF l (k + 1) = z := ⟨_, rfl⟩
                              rw [hp1] at KE hgA hgB
                              have HP1 := Lib.hid hp1
                              have KEE := Lib.hid KE
                              by_cases hle : p1 ≤ t
                              · have hk2 : k + 1 < l.length := by
                                  by_cases e : k + 1 = l.length
                                  · rw [e] at hp1; omega
                                  · omega
                                have HK2 := Lib.hid hk2
                                have HBW := Lib.hid hbw
                                clear hl12 hbz hfl hcap hln KE he hend hr hgA hgB hp1 hbw hpk hk2
                                go_wp2_with (go_at_call 25; (with_reducible refine KEE.out.mono ?_); rintro e w9 ⟨rfl, rfl⟩)
                                go_roundw
                                case rel => exact ⟨k + 1, HK2.out, rfl, by rw [HP1.out]; exact hle, HBW.out⟩
                                case measure => simp [intOf]; have := HK2.out; omega
                              · obtain ⟨_, _, e7, hlb, hlx⟩ := hfl.at (by omega)
                                cases e7
                                have x1 := hlx k hk 1 (by omega)
                                have hga := hgA (by omega)
                                have hgb := hgB (by omega)
                                have hpi := pipe_in HOK.out hk
                                obtain ⟨⟨s0, s1, s2⟩, hrow⟩ : ∃ z : Pi, l.getD k default = z := ⟨_, rfl⟩
                                rw [hrow] at x1 hga hgb hpi
                                simp only [piC] at x1 hga hgb hpi
                                have hbn := HBN.out
                                have v2 : IntKind.i64.wrap (2 * s1) = 2 * s1 := IntWalk.i64_in _ (by omega)
                                have v3 : IntKind.i64.wrap (g0 + 2 * s1) = g0 + 2 * s1 := IntWalk.i64_in _ (by omega)
                                have v4 : IntKind.i64.wrap (q0 + 2 * s1) = q0 + 2 * s1 := IntWalk.i64_in _ (by omega)
                                have b1 : decide (g0 + 2 * s1 ≤ g1) = true := decide_eq_true (by omega)
                                have b2 : decide (q0 + 2 * s1 ≤ q1) = true := decide_eq_true (by omega)
                                have b3 : g0 + 2 * s1 ≤ g1 := by omega
                                have b4 : q0 + 2 * s1 ≤ q1 := by omega
                                have ij0 : (0 : Int) ≤ (k : Int) := by omega
                                have ij1 : (k : Int) < (l.length : Int) := Int.ofNat_lt.2 hk
                                obtain ⟨z0, z1⟩ := two_cells (box_step (w0 := w) HA2.out hbw)
                                obtain ⟨z2, z3⟩ := two_cells (box_step (w0 := w) HB2.out hbw)
                                have HBZ := Lib.hid ((HMB.out.next hbz).fb)
                                clear hl12 hbz hfl hcap hln KE he hend hr hgA hgB hp1 hbw hpk hlb hlx hga hgb hpi hrow hbn
                                go_wp2_with (first | (go_at_call 25; (with_reducible refine KEE.out.mono ?_); rintro e w9 ⟨rfl, rfl⟩) | (go_at_call 12; fail))
                                refine (KA.out _).mono ?_
                                rintro e9 wz ⟨rfl, hbz⟩
                                go_wp2
                                go_ret
                                exact ⟨rfl, HBZ.out.trans (hbz.mono HBZ.out.size)⟩
                        · have hf2 : (f1 == 0) = false := by simp [hf1]
                          have HBZ := Lib.hid ((HMB.out.next HBB.out).fb)
                          go_wp2_with (go_at_call 12; fail)
                          refine (KA.out _).mono ?_
                          rintro e9 wz ⟨rfl, hbz⟩
                          go_wp2
                          go_ret
                          exact ⟨rfl, HBZ.out.trans (hbz.mono HBZ.out.size)⟩
                      · have hf2 : (f0 == 0) = false := by simp [hf0]
                        have HBZ := Lib.hid ((HMB.out.next HBB.out).fb)
                        go_wp2_with (go_at_call 12; fail)
                        refine (KA.out _).mono ?_
                        rintro e9 wz ⟨rfl, hbz⟩
                        go_wp2
                        go_ret
                        exact ⟨rfl, HBZ.out.trans (hbz.mono HBZ.out.size)⟩
end Go.Proofs.Ytdbjifpnbghbaaa
