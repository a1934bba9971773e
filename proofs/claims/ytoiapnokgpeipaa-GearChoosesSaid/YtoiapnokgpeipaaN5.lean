/- GearNearest: the walk. -/
import Derived.Test.YtoiapnokgpeipaaS5
import Derived.Test.YtoiapnokgpeipaaN3
namespace Go.Proofs.Ytoiapnokgpeipaa
set_option linter.unusedSimpArgs false
open Go.RowKit Go.Maps

theorem boxG (w : World) (t r p o : Int) (same : Bool) : ∃ W0, W0 = w.alloc (.cells #[.int .i64 t, .int .i64 r, .bool same, .int .i64 p, .int .i64 o] 24) ∧ Below w.heap.size w W0 ∧ W0.heap[w.heap.size]? = some (.cells #[.int .i64 t, .int .i64 r, .bool same, .int .i64 p, .int .i64 o] 24) ∧ W0.heap.size = w.heap.size + 1 :=
  ⟨_, rfl, (Below.refl _ _).alloc (Nat.le_refl _) _, (MapKept.heap_alloc w _).1, by simp⟩
theorem able_not {S P : List (Int × Int)} {p o i : Int} {same : Bool} : ableC S p o same P i ≠ 11 := by
  have h0 : pairsErr P p o ≠ 11 := by
    unfold pairsErr
    split
    · omega
    · cases hf : P.find? (fun x => pairErr o x != 0) with
      | none => simp
      | some y =>
        simp only [Option.map_some, Option.getD_some]
        unfold pairErr
        split
        · split <;> omega
        · omega
  unfold ableC
  split
  · exact h0
  · repeat (split; omega)
    omega
/-- what Build answers of a train, if stock and gearing are valid -/
theorem build_says {S P : List (Int × Int)} {t r p o i : Int} {same : Bool} (hs : stockB S = true) (hg : gearB t r p o = true) :
    (ableC S p o same P i = 0 ∧ exA t r P = 0 ∧ buildC S t r p o same P i = (wheelsN P i, 0)) ∨ (ableC S p o same P i = 0 ∧ exA t r P ≠ 0 ∧ buildC S t r p o same P i = (0, 11)) ∨
    ∃ e, ableC S p o same P i ≠ 0 ∧ buildC S t r p o same P i = (0, e) ∧ e ≠ 0 ∧ e ≠ 11 := by
  rw [build_eq]
  unfold refBuildC
  rw [hs, hg]
  simp only [Bool.and_self, if_true]
  by_cases h : ableC S p o same P i = 0
  · rw [if_neg (by simp [h])]
    by_cases h2 : exA t r P = 0
    · refine .inl ⟨h, h2, ?_⟩
      have : (prodW (drns P) * r == prodW (drvs P) * t) = true := by unfold exA at h2; simp; omega
      rw [this]; rfl
    · refine .inr (.inl ⟨h, h2, ?_⟩)
      have : (prodW (drns P) * r == prodW (drvs P) * t) = false := by unfold exA at h2; simp; omega
      rw [this]; rfl
  · rw [if_pos h]
    exact .inr (.inr ⟨_, h, rfl, h, able_not⟩)
theorem ex_bd {t r : Int} {P : List (Int × Int)} (ht : 1 ≤ t ∧ t ≤ 1000) (hr : 1 ≤ r ∧ r ≤ 1000) (ha : 1 ≤ prodW (drvs P) ∧ prodW (drvs P) ≤ 1000000) (hb : 1 ≤ prodW (drns P) ∧ prodW (drns P) ≤ 1000000) :
    -1000000000 ≤ exA t r P ∧ exA t r P ≤ 1000000000 ∧ 1 ≤ exB r P ∧ exB r P ≤ 1000000000 := by
  have p1 := mul_bd (x := prodW (drvs P)) (y := t) (by omega) ha.2 (by omega) ht.2
  have p2 := mul_bd (x := prodW (drns P)) (y := r) (by omega) hb.2 (by omega) hr.2
  have p3 : 0 < prodW (drns P) * r := Int.mul_pos (by omega) (by omega)
  unfold exA exB
  omega
theorem excess_gen (t r p o : Int) (same : Bool) (P : List (Int × Int)) (v : Value) (i : Int) (w : World) (hP : WheelsAt w v P) (ht : 1 ≤ t ∧ t ≤ 1000) (hr : 1 ≤ r ∧ r ≤ 1000) (ha : 1 ≤ prodW (drvs P) ∧ prodW (drvs P) ≤ 1000000) (hb : 1 ≤ prodW (drns P) ∧ prodW (drns P) ≤ 1000000) :
    Calls Try.prog 30 #[.agg #[.int .i64 t, .int .i64 r, .bool same, .int .i64 p, .int .i64 o], .agg #[v, .int .i64 i]] w fun e w' =>
      e = .returned (.tuple #[.int .i64 (exA t r P), .int .i64 (exB r P)]) ∧ Below w.heap.size w w' := excessRef_any t r p o same P v i w hP ht hr ha hb
theorem max_dist (n : Int) : (if n < -n then -n else n) = distB n := by unfold distB; split <;> split <;> omega
theorem max_prod {A E X Y : Int} (h : -1000000000 ≤ A ∧ A ≤ 1000000000 ∧ 1 ≤ E ∧ E ≤ 1000000000) (h2 : -1000000000 ≤ X ∧ X ≤ 1000000000 ∧ 1 ≤ Y ∧ Y ≤ 1000000000) (hn : ¬ distB A * Y < distB X * E) :
    ¬ wrap64 ((if A < -A then -A else A) * Y) < wrap64 ((if X < -X then -X else X) * E) := by
  rw [max_dist, max_dist]
  have b1 := distB_bd h.1 h.2.1
  have b2 := distB_bd h2.1 h2.2.1
  have p1 := mul_bd b1.1 b1.2 (show 0 ≤ Y by omega) h2.2.2.2
  have p2 := mul_bd b2.1 b2.2 (show 0 ≤ E by omega) h.2.2.2
  rw [IntWalk.wrap64_in _ (by omega), IntWalk.wrap64_in _ (by omega)]
  exact hn
theorem same_self (P : List (Int × Int)) (a a' : Option Addr) (c c' : Nat) (i : Int) (w : World) (h1 : WheelsAt w (.slice a P.length c) P) (h2 : WheelsAt w (.slice a' P.length c') P) :
    Calls Try.prog 21 #[.agg #[.slice a P.length c, .int .i64 i], .agg #[.slice a' P.length c', .int .i64 i]] w fun e w' => e = .returned (.bool true) ∧ Below w.heap.size w w' := by
  have := same_any P P _ _ i i w h1 h2
  rw [show sameB P i P i = true by unfold sameB; simp] at this
  exact this

set_option maxRecDepth 100000 in
set_option maxHeartbeats 12800000 in
theorem nearestLaw_any (S : List (Int × Int)) (L : List Nat) (sv bv : Value) (t r p o : Int) (same : Bool) (w : World) (hS : WheelsAt w sv S) (hL : BytesAt w bv L) (hss : ∀ b off n c, sv = .slice (some ⟨b, off, none⟩) n c → b < w.heap.size) :
    Calls Try.prog 8 #[sv, .agg #[.int .i64 t, .int .i64 r, .bool same, .int .i64 p, .int .i64 o], bv] w
      fun e w' => e = .returned (.bool true) ∧ Below w.heap.size w w' := by
  obtain ⟨sa, sc, rfl⟩ := hS.shape
  obtain ⟨ba, bc, rfl⟩ := hL.shape
  have hsl : S.length ≤ 9223372036854775807 := hS.1
  obtain ⟨W0, hW0, hbw, hG, hz0⟩ := boxG w t r p o same
  have hzz : w.heap.size + 1 ≤ W0.heap.size := by omega
  clear hz0
  have hgr := great_any sa S.length sc 6 W0 hsl
  obtain ⟨gr, hgre⟩ : ∃ gr, greatB S.length 6 = gr := ⟨_, rfl⟩
  rw [hgre] at hgr
  clear hgre
  have ha := fun X => alive_any X
  have HA := Lib.hid ha
  clear ha
  go_enter Try.func8, Try.ntmps8
  go_wp2_with fail
  rw [← hW0]
  clear hW0
  refine hgr.mono ?_
  rintro e w1 ⟨rfl, rfl⟩
  clear hgr
  cases gr with
  | true =>
    clear hG
    go_wp2_with fail
    refine (HA.out _).mono ?_
    rintro e wq ⟨rfl, hbq⟩
    go_wp2
    go_ret
    exact ⟨rfl, hbw.trans (hbq.mono hbw.size)⟩
  | false =>
  have hrs := refStock_any S (.slice sa S.length sc) W0 (hS.below hbw)
  obtain ⟨st, hst⟩ : ∃ st, stockB S = st := ⟨_, rfl⟩
  rw [hst] at hrs
  have HRS := Lib.hid hrs
  have HST := Lib.hid hst
  clear hrs hst
  go_wp2_with fail
  refine HRS.out.mono ?_
  rintro e w2 ⟨rfl, hb2⟩
  clear HRS
  replace hG := (hb2.block w.heap.size (by omega)).trans hG
  replace hbw := hbw.trans (hb2.mono (by omega))
  replace hzz := Nat.le_trans hzz hb2.size
  clear hb2
  cases st with
  | false =>
    clear hG
    go_wp2_with fail
    refine (HA.out _).mono ?_
    rintro e wq ⟨rfl, hbq⟩
    go_wp2
    go_ret
    exact ⟨rfl, hbw.trans (hbq.mono hbw.size)⟩
  | true =>
  have hrg := refGearing_any t r p o same w2
  obtain ⟨ge, hge⟩ : ∃ ge, gearB t r p o = ge := ⟨_, rfl⟩
  rw [hge] at hrg
  have HRG := Lib.hid hrg
  have HGE := Lib.hid hge
  clear hrg hge
  obtain ⟨g0, g1, g2, g3, g4⟩ := gcells hG
  go_wp2_with fail
  refine HRG.out.mono ?_
  rintro e w3 ⟨rfl, hb3⟩
  clear HRG g0 g1 g2 g3 g4
  replace hG := (hb3.block w.heap.size (by omega)).trans hG
  replace hbw := hbw.trans (hb3.mono (by omega))
  replace hzz := Nat.le_trans hzz hb3.size
  clear hb3
  cases ge with
  | false =>
    clear hG
    go_wp2_with fail
    refine (HA.out _).mono ?_
    rintro e wq ⟨rfl, hbq⟩
    go_wp2
    go_ret
    exact ⟨rfl, hbw.trans (hbq.mono hbw.size)⟩
  | true =>
  have hgi := gearB_iff.1 HGE.out
  have ht2 : 1 ≤ t ∧ t ≤ 1000 := ⟨hgi.1, hgi.2.1⟩
  have hr2 : 1 ≤ r ∧ r ≤ 1000 := ⟨hgi.2.2.1, hgi.2.2.2.1⟩
  have hp2 : 0 ≤ p ∧ p ≤ 3 := ⟨hgi.2.2.2.2.1, hgi.2.2.2.2.2.1⟩
  clear hgi
  obtain ⟨P1, i1, x1, ne1, hnear⟩ := nearOf_any t r (nearC S t r p o same)
  obtain ⟨P2, i2, nw, ne2, hrow⟩ := rowOf_any (chooseC S t r p o same)
  have hl1 : P1.length ≤ 3 := near_len hnear
  have hl2 : P2.length ≤ 3 := chosen_len hrow
  have HF := Lib.hid (near_choose HST.out HGE.out hnear hrow)
  have hnr := near_gen hnear (hS.below hbw) (fun b off e => Nat.lt_of_lt_of_le (hss b off S.length sc (by rw [e])) hbw.size)
  have HROW := Lib.hid hrow
  have HNR := Lib.hid hnr
  clear hnear hrow hnr
  obtain ⟨g0, g1, g2, g3, g4⟩ := gcells hG
  go_wp2_with fail
  refine HNR.out.mono ?_
  rintro e w4 ⟨a1, c1, rfl, hown1, hb4⟩
  clear HNR g0 g1 g2 g3 g4
  replace hG := (hb4.block w.heap.size (by omega)).trans hG
  replace hbw := hbw.trans (hb4.mono (by omega))
  replace hzz := Nat.le_trans hzz hb4.size
  clear hb4
  have hP1 : WheelsAt w4 (.slice a1 P1.length c1) P1 := wheels_own hown1 (by omega)
  clear hown1
  obtain ⟨W5, hW5, hb5, hT, hz5⟩ := box27 w4 (.slice a1 P1.length c1) i1
  obtain ⟨B1, hB1⟩ : ∃ B, B = w4.heap.size := ⟨_, rfl⟩
  rw [← hB1] at hT hz5
  have hTz : B1 < W5.heap.size := by omega
  have hch := chose_gen HROW.out (hS.below (hbw.trans (hb5.mono (by omega)))) (fun b off e => Nat.lt_of_lt_of_le (hss b off S.length sc (by rw [e])) (Nat.le_trans hbw.size hb5.size))
  have HCH := Lib.hid hch
  have HB1 := Lib.hid hB1
  have HB1' : w.heap.size < B1 := by omega
  obtain ⟨g0, g1, g2, g3, g4⟩ := gcells ((hb5.block w.heap.size (by omega)).trans hG)
  rw [hW5] at g0 g1 g2 g3 g4
  clear hch hB1 HROW hz5
  go_wp2_with fail
  rw [← hW5, ← HB1.out]
  clear hW5 g0 g1 g2 g3 g4
  refine HCH.out.mono ?_
  rintro e w6 ⟨a2, c2, rfl, hown2, hb6⟩
  clear HCH
  replace hG := (hb5.block w.heap.size (by omega)).trans hG
  replace hP1 := hP1.below hb5
  replace hbw := hbw.trans (hb5.mono (by omega))
  replace hzz := Nat.le_trans hzz hb5.size
  clear hb5 HB1
  replace hG := (hb6.block w.heap.size (by omega)).trans hG
  replace hT := (hb6.block B1 (by omega)).trans hT
  replace hP1 := hP1.below hb6
  replace hbw := hbw.trans (hb6.mono (by omega))
  replace hzz := Nat.le_trans hzz hb6.size
  replace hTz := Nat.lt_of_lt_of_le hTz hb6.size
  clear hb6
  have hP2 : WheelsAt w6 (.slice a2 P2.length c2) P2 := wheels_own hown2 (by omega)
  clear hown2
  obtain ⟨W7, hW7, hb7, hC, hz7⟩ := box27 w6 (.slice a2 P2.length c2) i2
  obtain ⟨B2, hB2⟩ : ∃ B, B = w6.heap.size := ⟨_, rfl⟩
  rw [← hB2] at hC hz7
  have hCz : B2 < W7.heap.size := by omega
  have HB2 := Lib.hid hB2
  have HB2' : B1 < B2 := by omega
  have hot := other_any S L (.slice sa S.length sc) (.slice ba L.length bc) t r p o same W7 (hS.below (hbw.trans (hb7.mono (by omega)))) (hL.below (hbw.trans (hb7.mono (by omega)))) hp2
  have HOT := Lib.hid hot
  obtain ⟨g0, g1, g2, g3, g4⟩ := gcells ((hb7.block w.heap.size (by omega)).trans hG)
  rw [hW7] at g0 g1 g2 g3 g4
  clear hot hB2 hz7
  go_wp2_with fail
  rw [← hW7, ← HB2.out]
  clear hW7 g0 g1 g2 g3 g4
  refine HOT.out.mono ?_
  rintro e w8 ⟨a3, c3, P3, i3, rfl, hl3, hown3, hb8⟩
  clear HOT
  replace hG := (hb7.block w.heap.size (by omega)).trans hG
  replace hT := (hb7.block B1 (by omega)).trans hT
  replace hP1 := hP1.below hb7
  replace hP2 := hP2.below hb7
  replace hbw := hbw.trans (hb7.mono (by omega))
  replace hzz := Nat.le_trans hzz hb7.size
  replace hTz := Nat.lt_of_lt_of_le hTz hb7.size
  clear hb7 HB2
  replace hG := (hb8.block w.heap.size (by omega)).trans hG
  replace hT := (hb8.block B1 (by omega)).trans hT
  replace hC := (hb8.block B2 (by omega)).trans hC
  replace hP1 := hP1.below hb8
  replace hP2 := hP2.below hb8
  replace hbw := hbw.trans (hb8.mono (by omega))
  replace hzz := Nat.le_trans hzz hb8.size
  replace hTz := Nat.lt_of_lt_of_le hTz hb8.size
  replace hCz := Nat.lt_of_lt_of_le hCz hb8.size
  clear hb8
  have hP3 : WheelsAt w8 (.slice a3 P3.length c3) P3 := wheels_own hown3 (by omega)
  clear hown3
  obtain ⟨W9, hW9, hb9, hO, hz9⟩ := box27 w8 (.slice a3 P3.length c3) i3
  obtain ⟨B3, hB3⟩ : ∃ B, B = w8.heap.size := ⟨_, rfl⟩
  rw [← hB3] at hO hz9
  have hOz : B3 < W9.heap.size := by omega
  have HB3' : B2 < B3 := by omega
  have HB3 := Lib.hid hB3
  have hbu := build_any S (.slice sa S.length sc) t r p o same P3 (.slice a3 P3.length c3) i3 W9 (hS.below (hbw.trans (hb9.mono (by omega)))) (hP3.below hb9) (fun b off n c e => Nat.lt_of_lt_of_le (hss b off n c e) (Nat.le_trans hbw.size hb9.size))
  have hsays := build_says (P := P3) (i := i3) (same := same) HST.out HGE.out
  obtain ⟨Q, hQ⟩ : ∃ Q, buildC S t r p o same P3 i3 = Q := ⟨_, rfl⟩
  rw [hQ] at hbu hsays
  clear hQ
  obtain ⟨m3, h3⟩ := Q
  have HBU := Lib.hid hbu
  have HSA := Lib.hid hsays
  obtain ⟨g0, g1, g2, g3, g4⟩ := gcells ((hb9.block w.heap.size (by omega)).trans hG)
  obtain ⟨f0, f1⟩ := tcells hO
  rw [hW9] at g0 g1 g2 g3 g4 f0 f1
  rw [HB3.out] at f0 f1
  clear hbu hsays hB3 hz9
  go_wp2_with fail
  rw [← hW9, ← HB3.out]
  clear hW9 g0 g1 g2 g3 g4 f0 f1
  refine HBU.out.mono ?_
  rintro e wa ⟨rfl, hba⟩
  clear HBU
  replace hG := (hb9.block w.heap.size (by omega)).trans hG
  replace hT := (hb9.block B1 (by omega)).trans hT
  replace hC := (hb9.block B2 (by omega)).trans hC
  replace hP1 := hP1.below hb9
  replace hP2 := hP2.below hb9
  replace hP3 := hP3.below hb9
  replace hbw := hbw.trans (hb9.mono (by omega))
  replace hzz := Nat.le_trans hzz hb9.size
  replace hTz := Nat.lt_of_lt_of_le hTz hb9.size
  replace hCz := Nat.lt_of_lt_of_le hCz hb9.size
  clear hb9 HB3
  replace hG := (hba.block w.heap.size (by omega)).trans hG
  replace hT := (hba.block B1 (by omega)).trans hT
  replace hC := (hba.block B2 (by omega)).trans hC
  replace hO := (hba.block B3 (by omega)).trans hO
  replace hP1 := hP1.below hba
  replace hP2 := hP2.below hba
  replace hP3 := hP3.below hba
  replace hbw := hbw.trans (hba.mono (by omega))
  replace hzz := Nat.le_trans hzz hba.size
  replace hTz := Nat.lt_of_lt_of_le hTz hba.size
  replace hCz := Nat.lt_of_lt_of_le hCz hba.size
  replace hOz := Nat.lt_of_lt_of_le hOz hba.size
  clear hba
  rcases HSA.out with ⟨hab, hex3, hq⟩ | ⟨hab, hex3, hq⟩ | ⟨e3, hab, hq, hn0, hn11⟩
  · obtain ⟨hm3, rfl⟩ := Prod.mk.inj hq
    clear hm3 hq HSA
    clear hex3
    rcases HF.out with ⟨⟨rfl, rfl, rfl, rfl⟩, ⟨rfl, rfl, rfl, rfl⟩, hno⟩ | ⟨rfl, hnf, hc⟩
    · exact absurd hab (hno _ _)
    · clear HF
      rcases hc with ⟨ha0, hp, hi, hnw, rfl⟩ | ⟨ha0, rfl, rfl, rfl, rfl⟩
      · obtain rfl := hp.symm
        obtain rfl := hi.symm
        obtain ⟨hab1, hx1, hbest⟩ := hnf
        have hbd1 := able_bd hp2.2 hab1
        have hbe1 := ex_bd (t := t) (r := r) ht2 hr2 hbd1.1 hbd1.2
        have hb1 : buildC S t r p o same P1 i1 = (wheelsN P1 i1, 0) := by
          rcases build_says (P := P1) (i := i1) (same := same) HST.out HGE.out with ⟨_, h, hq⟩ | ⟨_, h, hq⟩ | ⟨_, h, _⟩
          · exact hq
          · exact absurd ha0 h
          · exact absurd hab1 h
        have hbu := build_any S (.slice sa S.length sc) t r p o same P1 (.slice a1 P1.length c1) i1 wa (hS.below hbw) hP1 (fun b off n c e => Nat.lt_of_lt_of_le (hss b off n c e) hbw.size)
        rw [hb1] at hbu
        clear hb1
        obtain ⟨wn, hwn⟩ : ∃ wn, wheelsN P1 i1 = wn := ⟨_, rfl⟩
        rw [hwn] at hbu hnw
        have HWN := Lib.hid hwn
        have HBU := Lib.hid hbu
        clear hwn hbu
        obtain ⟨A1, hA1⟩ : ∃ A, exA t r P1 = A := ⟨_, rfl⟩
        obtain ⟨E1, hE1⟩ : ∃ A, exB r P1 = A := ⟨_, rfl⟩
        rw [hA1] at ha0 hx1 hbe1
        rw [hE1] at hx1 hbe1
        subst hnw
        have HA1 := Lib.hid hA1
        have HE1 := Lib.hid hE1
        have HX1 := Lib.hid hx1
        have HB1 := Lib.hid hbest
        have HBD1 := Lib.hid hbd1
        clear hA1 hE1 hx1 hbest hbd1
        obtain ⟨g0, g1, g2, g3, g4⟩ := gcells hG
        obtain ⟨f0, f1⟩ := tcells hT
        go_wp2_with fail
        refine HBU.out.mono ?_
        rintro e wb ⟨rfl, hbb⟩
        clear HBU g0 g1 g2 g3 g4 f0 f1
        replace hG := (hbb.block w.heap.size (by omega)).trans hG
        replace hT := (hbb.block B1 (by omega)).trans hT
        replace hC := (hbb.block B2 (by omega)).trans hC
        replace hO := (hbb.block B3 (by omega)).trans hO
        replace hP1 := hP1.below hbb
        replace hP2 := hP2.below hbb
        replace hP3 := hP3.below hbb
        replace hbw := hbw.trans (hbb.mono (by omega))
        replace hzz := Nat.le_trans hzz hbb.size
        replace hTz := Nat.lt_of_lt_of_le hTz hbb.size
        replace hCz := Nat.lt_of_lt_of_le hCz hbb.size
        replace hOz := Nat.lt_of_lt_of_le hOz hbb.size
        clear hbb
        have hex := excess_gen t r p o same P1 (.slice a1 P1.length c1) i1 wb hP1 ht2 hr2 HBD1.out.1 HBD1.out.2
        rw [HA1.out, HE1.out] at hex
        have HEX := Lib.hid hex
        clear hex
        obtain ⟨g0, g1, g2, g3, g4⟩ := gcells hG
        obtain ⟨f0, f1⟩ := tcells hT
        go_wp2_with fail
        refine HEX.out.mono ?_
        rintro e wc ⟨rfl, hbc⟩
        clear HEX g0 g1 g2 g3 g4 f0 f1
        replace hG := (hbc.block w.heap.size (by omega)).trans hG
        replace hT := (hbc.block B1 (by omega)).trans hT
        replace hC := (hbc.block B2 (by omega)).trans hC
        replace hO := (hbc.block B3 (by omega)).trans hO
        replace hP1 := hP1.below hbc
        replace hP2 := hP2.below hbc
        replace hP3 := hP3.below hbc
        replace hbw := hbw.trans (hbc.mono (by omega))
        replace hzz := Nat.le_trans hzz hbc.size
        replace hTz := Nat.lt_of_lt_of_le hTz hbc.size
        replace hCz := Nat.lt_of_lt_of_le hCz hbc.size
        replace hOz := Nat.lt_of_lt_of_le hOz hbc.size
        clear hbc
        have z1 : (A1 == 0) = true := by simp [ha0]
        have z2 : (A1 != 0) = false := by simp [ha0]
        have z3 : decide (E1 < 1) = false := by simp; omega
        have z4 : -1000000000000000 ≤ A1 * 1000000 := by omega
        have z5 : A1 * 1000000 ≤ 1000000000000000 := by omega
        have hdn := down_any (A1 * 1000000) E1 wc (by omega) (by omega) (by omega) (by omega)
        have z6 : (x1 != A1 * 1000000 / E1) = false := by simp [HX1.out]
        have HDN := Lib.hid hdn
        clear hdn ha0
        go_wp2_with fail
        refine HDN.out.mono ?_
        rintro e wd ⟨rfl, rfl⟩
        clear HDN
        obtain ⟨f0, f1⟩ := tcells hT
        obtain ⟨k0, k1⟩ := tcells hC
        go_wp2_with fail
        clear z6
        refine (same_self P1 a1 a2 c1 c2 i1 wc hP1 hP2).mono ?_
        rintro e we ⟨rfl, hbe⟩
        clear f0 f1 k0 k1
        replace hG := (hbe.block w.heap.size (by omega)).trans hG
        replace hT := (hbe.block B1 (by omega)).trans hT
        replace hC := (hbe.block B2 (by omega)).trans hC
        replace hO := (hbe.block B3 (by omega)).trans hO
        replace hP1 := hP1.below hbe
        replace hP2 := hP2.below hbe
        replace hP3 := hP3.below hbe
        replace hbw := hbw.trans (hbe.mono (by omega))
        replace hzz := Nat.le_trans hzz hbe.size
        replace hTz := Nat.lt_of_lt_of_le hTz hbe.size
        replace hCz := Nat.lt_of_lt_of_le hCz hbe.size
        replace hOz := Nat.lt_of_lt_of_le hOz hbe.size
        clear hbe
        obtain ⟨f0, f1⟩ := tcells hT
        have hwh := wheels_any P1 a1 c1 P1.length i1 we rfl (by omega)
        rw [HWN.out] at hwh
        have HWH := Lib.hid hwh
        clear hwh
        go_wp2_with fail
        refine HWH.out.mono ?_
        rintro e wf ⟨rfl, hbf⟩
        clear HWH f0 f1
        replace hG := (hbf.block w.heap.size (by omega)).trans hG
        replace hT := (hbf.block B1 (by omega)).trans hT
        replace hC := (hbf.block B2 (by omega)).trans hC
        replace hO := (hbf.block B3 (by omega)).trans hO
        replace hP1 := hP1.below hbf
        replace hP2 := hP2.below hbf
        replace hP3 := hP3.below hbf
        replace hbw := hbw.trans (hbf.mono (by omega))
        replace hzz := Nat.le_trans hzz hbf.size
        replace hTz := Nat.lt_of_lt_of_le hTz hbf.size
        replace hCz := Nat.lt_of_lt_of_le hCz hbf.size
        replace hOz := Nat.lt_of_lt_of_le hOz hbf.size
        clear hbf
        have hbd3 := able_bd hp2.2 hab
        have hbe3 := ex_bd (t := t) (r := r) ht2 hr2 hbd3.1 hbd3.2
        have hno := HB1.out P3 i3 hab
        have hex := excess_gen t r p o same P3 (.slice a3 P3.length c3) i3 wf hP3 ht2 hr2 hbd3.1 hbd3.2
        obtain ⟨A3, hA3⟩ : ∃ A, exA t r P3 = A := ⟨_, rfl⟩
        obtain ⟨E3, hE3⟩ : ∃ A, exB r P3 = A := ⟨_, rfl⟩
        rw [hA3, hE3] at hex hbe3 hno
        rw [HA1.out, HE1.out] at hno
        have HEX := Lib.hid hex
        have HNO := Lib.hid (max_prod (A := A3) (E := E3) (X := A1) (Y := E1) (by omega) (by omega) (by first | exact hno | exact Int.not_lt.2 hno))
        clear hA3 hE3 hex hno hbd3
        obtain ⟨g0, g1, g2, g3, g4⟩ := gcells hG
        obtain ⟨k0, k1⟩ := tcells hO
        go_wp2_with fail
        refine HEX.out.mono ?_
        rintro e wg ⟨rfl, hbg⟩
        clear HEX g0 g1 g2 g3 g4 k0 k1
        replace hG := (hbg.block w.heap.size (by omega)).trans hG
        replace hT := (hbg.block B1 (by omega)).trans hT
        replace hC := (hbg.block B2 (by omega)).trans hC
        replace hO := (hbg.block B3 (by omega)).trans hO
        replace hP1 := hP1.below hbg
        replace hP2 := hP2.below hbg
        replace hP3 := hP3.below hbg
        replace hbw := hbw.trans (hbg.mono (by omega))
        replace hzz := Nat.le_trans hzz hbg.size
        replace hTz := Nat.lt_of_lt_of_le hTz hbg.size
        replace hCz := Nat.lt_of_lt_of_le hCz hbg.size
        replace hOz := Nat.lt_of_lt_of_le hOz hbg.size
        clear hbg
        clear z1 z2 z3 z4 z5 hG hT hC hO
        go_wp2_with fail
        all_goals first
          | (exfalso; exact absurd ‹wrap64 _ < wrap64 _› (Int.not_lt.2 HNO.out))
          | (exfalso; exact absurd ‹wrap64 _ < wrap64 _› HNO.out)
          | (refine (HA.out _).mono ?_
             rintro e wq ⟨rfl, hbq⟩
             go_wp2
             go_ret
             exact ⟨rfl, hbw.trans (hbq.mono hbw.size)⟩)
      · obtain ⟨hab1, hx1, hbest⟩ := hnf
        have hbd1 := able_bd hp2.2 hab1
        have hbe1 := ex_bd (t := t) (r := r) ht2 hr2 hbd1.1 hbd1.2
        have hb1 : buildC S t r p o same P1 i1 = (0, 11) := by
          rcases build_says (P := P1) (i := i1) (same := same) HST.out HGE.out with ⟨_, h, hq⟩ | ⟨_, h, hq⟩ | ⟨_, h, _⟩
          · exact absurd h ha0
          · exact hq
          · exact absurd hab1 h
        have hbu := build_any S (.slice sa S.length sc) t r p o same P1 (.slice a1 P1.length c1) i1 wa (hS.below hbw) hP1 (fun b off n c e => Nat.lt_of_lt_of_le (hss b off n c e) hbw.size)
        rw [hb1] at hbu
        clear hb1
        obtain ⟨wn, hwn⟩ : ∃ wn, wheelsN P1 i1 = wn := ⟨_, rfl⟩
        have HWN := Lib.hid hwn
        have HBU := Lib.hid hbu
        clear hwn hbu
        obtain ⟨A1, hA1⟩ : ∃ A, exA t r P1 = A := ⟨_, rfl⟩
        obtain ⟨E1, hE1⟩ : ∃ A, exB r P1 = A := ⟨_, rfl⟩
        rw [hA1] at ha0 hx1 hbe1
        rw [hE1] at hx1 hbe1
        have HA1 := Lib.hid hA1
        have HE1 := Lib.hid hE1
        have HX1 := Lib.hid hx1
        have HB1 := Lib.hid hbest
        have HBD1 := Lib.hid hbd1
        clear hA1 hE1 hx1 hbest hbd1
        obtain ⟨g0, g1, g2, g3, g4⟩ := gcells hG
        obtain ⟨f0, f1⟩ := tcells hT
        go_wp2_with fail
        refine HBU.out.mono ?_
        rintro e wb ⟨rfl, hbb⟩
        clear HBU g0 g1 g2 g3 g4 f0 f1
        replace hG := (hbb.block w.heap.size (by omega)).trans hG
        replace hT := (hbb.block B1 (by omega)).trans hT
        replace hC := (hbb.block B2 (by omega)).trans hC
        replace hO := (hbb.block B3 (by omega)).trans hO
        replace hP1 := hP1.below hbb
        replace hP2 := hP2.below hbb
        replace hP3 := hP3.below hbb
        replace hbw := hbw.trans (hbb.mono (by omega))
        replace hzz := Nat.le_trans hzz hbb.size
        replace hTz := Nat.lt_of_lt_of_le hTz hbb.size
        replace hCz := Nat.lt_of_lt_of_le hCz hbb.size
        replace hOz := Nat.lt_of_lt_of_le hOz hbb.size
        clear hbb
        have hex := excess_gen t r p o same P1 (.slice a1 P1.length c1) i1 wb hP1 ht2 hr2 HBD1.out.1 HBD1.out.2
        rw [HA1.out, HE1.out] at hex
        have HEX := Lib.hid hex
        clear hex
        obtain ⟨g0, g1, g2, g3, g4⟩ := gcells hG
        obtain ⟨f0, f1⟩ := tcells hT
        go_wp2_with fail
        refine HEX.out.mono ?_
        rintro e wc ⟨rfl, hbc⟩
        clear HEX g0 g1 g2 g3 g4 f0 f1
        replace hG := (hbc.block w.heap.size (by omega)).trans hG
        replace hT := (hbc.block B1 (by omega)).trans hT
        replace hC := (hbc.block B2 (by omega)).trans hC
        replace hO := (hbc.block B3 (by omega)).trans hO
        replace hP1 := hP1.below hbc
        replace hP2 := hP2.below hbc
        replace hP3 := hP3.below hbc
        replace hbw := hbw.trans (hbc.mono (by omega))
        replace hzz := Nat.le_trans hzz hbc.size
        replace hTz := Nat.lt_of_lt_of_le hTz hbc.size
        replace hCz := Nat.lt_of_lt_of_le hCz hbc.size
        replace hOz := Nat.lt_of_lt_of_le hOz hbc.size
        clear hbc
        have z1 : (A1 == 0) = false := by simp [ha0]
        have z2 : (A1 != 0) = true := by simp [ha0]
        have z3 : decide (E1 < 1) = false := by simp; omega
        have z4 : -1000000000000000 ≤ A1 * 1000000 := by omega
        have z5 : A1 * 1000000 ≤ 1000000000000000 := by omega
        have hdn := down_any (A1 * 1000000) E1 wc (by omega) (by omega) (by omega) (by omega)
        have z6 : (x1 != A1 * 1000000 / E1) = false := by simp [HX1.out]
        have HDN := Lib.hid hdn
        clear hdn ha0
        go_wp2_with fail
        refine HDN.out.mono ?_
        rintro e wd ⟨rfl, rfl⟩
        clear HDN
        have hbd3 := able_bd hp2.2 hab
        have hbe3 := ex_bd (t := t) (r := r) ht2 hr2 hbd3.1 hbd3.2
        have hno := HB1.out P3 i3 hab
        have hex := excess_gen t r p o same P3 (.slice a3 P3.length c3) i3 wc hP3 ht2 hr2 hbd3.1 hbd3.2
        obtain ⟨A3, hA3⟩ : ∃ A, exA t r P3 = A := ⟨_, rfl⟩
        obtain ⟨E3, hE3⟩ : ∃ A, exB r P3 = A := ⟨_, rfl⟩
        rw [hA3, hE3] at hex hbe3 hno
        rw [HA1.out, HE1.out] at hno
        have HEX := Lib.hid hex
        have HNO := Lib.hid (max_prod (A := A3) (E := E3) (X := A1) (Y := E1) (by omega) (by omega) (by first | exact hno | exact Int.not_lt.2 hno))
        clear hA3 hE3 hex hno hbd3
        obtain ⟨g0, g1, g2, g3, g4⟩ := gcells hG
        obtain ⟨k0, k1⟩ := tcells hO
        go_wp2_with fail
        refine HEX.out.mono ?_
        rintro e wg ⟨rfl, hbg⟩
        clear HEX g0 g1 g2 g3 g4 k0 k1
        replace hG := (hbg.block w.heap.size (by omega)).trans hG
        replace hT := (hbg.block B1 (by omega)).trans hT
        replace hC := (hbg.block B2 (by omega)).trans hC
        replace hO := (hbg.block B3 (by omega)).trans hO
        replace hP1 := hP1.below hbg
        replace hP2 := hP2.below hbg
        replace hP3 := hP3.below hbg
        replace hbw := hbw.trans (hbg.mono (by omega))
        replace hzz := Nat.le_trans hzz hbg.size
        replace hTz := Nat.lt_of_lt_of_le hTz hbg.size
        replace hCz := Nat.lt_of_lt_of_le hCz hbg.size
        replace hOz := Nat.lt_of_lt_of_le hOz hbg.size
        clear hbg
        clear z1 z2 z3 z4 z5 hG hT hC hO
        go_wp2_with fail
        all_goals first
          | (exfalso; exact absurd ‹wrap64 _ < wrap64 _› (Int.not_lt.2 HNO.out))
          | (exfalso; exact absurd ‹wrap64 _ < wrap64 _› HNO.out)
          | (refine (HA.out _).mono ?_
             rintro e wq ⟨rfl, hbq⟩
             go_wp2
             go_ret
             exact ⟨rfl, hbw.trans (hbq.mono hbw.size)⟩)
  · obtain ⟨hm3, rfl⟩ := Prod.mk.inj hq
    clear hm3 hq HSA
    clear hex3
    rcases HF.out with ⟨⟨rfl, rfl, rfl, rfl⟩, ⟨rfl, rfl, rfl, rfl⟩, hno⟩ | ⟨rfl, hnf, hc⟩
    · exact absurd hab (hno _ _)
    · clear HF
      rcases hc with ⟨ha0, hp, hi, hnw, rfl⟩ | ⟨ha0, rfl, rfl, rfl, rfl⟩
      · obtain rfl := hp.symm
        obtain rfl := hi.symm
        obtain ⟨hab1, hx1, hbest⟩ := hnf
        have hbd1 := able_bd hp2.2 hab1
        have hbe1 := ex_bd (t := t) (r := r) ht2 hr2 hbd1.1 hbd1.2
        have hb1 : buildC S t r p o same P1 i1 = (wheelsN P1 i1, 0) := by
          rcases build_says (P := P1) (i := i1) (same := same) HST.out HGE.out with ⟨_, h, hq⟩ | ⟨_, h, hq⟩ | ⟨_, h, _⟩
          · exact hq
          · exact absurd ha0 h
          · exact absurd hab1 h
        have hbu := build_any S (.slice sa S.length sc) t r p o same P1 (.slice a1 P1.length c1) i1 wa (hS.below hbw) hP1 (fun b off n c e => Nat.lt_of_lt_of_le (hss b off n c e) hbw.size)
        rw [hb1] at hbu
        clear hb1
        obtain ⟨wn, hwn⟩ : ∃ wn, wheelsN P1 i1 = wn := ⟨_, rfl⟩
        rw [hwn] at hbu hnw
        have HWN := Lib.hid hwn
        have HBU := Lib.hid hbu
        clear hwn hbu
        obtain ⟨A1, hA1⟩ : ∃ A, exA t r P1 = A := ⟨_, rfl⟩
        obtain ⟨E1, hE1⟩ : ∃ A, exB r P1 = A := ⟨_, rfl⟩
        rw [hA1] at ha0 hx1 hbe1
        rw [hE1] at hx1 hbe1
        subst hnw
        have HA1 := Lib.hid hA1
        have HE1 := Lib.hid hE1
        have HX1 := Lib.hid hx1
        have HB1 := Lib.hid hbest
        have HBD1 := Lib.hid hbd1
        clear hA1 hE1 hx1 hbest hbd1
        obtain ⟨g0, g1, g2, g3, g4⟩ := gcells hG
        obtain ⟨f0, f1⟩ := tcells hT
        go_wp2_with fail
        refine HBU.out.mono ?_
        rintro e wb ⟨rfl, hbb⟩
        clear HBU g0 g1 g2 g3 g4 f0 f1
        replace hG := (hbb.block w.heap.size (by omega)).trans hG
        replace hT := (hbb.block B1 (by omega)).trans hT
        replace hC := (hbb.block B2 (by omega)).trans hC
        replace hO := (hbb.block B3 (by omega)).trans hO
        replace hP1 := hP1.below hbb
        replace hP2 := hP2.below hbb
        replace hP3 := hP3.below hbb
        replace hbw := hbw.trans (hbb.mono (by omega))
        replace hzz := Nat.le_trans hzz hbb.size
        replace hTz := Nat.lt_of_lt_of_le hTz hbb.size
        replace hCz := Nat.lt_of_lt_of_le hCz hbb.size
        replace hOz := Nat.lt_of_lt_of_le hOz hbb.size
        clear hbb
        have hex := excess_gen t r p o same P1 (.slice a1 P1.length c1) i1 wb hP1 ht2 hr2 HBD1.out.1 HBD1.out.2
        rw [HA1.out, HE1.out] at hex
        have HEX := Lib.hid hex
        clear hex
        obtain ⟨g0, g1, g2, g3, g4⟩ := gcells hG
        obtain ⟨f0, f1⟩ := tcells hT
        go_wp2_with fail
        refine HEX.out.mono ?_
        rintro e wc ⟨rfl, hbc⟩
        clear HEX g0 g1 g2 g3 g4 f0 f1
        replace hG := (hbc.block w.heap.size (by omega)).trans hG
        replace hT := (hbc.block B1 (by omega)).trans hT
        replace hC := (hbc.block B2 (by omega)).trans hC
        replace hO := (hbc.block B3 (by omega)).trans hO
        replace hP1 := hP1.below hbc
        replace hP2 := hP2.below hbc
        replace hP3 := hP3.below hbc
        replace hbw := hbw.trans (hbc.mono (by omega))
        replace hzz := Nat.le_trans hzz hbc.size
        replace hTz := Nat.lt_of_lt_of_le hTz hbc.size
        replace hCz := Nat.lt_of_lt_of_le hCz hbc.size
        replace hOz := Nat.lt_of_lt_of_le hOz hbc.size
        clear hbc
        have z1 : (A1 == 0) = true := by simp [ha0]
        have z2 : (A1 != 0) = false := by simp [ha0]
        have z3 : decide (E1 < 1) = false := by simp; omega
        have z4 : -1000000000000000 ≤ A1 * 1000000 := by omega
        have z5 : A1 * 1000000 ≤ 1000000000000000 := by omega
        have hdn := down_any (A1 * 1000000) E1 wc (by omega) (by omega) (by omega) (by omega)
        have z6 : (x1 != A1 * 1000000 / E1) = false := by simp [HX1.out]
        have HDN := Lib.hid hdn
        clear hdn ha0
        go_wp2_with fail
        refine HDN.out.mono ?_
        rintro e wd ⟨rfl, rfl⟩
        clear HDN
        obtain ⟨f0, f1⟩ := tcells hT
        obtain ⟨k0, k1⟩ := tcells hC
        go_wp2_with fail
        clear z6
        refine (same_self P1 a1 a2 c1 c2 i1 wc hP1 hP2).mono ?_
        rintro e we ⟨rfl, hbe⟩
        clear f0 f1 k0 k1
        replace hG := (hbe.block w.heap.size (by omega)).trans hG
        replace hT := (hbe.block B1 (by omega)).trans hT
        replace hC := (hbe.block B2 (by omega)).trans hC
        replace hO := (hbe.block B3 (by omega)).trans hO
        replace hP1 := hP1.below hbe
        replace hP2 := hP2.below hbe
        replace hP3 := hP3.below hbe
        replace hbw := hbw.trans (hbe.mono (by omega))
        replace hzz := Nat.le_trans hzz hbe.size
        replace hTz := Nat.lt_of_lt_of_le hTz hbe.size
        replace hCz := Nat.lt_of_lt_of_le hCz hbe.size
        replace hOz := Nat.lt_of_lt_of_le hOz hbe.size
        clear hbe
        obtain ⟨f0, f1⟩ := tcells hT
        have hwh := wheels_any P1 a1 c1 P1.length i1 we rfl (by omega)
        rw [HWN.out] at hwh
        have HWH := Lib.hid hwh
        clear hwh
        go_wp2_with fail
        refine HWH.out.mono ?_
        rintro e wf ⟨rfl, hbf⟩
        clear HWH f0 f1
        replace hG := (hbf.block w.heap.size (by omega)).trans hG
        replace hT := (hbf.block B1 (by omega)).trans hT
        replace hC := (hbf.block B2 (by omega)).trans hC
        replace hO := (hbf.block B3 (by omega)).trans hO
        replace hP1 := hP1.below hbf
        replace hP2 := hP2.below hbf
        replace hP3 := hP3.below hbf
        replace hbw := hbw.trans (hbf.mono (by omega))
        replace hzz := Nat.le_trans hzz hbf.size
        replace hTz := Nat.lt_of_lt_of_le hTz hbf.size
        replace hCz := Nat.lt_of_lt_of_le hCz hbf.size
        replace hOz := Nat.lt_of_lt_of_le hOz hbf.size
        clear hbf
        have hbd3 := able_bd hp2.2 hab
        have hbe3 := ex_bd (t := t) (r := r) ht2 hr2 hbd3.1 hbd3.2
        have hno := HB1.out P3 i3 hab
        have hex := excess_gen t r p o same P3 (.slice a3 P3.length c3) i3 wf hP3 ht2 hr2 hbd3.1 hbd3.2
        obtain ⟨A3, hA3⟩ : ∃ A, exA t r P3 = A := ⟨_, rfl⟩
        obtain ⟨E3, hE3⟩ : ∃ A, exB r P3 = A := ⟨_, rfl⟩
        rw [hA3, hE3] at hex hbe3 hno
        rw [HA1.out, HE1.out] at hno
        have HEX := Lib.hid hex
        have HNO := Lib.hid (max_prod (A := A3) (E := E3) (X := A1) (Y := E1) (by omega) (by omega) (by first | exact hno | exact Int.not_lt.2 hno))
        clear hA3 hE3 hex hno hbd3
        obtain ⟨g0, g1, g2, g3, g4⟩ := gcells hG
        obtain ⟨k0, k1⟩ := tcells hO
        go_wp2_with fail
        refine HEX.out.mono ?_
        rintro e wg ⟨rfl, hbg⟩
        clear HEX g0 g1 g2 g3 g4 k0 k1
        replace hG := (hbg.block w.heap.size (by omega)).trans hG
        replace hT := (hbg.block B1 (by omega)).trans hT
        replace hC := (hbg.block B2 (by omega)).trans hC
        replace hO := (hbg.block B3 (by omega)).trans hO
        replace hP1 := hP1.below hbg
        replace hP2 := hP2.below hbg
        replace hP3 := hP3.below hbg
        replace hbw := hbw.trans (hbg.mono (by omega))
        replace hzz := Nat.le_trans hzz hbg.size
        replace hTz := Nat.lt_of_lt_of_le hTz hbg.size
        replace hCz := Nat.lt_of_lt_of_le hCz hbg.size
        replace hOz := Nat.lt_of_lt_of_le hOz hbg.size
        clear hbg
        clear z1 z2 z3 z4 z5 hG hT hC hO
        go_wp2_with fail
        all_goals first
          | (exfalso; exact absurd ‹wrap64 _ < wrap64 _› (Int.not_lt.2 HNO.out))
          | (exfalso; exact absurd ‹wrap64 _ < wrap64 _› HNO.out)
          | (refine (HA.out _).mono ?_
             rintro e wq ⟨rfl, hbq⟩
             go_wp2
             go_ret
             exact ⟨rfl, hbw.trans (hbq.mono hbw.size)⟩)
      · obtain ⟨hab1, hx1, hbest⟩ := hnf
        have hbd1 := able_bd hp2.2 hab1
        have hbe1 := ex_bd (t := t) (r := r) ht2 hr2 hbd1.1 hbd1.2
        have hb1 : buildC S t r p o same P1 i1 = (0, 11) := by
          rcases build_says (P := P1) (i := i1) (same := same) HST.out HGE.out with ⟨_, h, hq⟩ | ⟨_, h, hq⟩ | ⟨_, h, _⟩
          · exact absurd h ha0
          · exact hq
          · exact absurd hab1 h
        have hbu := build_any S (.slice sa S.length sc) t r p o same P1 (.slice a1 P1.length c1) i1 wa (hS.below hbw) hP1 (fun b off n c e => Nat.lt_of_lt_of_le (hss b off n c e) hbw.size)
        rw [hb1] at hbu
        clear hb1
        obtain ⟨wn, hwn⟩ : ∃ wn, wheelsN P1 i1 = wn := ⟨_, rfl⟩
        have HWN := Lib.hid hwn
        have HBU := Lib.hid hbu
        clear hwn hbu
        obtain ⟨A1, hA1⟩ : ∃ A, exA t r P1 = A := ⟨_, rfl⟩
        obtain ⟨E1, hE1⟩ : ∃ A, exB r P1 = A := ⟨_, rfl⟩
        rw [hA1] at ha0 hx1 hbe1
        rw [hE1] at hx1 hbe1
        have HA1 := Lib.hid hA1
        have HE1 := Lib.hid hE1
        have HX1 := Lib.hid hx1
        have HB1 := Lib.hid hbest
        have HBD1 := Lib.hid hbd1
        clear hA1 hE1 hx1 hbest hbd1
        obtain ⟨g0, g1, g2, g3, g4⟩ := gcells hG
        obtain ⟨f0, f1⟩ := tcells hT
        go_wp2_with fail
        refine HBU.out.mono ?_
        rintro e wb ⟨rfl, hbb⟩
        clear HBU g0 g1 g2 g3 g4 f0 f1
        replace hG := (hbb.block w.heap.size (by omega)).trans hG
        replace hT := (hbb.block B1 (by omega)).trans hT
        replace hC := (hbb.block B2 (by omega)).trans hC
        replace hO := (hbb.block B3 (by omega)).trans hO
        replace hP1 := hP1.below hbb
        replace hP2 := hP2.below hbb
        replace hP3 := hP3.below hbb
        replace hbw := hbw.trans (hbb.mono (by omega))
        replace hzz := Nat.le_trans hzz hbb.size
        replace hTz := Nat.lt_of_lt_of_le hTz hbb.size
        replace hCz := Nat.lt_of_lt_of_le hCz hbb.size
        replace hOz := Nat.lt_of_lt_of_le hOz hbb.size
        clear hbb
        have hex := excess_gen t r p o same P1 (.slice a1 P1.length c1) i1 wb hP1 ht2 hr2 HBD1.out.1 HBD1.out.2
        rw [HA1.out, HE1.out] at hex
        have HEX := Lib.hid hex
        clear hex
        obtain ⟨g0, g1, g2, g3, g4⟩ := gcells hG
        obtain ⟨f0, f1⟩ := tcells hT
        go_wp2_with fail
        refine HEX.out.mono ?_
        rintro e wc ⟨rfl, hbc⟩
        clear HEX g0 g1 g2 g3 g4 f0 f1
        replace hG := (hbc.block w.heap.size (by omega)).trans hG
        replace hT := (hbc.block B1 (by omega)).trans hT
        replace hC := (hbc.block B2 (by omega)).trans hC
        replace hO := (hbc.block B3 (by omega)).trans hO
        replace hP1 := hP1.below hbc
        replace hP2 := hP2.below hbc
        replace hP3 := hP3.below hbc
        replace hbw := hbw.trans (hbc.mono (by omega))
        replace hzz := Nat.le_trans hzz hbc.size
        replace hTz := Nat.lt_of_lt_of_le hTz hbc.size
        replace hCz := Nat.lt_of_lt_of_le hCz hbc.size
        replace hOz := Nat.lt_of_lt_of_le hOz hbc.size
        clear hbc
        have z1 : (A1 == 0) = false := by simp [ha0]
        have z2 : (A1 != 0) = true := by simp [ha0]
        have z3 : decide (E1 < 1) = false := by simp; omega
        have z4 : -1000000000000000 ≤ A1 * 1000000 := by omega
        have z5 : A1 * 1000000 ≤ 1000000000000000 := by omega
        have hdn := down_any (A1 * 1000000) E1 wc (by omega) (by omega) (by omega) (by omega)
        have z6 : (x1 != A1 * 1000000 / E1) = false := by simp [HX1.out]
        have HDN := Lib.hid hdn
        clear hdn ha0
        go_wp2_with fail
        refine HDN.out.mono ?_
        rintro e wd ⟨rfl, rfl⟩
        clear HDN
        have hbd3 := able_bd hp2.2 hab
        have hbe3 := ex_bd (t := t) (r := r) ht2 hr2 hbd3.1 hbd3.2
        have hno := HB1.out P3 i3 hab
        have hex := excess_gen t r p o same P3 (.slice a3 P3.length c3) i3 wc hP3 ht2 hr2 hbd3.1 hbd3.2
        obtain ⟨A3, hA3⟩ : ∃ A, exA t r P3 = A := ⟨_, rfl⟩
        obtain ⟨E3, hE3⟩ : ∃ A, exB r P3 = A := ⟨_, rfl⟩
        rw [hA3, hE3] at hex hbe3 hno
        rw [HA1.out, HE1.out] at hno
        have HEX := Lib.hid hex
        have HNO := Lib.hid (max_prod (A := A3) (E := E3) (X := A1) (Y := E1) (by omega) (by omega) (by first | exact hno | exact Int.not_lt.2 hno))
        clear hA3 hE3 hex hno hbd3
        obtain ⟨g0, g1, g2, g3, g4⟩ := gcells hG
        obtain ⟨k0, k1⟩ := tcells hO
        go_wp2_with fail
        refine HEX.out.mono ?_
        rintro e wg ⟨rfl, hbg⟩
        clear HEX g0 g1 g2 g3 g4 k0 k1
        replace hG := (hbg.block w.heap.size (by omega)).trans hG
        replace hT := (hbg.block B1 (by omega)).trans hT
        replace hC := (hbg.block B2 (by omega)).trans hC
        replace hO := (hbg.block B3 (by omega)).trans hO
        replace hP1 := hP1.below hbg
        replace hP2 := hP2.below hbg
        replace hP3 := hP3.below hbg
        replace hbw := hbw.trans (hbg.mono (by omega))
        replace hzz := Nat.le_trans hzz hbg.size
        replace hTz := Nat.lt_of_lt_of_le hTz hbg.size
        replace hCz := Nat.lt_of_lt_of_le hCz hbg.size
        replace hOz := Nat.lt_of_lt_of_le hOz hbg.size
        clear hbg
        clear z1 z2 z3 z4 z5 hG hT hC hO
        go_wp2_with fail
        all_goals first
          | (exfalso; exact absurd ‹wrap64 _ < wrap64 _› (Int.not_lt.2 HNO.out))
          | (exfalso; exact absurd ‹wrap64 _ < wrap64 _› HNO.out)
          | (refine (HA.out _).mono ?_
             rintro e wq ⟨rfl, hbq⟩
             go_wp2
             go_ret
             exact ⟨rfl, hbw.trans (hbq.mono hbw.size)⟩)
  · obtain ⟨hm3, rfl⟩ := Prod.mk.inj hq
    clear hm3 hq HSA
    have y0 : (h3 == 0) = false := by simp [hn0]
    have y1 : (h3 == 11) = false := by simp [hn11]
    clear hn0 hn11
    rcases HF.out with ⟨⟨rfl, rfl, rfl, rfl⟩, ⟨rfl, rfl, rfl, rfl⟩, hno⟩ | ⟨rfl, hnf, hc⟩
    · clear HF hno hG hT hC hO
      go_wp2_with fail
      refine (HA.out _).mono ?_
      rintro e wq ⟨rfl, hbq⟩
      go_wp2
      go_ret
      exact ⟨rfl, hbw.trans (hbq.mono hbw.size)⟩
    · clear HF
      rcases hc with ⟨ha0, hp, hi, hnw, rfl⟩ | ⟨ha0, rfl, rfl, rfl, rfl⟩
      · obtain rfl := hp.symm
        obtain rfl := hi.symm
        obtain ⟨hab1, hx1, hbest⟩ := hnf
        have hbd1 := able_bd hp2.2 hab1
        have hbe1 := ex_bd (t := t) (r := r) ht2 hr2 hbd1.1 hbd1.2
        have hb1 : buildC S t r p o same P1 i1 = (wheelsN P1 i1, 0) := by
          rcases build_says (P := P1) (i := i1) (same := same) HST.out HGE.out with ⟨_, h, hq⟩ | ⟨_, h, hq⟩ | ⟨_, h, _⟩
          · exact hq
          · exact absurd ha0 h
          · exact absurd hab1 h
        have hbu := build_any S (.slice sa S.length sc) t r p o same P1 (.slice a1 P1.length c1) i1 wa (hS.below hbw) hP1 (fun b off n c e => Nat.lt_of_lt_of_le (hss b off n c e) hbw.size)
        rw [hb1] at hbu
        clear hb1
        obtain ⟨wn, hwn⟩ : ∃ wn, wheelsN P1 i1 = wn := ⟨_, rfl⟩
        rw [hwn] at hbu hnw
        have HWN := Lib.hid hwn
        have HBU := Lib.hid hbu
        clear hwn hbu
        obtain ⟨A1, hA1⟩ : ∃ A, exA t r P1 = A := ⟨_, rfl⟩
        obtain ⟨E1, hE1⟩ : ∃ A, exB r P1 = A := ⟨_, rfl⟩
        rw [hA1] at ha0 hx1 hbe1
        rw [hE1] at hx1 hbe1
        subst hnw
        have HA1 := Lib.hid hA1
        have HE1 := Lib.hid hE1
        have HX1 := Lib.hid hx1
        have HB1 := Lib.hid hbest
        have HBD1 := Lib.hid hbd1
        clear hA1 hE1 hx1 hbest hbd1
        obtain ⟨g0, g1, g2, g3, g4⟩ := gcells hG
        obtain ⟨f0, f1⟩ := tcells hT
        go_wp2_with fail
        refine HBU.out.mono ?_
        rintro e wb ⟨rfl, hbb⟩
        clear HBU g0 g1 g2 g3 g4 f0 f1
        replace hG := (hbb.block w.heap.size (by omega)).trans hG
        replace hT := (hbb.block B1 (by omega)).trans hT
        replace hC := (hbb.block B2 (by omega)).trans hC
        replace hO := (hbb.block B3 (by omega)).trans hO
        replace hP1 := hP1.below hbb
        replace hP2 := hP2.below hbb
        replace hP3 := hP3.below hbb
        replace hbw := hbw.trans (hbb.mono (by omega))
        replace hzz := Nat.le_trans hzz hbb.size
        replace hTz := Nat.lt_of_lt_of_le hTz hbb.size
        replace hCz := Nat.lt_of_lt_of_le hCz hbb.size
        replace hOz := Nat.lt_of_lt_of_le hOz hbb.size
        clear hbb
        have hex := excess_gen t r p o same P1 (.slice a1 P1.length c1) i1 wb hP1 ht2 hr2 HBD1.out.1 HBD1.out.2
        rw [HA1.out, HE1.out] at hex
        have HEX := Lib.hid hex
        clear hex
        obtain ⟨g0, g1, g2, g3, g4⟩ := gcells hG
        obtain ⟨f0, f1⟩ := tcells hT
        go_wp2_with fail
        refine HEX.out.mono ?_
        rintro e wc ⟨rfl, hbc⟩
        clear HEX g0 g1 g2 g3 g4 f0 f1
        replace hG := (hbc.block w.heap.size (by omega)).trans hG
        replace hT := (hbc.block B1 (by omega)).trans hT
        replace hC := (hbc.block B2 (by omega)).trans hC
        replace hO := (hbc.block B3 (by omega)).trans hO
        replace hP1 := hP1.below hbc
        replace hP2 := hP2.below hbc
        replace hP3 := hP3.below hbc
        replace hbw := hbw.trans (hbc.mono (by omega))
        replace hzz := Nat.le_trans hzz hbc.size
        replace hTz := Nat.lt_of_lt_of_le hTz hbc.size
        replace hCz := Nat.lt_of_lt_of_le hCz hbc.size
        replace hOz := Nat.lt_of_lt_of_le hOz hbc.size
        clear hbc
        have z1 : (A1 == 0) = true := by simp [ha0]
        have z2 : (A1 != 0) = false := by simp [ha0]
        have z3 : decide (E1 < 1) = false := by simp; omega
        have z4 : -1000000000000000 ≤ A1 * 1000000 := by omega
        have z5 : A1 * 1000000 ≤ 1000000000000000 := by omega
        have hdn := down_any (A1 * 1000000) E1 wc (by omega) (by omega) (by omega) (by omega)
        have z6 : (x1 != A1 * 1000000 / E1) = false := by simp [HX1.out]
        have HDN := Lib.hid hdn
        clear hdn ha0
        go_wp2_with fail
        refine HDN.out.mono ?_
        rintro e wd ⟨rfl, rfl⟩
        clear HDN
        obtain ⟨f0, f1⟩ := tcells hT
        obtain ⟨k0, k1⟩ := tcells hC
        go_wp2_with fail
        clear z6
        refine (same_self P1 a1 a2 c1 c2 i1 wc hP1 hP2).mono ?_
        rintro e we ⟨rfl, hbe⟩
        clear f0 f1 k0 k1
        replace hG := (hbe.block w.heap.size (by omega)).trans hG
        replace hT := (hbe.block B1 (by omega)).trans hT
        replace hC := (hbe.block B2 (by omega)).trans hC
        replace hO := (hbe.block B3 (by omega)).trans hO
        replace hP1 := hP1.below hbe
        replace hP2 := hP2.below hbe
        replace hP3 := hP3.below hbe
        replace hbw := hbw.trans (hbe.mono (by omega))
        replace hzz := Nat.le_trans hzz hbe.size
        replace hTz := Nat.lt_of_lt_of_le hTz hbe.size
        replace hCz := Nat.lt_of_lt_of_le hCz hbe.size
        replace hOz := Nat.lt_of_lt_of_le hOz hbe.size
        clear hbe
        obtain ⟨f0, f1⟩ := tcells hT
        have hwh := wheels_any P1 a1 c1 P1.length i1 we rfl (by omega)
        rw [HWN.out] at hwh
        have HWH := Lib.hid hwh
        clear hwh
        go_wp2_with fail
        refine HWH.out.mono ?_
        rintro e wf ⟨rfl, hbf⟩
        clear HWH f0 f1
        replace hG := (hbf.block w.heap.size (by omega)).trans hG
        replace hT := (hbf.block B1 (by omega)).trans hT
        replace hC := (hbf.block B2 (by omega)).trans hC
        replace hO := (hbf.block B3 (by omega)).trans hO
        replace hP1 := hP1.below hbf
        replace hP2 := hP2.below hbf
        replace hP3 := hP3.below hbf
        replace hbw := hbw.trans (hbf.mono (by omega))
        replace hzz := Nat.le_trans hzz hbf.size
        replace hTz := Nat.lt_of_lt_of_le hTz hbf.size
        replace hCz := Nat.lt_of_lt_of_le hCz hbf.size
        replace hOz := Nat.lt_of_lt_of_le hOz hbf.size
        clear hbf
        clear hG hT hC hO
        go_wp2_with fail
        refine (HA.out _).mono ?_
        rintro e wq ⟨rfl, hbq⟩
        go_wp2
        go_ret
        exact ⟨rfl, hbw.trans (hbq.mono hbw.size)⟩
      · obtain ⟨hab1, hx1, hbest⟩ := hnf
        have hbd1 := able_bd hp2.2 hab1
        have hbe1 := ex_bd (t := t) (r := r) ht2 hr2 hbd1.1 hbd1.2
        have hb1 : buildC S t r p o same P1 i1 = (0, 11) := by
          rcases build_says (P := P1) (i := i1) (same := same) HST.out HGE.out with ⟨_, h, hq⟩ | ⟨_, h, hq⟩ | ⟨_, h, _⟩
          · exact absurd h ha0
          · exact hq
          · exact absurd hab1 h
        have hbu := build_any S (.slice sa S.length sc) t r p o same P1 (.slice a1 P1.length c1) i1 wa (hS.below hbw) hP1 (fun b off n c e => Nat.lt_of_lt_of_le (hss b off n c e) hbw.size)
        rw [hb1] at hbu
        clear hb1
        obtain ⟨wn, hwn⟩ : ∃ wn, wheelsN P1 i1 = wn := ⟨_, rfl⟩
        have HWN := Lib.hid hwn
        have HBU := Lib.hid hbu
        clear hwn hbu
        obtain ⟨A1, hA1⟩ : ∃ A, exA t r P1 = A := ⟨_, rfl⟩
        obtain ⟨E1, hE1⟩ : ∃ A, exB r P1 = A := ⟨_, rfl⟩
        rw [hA1] at ha0 hx1 hbe1
        rw [hE1] at hx1 hbe1
        have HA1 := Lib.hid hA1
        have HE1 := Lib.hid hE1
        have HX1 := Lib.hid hx1
        have HB1 := Lib.hid hbest
        have HBD1 := Lib.hid hbd1
        clear hA1 hE1 hx1 hbest hbd1
        obtain ⟨g0, g1, g2, g3, g4⟩ := gcells hG
        obtain ⟨f0, f1⟩ := tcells hT
        go_wp2_with fail
        refine HBU.out.mono ?_
        rintro e wb ⟨rfl, hbb⟩
        clear HBU g0 g1 g2 g3 g4 f0 f1
        replace hG := (hbb.block w.heap.size (by omega)).trans hG
        replace hT := (hbb.block B1 (by omega)).trans hT
        replace hC := (hbb.block B2 (by omega)).trans hC
        replace hO := (hbb.block B3 (by omega)).trans hO
        replace hP1 := hP1.below hbb
        replace hP2 := hP2.below hbb
        replace hP3 := hP3.below hbb
        replace hbw := hbw.trans (hbb.mono (by omega))
        replace hzz := Nat.le_trans hzz hbb.size
        replace hTz := Nat.lt_of_lt_of_le hTz hbb.size
        replace hCz := Nat.lt_of_lt_of_le hCz hbb.size
        replace hOz := Nat.lt_of_lt_of_le hOz hbb.size
        clear hbb
        have hex := excess_gen t r p o same P1 (.slice a1 P1.length c1) i1 wb hP1 ht2 hr2 HBD1.out.1 HBD1.out.2
        rw [HA1.out, HE1.out] at hex
        have HEX := Lib.hid hex
        clear hex
        obtain ⟨g0, g1, g2, g3, g4⟩ := gcells hG
        obtain ⟨f0, f1⟩ := tcells hT
        go_wp2_with fail
        refine HEX.out.mono ?_
        rintro e wc ⟨rfl, hbc⟩
        clear HEX g0 g1 g2 g3 g4 f0 f1
        replace hG := (hbc.block w.heap.size (by omega)).trans hG
        replace hT := (hbc.block B1 (by omega)).trans hT
        replace hC := (hbc.block B2 (by omega)).trans hC
        replace hO := (hbc.block B3 (by omega)).trans hO
        replace hP1 := hP1.below hbc
        replace hP2 := hP2.below hbc
        replace hP3 := hP3.below hbc
        replace hbw := hbw.trans (hbc.mono (by omega))
        replace hzz := Nat.le_trans hzz hbc.size
        replace hTz := Nat.lt_of_lt_of_le hTz hbc.size
        replace hCz := Nat.lt_of_lt_of_le hCz hbc.size
        replace hOz := Nat.lt_of_lt_of_le hOz hbc.size
        clear hbc
        have z1 : (A1 == 0) = false := by simp [ha0]
        have z2 : (A1 != 0) = true := by simp [ha0]
        have z3 : decide (E1 < 1) = false := by simp; omega
        have z4 : -1000000000000000 ≤ A1 * 1000000 := by omega
        have z5 : A1 * 1000000 ≤ 1000000000000000 := by omega
        have hdn := down_any (A1 * 1000000) E1 wc (by omega) (by omega) (by omega) (by omega)
        have z6 : (x1 != A1 * 1000000 / E1) = false := by simp [HX1.out]
        have HDN := Lib.hid hdn
        clear hdn ha0
        go_wp2_with fail
        refine HDN.out.mono ?_
        rintro e wd ⟨rfl, rfl⟩
        clear HDN
        clear hG hT hC hO
        go_wp2_with fail
        refine (HA.out _).mono ?_
        rintro e wq ⟨rfl, hbq⟩
        go_wp2
        go_ret
        exact ⟨rfl, hbw.trans (hbq.mono hbw.size)⟩
end Go.Proofs.Ytoiapnokgpeipaa
