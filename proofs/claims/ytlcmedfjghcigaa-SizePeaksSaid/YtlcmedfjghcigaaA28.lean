/- Size: the reference: Peak. -/
import Derived.Test.YtlcmedfjghcigaaA26
import Derived.Test.YtlcmedfjghcigaaM5
import Derived.Test.YtlcmedfjghcigaaA12
namespace Go.Proofs.Ytlcmedfjghcigaa
set_option linter.unusedSimpArgs false
set_option linter.unusedVariables false
open Go.RowKit Go.Maps Go.BigFrame

theorem sets_yes {rs : List Rl} {j : Nat} (h : openF rs j = true) : setsUp rs (j + 1) = setsUp rs j ++ [j] := by
  unfold setsUp; rw [List.range_succ, List.filter_append]; simp [h]
theorem sets_no {rs : List Rl} {j : Nat} (h : openF rs j = false) : setsUp rs (j + 1) = setsUp rs j := by
  unfold setsUp; rw [List.range_succ, List.filter_append]; simp [h]
set_option maxRecDepth 100000 in
set_option maxHeartbeats 6400000 in
theorem rPeak_any (h : Hs) (a1 : Option Addr) (c1 : Nat) (a2 : Option Addr) (c2 : Nat) (w : World) (hh : HsAt w h a1 c1 a2 c2) : Calls Try.prog 15 #[hsV h a1 c1 a2 c2] w (PeakR w (peakF h)) := by
  have mt : h.tp.length ≤ 9223372036854775807 := hh.tp.1
  obtain ⟨RR, hrr⟩ : ∃ x, peakF h = x := ⟨_, rfl⟩
  rw [hrr]
  have HRR := Lib.hid hrr
  obtain ⟨W0, hW0⟩ : ∃ X, X = (w.alloc (.cells #[.int .i64 h.head, .int .i64 h.drip, .slice a1 h.tp.length c1, .slice a2 h.rl.length c2] 25)).alloc (.cells #[.int .i64 0, .int .i64 0] 31) := ⟨_, rfl⟩
  have hal : W0 = al w [(.cells #[.int .i64 h.head, .int .i64 h.drip, .slice a1 h.tp.length c1, .slice a2 h.rl.length c2] 25), (.cells #[.int .i64 0, .int .i64 0] 31)] := hW0
  have hb0 : Below w.heap.size w W0 := by rw [hal]; exact al_below w _ (Nat.le_refl _)
  have hs0 : W0.heap.size = w.heap.size + 2 := by rw [hal]; exact al_size w _
  have hr0 : W0.heap[w.heap.size]? = some (.cells #[.int .i64 h.head, .int .i64 h.drip, .slice a1 h.tp.length c1, .slice a2 h.rl.length c2] 25 (0, 0)) := by rw [hal]; exact al_get w _ 0 _ rfl
  have hr1 : W0.heap[w.heap.size + 1]? = some (.cells #[.int .i64 0, .int .i64 0] 31 (0, 0)) := by rw [hal]; exact al_get w _ 1 _ rfl
  obtain ⟨P, hP0⟩ : ∃ x, w.heap.size = x := ⟨_, rfl⟩
  rw [hP0] at hr0 hr1 hs0
  obtain ⟨Q, hP1⟩ : ∃ x, P + 1 = x := ⟨_, rfl⟩
  rw [hP1] at hr1
  clear hal
  have HB0 := Lib.hid hb0
  have HP0 := Lib.hid hr0
  have HQ0 := Lib.hid hr1
  have hh0 := hh.below hb0
  have HH0 := Lib.hid hh0
  have HSZ := Lib.hid (show w.heap.size = P ∧ Q = P + 1 ∧ W0.heap.size = P + 2 from ⟨by omega, by omega, by omega⟩)
  have KH := Lib.hid (House_any h a1 c1 a2 c2 W0 hh0)
  obtain ⟨g, hg⟩ : ∃ b, hsOk h = b := ⟨_, rfl⟩
  have EV : hsV h a1 c1 a2 c2 = .agg #[.int .i64 h.head, .int .i64 h.drip, .slice a1 h.tp.length c1, .slice a2 h.rl.length c2] := rfl
  have HEV := Lib.hid EV
  rw [hg] at KH
  rw [EV] at KH ⊢
  have HG := Lib.hid hg
  obtain ⟨y0, y1, y2, y3⟩ := four_cells hr0
  unfold PeakR
  clear hb0 hr0 hr1 hs0 hh hh0 EV hrr hg
  go_enter Try.func15, Try.ntmps15
  go_upto_region 1 with fail
  rw [← hW0]
  clear hW0 hP0 hP1
  go_wp2_with (go_at_call 25; fail)
  refine KH.out.mono ?_
  rintro e w2 ⟨rfl, hb2⟩
  have HB2 := Lib.hid (HB0.out.trans (hb2.mono HB0.out.size))
  have h2 := box_step (w0 := w) HP0.out hb2
  have q2 := box_step (w0 := w) HQ0.out hb2
  have hh2 := HH0.out.below hb2
  have HH2 := Lib.hid hh2
  have hz2 : P + 2 ≤ w2.heap.size := by have := hb2.size; have := HSZ.out; omega
  clear hb2 y0 y1 y2 y3
  cases g with
  | false =>
    have he : peakF h = (0, 0, 0, 1) := by unfold peakF; rw [HG.out]; rfl
    rw [HRR.out] at he
    subst he
    have fz : ∀ o, w2.frozen? ⟨Q, o, none⟩ = false := fun o => frozen_of q2
    have fz0 := fz 0
    have fz1 := fz 1
    obtain ⟨x0, x1⟩ := two_cells q2
    have HZ := Lib.hid (set2 (A := .int .i64 0) (B := .int .i64 0) q2)
    have HB3 := Lib.hid (show Below w.heap.size w ((w2.setCell ⟨Q, 0, none⟩ (.int .i64 0)).setCell ⟨Q, 1, none⟩ (.int .i64 0)) from (HB2.out.setCell (by have := HSZ.out; simp; omega) _).setCell (by have := HSZ.out; simp; omega) _)
    clear h2 q2 hh2 fz
    go_wp2
    exact bodyPost_ret (res3_31 Try.results15 rfl rfl rfl HZ.out) rfl ⟨rfl, HB3.out⟩
  | true =>
  have hok := HG.out
  have h10 := (few_taps hok).2
  have hpw := pow_table h10
  have qp := fun X => power_any h.tp.length (by omega) X
  obtain ⟨N, hN⟩ : ∃ n, 2 ^ h.tp.length = n := ⟨_, rfl⟩
  rw [hN] at hpw
  simp only [hN] at qp
  have QP := Lib.hid qp
  have HN := Lib.hid hN
  obtain ⟨R, hR⟩ : ∃ x, w2.heap.size = x := ⟨_, rfl⟩
  obtain ⟨W3, hW3⟩ : ∃ X, w2.alloc (.cells #[.int .i64 0, .int .i64 0] 31) = X := ⟨_, rfl⟩
  have hb3 : Below w2.heap.size w2 W3 := by rw [← hW3]; exact (Below.refl _ _).alloc (Nat.le_refl _) _
  have hr3 : W3.heap[R]? = some (.cells #[.int .i64 0, .int .i64 0] 31 (0, 0)) := by rw [← hW3, ← hR]; exact alloc_heap w2 _
  have HB3 := Lib.hid (HB2.out.trans (hb3.mono HB2.out.size))
  have HP3 := Lib.hid (box_step (w0 := w) h2 hb3)
  have HQ3 := Lib.hid (box_step (w0 := w) q2 hb3)
  have HH3 : Hid (∀ X, OnlyE (· = R) W3 X → HsAt X h a1 c1 a2 c2) := Lib.hid (fun X ho => by
    have t1 := tab_row HH2.out.tp
    have t2 := tab_row HH2.out.rl
    have hh3 := HH2.out.below hb3
    exact ⟨hh3.tp.keep ho.keep (fun l b off e hb => by have := t1 l b off e; omega), hh3.rl.keep ho.keep (fun l b off e hb => by have := t2 l b off e; omega)⟩)
  have HRS := Lib.hid (show w.heap.size ≤ P ∧ P < R ∧ Q < R ∧ P ≠ Q ∧ w.heap.size ≤ Q ∧ R < W3.heap.size from ⟨by have := HSZ.out; omega, by omega, by have := HSZ.out; omega, by have := HSZ.out; omega, by have := HSZ.out; omega, (Array.getElem?_eq_some_iff.1 hr3).1⟩)
  have HR3 := Lib.hid hr3
  clear hb3 hr3 h2 q2 hh2 qp hN hz2
  go_wp2_with fail
  clear hW3 hR
  go_loopw [6, 7] (fun b i wr => ∃ j : Nat, j ≤ N ∧ i = .int .i64 j ∧ b = .int .i64 ((greatF (fun s => (loadF h.tp s).f.2) (setsUp h.rl j)).2 : Nat) ∧ OnlyE (· = R) W3 wr ∧ wr.heap[R]? = some (.cells #[.int .i64 (greatF (fun s => (loadF h.tp s).f.1) (setsUp h.rl j)).1, .int .i64 (greatF (fun s => (loadF h.tp s).f.2) (setsUp h.rl j)).1] 31 (0, 0))) (fun _ i _ => N - (intOf i).toNat)
  case atStart => exact ⟨0, by omega, rfl, rfl, OnlyE.refl _ _, HR3.out⟩
  case round =>
    obtain ⟨j, hj, rfl, rfl, ho, hr⟩ := hrel
    have HO := Lib.hid ho
    have hp := ho.get HP3.out (by have := HRS.out; omega)
    obtain ⟨y0, y1, y2, y3⟩ := four_cells hp
    have HP := Lib.hid hp
    have HR := Lib.hid hr
    by_cases hlt : j < N
    · have hlt2 : (j : Int) < (N : Int) := by omega
      have hh := HH3.out wr ho
      have KO := Open_any h hok a1 c1 a2 c2 j (by rw [HN.out]; exact hlt) wr hh
      have KF := Lib.hid (fun X hx => Flow_any h hok a1 c1 a2 c2 j (by omega) X hx)
      have gy1 := fun (e : openF h.rl j = true) => (congrArg (greatF (fun s => (loadF h.tp s).f.1)) (sets_yes e)).trans (great_snoc (fun s => (loadF h.tp s).f.1) _ _)
      have gy2 := fun (e : openF h.rl j = true) => (congrArg (greatF (fun s => (loadF h.tp s).f.2)) (sets_yes e)).trans (great_snoc (fun s => (loadF h.tp s).f.2) _ _)
      have gn := fun (e : openF h.rl j = false) => sets_no e
      obtain ⟨⟨A, ax⟩, hA⟩ : ∃ x, greatF (fun s => (loadF h.tp s).f.1) (setsUp h.rl j) = x := ⟨_, rfl⟩
      obtain ⟨⟨B, bs⟩, hB⟩ : ∃ x, greatF (fun s => (loadF h.tp s).f.2) (setsUp h.rl j) = x := ⟨_, rfl⟩
      rw [hA] at gy1
      rw [hB] at gy2
      unfold greatStep at gy1 gy2
      simp only [] at gy1 gy2
      have HA := Lib.hid hA
      have HBV := Lib.hid hB
      rw [hA, hB] at hr
      rw [hB]
      simp only [] at hr ⊢
      obtain ⟨flo, hflo⟩ : ∃ x, (loadF h.tp j).f.1 = x := ⟨_, rfl⟩
      obtain ⟨fhi, hfhi⟩ : ∃ x, (loadF h.tp j).f.2 = x := ⟨_, rfl⟩
      obtain ⟨fn, hfn⟩ : ∃ x, (loadF h.tp j).n = x := ⟨_, rfl⟩
      rw [hflo, hfhi, hfn, HEV.out] at KF
      rw [hflo] at gy1
      rw [hfhi] at gy2
      obtain ⟨O, hO⟩ : ∃ b, openF h.rl j = b := ⟨_, rfl⟩
      rw [hO, HEV.out] at KO
      rw [hO] at gy1 gy2 gn
      have KOO := Lib.hid KO
      have G1 := Lib.hid gy1
      have G2 := Lib.hid gy2
      have GN := Lib.hid gn
      have HRB := Lib.hid hr
      have w1 : IntKind.i64.wrap ((j : Int) + 1) = (j : Int) + 1 := IntWalk.i64_in _ (by omega)
      clear ho hp hr hh KO gy1 gy2 gn hA hB hflo hfhi hfn hO HR
      go_wp2_with (first | (go_at_call 40; (with_reducible refine (QP.out _).mono ?_); rintro e w2 ⟨rfl, rfl⟩) | (go_at_call 26; fail))
      refine KOO.out.mono ?_
      rintro e w4 ⟨rfl, hb4⟩
      have HO4 := Lib.hid (HO.out.trans (OnlyE.of_below (E := (· = R)) hb4))
      have HR4 := Lib.hid (box_step (w0 := w) HRB.out hb4)
      have h4 := box_step (w0 := w) HP.out hb4
      clear hb4 y0 y1 y2 y3
      cases O with
      | false =>
        have e1 := GN.out rfl
        have E1 := Lib.hid e1
        clear h4 e1
        go_wp2
        go_roundw
        case rel => exact ⟨j + 1, by omega, by go_num, by rw [E1.out, HBV.out], HO4.out, by rw [E1.out, HA.out, HBV.out]; exact HR4.out⟩
        case measure => simp [intOf]; omega
      | true =>
        have hh4 := HH3.out w4 HO4.out
        have KFF := Lib.hid (KF.out w4 hh4)
        obtain ⟨y0, y1, y2, y3⟩ := four_cells h4
        have HP4 := Lib.hid h4
        clear h4 hh4
        go_wp2_with (go_at_call 28; fail)
        refine KFF.out.mono ?_
        rintro e w5 ⟨rfl, hb5⟩
        obtain ⟨T, hT⟩ : ∃ x, w5.heap.size = x := ⟨_, rfl⟩
        obtain ⟨W6, hW6⟩ : ∃ X, w5.alloc (.cells #[.int .i64 flo, .int .i64 fhi] 31) = X := ⟨_, rfl⟩
        have hb6 : Below w5.heap.size w5 W6 := by rw [← hW6]; exact (Below.refl _ _).alloc (Nat.le_refl _) _
        have ht6 : W6.heap[T]? = some (.cells #[.int .i64 flo, .int .i64 fhi] 31 (0, 0)) := by rw [← hW6, ← hT]; exact alloc_heap w5 _
        have h46 := hb5.trans (hb6.mono hb5.size)
        have HO6 := Lib.hid (HO4.out.trans (OnlyE.of_below (E := (· = R)) h46))
        have hr6 := box_step (w0 := w) HR4.out h46
        have h6 := box_step (w0 := w) HP4.out h46
        have fz : ∀ o, W6.frozen? ⟨R, o, none⟩ = false := fun o => frozen_of hr6
        have fz0 := fz 0
        have fz1 := fz 1
        have HZ := Lib.hid (set2 (A := .int .i64 (max A flo)) (B := .int .i64 (max B fhi)) hr6)
        have HOZ := Lib.hid (show OnlyE (· = R) W3 ((W6.setCell ⟨R, 0, none⟩ (.int .i64 (max A flo))).setCell ⟨R, 1, none⟩ (.int .i64 (max B fhi))) from (HO6.out.set (E := (· = R)) (b := R) rfl _).set (E := (· = R)) (b := R) rfl _)
        clear y0 y1 y2 y3 hb5 hb6 h46 fz
        obtain ⟨y0, y1, y2, y3⟩ := four_cells h6
        obtain ⟨r0, r1⟩ := two_cells hr6
        obtain ⟨t0, t1⟩ := two_cells ht6
        have hlo : (if A < flo then (flo, j) else (A, ax)).1 = max A flo := by split <;> simp <;> omega
        have g1 := G1.out (by simp)
        have g2 := G2.out (by simp)
        have g1' : (greatF (fun s => (loadF h.tp s).f.1) (setsUp h.rl (j + 1))).1 = max A flo := by rw [g1]; exact hlo
        have HG1 := Lib.hid g1'
        clear h6 hr6 ht6 hlo g1 g1'
        by_cases hbf : B < fhi
        · rw [if_pos hbf] at g2
          have hmx : max B fhi = fhi := by omega
          have HG2 := Lib.hid g2
          have HMX := Lib.hid hmx
          clear g2 hmx
          go_wp2
          clear hW6 hT
          go_wp2
          go_roundw
          case rel => exact ⟨j + 1, by omega, by go_num, by rw [HG2.out], HOZ.out, by
            rw [HG1.out, HG2.out]
            refine HZ.out.trans ?_
            rw [HMX.out]⟩
          case measure => simp [intOf]; omega
        · rw [if_neg hbf] at g2
          have hmx : max B fhi = B := by omega
          have HG2 := Lib.hid g2
          have HMX := Lib.hid hmx
          clear g2 hmx
          go_wp2
          clear hW6 hT
          go_wp2
          go_roundw
          case rel => exact ⟨j + 1, by omega, by go_num, by rw [HG2.out], HOZ.out, by
            rw [HG1.out, HG2.out]
            refine HZ.out.trans ?_
            rw [HMX.out]⟩
          case measure => simp [intOf]; omega
    · have hjl : j = N := by omega
      have i1 : ¬ (j : Int) < (N : Int) := by omega
      have hse : setsUp h.rl j = setsF h := by unfold setsF; rw [HN.out, hjl]
      have he : peakF h = ((greatF (fun s => (loadF h.tp s).f.1) (setsF h)).1, (greatF (fun s => (loadF h.tp s).f.2) (setsF h)).1, (((greatF (fun s => (loadF h.tp s).f.2) (setsF h)).2 : Nat) : Int), 0) := by unfold peakF; rw [if_pos hok]
      rw [HRR.out] at he
      subst he
      rw [hse] at hr ⊢
      obtain ⟨A, hA⟩ : ∃ x, greatF (fun s => (loadF h.tp s).f.1) (setsF h) = x := ⟨_, rfl⟩
      obtain ⟨B, hB⟩ : ∃ x, greatF (fun s => (loadF h.tp s).f.2) (setsF h) = x := ⟨_, rfl⟩
      rw [hA, hB] at hr
      rw [hB]
      have HAA := Lib.hid hA
      have HBB := Lib.hid hB
      have hq := ho.get HQ3.out (by have := HRS.out; omega)
      obtain ⟨r0, r1⟩ := two_cells hr
      obtain ⟨x0, x1⟩ := two_cells hq
      have fz : ∀ o, wr.frozen? ⟨Q, o, none⟩ = false := fun o => frozen_of hq
      have fz0 := fz 0
      have fz1 := fz 1
      have HZ := Lib.hid (set2 (A := .int .i64 A.1) (B := .int .i64 B.1) hq)
      have hbw : Below w.heap.size w wr := HB3.out.trans (ho.below (n := w.heap.size) HB3.out.size (fun k e => by have := HRS.out; omega))
      have HBZ := Lib.hid (show Below w.heap.size w ((wr.setCell ⟨Q, 0, none⟩ (.int .i64 A.1)).setCell ⟨Q, 1, none⟩ (.int .i64 B.1)) from (hbw.setCell (by have := HRS.out; simp; omega) _).setCell (by have := HRS.out; simp; omega) _)
      clear hse hA hB hr hq hp ho fz hbw hlt HR
      go_wp2_with (go_at_call 40; (with_reducible refine (QP.out _).mono ?_); rintro e w2 ⟨rfl, rfl⟩)
      exact bodyPost_ret (res3_31 Try.results15 rfl rfl rfl HZ.out) rfl ⟨(by rw [HAA.out, HBB.out] <;> rfl), HBZ.out⟩
end Go.Proofs.Ytlcmedfjghcigaa
