/- Size: Peak. -/
import Derived.Test.YtlcmedfjghcigaaA11
namespace Go.Proofs.Ytlcmedfjghcigaa
set_option linter.unusedSimpArgs false
set_option linter.unusedVariables false
open Go.RowKit Go.Maps

theorem var31 {w : World} {g : Nat} {t : TypeId} {f : Nat × Nat} {x y : Int} (hg : w.heap[g]? = some (.cells #[.int .i64 x, .int .i64 y] t f)) : Sem.run Try.prog (loadVar 31 ⟨g, 0, none⟩) w = .ok (.agg #[.int .i64 x, .int .i64 y]) w :=
  run_loadVar_row w g t 31 _ f _ hg Try.underlying31 rfl (by kernel_rfl)
theorem res3_31 {fn : Func} {p u v : Tmp} (h : fn.results = #[.cell p 31, .tmp u, .tmp v]) {tmps : Array Value} {w : World} {g : Nat} {t : TypeId} {f : Nat × Nat} {x y : Int} {a b : Value} (hp : tmps.getD p undef = .pointer (some ⟨g, 0, none⟩)) (ha : tmps.getD u undef = a) (hb : tmps.getD v undef = b) (hg : w.heap[g]? = some (.cells #[.int .i64 x, .int .i64 y] t f)) :
    (results fn tmps).run Try.prog w = .ok (.tuple #[.agg #[.int .i64 x, .int .i64 y], a, b]) w := by
  have hp' : tmps[p]?.getD undef = .pointer (some ⟨g, 0, none⟩) := by simpa using hp
  have ha' : tmps[u]?.getD undef = a := by simpa using ha
  have hb' : tmps[v]?.getD undef = b := by simpa using hb
  simp [results, h, hp', ha', hb', asAddr, var31 hg]
theorem dat_of {w w' : World} {h : Hs} {a1 : Option Addr} {c1 : Nat} {a2 : Option Addr} {c2 M : Nat} (hh : HsAt w h a1 c1 a2 c2) (hb : Below w.heap.size w w') (hm : MapAt w' M h.tp (setsF h)) : DAt w' h a1 c1 a2 c2 M := ⟨(hh.below hb).tp, (hh.below hb).rl, hm⟩
theorem peak_no {h : Hs} (k : hsOk h = false) : peakF h = (0, 0, 0, 1) := by unfold peakF; rw [k]; rfl
theorem peak_yes {h : Hs} (k : hsOk h = true) : peakF h = ((greatF (fun s => (loadF h.tp s).f.1) (setsF h)).1, (greatF (fun s => (loadF h.tp s).f.2) (setsF h)).1, (((greatF (fun s => (loadF h.tp s).f.2) (setsF h)).2 : Nat) : Int), (0 : Int)) := by unfold peakF; rw [if_pos k]
def PeakR (w : World) (r : Int × Int × Int × Int) (e : Ending) (w' : World) : Prop := e = .returned (.tuple #[.agg #[.int .i64 r.1, .int .i64 r.2.1], .int .i64 r.2.2.1, .int .i64 r.2.2.2]) ∧ Below w.heap.size w w'
set_option maxRecDepth 100000 in
set_option maxHeartbeats 3200000 in
theorem Peak_any (h : Hs) (a1 : Option Addr) (c1 : Nat) (a2 : Option Addr) (c2 : Nat) (w : World) (hh : HsAt w h a1 c1 a2 c2) : Calls Try.prog 14 #[hsV h a1 c1 a2 c2] w (PeakR w (peakF h)) := by
  have mt : h.tp.length ≤ 9223372036854775807 := hh.tp.1
  obtain ⟨W0, hW0⟩ : ∃ X, X = (w.alloc (.cells #[.int .i64 h.head, .int .i64 h.drip, .slice a1 h.tp.length c1, .slice a2 h.rl.length c2] 25)).alloc (.cells #[.int .i64 0, .int .i64 0] 31) := ⟨_, rfl⟩
  have hal : W0 = al w [(.cells #[.int .i64 h.head, .int .i64 h.drip, .slice a1 h.tp.length c1, .slice a2 h.rl.length c2] 25), (.cells #[.int .i64 0, .int .i64 0] 31)] := hW0
  have hb0 : Below w.heap.size w W0 := by rw [hal]; exact al_below w _ (Nat.le_refl _)
  have hs0 : W0.heap.size = w.heap.size + 2 := by rw [hal]; exact al_size w _
  have hr0 : W0.heap[w.heap.size]? = some (.cells #[.int .i64 h.head, .int .i64 h.drip, .slice a1 h.tp.length c1, .slice a2 h.rl.length c2] 25 (0, 0)) := by rw [hal]; exact al_get w _ 0 _ rfl
  have hr1 : W0.heap[w.heap.size + 1]? = some (.cells #[.int .i64 0, .int .i64 0] 31 (0, 0)) := by rw [hal]; exact al_get w _ 1 _ rfl
  obtain ⟨P, hP0⟩ : ∃ x, w.heap.size = x := ⟨_, rfl⟩
  rw [hP0] at hr0 hr1 hs0
  obtain ⟨Q, hP1⟩ : ∃ x, P + 1 = x := ⟨_, rfl⟩
  rw [hP1] at hr1
  clear hal
  rw [hP0] at hb0
  have HS := Lib.hid (show w.heap.size = P ∧ Q = P + 1 ∧ W0.heap.size = P + 2 from ⟨by omega, by omega, by omega⟩)
  have HB := Lib.hid hb0
  have H0 := Lib.hid hr0
  have H1 := Lib.hid hr1
  have hh0 := hh.below (by rw [hP0]; exact hb0)
  have HH0 := Lib.hid hh0
  have hno := peak_no (h := h)
  have hyes := peak_yes (h := h)
  obtain ⟨RR, hRR⟩ : ∃ r, peakF h = r := ⟨_, rfl⟩
  rw [hRR] at hno hyes ⊢
  have KH := Lib.hid (isHouse_any h a1 c1 a2 c2 W0 hh0)
  obtain ⟨b, hb⟩ : ∃ b, hsOk h = b := ⟨_, rfl⟩
  rw [hb] at hno hyes KH
  have HBB := Lib.hid hb
  have HNO := Lib.hid hno
  have HYES := Lib.hid hyes
  obtain ⟨y0, y1, y2, y3⟩ := four_cells hr0
  obtain ⟨z0, z1⟩ := two_cells hr1
  clear hb0 hr0 hr1 hs0 hh hh0 hno hyes hRR hb
  unfold hsV at *
  cases b with
  | false =>
    have hrr := HNO.out rfl
    subst hrr
    go_enter Try.func14, Try.ntmps14
    go_upto_region 1 with fail
    rw [← hW0]
    clear hW0 hP0 hP1
    go_wp2_with (go_at_call 35; fail)
    refine KH.out.mono ?_
    rintro e w2 ⟨rfl, hb2⟩
    have hq2 := box_step (w0 := w) H1.out hb2
    obtain ⟨q0, q1⟩ := two_cells hq2
    have fz : ∀ o, w2.frozen? ⟨Q, o, none⟩ = false := fun o => frozen_of hq2
    have fz0 := fz 0
    have fz1 := fz 1
    have HZ := Lib.hid (set2 (A := .int .i64 0) (B := .int .i64 0) hq2)
    have HB2 := Lib.hid (HB.out.trans (hb2.mono (by have := HS.out; omega)))
    have HB3 := Lib.hid (show Below P w ((w2.setCell ⟨Q, 0, none⟩ (.int .i64 0)).setCell ⟨Q, 1, none⟩ (.int .i64 0)) from (HB2.out.setCell (by have := HS.out; simp; omega) _).setCell (by have := HS.out; simp; omega) _)
    clear hb2 hq2 fz y0 y1 y2 y3 z0 z1
    go_wp2
    exact bodyPost_ret (res3_31 Try.results14 rfl rfl rfl HZ.out) rfl ⟨rfl, by rw [HS.out.1]; exact HB3.out⟩
  | true =>
    have hok := HBB.out
    have hrr := HYES.out (by simp)
    go_enter Try.func14, Try.ntmps14
    go_upto_region 1 with fail
    rw [← hW0]
    clear hW0 hP0 hP1
    go_wp2_with (go_at_call 35; fail)
    refine KH.out.mono ?_
    rintro e w2 ⟨rfl, hb2⟩
    have hq2 := box_step (w0 := w) H1.out hb2
    have hp2 := box_step (w0 := w) H0.out hb2
    have hh2 := HH0.out.below hb2
    have HB2 := Lib.hid (HB.out.trans (hb2.mono (by have := HS.out; omega)))
    have hs2 : P + 2 ≤ w2.heap.size := by have := hb2.size; have := HS.out; omega
    have KD := Lib.hid (demandOf_any h hok a1 c1 a2 c2 w2 hh2)
    unfold hsV at KD
    clear hb2 y0 y1 y2 y3
    obtain ⟨y0, y1, y2, y3⟩ := four_cells hp2
    go_wp2_with (go_at_call 36; fail)
    refine KD.out.mono ?_
    rintro e w3 ⟨M, rfl, hm3, hb3⟩
    have hd3 := dat_of hh2 hb3 hm3
    have hq3 := box_step (w0 := w) hq2 hb3
    have HB3 := Lib.hid (HB2.out.trans (hb3.mono (by omega)))
    have hs3 : P + 2 ≤ w3.heap.size := by have := hb3.size; omega
    obtain ⟨R, hR⟩ : ∃ x, w3.heap.size = x := ⟨_, rfl⟩
    obtain ⟨W4, hW4⟩ : ∃ X, w3.alloc (.cells (setsCells h a1 c1 a2 c2 M) 72) = X := ⟨_, rfl⟩
    have hb4 : Below w3.heap.size w3 W4 := by rw [← hW4]; exact (Below.refl _ _).alloc (Nat.le_refl _) _
    have hr4 : W4.heap[R]? = some (.cells (setsCells h a1 c1 a2 c2 M) 72 (0, 0)) := by rw [← hW4, ← hR]; exact alloc_heap w3 _
    have hd4 := hd3.below hb4
    have hq4 := box_step (w0 := w) hq3 hb4
    have HB4 := Lib.hid (HB3.out.trans (hb4.mono (by omega)))
    have hs4 : P + 2 ≤ W4.heap.size := by have := hb4.size; omega
    have K1 := Lib.hid (greatest_least h hok a1 c1 a2 c2 M W4 hd4)
    have K2 := Lib.hid (fun X hX => greatest_most h hok a1 c1 a2 c2 M X hX)
    have HD4 := Lib.hid hd4
    have HR4 := Lib.hid hr4
    have HQ4 := Lib.hid hq4
    unfold dV at K1 K2 ⊢
    unfold setsCells at K1 K2 HR4 hW4 ⊢
    obtain ⟨g1, hg1⟩ : ∃ g, greatF (fun s => (loadF h.tp s).f.1) (setsF h) = g := ⟨_, rfl⟩
    obtain ⟨g2, hg2⟩ : ∃ g, greatF (fun s => (loadF h.tp s).f.2) (setsF h) = g := ⟨_, rfl⟩
    rw [hg1] at K1 hrr
    simp only [hg2] at K2
    rw [hg2] at hrr
    have HRR := Lib.hid hrr
    clear hb3 hm3 hd3 hq3 hh2 hq2 hp2 hb4 hr4 hd4 hq4 hg1 hg2 y0 y1 y2 y3 hrr
    obtain ⟨x0, x1, x2, x3, x4⟩ := five_cells HR4.out
    go_wp2_with (go_at_call 37; fail)
    clear hW4 hR
    refine K1.out.mono ?_
    rintro e w5 ⟨rfl, hb5⟩
    have hr5 := box_step (w0 := w) HR4.out hb5
    have K3 := Lib.hid (K2.out w5 (HD4.out.below hb5))
    have HB5 := Lib.hid (HB4.out.trans (hb5.mono (by omega)))
    have hs5 : P + 2 ≤ w5.heap.size := by have := hb5.size; omega
    have hq5 := box_step (w0 := w) HQ4.out hb5
    clear hb5 x0 x1 x2 x3 x4
    obtain ⟨x0, x1, x2, x3, x4⟩ := five_cells hr5
    go_wp2_with (go_at_call 37; fail)
    refine K3.out.mono ?_
    rintro e w6 ⟨rfl, hb6⟩
    have hq6 := box_step (w0 := w) hq5 hb6
    obtain ⟨q0, q1⟩ := two_cells hq6
    have fz : ∀ o, w6.frozen? ⟨Q, o, none⟩ = false := fun o => frozen_of hq6
    have fz0 := fz 0
    have fz1 := fz 1
    have HZ := Lib.hid (set2 (A := .int .i64 g1.1) (B := .int .i64 g2.1) hq6)
    have HB6 := Lib.hid (HB5.out.trans (hb6.mono (by omega)))
    have HB7 := Lib.hid (show Below P w ((w6.setCell ⟨Q, 0, none⟩ (.int .i64 g1.1)).setCell ⟨Q, 1, none⟩ (.int .i64 g2.1)) from (HB6.out.setCell (by have := HS.out; simp; omega) _).setCell (by have := HS.out; simp; omega) _)
    clear hb6 hq6 hq5 hr5 fz x0 x1 x2 x3 x4
    go_wp2
    exact bodyPost_ret (res3_31 Try.results14 rfl rfl rfl HZ.out) rfl ⟨by rw [HRR.out]; rfl, by rw [HS.out.1]; exact HB7.out⟩
end Go.Proofs.Ytlcmedfjghcigaa
