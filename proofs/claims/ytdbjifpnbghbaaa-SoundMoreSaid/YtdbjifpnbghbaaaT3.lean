/- Sound: the law's lag. -/
import Derived.Test.YtdbjifpnbghbaaaT2
namespace Go.Proofs.Ytdbjifpnbghbaaa
set_option linter.unusedSimpArgs false
set_option linter.unusedVariables false
open Go.RowKit Go.Maps Go.BigFrame Go.ChangeShapes Go.WideShapes Go.ChangeAt

theorem lagT_next (l : List Pi) (sl : List Int) (a b t : Int) (i : Nat) : lagT l sl a b t (i + 1) = lagT l sl a b t i + shareF l a b (nearF (a, b) t) i * sl.getD i default := rfl
set_option maxRecDepth 100000 in
set_option maxHeartbeats 6400000 in
theorem lag_any (l : List Pi) (hok : lineOk l = true) (v : Value) (sl : List Int) (hsl : sl.length = l.length) (hs : ∀ i, i < l.length → 1 ≤ sl.getD i default ∧ sl.getD i default ≤ 10000) (v2 : Value) (a b t : Int) (h0 : 0 ≤ a) (hab : a ≤ b) (hb : b ≤ 1000000000) (ht0 : 0 ≤ t) (ht1 : t ≤ 1000000000) (w : World) (hl : TabAt 3 piC w v l) (ht : TabAt 1 inC w v2 sl) : Calls Try.prog 27 #[v, v2, .int .i64 a, .int .i64 b, .int .i64 t] w fun e w' => e = .returned (.int .i64 (lagT l sl a b t l.length)) ∧ Below w.heap.size w w' := by
  obtain ⟨a0, c0, rfl⟩ := hl.shape
  obtain ⟨a1, c1, e1⟩ := ht.shape
  rw [hsl] at e1
  subst e1
  have h8 := line_few hok
  obtain ⟨W0, hW0⟩ : ∃ X, X = (w.alloc (.cells #[.slice a1 l.length c1] 54)).alloc (.cells #[.int .i64 0] 3) := ⟨_, rfl⟩
  have hal : W0 = al w [(.cells #[.slice a1 l.length c1] 54), (.cells #[.int .i64 0] 3)] := hW0
  have hb0 : Below w.heap.size w W0 := by rw [hal]; exact al_below w _ (Nat.le_refl _)
  have hs0 : W0.heap.size = w.heap.size + 2 := by rw [hal]; exact al_size w _
  have hr0 : W0.heap[w.heap.size]? = some (.cells #[.slice a1 l.length c1] 54 (0, 0)) := by rw [hal]; exact al_get w _ 0 _ rfl
  have hr1 : W0.heap[w.heap.size + 1]? = some (.cells #[.int .i64 0] 3 (0, 0)) := by rw [hal]; exact al_get w _ 1 _ rfl
  obtain ⟨P, hP0⟩ : ∃ x, w.heap.size = x := ⟨_, rfl⟩
  rw [hP0] at hr0 hr1 hs0
  obtain ⟨Q, hP1⟩ : ∃ x, P + 1 = x := ⟨_, rfl⟩
  rw [hP1] at hr1
  clear hal
  obtain ⟨lb, lof, e2, hlb, hlx⟩ := hl.at (by omega)
  subst e2
  obtain ⟨sb, so, e3, hsb, hsx⟩ := ints_row ht (by omega)
  subst e3
  have HS := Lib.hid (show w.heap.size = P ∧ Q = P + 1 from ⟨by omega, by omega⟩)
  have HB := Lib.hid hb0
  have H0 := Lib.hid hr0
  have H1 := Lib.hid hr1
  have HLX := Lib.hid (And.intro hlb hlx)
  have HSX := Lib.hid (And.intro hsb hsx)
  have HO := Lib.hid hok
  have HSS := Lib.hid hs
  have HSL := Lib.hid hsl
  have KI := Lib.hid (fun i hi => lagT_in hok hs a b t i hi)
  clear hb0 hr0 hr1 hs0 hl ht hlb hlx hsb hsx hok hs
  go_enter Try.func27, Try.ntmps27
  go_upto_region 2 with fail
  rw [← hW0]
  try rw [hP0, hP1]
  clear hW0 hP0 hP1
  go_wp2_with fail
  go_loopw [12, 13, 14, 15, 16, 19] (fun n _ _ _ _ i wr => ∃ k : Nat, k ≤ l.length ∧ i = .int .i64 k ∧ n = .int .i64 (lagT l sl a b t k) ∧ Below w.heap.size w wr ∧ wr.heap[P]? = some (.cells #[.slice (some ⟨sb, so, none⟩) l.length c1] 54 (0, 0)) ∧ wr.heap[Q]? = some (.cells #[.int .i64 (posF l k)] 3 (0, 0))) (fun _ _ _ _ _ i _ => l.length - (intOf i).toNat)
  case atStart => exact ⟨0, by omega, rfl, rfl, HB.out, H0.out, H1.out⟩
  case round =>
    obtain ⟨k, hk, rfl, rfl, hbw, hP, hQ⟩ := hrel
    by_cases hlt : k < l.length
    · have x0 := (hbw.cell (p := ⟨lb, lof + k * 3 + 0, none⟩) HLX.out.1).trans (HLX.out.2 k hlt 0 (by omega))
      have x1 := (hbw.cell (p := ⟨lb, lof + k * 3 + 1, none⟩) HLX.out.1).trans (HLX.out.2 k hlt 1 (by omega))
      have x2 := (hbw.cell (p := ⟨lb, lof + k * 3 + 2, none⟩) HLX.out.1).trans (HLX.out.2 k hlt 2 (by omega))
      have y0 := (hbw.cell (p := ⟨sb, so + k, none⟩) HSX.out.1).trans (HSX.out.2 k (by rw [HSL.out]; exact hlt))
      obtain ⟨⟨t0, t1, t2⟩, hrow⟩ : ∃ x : Pi, l.getD k default = x := ⟨_, rfl⟩
      rw [hrow] at x0 x1 x2
      simp only [Nat.add_zero, piC] at x0 x1 x2
      have ij0 : (0 : Int) ≤ (k : Int) := by omega
      have ij1 : (k : Int) < (l.length : Int) := Int.ofNat_lt.2 hlt
      have v7 : IntKind.i64.wrap ((k : Int) + 1) = (k : Int) + 1 := IntWalk.i64_in _ (by omega)
      have hps : posF l (k + 1) = posF l k + t0 := by
        have : posF l (k + 1) = posF l k + (l.getD k default).len := rfl
        rw [this, hrow]
      have hpi := pipe_in HO.out hlt
      rw [hrow] at hpi
      simp only [] at hpi
      have hp0 := pos_small HO.out (i := k) (by omega)
      have hws := way_sum HO.out hlt a b t (sl.getD k default) hab
      have hn := lagT_next l sl a b t k
      have hin := KI.out k hk
      have hin1 := KI.out (k + 1) hlt
      have hss := HSS.out k hlt
      obtain ⟨s, hsk⟩ : ∃ s, sl.getD k default = s := ⟨_, rfl⟩
      rw [hsk] at y0 hws hn hss
      obtain ⟨B, hBk⟩ : ∃ s, posF l k = s := ⟨_, rfl⟩
      obtain ⟨E, hEk⟩ : ∃ s, posF l (k + 1) = s := ⟨_, rfl⟩
      rw [hEk, hBk] at hps hws
      rw [hBk] at hp0 hQ
      have k1 := way_in (x := a) (y := t) (B := B) (E := E) (s := s) (by omega) (by omega) (by omega) hss.2
      have k2 := way_in (x := t) (y := a) (B := B) (E := E) (s := s) (by omega) (by omega) (by omega) hss.2
      have k3 := way_in (x := t) (y := b) (B := B) (E := E) (s := s) (by omega) (by omega) (by omega) hss.2
      have k4 := way_in (x := b) (y := t) (B := B) (E := E) (s := s) (by omega) (by omega) (by omega) hss.2
      have KW := fun (x y : Int) (hx : 0 ≤ x ∧ x ≤ 1000000000) (hy : 0 ≤ y ∧ y ≤ 1000000000) (PE PI : Nat) X h1 h2 h3 h4 h5 => way_any x y E B s k PE Q P PI sb so l.length c1 X (by omega) (by omega) (by omega) (by omega) (by omega) hss.2 hlt (by omega) h1 h2 h3 h4 h5
      have K1 := Lib.hid (KW a t (by omega) (by omega))
      have K2 := Lib.hid (KW t a (by omega) (by omega))
      have K3 := Lib.hid (KW t b (by omega) (by omega))
      have K4 := Lib.hid (KW b t (by omega) (by omega))
      obtain ⟨m1, hm1⟩ : ∃ m, wayF a t B E s = m := ⟨_, rfl⟩
      obtain ⟨m2, hm2⟩ : ∃ m, wayF t a B E s = m := ⟨_, rfl⟩
      obtain ⟨m3, hm3⟩ : ∃ m, wayF t b B E s = m := ⟨_, rfl⟩
      obtain ⟨m4, hm4⟩ : ∃ m, wayF b t B E s = m := ⟨_, rfl⟩
      rw [hm1] at k1 K1 hws
      rw [hm2] at k2 K2 hws
      rw [hm3] at k3 K3 hws
      rw [hm4] at k4 K4 hws
      obtain ⟨d, hd⟩ : ∃ m, shareF l a b (nearF (a, b) t) k * s = m := ⟨_, rfl⟩
      rw [hd] at hws hn
      obtain ⟨N, hN⟩ : ∃ m, lagT l sl a b t k = m := ⟨_, rfl⟩
      obtain ⟨N1, hN1⟩ : ∃ m, lagT l sl a b t (k + 1) = m := ⟨_, rfl⟩
      rw [hN1, hN] at hn
      rw [hN] at hin
      rw [hN1] at hin1
      have e1 : IntKind.i64.wrap (m1 + m2) = m1 + m2 := IntWalk.i64_in _ (by omega)
      have e2 : IntKind.i64.wrap (m1 + m2 - m3) = m1 + m2 - m3 := IntWalk.i64_in _ (by omega)
      have e3 : IntKind.i64.wrap (m1 + m2 - m3 - m4) = d := by rw [← hws]; exact IntWalk.i64_in _ (by omega)
      have e4 : IntKind.i64.wrap (N + d) = N1 := by rw [← hn]; exact IntWalk.i64_in _ (by omega)
      have e5 : IntKind.i64.wrap (B + t0) = E := by rw [← hps]; exact IntWalk.i64_in _ (by omega)
      obtain ⟨W1, hW1⟩ : ∃ X, X = (wr.alloc (.cells #[.int .i64 k] 3)).alloc (.cells #[.int .i64 t0, .int .i64 t1, .int .i64 t2] 59) := ⟨_, rfl⟩
      have hal : W1 = al wr [(.cells #[.int .i64 k] 3), (.cells #[.int .i64 t0, .int .i64 t1, .int .i64 t2] 59)] := hW1
      have hb1 : Below wr.heap.size wr W1 := by rw [hal]; exact al_below wr _ (Nat.le_refl _)
      have hr0 : W1.heap[wr.heap.size]? = some (.cells #[.int .i64 k] 3 (0, 0)) := by rw [hal]; exact al_get wr _ 0 _ rfl
      have hr1 : W1.heap[wr.heap.size + 1]? = some (.cells #[.int .i64 t0, .int .i64 t1, .int .i64 t2] 59 (0, 0)) := by rw [hal]; exact al_get wr _ 1 _ rfl
      have hQ1 := box_step (w0 := w) hQ hb1
      have z0 := one_cell hQ1
      have HA0 := Lib.hid (And.intro hr0 hr1)
      have HP1 := Lib.hid (box_step (w0 := w) hP hb1)
      have HQ1 := Lib.hid hQ1
      have HY1 := Lib.hid (cell_step y0 hb1)
      have HB1 := Lib.hid (hbw.trans (hb1.mono hbw.size))
      have HN1 := Lib.hid hN1
      have HEK := Lib.hid hEk
      clear hP hQ y0 hrow hps hpi hp0 hws hn hin hin1 hss hsk hBk hEk k1 k2 k3 k4 KW hm1 hm2 hm3 hm4 hd hN1 hal hb1 hr0 hr1 hQ1 hbw
      rw [hN]
      clear hN
      go_upto_region 5 with fail
      rw [← hW1]
      obtain ⟨hr0, hr1⟩ := HA0.out
      obtain ⟨A, hA⟩ : ∃ x, wr.heap.size = x := ⟨_, rfl⟩
      rw [hA] at hr0 hr1 ⊢
      obtain ⟨C, hC⟩ : ∃ x, A + 1 = x := ⟨_, rfl⟩
      rw [hC] at hr1 ⊢
      obtain ⟨p0, p1, p2⟩ := three_cells hr1
      have HA1 := Lib.hid hr0
      clear hW1 hA hC x0 x1 x2 hr0 hr1 HA0
      obtain ⟨W2, hW2⟩ : ∃ X, X = W1.alloc (.cells #[.int .i64 E] 3) := ⟨_, rfl⟩
      have hb2 : Below W1.heap.size W1 W2 := by rw [hW2]; exact (Below.refl _ _).alloc (Nat.le_refl _) _
      have hr2 : W2.heap[W1.heap.size]? = some (.cells #[.int .i64 E] 3 (0, 0)) := by rw [hW2]; exact alloc_heap W1 _
      obtain ⟨D, hD⟩ : ∃ x, W1.heap.size = x := ⟨_, rfl⟩
      rw [hD] at hr2
      have HD2 := Lib.hid hr2
      have HA2 := Lib.hid (box_step (w0 := w) HA1.out hb2)
      have HP2 := Lib.hid (box_step (w0 := w) HP1.out hb2)
      have HQ2 := Lib.hid (box_step (w0 := w) HQ1.out hb2)
      have HY2 := Lib.hid (cell_step HY1.out hb2)
      have HB2 := Lib.hid (HB1.out.trans (hb2.mono HB1.out.size))
      clear hb2 hr2 HA1 HP1 HQ1 HY1 HB1
      go_upto_region 6 with fail
      rw [← hW2]
      try rw [hD]
      clear hW2 hD z0 p0 p1 p2
      go_wp2_with (go_at_call 51; fail)
      refine (K1.out D A W2 HD2.out HQ2.out HP2.out HA2.out HY2.out).mono ?_
      rintro e w3 ⟨rfl, hb3⟩
      have HD3 := Lib.hid (box_step (w0 := w) HD2.out hb3)
      have HA3 := Lib.hid (box_step (w0 := w) HA2.out hb3)
      have HP3 := Lib.hid (box_step (w0 := w) HP2.out hb3)
      have HQ3 := Lib.hid (box_step (w0 := w) HQ2.out hb3)
      have HY3 := Lib.hid (cell_step HY2.out hb3)
      have HB3 := Lib.hid (HB2.out.trans (hb3.mono HB2.out.size))
      clear hb3 HD2 HA2 HP2 HQ2 HY2 HB2 K1
      go_wp2_with (go_at_call 51; fail)
      refine (K2.out D A w3 HD3.out HQ3.out HP3.out HA3.out HY3.out).mono ?_
      rintro e w4 ⟨rfl, hb4⟩
      have HD4 := Lib.hid (box_step (w0 := w) HD3.out hb4)
      have HA4 := Lib.hid (box_step (w0 := w) HA3.out hb4)
      have HP4 := Lib.hid (box_step (w0 := w) HP3.out hb4)
      have HQ4 := Lib.hid (box_step (w0 := w) HQ3.out hb4)
      have HY4 := Lib.hid (cell_step HY3.out hb4)
      have HB4 := Lib.hid (HB3.out.trans (hb4.mono HB3.out.size))
      clear hb4 HD3 HA3 HP3 HQ3 HY3 HB3 K2
      go_wp2_with (go_at_call 51; fail)
      refine (K3.out D A w4 HD4.out HQ4.out HP4.out HA4.out HY4.out).mono ?_
      rintro e w5 ⟨rfl, hb5⟩
      have HD5 := Lib.hid (box_step (w0 := w) HD4.out hb5)
      have HA5 := Lib.hid (box_step (w0 := w) HA4.out hb5)
      have HP5 := Lib.hid (box_step (w0 := w) HP4.out hb5)
      have HQ5 := Lib.hid (box_step (w0 := w) HQ4.out hb5)
      have HY5 := Lib.hid (cell_step HY4.out hb5)
      have HB5 := Lib.hid (HB4.out.trans (hb5.mono HB4.out.size))
      clear hb5 HD4 HA4 HP4 HQ4 HY4 HB4 K3
      go_wp2_with (go_at_call 51; fail)
      refine (K4.out D A w5 HD5.out HQ5.out HP5.out HA5.out HY5.out).mono ?_
      rintro e w6 ⟨rfl, hb6⟩
      have hQ6 := box_step (w0 := w) HQ5.out hb6
      have hD6 := one_cell (box_step (w0 := w) HD5.out hb6)
      have hf6 : w6.frozen? ⟨Q, 0, none⟩ = false := frozen_of hQ6
      have z0 := one_cell hQ6
      have hb60 := HB5.out.trans (hb6.mono HB5.out.size)
      have hss := HS.out
      have HQ6 := Lib.hid (set_one hQ6 (.int .i64 E))
      have HP6 := Lib.hid ((set_other w6 Q 0 P (.int .i64 E) (by omega)).trans (box_step (w0 := w) HP5.out hb6))
      have HB6 := Lib.hid (hb60.setCell (p := ⟨Q, 0, none⟩) (by show w.heap.size ≤ Q; omega) (.int .i64 E))
      clear hb6 hb60 hQ6 hss HD5 HA5 HP5 HQ5 HY5 HB5 K4
      go_wp2
      go_roundw
      case rel => exact ⟨k + 1, by omega, by go_num, by rw [HN1.out], HB6.out, HP6.out, by rw [HEK.out]; exact HQ6.out⟩
      case measure => simp [intOf]; omega
    · have i1 : ¬ (k : Int) < (l.length : Int) := by omega
      have hkl : k = l.length := by omega
      subst hkl
      have HBW := Lib.hid hbw
      clear hbw hP hQ
      go_wp2
      go_ret
      exact ⟨rfl, HBW.out⟩
end Go.Proofs.Ytdbjifpnbghbaaa
