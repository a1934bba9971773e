/- Size: the reference: a set that is starved, the first one. -/
import Derived.Test.YtlcmedfjghcigaaS4
namespace Go.Proofs.Ytlcmedfjghcigaa
set_option linter.unusedSimpArgs false
set_option linter.unusedVariables false
open Go.RowKit Go.Maps Go.BigFrame

theorem find_snd2 (h : Hs) (z : Sz) (s : Nat) : (findF h z s).2 = (!shortF h z s && decide ((h.head - (loadF h.tp s).n) * z.full * z.full < z.loss * (loadF h.tp s).f.2 * (loadF h.tp s).f.2)) := by
  unfold findF shortF
  by_cases q : z.full < (loadF h.tp s).f.2
  · rw [if_pos q]; simp [q]
  · rw [if_neg q]; simp [q]
theorem starve_is {h : Hs} {z : Sz} {j : Nat} (h1 : ∀ y, y < j → openF h.rl y = true → badF h z y = false) (hj : j < 2 ^ h.tp.length) (ho : openF h.rl j = true) (hb : badF h z j = true) : starveF h z = some j := by
  unfold starveF setsF setsUp
  rw [List.find?_filter, List.find?_range_eq_some]
  refine ⟨by simp [ho, hb], List.mem_range.2 hj, fun y hy => ?_⟩
  cases q : openF h.rl y with
  | false => simp [q]
  | true => simp [q, h1 y hy q]
theorem starve_no {h : Hs} {z : Sz} (h1 : ∀ y, y < 2 ^ h.tp.length → openF h.rl y = true → badF h z y = false) : starveF h z = none := by
  unfold starveF
  rw [List.find?_eq_none]
  intro x hx
  obtain ⟨q1, q2⟩ := mem_sets.1 hx
  rw [h1 x q1 q2]; simp
def starvedP (h : Hs) (z : Sz) : Int × Bool := match starveF h z with | some x => ((x : Nat), (findF h z x).2) | none => (0, false)
set_option maxRecDepth 100000 in
set_option maxHeartbeats 6400000 in
theorem Starves_any (h : Hs) (hok : hsOk h = true) (a1 : Option Addr) (c1 : Nat) (a2 : Option Addr) (c2 : Nat) (z : Sz) (hz : szOk z = true) (s : Nat) (hs : s < 1048576) (w : World) (hh : HsAt w h a1 c1 a2 c2) : Calls Try.prog 59 #[hsV h a1 c1 a2 c2, szV z, .int .i64 (s : Nat)] w fun e w' => e = .returned (.tuple #[.bool (badF h z s), .bool (findF h z s).2]) ∧ Below w.heap.size w w' := by
  have mt : h.tp.length ≤ 9223372036854775807 := hh.tp.1
  obtain ⟨hb1, hb2, hb3⟩ := load_in hok s
  have hhead := (headOk_iff.1 (hsOk_iff.1 hok).1).1
  obtain ⟨⟨hz1, hz2⟩, _, ⟨hz3, hz4⟩, _⟩ := szOk_iff.1 hz
  rw [bad_split, find_snd2]
  have hsh : shortF h z s = decide (z.full < (loadF h.tp s).f.2) := rfl
  rw [hsh]
  obtain ⟨s0, s1, s2, s3⟩ := z
  obtain ⟨W0, hW0⟩ : ∃ X, X = (w.alloc (.cells #[.int .i64 h.head, .int .i64 h.drip, .slice a1 h.tp.length c1, .slice a2 h.rl.length c2] 25)).alloc (.cells #[.int .i64 s0, .int .i64 s1, .int .i64 s2, .int .i64 s3] 27) := ⟨_, rfl⟩
  have hal : W0 = al w [(.cells #[.int .i64 h.head, .int .i64 h.drip, .slice a1 h.tp.length c1, .slice a2 h.rl.length c2] 25), (.cells #[.int .i64 s0, .int .i64 s1, .int .i64 s2, .int .i64 s3] 27)] := hW0
  have hb0 : Below w.heap.size w W0 := by rw [hal]; exact al_below w _ (Nat.le_refl _)
  have hs0 : W0.heap.size = w.heap.size + 2 := by rw [hal]; exact al_size w _
  have hr0 : W0.heap[w.heap.size]? = some (.cells #[.int .i64 h.head, .int .i64 h.drip, .slice a1 h.tp.length c1, .slice a2 h.rl.length c2] 25 (0, 0)) := by rw [hal]; exact al_get w _ 0 _ rfl
  have hr1 : W0.heap[w.heap.size + 1]? = some (.cells #[.int .i64 s0, .int .i64 s1, .int .i64 s2, .int .i64 s3] 27 (0, 0)) := by rw [hal]; exact al_get w _ 1 _ rfl
  obtain ⟨P, hP0⟩ : ∃ x, w.heap.size = x := ⟨_, rfl⟩
  rw [hP0] at hr0 hr1 hs0
  obtain ⟨Q, hP1⟩ : ∃ x, P + 1 = x := ⟨_, rfl⟩
  rw [hP1] at hr1
  clear hal
  have HB0 := Lib.hid hb0
  have HP := Lib.hid hr0
  have HQ := Lib.hid hr1
  have hh0 := hh.below hb0
  have KF := Flow_any h hok a1 c1 a2 c2 s hs W0 hh0
  clear hsh hb1 hz
  obtain ⟨lo1, hlo⟩ : ∃ f, (loadF h.tp s).f.1 = f := ⟨_, rfl⟩
  obtain ⟨f, hf⟩ : ∃ f, (loadF h.tp s).f.2 = f := ⟨_, rfl⟩
  obtain ⟨nd, hnd⟩ : ∃ f, (loadF h.tp s).n = f := ⟨_, rfl⟩
  rw [hlo, hf, hnd] at KF
  rw [hf] at hb2 ⊢
  rw [hnd] at hb3 ⊢
  simp only [] at hz1 hz2 hz3 hz4 ⊢
  obtain ⟨PR, hPR⟩ : ∃ p, decide ((h.head - nd) * s1 * s1 < s2 * f * f) = p := ⟨_, rfl⟩
  rw [hPR]
  have HPR := Lib.hid hPR
  clear hPR
  obtain ⟨y0, y1, y2, y3⟩ := four_cells hr0
  obtain ⟨x0, x1, x2, x3⟩ := four_cells hr1
  have KFF := Lib.hid KF
  have EV : hsV h a1 c1 a2 c2 = .agg #[.int .i64 h.head, .int .i64 h.drip, .slice a1 h.tp.length c1, .slice a2 h.rl.length c2] := rfl
  rw [EV] at KFF ⊢
  clear KF hh hh0 hb0 hr0 hr1 hs0 hlo hf hnd EV
  unfold szV
  simp only []
  go_enter Try.func59, Try.ntmps59
  go_upto_region 1 with fail
  rw [← hW0]
  clear hW0 hP0 hP1
  go_wp2_with (go_at_call 28; fail)
  refine KFF.out.mono ?_
  rintro e w2 ⟨rfl, hb2'⟩
  obtain ⟨R, hR⟩ : ∃ x, w2.heap.size = x := ⟨_, rfl⟩
  obtain ⟨W3, hW3⟩ : ∃ X, w2.alloc (.cells #[.int .i64 lo1, .int .i64 f] 31) = X := ⟨_, rfl⟩
  have hb3' : Below w2.heap.size w2 W3 := by rw [← hW3]; exact (Below.refl _ _).alloc (Nat.le_refl _) _
  have hr3 : W3.heap[R]? = some (.cells #[.int .i64 lo1, .int .i64 f] 31 (0, 0)) := by rw [← hW3, ← hR]; exact alloc_heap w2 _
  have hbb := hb2'.trans (hb3'.mono hb2'.size)
  have HB := Lib.hid (HB0.out.trans (hbb.mono HB0.out.size))
  have hp3 := box_step (w0 := w) HP.out hbb
  have hq3 := box_step (w0 := w) HQ.out hbb
  clear y0 y1 y2 y3 x0 x1 x2 x3 hb2' hb3' hbb
  obtain ⟨y0, y1, y2, y3⟩ := four_cells hp3
  obtain ⟨x0, x1, x2, x3⟩ := four_cells hq3
  obtain ⟨r0, r1⟩ := two_cells hr3
  clear hp3 hq3 hr3
  by_cases hlt : s1 < f
  · go_wp2
    exact bodyPost_ret (results_tmp2 rfl _ _ _) rfl ⟨by simp [hlt], HB.out⟩
  · obtain ⟨l, hl⟩ : ∃ l, h.head - nd = l := ⟨_, rfl⟩
    have w0 : IntKind.i64.wrap (h.head - nd) = l := by rw [hl]; exact IntWalk.i64_in _ (by omega)
    have p1 := prod_in (a := l) (b := s1) (A := 10000) (B := 1000000) (by omega) (by omega) (by omega)
    obtain ⟨l1, hl1⟩ : ∃ x, l * s1 = x := ⟨_, rfl⟩
    have p2 := prod_in (a := l1) (b := s1) (A := 10000 * 1000000) (B := 1000000) (by rw [← hl1]; exact p1) (by omega) (by omega)
    obtain ⟨l2, hl2⟩ : ∃ x, l1 * s1 = x := ⟨_, rfl⟩
    have p3 := prod_in (a := s2) (b := f) (A := 10000) (B := 1000000) (by omega) (by omega) (by omega)
    obtain ⟨m1, hm1⟩ : ∃ x, s2 * f = x := ⟨_, rfl⟩
    have p4 := prod_in (a := m1) (b := f) (A := 10000 * 1000000) (B := 1000000) (by rw [← hm1]; exact p3) (by omega) (by omega)
    obtain ⟨m2, hm2⟩ : ∃ x, m1 * f = x := ⟨_, rfl⟩
    have hpr := HPR.out
    rw [hl, hl1, hl2, hm1, hm2] at hpr
    have HPR2 := Lib.hid hpr
    rw [hl1] at p1
    rw [hl2] at p2
    rw [hm1] at p3
    rw [hm2] at p4
    have w1 : IntKind.i64.wrap (l * s1) = l1 := by rw [hl1]; exact IntWalk.i64_in _ (by omega)
    have w2' : IntKind.i64.wrap (l1 * s1) = l2 := by rw [hl2]; exact IntWalk.i64_in _ (by omega)
    have w3 : IntKind.i64.wrap (s2 * f) = m1 := by rw [hm1]; exact IntWalk.i64_in _ (by omega)
    have w4 : IntKind.i64.wrap (m1 * f) = m2 := by rw [hm2]; exact IntWalk.i64_in _ (by omega)
    have hd : decide (s1 < f) = false := by simpa using hlt
    have HD := Lib.hid hd
    clear hl hl1 hl2 hm1 hm2 p1 p2 p3 p4 hpr HPR hd
    go_wp2
    exact bodyPost_ret (results_tmp2 rfl _ _ _) rfl ⟨by rw [HD.out, HPR2.out]; simp, HB.out⟩
set_option maxRecDepth 100000 in
set_option maxHeartbeats 6400000 in
theorem starvedR_any (h : Hs) (hok : hsOk h = true) (a1 : Option Addr) (c1 : Nat) (a2 : Option Addr) (c2 : Nat) (z : Sz) (hz : szOk z = true) (w : World) (hh : HsAt w h a1 c1 a2 c2) : Calls Try.prog 44 #[hsV h a1 c1 a2 c2, szV z] w fun e w' => e = .returned (.tuple #[.int .i64 (starvedP h z).1, .bool (starvedP h z).2]) ∧ Below w.heap.size w w' := by
  have mt : h.tp.length ≤ 9223372036854775807 := hh.tp.1
  have h10 := (few_taps hok).2
  have hpw := pow_table h10
  have qp := fun X => power_any h.tp.length (by omega) X
  obtain ⟨N, hN⟩ : ∃ n, 2 ^ h.tp.length = n := ⟨_, rfl⟩
  rw [hN] at hpw
  simp only [hN] at qp
  have QP := Lib.hid qp
  have HN := Lib.hid hN
  have hz0 := bad_zero hok hz
  clear qp hN
  obtain ⟨W0, hW0⟩ : ∃ X, X = (w.alloc (.cells #[.int .i64 h.head, .int .i64 h.drip, .slice a1 h.tp.length c1, .slice a2 h.rl.length c2] 25)).alloc (.cells #[.int .i64 z.start, .int .i64 z.full, .int .i64 z.loss, .int .i64 z.price] 27) := ⟨_, rfl⟩
  have hal : W0 = al w [(.cells #[.int .i64 h.head, .int .i64 h.drip, .slice a1 h.tp.length c1, .slice a2 h.rl.length c2] 25), (.cells #[.int .i64 z.start, .int .i64 z.full, .int .i64 z.loss, .int .i64 z.price] 27)] := hW0
  have hb0 : Below w.heap.size w W0 := by rw [hal]; exact al_below w _ (Nat.le_refl _)
  have hs0 : W0.heap.size = w.heap.size + 2 := by rw [hal]; exact al_size w _
  have hr0 : W0.heap[w.heap.size]? = some (.cells #[.int .i64 h.head, .int .i64 h.drip, .slice a1 h.tp.length c1, .slice a2 h.rl.length c2] 25 (0, 0)) := by rw [hal]; exact al_get w _ 0 _ rfl
  have hr1 : W0.heap[w.heap.size + 1]? = some (.cells #[.int .i64 z.start, .int .i64 z.full, .int .i64 z.loss, .int .i64 z.price] 27 (0, 0)) := by rw [hal]; exact al_get w _ 1 _ rfl
  obtain ⟨P, hP0⟩ : ∃ x, w.heap.size = x := ⟨_, rfl⟩
  rw [hP0] at hr0 hr1 hs0
  obtain ⟨Q, hP1⟩ : ∃ x, P + 1 = x := ⟨_, rfl⟩
  rw [hP1] at hr1
  clear hal
  have HB0 := Lib.hid hb0
  have HP0 := Lib.hid hr0
  have HQ0 := Lib.hid hr1
  have HH0 := Lib.hid (hh.below hb0)
  have EV : hsV h a1 c1 a2 c2 = .agg #[.int .i64 h.head, .int .i64 h.drip, .slice a1 h.tp.length c1, .slice a2 h.rl.length c2] := rfl
  have HEV := Lib.hid EV
  have EZ : szV z = .agg #[.int .i64 z.start, .int .i64 z.full, .int .i64 z.loss, .int .i64 z.price] := rfl
  have HEZ := Lib.hid EZ
  rw [EV, EZ]
  obtain ⟨⟨rx, rb⟩, hrr⟩ : ∃ x, starvedP h z = x := ⟨_, rfl⟩
  rw [hrr]
  have HRR := Lib.hid hrr
  simp only []
  clear hb0 hr0 hr1 hs0 hh EV EZ hrr
  go_enter Try.func44, Try.ntmps44
  go_upto_region 1 with fail
  rw [← hW0]
  clear hW0 hP0 hP1
  go_wp2_with fail
  go_loopw [6] (fun i wr => ∃ j : Nat, 1 ≤ j ∧ j ≤ N ∧ i = .int .i64 j ∧ (∀ y, y < j → openF h.rl y = true → badF h z y = false) ∧ Below w.heap.size w wr ∧ wr.heap[P]? = some (.cells #[.int .i64 h.head, .int .i64 h.drip, .slice a1 h.tp.length c1, .slice a2 h.rl.length c2] 25 (0, 0)) ∧ wr.heap[Q]? = some (.cells #[.int .i64 z.start, .int .i64 z.full, .int .i64 z.loss, .int .i64 z.price] 27 (0, 0)) ∧ HsAt wr h a1 c1 a2 c2) (fun i _ => N - (intOf i).toNat)
  case atStart => exact ⟨1, by omega, by omega, rfl, (fun y hy _ => (show y = 0 by omega) ▸ hz0), HB0.out, HP0.out, HQ0.out, HH0.out⟩
  case round =>
    obtain ⟨j, hj1, hj, rfl, hfo, hbw, hp, hq, hh⟩ := hrel
    have HFO := Lib.hid hfo
    have HBW := Lib.hid hbw
    have HP := Lib.hid hp
    have HQ := Lib.hid hq
    have HH := Lib.hid hh
    obtain ⟨y0, y1, y2, y3⟩ := four_cells hp
    obtain ⟨x0, x1, x2, x3⟩ := four_cells hq
    by_cases hlt : j < N
    · have hlt2 : (j : Int) < (N : Int) := by omega
      have KS := Starves_any h hok a1 c1 a2 c2 z hz j (by omega) wr hh
      obtain ⟨B, hB⟩ : ∃ b, badF h z j = b := ⟨_, rfl⟩
      obtain ⟨F2, hF2⟩ : ∃ b, (findF h z j).2 = b := ⟨_, rfl⟩
      rw [hB, hF2, HEV.out, HEZ.out] at KS
      have KSS := Lib.hid KS
      have HBB := Lib.hid hB
      have HF2 := Lib.hid hF2
      have w1 : IntKind.i64.wrap ((j : Int) + 1) = (j : Int) + 1 := IntWalk.i64_in _ (by omega)
      clear KS hB hF2 hfo hbw hp hq hh
      go_wp2_with (first | (go_at_call 40; (with_reducible refine (QP.out _).mono ?_); rintro e w2 ⟨rfl, rfl⟩) | (go_at_call 59; fail))
      refine KSS.out.mono ?_
      rintro e w3 ⟨rfl, hb3⟩
      have HB3 := Lib.hid (HBW.out.trans (hb3.mono HBW.out.size))
      have H3 := Lib.hid (box_step (w0 := w) HP.out hb3)
      have Q3 := Lib.hid (box_step (w0 := w) HQ.out hb3)
      have hh3 := HH.out.below hb3
      have HH3 := Lib.hid hh3
      have KO := Lib.hid (Open_any h hok a1 c1 a2 c2 j (by rw [HN.out]; exact hlt) w3 hh3)
      obtain ⟨O, hO⟩ : ∃ b, openF h.rl j = b := ⟨_, rfl⟩
      rw [hO, HEV.out] at KO
      have HO := Lib.hid hO
      clear hb3 y0 y1 y2 y3 x0 x1 x2 x3 hh3 hO
      obtain ⟨y0, y1, y2, y3⟩ := four_cells H3.out
      cases B with
      | false =>
        go_wp2
        go_roundw
        case rel => exact ⟨j + 1, by omega, by omega, by go_num, (fun y hy ho => by
          by_cases e : y = j
          · subst e; exact HBB.out
          · exact HFO.out y (by omega) ho), HB3.out, H3.out, Q3.out, HH3.out⟩
        case measure => simp [intOf]; omega
      | true =>
        go_wp2_with (go_at_call 26; fail)
        refine KO.out.mono ?_
        rintro e w4 ⟨rfl, hb4⟩
        have HB4 := Lib.hid (HB3.out.trans (hb4.mono HB3.out.size))
        have H4 := Lib.hid (box_step (w0 := w) H3.out hb4)
        have Q4 := Lib.hid (box_step (w0 := w) Q3.out hb4)
        have HH4 := Lib.hid (HH3.out.below hb4)
        clear hb4 y0 y1 y2 y3
        cases O with
        | false =>
          go_wp2
          go_roundw
          case rel => exact ⟨j + 1, by omega, by omega, by go_num, (fun y hy ho => by
            by_cases e : y = j
            · subst e; rw [HO.out] at ho; cases ho
            · exact HFO.out y (by omega) ho), HB4.out, H4.out, Q4.out, HH4.out⟩
          case measure => simp [intOf]; omega
        | true =>
          have hst : starvedP h z = (((j : Nat) : Int), F2) := by
            unfold starvedP
            rw [starve_is HFO.out (by rw [HN.out]; exact hlt) HO.out HBB.out]
            simp only [HF2.out]
          rw [HRR.out] at hst
          simp only [Prod.mk.injEq] at hst
          obtain ⟨rfl, rfl⟩ := hst
          go_wp2
          exact bodyPost_ret (results_tmp2 rfl _ _ _) rfl ⟨rfl, HB4.out⟩
    · have hjl : j = N := by omega
      have i1 : ¬ (j : Int) < (N : Int) := by omega
      have hst : starvedP h z = (0, false) := by
        unfold starvedP
        rw [starve_no (by rw [HN.out, ← hjl]; exact HFO.out)]
      rw [HRR.out] at hst
      simp only [Prod.mk.injEq] at hst
      obtain ⟨rfl, rfl⟩ := hst
      clear hp hq hh hbw hfo
      go_wp2_with (go_at_call 40; (with_reducible refine (QP.out _).mono ?_); rintro e w2 ⟨rfl, rfl⟩)
      exact bodyPost_ret (results_tmp2 rfl _ _ _) rfl ⟨rfl, HBW.out⟩
end Go.Proofs.Ytlcmedfjghcigaa
