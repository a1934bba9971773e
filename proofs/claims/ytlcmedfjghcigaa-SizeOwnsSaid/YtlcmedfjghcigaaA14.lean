/- Size: the least Full, by halves. -/
import Derived.Test.YtlcmedfjghcigaaA13
namespace Go.Proofs.Ytlcmedfjghcigaa
set_option linter.unusedSimpArgs false
set_option linter.unusedVariables false
open Go.RowKit Go.Maps

theorem enough_one (h : Hs) (z : Sz) : enoughF h [z] = if fullF h z then [0] else [] := by
  unfold enoughF enoughUp
  cases e : fullF h z <;> simp [List.range, List.range.loop, e]
/-- what the closure reads -/
structure CMem (h : Hs) (a1 : Option Addr) (c1 : Nat) (a2 : Option Addr) (c2 M R L : Nat) (loss : Int) (w : World) : Prop where
  d : w.heap[R]? = some (.cells (setsCells h a1 c1 a2 c2 M) 72 (0, 0))
  l : w.heap[L]? = some (.cells #[.int .i64 loss] 3 (0, 0))
  at_ : DAt w h a1 c1 a2 c2 M
theorem CMem.below {h : Hs} {a1 : Option Addr} {c1 : Nat} {a2 : Option Addr} {c2 M R L : Nat} {loss : Int} {w w' : World} (k : CMem h a1 c1 a2 c2 M R L loss w) (hb : Below w.heap.size w w') : CMem h a1 c1 a2 c2 M R L loss w' := ⟨box_step (w0 := w) k.d hb, box_step (w0 := w) k.l hb, k.at_.below hb⟩
set_option maxRecDepth 100000 in
set_option maxHeartbeats 3200000 in
theorem leastP_any (h : Hs) (hok : hsOk h = true) (a1 : Option Addr) (c1 : Nat) (a2 : Option Addr) (c2 M R L : Nat) (loss : Int) (hloss : 0 ≤ loss ∧ loss ≤ 10000) (n : Nat) (hn : n < 1000000) (w : World) (hm : CMem h a1 c1 a2 c2 M R L loss w) : Calls Try.prog 50 #[.int .i64 (n : Nat), .pointer (some ⟨R, 0, none⟩), .pointer (some ⟨L, 0, none⟩)] w fun e w' => e = .returned (.bool (leastP h loss n)) ∧ Below w.heap.size w w' := by
  have hP : leastP h loss n = fullF h ⟨0, (n : Int) + 1, loss, 0⟩ := rfl
  obtain ⟨q, hq⟩ : ∃ x, w.heap.size = x := ⟨_, rfl⟩
  obtain ⟨W1, hW1⟩ : ∃ X, w.alloc (.cells #[.int .i64 0, .int .i64 ((n : Int) + 1), .int .i64 loss, .int .i64 0] 27) = X := ⟨_, rfl⟩
  have hb1 : Below w.heap.size w W1 := by rw [← hW1]; exact (Below.refl _ _).alloc (Nat.le_refl _) _
  have hq1 : W1.heap[q]? = some (.cells #[.int .i64 0, .int .i64 ((n : Int) + 1), .int .i64 loss, .int .i64 0] 27 (0, 0)) := by rw [← hW1, ← hq]; exact alloc_heap w _
  have hm1 := hm.below hb1
  have htab : TabAt 4 szC W1 (.slice (some ⟨q, 0, none⟩) 1 1) [(⟨0, (n : Int) + 1, loss, 0⟩ : Sz)] := by
    refine ⟨by simp [maxLen], .inr ⟨q, 0, 1, rfl, by simp, by simp [maxLen], (Array.getElem?_eq_some_iff.1 hq1).1, fun i hi j hj => ?_⟩⟩
    obtain ⟨z0, z1, z2, z3⟩ := four_cells hq1
    have hi0 : i = 0 := by simp at hi; exact hi
    subst hi0
    match j, hj with
    | 0, _ => simpa [szC] using z0
    | 1, _ => simpa [szC] using z1
    | 2, _ => simpa [szC] using z2
    | 3, _ => simpa [szC] using z3
    | j + 4, hj => omega
  have KN := enough_any h hok a1 c1 a2 c2 M [⟨0, (n : Int) + 1, loss, 0⟩] _ (by simp) (fun i hi => by
    have hi0 : i = 0 := by simp at hi; exact hi
    subst hi0
    show SzSane ⟨0, (n : Int) + 1, loss, 0⟩
    exact ⟨⟨by show 1 ≤ (n : Int) + 1; omega, by show (n : Int) + 1 ≤ 1000000; omega⟩, hloss⟩) W1 hm1.at_ htab
  rw [enough_one] at KN
  unfold dV setsCells at KN
  obtain ⟨d0, d1, d2, d3, d4⟩ := five_cells hm.d
  have l0 := one_cell hm.l
  have w1 : IntKind.i64.wrap ((n : Int) + 1) = (n : Int) + 1 := IntWalk.i64_in _ (by omega)
  obtain ⟨b, hb⟩ : ∃ b, fullF h ⟨0, (n : Int) + 1, loss, 0⟩ = b := ⟨_, rfl⟩
  rw [hP, hb]
  rw [hb] at KN
  have KNN := Lib.hid KN
  have HB1 := Lib.hid hb1
  have HQ := Lib.hid hq
  clear KN hb hP hm hm1 htab hb1 hq1
  go_enter Try.func50, Try.ntmps50
  go_wp2_with (go_at_call 45; fail)
  refine KNN.out.mono ?_
  rintro e w2 ⟨u, rfl, hu, _, hb2⟩
  obtain ⟨ua, uc, rfl⟩ := hu.shape
  have HB2 := Lib.hid (HB1.out.trans (hb2.mono HB1.out.size))
  clear hu hb2 hW1 d0 d1 d2 d3 d4 l0 hq
  cases b
  all_goals
    go_wp2
    go_ret
    exact ⟨rfl, HB2.out⟩
theorem search_end {p : Nat → Bool} {f i j : Nat} (h : ¬ i < j) : searchF p f i j = i := by
  cases f with
  | zero => rfl
  | succ f => rw [searchF, if_neg h]
theorem search_step {p : Nat → Bool} {f i j : Nat} (h : i < j) : searchF p (f + 1) i j = if p ((i + j) / 2) then searchF p f i ((i + j) / 2) else searchF p f ((i + j) / 2 + 1) j := by
  rw [searchF, if_pos h]
set_option maxRecDepth 100000 in
set_option maxHeartbeats 3200000 in
theorem search_any (h : Hs) (hok : hsOk h = true) (a1 : Option Addr) (c1 : Nat) (a2 : Option Addr) (c2 M R L : Nat) (loss : Int) (hloss : 0 ≤ loss ∧ loss ≤ 10000) (w : World) (hm : CMem h a1 c1 a2 c2 M R L loss w) : Calls Try.prog 49 #[.int .i64 1000000, .func (.func 50) #[] #[.pointer (some ⟨R, 0, none⟩), .pointer (some ⟨L, 0, none⟩)]] w fun e w' => e = .returned (.int .i64 (searchF (leastP h loss) 20 0 1000000 : Nat)) ∧ Below w.heap.size w w' := by
  obtain ⟨r, hr⟩ : ∃ r, searchF (leastP h loss) 20 0 1000000 = r := ⟨_, rfl⟩
  rw [hr]
  have HM := Lib.hid hm
  have HR := Lib.hid hr
  clear hm hr
  go_enter Try.func49, Try.ntmps49
  go_wp2_with fail
  go_loopw [5, 6] (fun a b wr => ∃ i j f : Nat, i ≤ j ∧ j ≤ 1000000 ∧ a = .int .i64 i ∧ b = .int .i64 j ∧ j - i < 2 ^ f ∧ searchF (leastP h loss) f i j = r ∧ Below w.heap.size w wr) (fun a b _ => (intOf b).toNat - (intOf a).toNat)
  case atStart => exact ⟨0, 1000000, 20, by omega, by omega, rfl, rfl, by decide, HR.out, Below.refl _ _⟩
  case round =>
    obtain ⟨i, j, f, hij, hj, rfl, rfl, hf, hsr, hbw⟩ := hrel
    by_cases hlt : i < j
    · obtain ⟨f, rfl⟩ : ∃ g, f = g + 1 := ⟨f - 1, by
        rcases f with _ | f
        · simp at hf; omega
        · omega⟩
      rw [search_step hlt] at hsr
      have hp2 : 2 ^ (f + 1) = 2 * 2 ^ f := by rw [Nat.pow_succ]; omega
      rw [hp2] at hf
      obtain ⟨z, hz⟩ : ∃ z, 2 ^ f = z := ⟨_, rfl⟩
      rw [hz] at hf
      obtain ⟨m, hmd⟩ : ∃ m, (i + j) / 2 = m := ⟨_, rfl⟩
      rw [hmd] at hsr
      have him : i ≤ m := by omega
      have hmj : m < j := by omega
      have hf1 : m - i < z := by omega
      have hf2 : j - (m + 1) < z := by omega
      have hmr := HM.out.below hbw
      have KP := leastP_any h hok a1 c1 a2 c2 M R L loss hloss m (by omega) wr hmr
      obtain ⟨b, hb⟩ : ∃ b, leastP h loss m = b := ⟨_, rfl⟩
      rw [hb] at hsr KP
      have KPP := Lib.hid KP
      have HSR := Lib.hid hsr
      have HBW := Lib.hid hbw
      have HZ := Lib.hid (And.intro hz (And.intro hf1 hf2))
      have ij : (i : Int) < (j : Int) := by omega
      have w1 : IntKind.i64.wrap ((i : Int) + (j : Int)) = ((i + j : Nat) : Int) := by rw [IntWalk.i64_in _ (by omega)]; omega
      obtain ⟨s, hs⟩ : ∃ s, i + j = s := ⟨_, rfl⟩
      rw [hs] at w1 hmd
      have w2 : IntKind.u64.wrap (s : Int) = s := by unfold IntKind.wrap; simp [IntKind.signed, IntKind.bits]; omega
      have w3 : (s : Int) / 2 = (m : Int) := by omega
      have w4 : IntKind.i64.wrap (m : Int) = m := IntWalk.i64_in _ (by omega)
      have w4b : IntKind.u64.wrap (m : Int) = m := by unfold IntKind.wrap; simp [IntKind.signed, IntKind.bits]; omega
      have w5 : IntKind.i64.wrap ((m : Int) + 1) = (m : Int) + 1 := IntWalk.i64_in _ (by omega)
      clear hmr KP hb hsr hbw hp2 hf hz hf1 hf2 hs hmd
      go_wp2_with (go_at_call 50; fail)
      refine KPP.out.mono ?_
      rintro e w2 ⟨rfl, hb2⟩
      have HB2 := Lib.hid (HBW.out.trans (hb2.mono HBW.out.size))
      have hsr := HSR.out
      clear hb2
      cases b with
      | true =>
        rw [if_pos rfl] at hsr
        have HS2 := Lib.hid hsr
        clear hsr HSR
        go_wp2
        go_roundw
        case rel => exact ⟨i, m, f, him, by omega, rfl, rfl, by rw [HZ.out.1]; exact HZ.out.2.1, HS2.out, HB2.out⟩
        case measure => simp [intOf]; omega
      | false =>
        rw [if_neg (by simp)] at hsr
        have HS2 := Lib.hid hsr
        clear hsr HSR
        go_wp2
        go_roundw
        case rel => exact ⟨m + 1, j, f, by omega, hj, by go_num, rfl, by rw [HZ.out.1]; exact HZ.out.2.2, HS2.out, HB2.out⟩
        case measure => simp [intOf]; omega
    · have hr := (search_end hlt).symm.trans hsr
      have HRR := Lib.hid hr
      have i1 : ¬ (i : Int) < (j : Int) := by omega
      have HBW := Lib.hid hbw
      clear hr hlt hsr hbw hf
      go_wp2
      go_ret
      exact ⟨by rw [← HRR.out]; rfl, HBW.out⟩
theorem least_no {h : Hs} {loss : Int} (k : hsOk h = false) : leastF h loss = (0, 1) := by unfold leastF; rw [k]; rfl
theorem least_range {h : Hs} {loss : Int} (k : hsOk h = true) (r : inF loss 0 10000 = false) : leastF h loss = (0, 2) := by unfold leastF; rw [if_pos k, r]; rfl
theorem least_yes {h : Hs} {loss : Int} (k : hsOk h = true) (r : inF loss 0 10000 = true) : leastF h loss = (if searchF (leastP h loss) 20 0 1000000 = 1000000 then ((0 : Int), (4 : Int)) else (((searchF (leastP h loss) 20 0 1000000 : Nat) : Int) + 1, 0)) := by unfold leastF; rw [if_pos k, if_pos r]
theorem search_le {p : Nat → Bool} : ∀ (f i j : Nat), i ≤ j → i ≤ searchF p f i j ∧ searchF p f i j ≤ j
  | 0, i, j, h => ⟨Nat.le_refl _, h⟩
  | f + 1, i, j, h => by
    by_cases hlt : i < j
    · rw [search_step hlt]
      split
      · have := search_le (p := p) f i ((i + j) / 2) (by omega); omega
      · have := search_le (p := p) f ((i + j) / 2 + 1) j (by omega); omega
    · rw [search_end hlt]; omega
set_option maxRecDepth 100000 in
set_option maxHeartbeats 3200000 in
theorem Least_any (h : Hs) (a1 : Option Addr) (c1 : Nat) (a2 : Option Addr) (c2 : Nat) (loss : Int) (w : World) (hh : HsAt w h a1 c1 a2 c2) : Calls Try.prog 22 #[hsV h a1 c1 a2 c2, .int .i64 loss] w (IntR w (leastF h loss)) := by
  have mt : h.tp.length ≤ 9223372036854775807 := hh.tp.1
  obtain ⟨W0, hW0⟩ : ∃ X, X = (w.alloc (.cells #[.int .i64 h.head, .int .i64 h.drip, .slice a1 h.tp.length c1, .slice a2 h.rl.length c2] 25)).alloc (.cells #[.int .i64 loss] 3) := ⟨_, rfl⟩
  have hal : W0 = al w [(.cells #[.int .i64 h.head, .int .i64 h.drip, .slice a1 h.tp.length c1, .slice a2 h.rl.length c2] 25), (.cells #[.int .i64 loss] 3)] := hW0
  have hb0 : Below w.heap.size w W0 := by rw [hal]; exact al_below w _ (Nat.le_refl _)
  have hs0 : W0.heap.size = w.heap.size + 2 := by rw [hal]; exact al_size w _
  have hr0 : W0.heap[w.heap.size]? = some (.cells #[.int .i64 h.head, .int .i64 h.drip, .slice a1 h.tp.length c1, .slice a2 h.rl.length c2] 25 (0, 0)) := by rw [hal]; exact al_get w _ 0 _ rfl
  have hr1 : W0.heap[w.heap.size + 1]? = some (.cells #[.int .i64 loss] 3 (0, 0)) := by rw [hal]; exact al_get w _ 1 _ rfl
  obtain ⟨P, hP0⟩ : ∃ x, w.heap.size = x := ⟨_, rfl⟩
  rw [hP0] at hr0 hr1 hs0
  obtain ⟨Q, hP1⟩ : ∃ x, P + 1 = x := ⟨_, rfl⟩
  rw [hP1] at hr1
  clear hal
  rw [hP0] at hb0
  have HS := Lib.hid (show w.heap.size = P ∧ Q = P + 1 ∧ W0.heap.size = P + 2 from ⟨by omega, by omega, by omega⟩)
  have HB := Lib.hid hb0
  have H0 := Lib.hid hr0
  have H1 := Lib.hid hr1
  have hh0 := hh.below (by rw [hP0]; exact hb0)
  have HH0 := Lib.hid hh0
  have h1 := least_no (h := h) (loss := loss)
  have h2 := least_range (h := h) (loss := loss)
  have h3 := least_yes (h := h) (loss := loss)
  obtain ⟨RR, hRR⟩ : ∃ r, leastF h loss = r := ⟨_, rfl⟩
  rw [hRR] at h1 h2 h3 ⊢
  have KH := Lib.hid (isHouse_any h a1 c1 a2 c2 W0 hh0)
  have kf := fun X => isFrom_any loss 0 10000 X
  obtain ⟨b, hb⟩ : ∃ b, hsOk h = b := ⟨_, rfl⟩
  obtain ⟨b2, hb2⟩ : ∃ b, inF loss 0 10000 = b := ⟨_, rfl⟩
  rw [hb] at h1 h2 h3 KH
  rw [hb2] at h2 h3
  simp only [hb2] at kf
  have KF := Lib.hid kf
  have F1 := Lib.hid h1
  have F2 := Lib.hid h2
  have F3 := Lib.hid h3
  have HBB := Lib.hid hb
  have HB2' := Lib.hid hb2
  obtain ⟨y0, y1, y2, y3⟩ := four_cells hr0
  have z0 := one_cell hr1
  clear hb0 hr0 hr1 hs0 hh hh0 h1 h2 h3 hRR hb hb2 kf
  unfold hsV at *
  cases b with
  | false =>
    have hrr := F1.out rfl
    subst hrr
    go_enter Try.func22, Try.ntmps22
    go_upto_region 1 with fail
    rw [← hW0]
    clear hW0 hP0 hP1
    go_wp2_with (go_at_call 35; fail)
    refine KH.out.mono ?_
    rintro e w2 ⟨rfl, hb2⟩
    go_wp2
    exact bodyPost_ret (results_tmp2 rfl _ _ _) rfl ⟨rfl, by rw [HS.out.1]; exact HB.out.trans (hb2.mono (by have := HS.out; omega))⟩
  | true =>
    have hok := HBB.out
    go_enter Try.func22, Try.ntmps22
    go_upto_region 1 with fail
    rw [← hW0]
    clear hW0 hP0 hP1
    go_wp2_with (go_at_call 35; fail)
    refine KH.out.mono ?_
    rintro e w2 ⟨rfl, hb2⟩
    have hp2 := box_step (w0 := w) H0.out hb2
    have hq2 := box_step (w0 := w) H1.out hb2
    have hh2 := HH0.out.below hb2
    have HB2 := Lib.hid (HB.out.trans (hb2.mono (by have := HS.out; omega)))
    have hs2 : P + 2 ≤ w2.heap.size := by have := hb2.size; have := HS.out; omega
    have KD := Lib.hid (demandOf_any h hok a1 c1 a2 c2 w2 hh2)
    unfold hsV at KD
    clear hb2 y0 y1 y2 y3 z0
    obtain ⟨y0, y1, y2, y3⟩ := four_cells hp2
    have z0 := one_cell hq2
    cases b2 with
    | false =>
      have hrr := F2.out (by simp) rfl
      subst hrr
      go_wp2_with (go_at_call 48; (with_reducible refine (KF.out _).mono ?_); rintro e w3 ⟨rfl, rfl⟩)
      exact bodyPost_ret (results_tmp2 rfl _ _ _) rfl ⟨rfl, by rw [HS.out.1]; exact HB2.out⟩
    | true =>
      have hrr := F3.out (by simp) (by simp)
      have hloss := inF_iff.1 HB2'.out
      obtain ⟨S, hS⟩ : ∃ s, searchF (leastP h loss) 20 0 1000000 = s := ⟨_, rfl⟩
      have hSl := (search_le (p := leastP h loss) 20 0 1000000 (by omega)).2
      rw [hS] at hrr hSl
      have HRR := Lib.hid hrr
      have HSS := Lib.hid hS
      clear hrr hS
      go_wp2_with (first | (go_at_call 48; (with_reducible refine (KF.out _).mono ?_); rintro e w3 ⟨rfl, rfl⟩) | (go_at_call 36; fail))
      refine KD.out.mono ?_
      rintro e w3 ⟨M, rfl, hm3, hb3⟩
      have hd3 := dat_of hh2 hb3 hm3
      have hq3 := box_step (w0 := w) hq2 hb3
      have HB3 := Lib.hid (HB2.out.trans (hb3.mono (by omega)))
      have hs3 : P + 2 ≤ w3.heap.size := by have := hb3.size; omega
      obtain ⟨R, hR⟩ : ∃ x, w3.heap.size = x := ⟨_, rfl⟩
      obtain ⟨W4, hW4⟩ : ∃ X, w3.alloc (.cells (setsCells h a1 c1 a2 c2 M) 72) = X := ⟨_, rfl⟩
      have hb4 : Below w3.heap.size w3 W4 := by rw [← hW4]; exact (Below.refl _ _).alloc (Nat.le_refl _) _
      have hr4 : W4.heap[R]? = some (.cells (setsCells h a1 c1 a2 c2 M) 72 (0, 0)) := by rw [← hW4, ← hR]; exact alloc_heap w3 _
      have HB4 := Lib.hid (HB3.out.trans (hb4.mono (by omega)))
      have hs4 : P + 2 ≤ W4.heap.size := by have := hb4.size; omega
      have KS := Lib.hid (search_any h hok a1 c1 a2 c2 M R Q loss hloss W4 ⟨hr4, box_step (w0 := w) hq3 hb4, hd3.below hb4⟩)
      rw [HSS.out] at KS
      unfold dV
      unfold setsCells at hW4 ⊢
      have hmf : ∀ (fn : Fn) (first cap : Array Value) (w : World), (Instr.makeFunc fn first cap).run Try.prog w = .ok (.func fn first cap) w := fun _ _ _ _ => rfl
      clear hb3 hm3 hd3 hq3 hh2 hq2 hp2 hb4 hr4 y0 y1 y2 y3 z0
      go_wp2_with (go_at_call 49; fail)
      clear hW4 hR
      refine KS.out.mono ?_
      rintro e w5 ⟨rfl, hb5⟩
      have HB5 := Lib.hid (HB4.out.trans (hb5.mono (by omega)))
      have hs1 : IntKind.i64.wrap ((S : Int) + 1) = (S : Int) + 1 := IntWalk.i64_in _ (by omega)
      clear hb5
      by_cases hS : S = 1000000
      · have hrr := HRR.out.trans (if_pos hS)
        have hg : (S : Int) = 1000000 := by omega
        subst hrr
        clear HRR
        go_wp2
        exact bodyPost_ret (results_tmp2 rfl _ _ _) rfl ⟨rfl, by rw [HS.out.1]; exact HB5.out⟩
      · have hrr := HRR.out.trans (if_neg hS)
        have hg : ((S : Int) == 1000000) = false := by simp; omega
        have hg2 : ¬ (S : Int) = 1000000 := by omega
        subst hrr
        clear HRR hS
        go_wp2
        exact bodyPost_ret (results_tmp2 rfl _ _ _) rfl ⟨rfl, by rw [HS.out.1]; exact HB5.out⟩
end Go.Proofs.Ytlcmedfjghcigaa
