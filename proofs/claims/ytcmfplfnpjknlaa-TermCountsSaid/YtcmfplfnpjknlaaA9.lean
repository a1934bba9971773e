/- Term: bits.OnesCount, prove. -/
import Derived.Test.YtcmfplfnpjknlaaA8
namespace Go.Proofs.Ytcmfplfnpjknlaa
set_option linter.unusedSimpArgs false
set_option linter.unusedVariables false
open Go.RowKit Go.Maps
example : popF 5 = 2 := by kernel_rfl
example : popF 1048575 = 20 := by kernel_rfl
theorem ones_any (n : Nat) (h : n < 1048576) (w : World) : Calls Try.prog 67 #[.int .u64 n] w fun e w' => e = .returned (.int .i64 (popF n)) ∧ w = w' := by
  have h1 : (0 : Int) ≤ (n : Int) := by omega
  have h2 : (n : Int) < 1048576 := by omega
  obtain ⟨y1, e1⟩ : ∃ y, s1F n = y := ⟨_, rfl⟩
  obtain ⟨y2, e2⟩ : ∃ y, s2F y1 = y := ⟨_, rfl⟩
  obtain ⟨y3, e3⟩ : ∃ y, s3F y2 = y := ⟨_, rfl⟩
  obtain ⟨y4, e4⟩ : ∃ y, s4F y3 = y := ⟨_, rfl⟩
  obtain ⟨y5, e5⟩ : ∃ y, s5F y4 = y := ⟨_, rfl⟩
  obtain ⟨y6, e6⟩ : ∃ y, s6F y5 = y := ⟨_, rfl⟩
  have hp : popF n = bits BinOp.and IntKind.i64 (wrap64 y6) 127 := by unfold popF; rw [e1, e2, e3, e4, e5, e6]
  rw [hp]
  clear hp
  unfold s1F at e1
  unfold s2F at e2
  unfold s3F at e3
  unfold s4F at e4
  unfold s5F at e5
  unfold s6F at e6
  go_enter Try.func67, Try.ntmps67
  go_wp2
  go_ret
  exact ⟨rfl, rfl⟩
theorem onesCount_any (n : Nat) (h : n < 1048576) (w : World) : Calls Try.prog 61 #[.int .u64 n] w fun e w' => e = .returned (.int .i64 (popF n)) ∧ w = w' := by
  have k1 := fun X => ones_any n h X
  generalize popF n = r at *
  go_enter Try.func61, Try.ntmps61
  go_wp2_with (go_at_call 67; (with_reducible refine (k1 _).mono ?_); rintro e w' ⟨rfl, rfl⟩)
  go_ret
  exact ⟨rfl, rfl⟩
theorem SeenAt.frozen {W : World} {p : Nat} {r : Row} {t : Int × Int} (h : SeenAt W p r t) (o : Nat) : W.frozen? ⟨p, o, none⟩ = false := by
  unfold SeenAt at h
  simp [World.frozen?, h]
def ProvedAt (w : World) (p : Nat) (r : Row) (t : Int × Int) (e : Ending) (w' : World) : Prop := e = .returned (.tuple #[]) ∧ SeenAt w' p r t ∧ w.grownBy w' (some p)
theorem proved_set {w W : World} {p : Nat} {r : Row} {t t' : Int × Int} {o : Nat} {v : Value} (hs : SeenAt W p r t) (hg : w.grownBy W (some p)) (hv : SeenAt (W.setCell ⟨p, o, none⟩ v) p r t') : SeenAt (W.setCell ⟨p, o, none⟩ v) p r t' ∧ w.grownBy (W.setCell ⟨p, o, none⟩ v) (some p) :=
  ⟨hv, hg.andThen (setCell_grown W ⟨p, o, none⟩ v) (fun j hj => .inr (by rw [← hj]))⟩
theorem seen_end {W : World} {p : Nat} {r : Row} {a b : Int} (x : Int) (hs : SeenAt W p r (a, b)) : SeenAt (W.setCell ⟨p, 4, none⟩ (.int .i64 x)) p r (x, b) := by
  have := heap_set hs 4 (.int .i64 x); simpa [SeenAt] using this
theorem seen_times {W : World} {p : Nat} {r : Row} {a b : Int} (x : Int) (hs : SeenAt W p r (a, b)) : SeenAt (W.setCell ⟨p, 5, none⟩ (.int .i64 x)) p r (a, x) := by
  have := heap_set hs 5 (.int .i64 x); simpa [SeenAt] using this
set_option maxRecDepth 100000 in
set_option maxHeartbeats 3200000 in
theorem prove_any (p : Nat) (r : Row) (a b : Int) (q : Prf) (sa : Option Addr) (sn sc : Nat) (c : Cls) (w : World) (h : SeenAt w p r (a, b)) (hd : 0 ≤ q.day ∧ q.day ≤ 131072) (hf : 0 ≤ q.failed ∧ q.failed < 1048576) (ha : -1000000 ≤ a ∧ a ≤ 1000000) (hm : 0 ≤ c.more ∧ c.more ≤ 10000) (hb : 0 ≤ b ∧ b ≤ 1000) :
    Calls Try.prog 55 #[.pointer (some ⟨p, 0, none⟩), .agg #[.int .i64 q.cls, .int .i64 q.day, .slice sa sn sc, .int .i64 q.failed], clsV c] w (ProvedAt w p r (provF c q r (a, b))) := by
  obtain ⟨qc, qd, qs, qf⟩ := q
  obtain ⟨ct, cx, cm, cf⟩ := c
  simp only [clsV] at *
  obtain ⟨hd0, hd1⟩ := hd
  obtain ⟨hf0, hf1⟩ := hf
  obtain ⟨ha0, ha1⟩ := ha
  obtain ⟨hm0, hm1⟩ := hm
  obtain ⟨hb0, hb1⟩ := hb
  obtain ⟨nf, rfl⟩ : ∃ n : Nat, qf = n := ⟨qf.toNat, by omega⟩
  have hp := (Array.getElem?_eq_some_iff.1 h).1
  obtain ⟨W0, hW0⟩ : ∃ X, X = (w.alloc (.cells #[.int .i64 qc, .int .i64 qd, .slice sa sn sc, .int .i64 nf] 52)).alloc (.cells #[.int .i64 ct, .int .i64 cx, .int .i64 cm, .int .i64 cf] 50) := ⟨_, rfl⟩
  have hbW : Below w.heap.size w W0 := by rw [hW0]; exact ((Below.refl _ _).alloc (Nat.le_refl _) _).alloc (by simp) _
  have h1 : W0.heap[w.heap.size]? = some (.cells #[.int .i64 qc, .int .i64 qd, .slice sa sn sc, .int .i64 nf] 52 (0, 0)) := by
    rw [hW0]; exact (Below.heap_alloc _ _ _ (by simp)).trans (alloc_heap w _)
  have h2 : W0.heap[w.heap.size + 1]? = some (.cells #[.int .i64 ct, .int .i64 cx, .int .i64 cm, .int .i64 cf] 50 (0, 0)) := by
    have := alloc_heap (w.alloc (.cells #[.int .i64 qc, .int .i64 qd, .slice sa sn sc, .int .i64 nf] 52)) (.cells #[.int .i64 ct, .int .i64 cx, .int .i64 cm, .int .i64 cf] 50)
    rw [hW0]; simpa using this
  have hs0 := h.below (B := 0) hbW
  have hg0 : w.grownBy W0 (some p) := ⟨hbW.os, hbW.tape, hbW.output, hbW.size, fun k hk _ => hbW.block k hk⟩
  obtain ⟨S, hS⟩ : ∃ S, w.heap.size = S := ⟨_, rfl⟩
  rw [hS] at h1 h2
  obtain ⟨x0, x1, x2, x3⟩ := four_cells h1
  obtain ⟨y0, y1, y2, y3⟩ := four_cells h2
  obtain ⟨z0, z1, z2, z3, z4, z5⟩ := six_cells hs0
  have k1 := rstands_any p r (a, b) qd W0 hs0
  have k2 := fun X => onesCount_any nf (by omega) X
  have fz : ∀ o, W0.frozen? ⟨p, o, none⟩ = false := fun o => hs0.frozen o
  have fz4 := fz 4
  have fz5 := fz 5
  have HS0 := Lib.hid hs0
  have HG0 := Lib.hid hg0
  have K2 := Lib.hid k2
  have ew1 : IntKind.i64.wrap (qd + 1) = qd + 1 := IntWalk.i64_in _ (by omega)
  have ew2 : IntKind.i64.wrap (a + cm) = a + cm := IntWalk.i64_in _ (by omega)
  have ew3 : IntKind.i64.wrap (b + 1) = b + 1 := IntWalk.i64_in _ (by omega)
  have ew4 : IntKind.u64.wrap (nf : Int) = nf := by unfold IntKind.wrap; simp [IntKind.signed, IntKind.bits]; omega
  simp only [] at z4 z5
  clear hs0 hg0 k2 fz h hbW h1 h2 hp z0 z1 z2 z3 y0 x0 x2
  by_cases hst : standsF r a qd = 1
  · rw [hst] at k1
    have K1 := Lib.hid k1
    clear k1
    by_cases hpop : cf < popF nf
    · have HP := Lib.hid (show provF ⟨ct, cx, cm, cf⟩ ⟨qc, qd, qs, nf⟩ r (a, b) = (qd + 1, b) by simp [provF, hst, failsF, hpop])
      rw [HP.out]
      obtain ⟨pn, hpn⟩ : ∃ n, popF nf = n := ⟨_, rfl⟩
      rw [hpn] at hpop K2
      clear HP hst hpn
      go_enter Try.func55, Try.ntmps55
      go_upto_region 1 with fail
      rw [← hW0]
      clear hW0
      go_wp2_with (go_at_call 41; (with_reducible refine K1.out.mono ?_); rintro e w' ⟨rfl, rfl⟩)
      go_quiet ((go_at_call 61; with_reducible exact Calls.quiet_of_same ((K2.out _).mono fun _ _ ⟨a, b⟩ => ⟨a, b.symm⟩)))
      go_wp2
      go_end0
      have hs2 : SeenAt (W0.drewN nq) p r (a, b) := HS0.out
      have hg2 : w.grownBy (W0.drewN nq) (some p) := HG0.out.andThen (row' := none) ⟨rfl, rfl, rfl, Nat.le_refl _, fun _ _ _ => rfl⟩ (fun j hj => by cases hj)
      exact ⟨rfl, proved_set hs2 hg2 (seen_end _ hs2)⟩
    · have hpd : ∀ pn, popF nf = pn → decide (cf < pn) = false := fun pn h => by rw [← h]; exact decide_eq_false hpop
      by_cases htm : b < cx
      · have HP := Lib.hid (show provF ⟨ct, cx, cm, cf⟩ ⟨qc, qd, qs, nf⟩ r (a, b) = (a + cm, b + 1) by simp [provF, hst, failsF, hpop, htm])
        rw [HP.out]
        obtain ⟨pn, hpn⟩ : ∃ n, popF nf = n := ⟨_, rfl⟩
        have hpd := hpd pn hpn
        rw [hpn] at K2
        clear HP hst hpn hpop
        go_enter Try.func55, Try.ntmps55
        go_upto_region 1 with fail
        rw [← hW0]
        clear hW0
        go_wp2_with (go_at_call 41; (with_reducible refine K1.out.mono ?_); rintro e w' ⟨rfl, rfl⟩)
        go_quiet ((go_at_call 61; with_reducible exact Calls.quiet_of_same ((K2.out _).mono fun _ _ ⟨a, b⟩ => ⟨a, b.symm⟩)))
        go_wp2
        go_quiet (fail)
        go_upto_region 5 with fail
        rename_i n1 k9 k8
        obtain ⟨X, hX⟩ : ∃ X, (W0.drewN n1).drewN nq = X := ⟨_, rfl⟩
        have hy2 : ((W0.drewN n1).drewN nq).cell? ⟨S + 1, 2, none⟩ = some (.int .i64 cm) := y2
        have hXs : SeenAt X p r (a, b) := by rw [← hX]; exact HS0.out
        have hXg : w.grownBy X (some p) := by rw [← hX]; exact HG0.out.andThen (row' := none) ⟨rfl, rfl, rfl, Nat.le_refl _, fun _ _ _ => rfl⟩ (fun j hj => by cases hj)
        rw [hX] at hy2 ⊢
        clear hX z4 z5 y2 y1 y3 x1 x3 fz4 fz5
        obtain ⟨z0, z1, z2, z3, z4, z5⟩ := six_cells hXs
        have fz4 := hXs.frozen 4
        simp only [] at z4 z5
        have HXS := Lib.hid hXs
        have HXG := Lib.hid hXg
        clear z0 z1 z2 z3 z5 hXs hXg
        go_region
        all_goals
          obtain ⟨h1, h2⟩ := proved_set HXS.out HXG.out (o := 4) (v := .int .i64 (a + cm)) (seen_end _ HXS.out)
          have h3 : SeenAt (X.setCell ⟨p, 4, none⟩ (.int .i64 (a + cm))).drew p r (a + cm, b) := h1
          have h4 : w.grownBy (X.setCell ⟨p, 4, none⟩ (.int .i64 (a + cm))).drew (some p) := h2.andThen (row' := none) ⟨rfl, rfl, rfl, Nat.le_refl _, fun _ _ _ => rfl⟩ (fun j hj => by cases hj)
          generalize (X.setCell ⟨p, 4, none⟩ (.int .i64 (a + cm))).drew = Y at *
          obtain ⟨z0, z1, z2, z3, z4, z5⟩ := six_cells h3
          have fz5 := h3.frozen 5
          simp only [] at z4 z5
          have H3 := Lib.hid h3
          have H4 := Lib.hid h4
          clear z0 z1 z2 z3 h1 h2 h3 h4 hy2 fz4
          go_wp2
          go_end0
          obtain ⟨h5, h6⟩ := proved_set H3.out H4.out (o := 5) (v := .int .i64 (b + 1)) (seen_times _ H3.out)
          exact ⟨rfl, h5, h6⟩
      · have HP := Lib.hid (show provF ⟨ct, cx, cm, cf⟩ ⟨qc, qd, qs, nf⟩ r (a, b) = (a, b) by simp [provF, hst, failsF, hpop, htm])
        rw [HP.out]
        have htd : decide (b < cx) = false := decide_eq_false htm
        clear htm
        obtain ⟨pn, hpn⟩ : ∃ n, popF nf = n := ⟨_, rfl⟩
        have hpd := hpd pn hpn
        rw [hpn] at K2
        clear HP hst hpn hpop
        go_enter Try.func55, Try.ntmps55
        go_upto_region 1 with fail
        rw [← hW0]
        clear hW0
        go_wp2_with (go_at_call 41; (with_reducible refine K1.out.mono ?_); rintro e w' ⟨rfl, rfl⟩)
        go_quiet ((go_at_call 61; with_reducible exact Calls.quiet_of_same ((K2.out _).mono fun _ _ ⟨a, b⟩ => ⟨a, b.symm⟩)))
        go_wp2
        go_quiet (fail)
        go_wp2
        go_end0
        exact ⟨rfl, HS0.out, HG0.out.andThen (row' := none) ⟨rfl, rfl, rfl, Nat.le_refl _, fun _ _ _ => rfl⟩ (fun j hj => by cases hj)⟩
  · rw [show provF ⟨ct, cx, cm, cf⟩ ⟨qc, qd, qs, nf⟩ r (a, b) = (a, b) by simp [provF, hst]]
    obtain ⟨st, hst2⟩ : ∃ n, standsF r a qd = n := ⟨_, rfl⟩
    rw [hst2] at k1 hst
    have K1 := Lib.hid k1
    have e1 : (st == 1) = false := by simpa using hst
    have e2 : (st != 1) = true := by simpa using hst
    clear k1 hst2 hst ew1 ew2 ew3 ew4
    go_enter Try.func55, Try.ntmps55
    go_upto_region 1 with fail
    rw [← hW0]
    clear hW0
    go_wp2_with (go_at_call 41; (with_reducible refine K1.out.mono ?_); rintro e w' ⟨rfl, rfl⟩)
    go_end0
    exact ⟨rfl, HS0.out, HG0.out⟩
end Go.Proofs.Ytcmfplfnpjknlaa
