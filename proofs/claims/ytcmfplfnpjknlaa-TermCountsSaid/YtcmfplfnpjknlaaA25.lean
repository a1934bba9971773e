/- Term: the reference's Stock: is a stock valid? -/
import Derived.Test.YtcmfplfnpjknlaaA24
namespace Go.Proofs.Ytcmfplfnpjknlaa
set_option linter.unusedSimpArgs false
set_option linter.unusedVariables false
open Go.RowKit

theorem rowOk_ref (n : Int) (r : Row) : (inF r.hi 1 1000000 && (inF r.lo 1 r.hi && (inF r.cls 0 (n - 1) && inF r.day 0 131072))) = rowOk n r := by
  rw [Bool.eq_iff_iff]
  simp only [rowOk, Bool.and_eq_true, inF_iff, decide_eq_true_eq]
  constructor <;> (intro h; omega)
theorem prfOk_ref (n : Int) (p : Prf) : (inF p.cls 0 (n - 1) && (inF p.day 0 131072 && (inF p.seals.length 1 20 && (inF p.failed 0 (2 ^ p.seals.length - 1) && p.seals.all (fun s => inF s 1 1000000))))) = prfOk n p := by
  unfold prfOk
  cases inF p.cls 0 (n - 1) <;> cases inF p.day 0 131072 <;> cases inF p.seals.length 1 20 <;> cases inF p.failed 0 (2 ^ p.seals.length - 1) <;> cases p.seals.all (fun s => inF s 1 1000000) <;> rfl
set_option maxRecDepth 100000 in
set_option maxHeartbeats 12800000 in
theorem refStock_any (s : Stk) (v : Value) (w : World) (hs : StkAt w v s) : Calls Try.prog 15 #[v] w fun e w' => e = .returned (.bool (stkOk s)) ∧ Below w.heap.size w w' := by
  obtain ⟨cv, rv, pv, bv, rfl, hc, hr, hp, hb⟩ := hs
  obtain ⟨cs, rs, ps, bs⟩ := s
  simp only [] at hc hr hp hb
  obtain ⟨ca, cc, rfl⟩ := hc.shape
  obtain ⟨ra, rc, rfl⟩ := hr.shape
  obtain ⟨pa, pc, rfl⟩ := hp.shape
  obtain ⟨ba, bc, rfl⟩ := hb.shape
  have m1 : cs.length ≤ 9223372036854775807 := hc.1
  have m2 : rs.length ≤ 9223372036854775807 := hr.1
  have m3 : ps.length ≤ 9223372036854775807 := hp.1
  have m4 : bs.length ≤ 9223372036854775807 := hb.1
  obtain ⟨W0, hW0⟩ : ∃ X, X = w.alloc (.cells #[.slice ca cs.length cc, .slice ra rs.length rc, .slice pa ps.length pc, .slice ba bs.length bc] 27) := ⟨_, rfl⟩
  have hb0 : Below w.heap.size w W0 := by rw [hW0]; exact (Below.refl _ _).alloc (Nat.le_refl _) _
  have hr0 : W0.heap[w.heap.size]? = some (.cells #[.slice ca cs.length cc, .slice ra rs.length rc, .slice pa ps.length pc, .slice ba bs.length bc] 27 (0, 0)) := by rw [hW0]; exact alloc_heap w _
  have hc0 := Lib.hid (hc.below hb0)
  have hq0 := Lib.hid (hr.below hb0)
  have hp0 := Lib.hid (hp.below hb0)
  have hs0 := Lib.hid (hb.below hb0)
  obtain ⟨P, hP⟩ : ∃ P, w.heap.size = P := ⟨_, rfl⟩
  rw [hP] at hr0
  obtain ⟨d0, d1, d2, d3⟩ := four_cells hr0
  have HB := Lib.hid hb0
  have HR0 := Lib.hid hr0
  clear hr0 hb0 hc hr hp hb
  obtain ⟨R, hR⟩ : ∃ R, stkOk ⟨cs, rs, ps, bs⟩ = R := ⟨_, rfl⟩
  rw [hR]
  unfold stkOk at hR
  simp only [] at hR
  go_enter Try.func15, Try.ntmps15
  go_upto_region 1 with fail
  rw [← hW0]
  clear hW0 hP
  by_cases l0 : cs.length ≤ 5
  rotate_left
  · have hf : R = false := by
      rw [← hR, show decide (cs.length ≤ 5) = false from decide_eq_false l0]
      simp
    have l0' : (5 : Int) < (cs.length : Int) := by omega
    subst hf
    clear hR
    go_wp2
    go_ret
    exact ⟨rfl, HB.out⟩
  by_cases l1 : rs.length ≤ 24
  rotate_left
  · have hf : R = false := by
      rw [← hR, show decide (rs.length ≤ 24) = false from decide_eq_false l1]
      simp
    have l1' : (24 : Int) < (rs.length : Int) := by omega
    have z0 : ¬ (5 : Int) < (cs.length : Int) := by omega
    subst hf
    clear hR
    go_wp2
    go_ret
    exact ⟨rfl, HB.out⟩
  by_cases l2 : ps.length ≤ 12
  rotate_left
  · have hf : R = false := by
      rw [← hR, show decide (ps.length ≤ 12) = false from decide_eq_false l2]
      simp
    have l2' : (12 : Int) < (ps.length : Int) := by omega
    have z0 : ¬ (5 : Int) < (cs.length : Int) := by omega
    have z1 : ¬ (24 : Int) < (rs.length : Int) := by omega
    subst hf
    clear hR
    go_wp2
    go_ret
    exact ⟨rfl, HB.out⟩
  by_cases l3 : bs.length ≤ 24
  rotate_left
  · have hf : R = false := by
      rw [← hR, show decide (bs.length ≤ 24) = false from decide_eq_false l3]
      simp
    have l3' : (24 : Int) < (bs.length : Int) := by omega
    have z0 : ¬ (5 : Int) < (cs.length : Int) := by omega
    have z1 : ¬ (24 : Int) < (rs.length : Int) := by omega
    have z2 : ¬ (12 : Int) < (ps.length : Int) := by omega
    subst hf
    clear hR
    go_wp2
    go_ret
    exact ⟨rfl, HB.out⟩
  rw [show decide (cs.length ≤ 5) = true from decide_eq_true l0, show decide (rs.length ≤ 24) = true from decide_eq_true l1, show decide (ps.length ≤ 12) = true from decide_eq_true l2, show decide (bs.length ≤ 24) = true from decide_eq_true l3] at hR
  simp only [Bool.true_and] at hR
  have HR := Lib.hid hR
  have z0 : ¬ (5 : Int) < (cs.length : Int) := by omega
  have z1 : ¬ (24 : Int) < (rs.length : Int) := by omega
  have z2 : ¬ (12 : Int) < (ps.length : Int) := by omega
  have z3 : ¬ (24 : Int) < (bs.length : Int) := by omega
  clear hR
  go_wp2
  clear z0 z1 z2 z3
  go_loopw [3] (fun i wr => ∃ j : Nat, j ≤ cs.length ∧ i = .int .i64 j ∧ Below W0.heap.size W0 wr ∧ (cs.take j).all clsOk = true) (fun i _ => cs.length - (intOf i).toNat)
  case atStart => exact ⟨0, by omega, rfl, Below.refl _ _, rfl⟩
  case round =>
    obtain ⟨j, hj, rfl, hbel, hall⟩ := hrel
    obtain ⟨e0, e1, e2, e3⟩ := four_cells (box_step (w0 := w) HR0.out hbel)
    by_cases hlt : j < cs.length
    · obtain ⟨bb, off, e1, hlb, hcx⟩ := (hc0.out.below hbel).at (by omega)
      subst e1
      obtain ⟨⟨x0, x1, x2, x3⟩, hx⟩ : ∃ x : Cls, cs.getD j default = x := ⟨_, rfl⟩
      have g0 := hcx j hlt 0 (by omega)
      have g1 := hcx j hlt 1 (by omega)
      have g2 := hcx j hlt 2 (by omega)
      have g3 := hcx j hlt 3 (by omega)
      rw [hx] at g0 g1 g2 g3
      simp only [Nat.add_zero, clsC] at g0 g1 g2 g3
      have hst := all_next hlt hx hall
      obtain ⟨X, hX⟩ : ∃ X, wr.alloc (.cells #[.int .i64 x0, .int .i64 x1, .int .i64 x2, .int .i64 x3] 50) = X := ⟨_, rfl⟩
      have hbX : Below wr.heap.size wr X := by rw [← hX]; exact (Below.refl _ _).alloc (Nat.le_refl _) _
      have hrX : X.heap[wr.heap.size]? = some (.cells #[.int .i64 x0, .int .i64 x1, .int .i64 x2, .int .i64 x3] 50 (0, 0)) := by rw [← hX]; exact alloc_heap wr _
      obtain ⟨Q, hQ⟩ : ∃ Q, wr.heap.size = Q := ⟨_, rfl⟩
      obtain ⟨c0, c1, c2, c3⟩ := four_cells (box_step (w0 := w) (box_step (w0 := w) HR0.out hbel) hbX)
      obtain ⟨q0, q1, q2, q3⟩ := four_cells hrX
      rw [hQ] at q0 q1 q2 q3
      have k1 := fun X => in_any x0 1 10000 X
      obtain ⟨b1, hb1⟩ : ∃ b, inF x0 1 10000 = b := ⟨_, rfl⟩
      rw [hb1] at k1
      have K1 := Lib.hid k1
      have k2 := fun X => in_any x2 1 10000 X
      obtain ⟨b2, hb2⟩ : ∃ b, inF x2 1 10000 = b := ⟨_, rfl⟩
      rw [hb2] at k2
      have K2 := Lib.hid k2
      have k3 := fun X => in_any x1 0 4 X
      obtain ⟨b3, hb3⟩ : ∃ b, inF x1 0 4 = b := ⟨_, rfl⟩
      rw [hb3] at k3
      have K3 := Lib.hid k3
      have k4 := fun X => in_any x3 0 20 X
      obtain ⟨b4, hb4⟩ : ∃ b, inF x3 0 20 = b := ⟨_, rfl⟩
      rw [hb4] at k4
      have K4 := Lib.hid k4
      have hb : (b1 && (b2 && (b3 && b4))) = clsOk ⟨x0, x1, x2, x3⟩ := by unfold clsOk; simp only [hb1, hb2, hb3, hb4]
      have hbel2 := Lib.hid (hbel.trans (hbX.mono hbel.size))
      have ij1 : (j : Int) < (cs.length : Int) := by omega
      have HST := Lib.hid hst
      have HBB := Lib.hid hb
      clear k1 hb1 k2 hb2 k3 hb3 k4 hb4 hst hb hx hall hcx hrX hbX hbel
      go_upto_region 7 with fail
      have hst := HST.out
      have hb := HBB.out
      clear hX hQ g0 g1 g2 g3 e0 e1 e2 e3 HST HBB
      cases b1 with
      | false =>
        simp only [Bool.false_and] at hb
        have hf : R = false := by rw [← HR.out, all_stop (by rw [hst, ← hb])]; simp
        subst hf
        clear hst hb
        go_wp2_with ((go_at_call 28; (with_reducible refine (K1.out _).mono ?_); rintro e w2 ⟨rfl, rfl⟩))
        go_ret
        exact ⟨rfl, HB.out.trans (hbel2.out.mono HB.out.size)⟩
      | true =>
        cases b2 with
        | false =>
          simp only [Bool.false_and, Bool.true_and] at hb
          have hf : R = false := by rw [← HR.out, all_stop (by rw [hst, ← hb])]; simp
          subst hf
          clear hst hb
          go_wp2_with (first | (go_at_call 28; (with_reducible refine (K1.out _).mono ?_); rintro e w2 ⟨rfl, rfl⟩) | (go_at_call 28; (with_reducible refine (K2.out _).mono ?_); rintro e w2 ⟨rfl, rfl⟩))
          go_ret
          exact ⟨rfl, HB.out.trans (hbel2.out.mono HB.out.size)⟩
        | true =>
          cases b3 with
          | false =>
            simp only [Bool.false_and, Bool.true_and] at hb
            have hf : R = false := by rw [← HR.out, all_stop (by rw [hst, ← hb])]; simp
            subst hf
            clear hst hb
            go_wp2_with (first | (go_at_call 28; (with_reducible refine (K1.out _).mono ?_); rintro e w2 ⟨rfl, rfl⟩) | (go_at_call 28; (with_reducible refine (K2.out _).mono ?_); rintro e w2 ⟨rfl, rfl⟩) | (go_at_call 28; (with_reducible refine (K3.out _).mono ?_); rintro e w2 ⟨rfl, rfl⟩))
            go_ret
            exact ⟨rfl, HB.out.trans (hbel2.out.mono HB.out.size)⟩
          | true =>
            cases b4 with
            | false =>
              simp only [Bool.false_and, Bool.true_and] at hb
              have hf : R = false := by rw [← HR.out, all_stop (by rw [hst, ← hb])]; simp
              subst hf
              clear hst hb
              go_wp2_with (first | (go_at_call 28; (with_reducible refine (K1.out _).mono ?_); rintro e w2 ⟨rfl, rfl⟩) | (go_at_call 28; (with_reducible refine (K2.out _).mono ?_); rintro e w2 ⟨rfl, rfl⟩) | (go_at_call 28; (with_reducible refine (K3.out _).mono ?_); rintro e w2 ⟨rfl, rfl⟩) | (go_at_call 28; (with_reducible refine (K4.out _).mono ?_); rintro e w2 ⟨rfl, rfl⟩))
              go_ret
              exact ⟨rfl, HB.out.trans (hbel2.out.mono HB.out.size)⟩
            | true =>
              simp only [Bool.true_and] at hb
              rw [← hb] at hst
              have HST := Lib.hid hst
              clear hst hb
              go_wp2_with (first | (go_at_call 28; (with_reducible refine (K1.out _).mono ?_); rintro e w2 ⟨rfl, rfl⟩) | (go_at_call 28; (with_reducible refine (K2.out _).mono ?_); rintro e w2 ⟨rfl, rfl⟩) | (go_at_call 28; (with_reducible refine (K3.out _).mono ?_); rintro e w2 ⟨rfl, rfl⟩) | (go_at_call 28; (with_reducible refine (K4.out _).mono ?_); rintro e w2 ⟨rfl, rfl⟩))
              go_roundw
              case rel => exact ⟨j + 1, by omega, by go_num, hbel2.out, HST.out⟩
              case measure => simp [intOf]; omega
    · have hjl : j = cs.length := by omega
      have hr := HR.out
      rw [show cs.all clsOk = true by rw [← hall, hjl, List.take_length]] at hr
      simp only [Bool.true_and] at hr
      clear HR
      have HR := Lib.hid hr
      have HB0 := Lib.hid hbel
      have i1 : ¬ (j : Int) < (cs.length : Int) := by omega
      obtain ⟨wo, hwo⟩ : ∃ wo : World, wr = wo := ⟨_, rfl⟩
      subst hwo
      clear hall hjl hr hbel d0 d1 d2 d3
      go_wp2
      clear i1 e0 e1 e2 e3
      go_loopw [5] (fun i wr => ∃ j : Nat, j ≤ rs.length ∧ i = .int .i64 j ∧ Below W0.heap.size W0 wr ∧ (rs.take j).all (rowOk cs.length) = true) (fun i _ => rs.length - (intOf i).toNat)
      case atStart => exact ⟨0, by omega, rfl, HB0.out, rfl⟩
      case round =>
        obtain ⟨j, hj, rfl, hbel, hall⟩ := hrel
        obtain ⟨e0, e1, e2, e3⟩ := four_cells (box_step (w0 := w) HR0.out hbel)
        by_cases hlt : j < rs.length
        · obtain ⟨bb, off, e1, hlb, hcx⟩ := (hq0.out.below hbel).at (by omega)
          subst e1
          obtain ⟨⟨x0, x1, x2, x3⟩, hx⟩ : ∃ x : Row, rs.getD j default = x := ⟨_, rfl⟩
          have g0 := hcx j hlt 0 (by omega)
          have g1 := hcx j hlt 1 (by omega)
          have g2 := hcx j hlt 2 (by omega)
          have g3 := hcx j hlt 3 (by omega)
          rw [hx] at g0 g1 g2 g3
          simp only [Nat.add_zero, rowC] at g0 g1 g2 g3
          have hst := all_next hlt hx hall
          obtain ⟨X, hX⟩ : ∃ X, wr.alloc (.cells #[.int .i64 x0, .int .i64 x1, .int .i64 x2, .int .i64 x3] 42) = X := ⟨_, rfl⟩
          have hbX : Below wr.heap.size wr X := by rw [← hX]; exact (Below.refl _ _).alloc (Nat.le_refl _) _
          have hrX : X.heap[wr.heap.size]? = some (.cells #[.int .i64 x0, .int .i64 x1, .int .i64 x2, .int .i64 x3] 42 (0, 0)) := by rw [← hX]; exact alloc_heap wr _
          obtain ⟨Q, hQ⟩ : ∃ Q, wr.heap.size = Q := ⟨_, rfl⟩
          obtain ⟨c0, c1, c2, c3⟩ := four_cells (box_step (w0 := w) (box_step (w0 := w) HR0.out hbel) hbX)
          obtain ⟨q0, q1, q2, q3⟩ := four_cells hrX
          rw [hQ] at q0 q1 q2 q3
          have k1 := fun X => in_any x1 1 1000000 X
          obtain ⟨b1, hb1⟩ : ∃ b, inF x1 1 1000000 = b := ⟨_, rfl⟩
          rw [hb1] at k1
          have K1 := Lib.hid k1
          have k2 := fun X => in_any x0 1 x1 X
          obtain ⟨b2, hb2⟩ : ∃ b, inF x0 1 x1 = b := ⟨_, rfl⟩
          rw [hb2] at k2
          have K2 := Lib.hid k2
          have k3 := fun X => in_any x2 0 (cs.length - 1) X
          obtain ⟨b3, hb3⟩ : ∃ b, inF x2 0 (cs.length - 1) = b := ⟨_, rfl⟩
          rw [hb3] at k3
          have K3 := Lib.hid k3
          have k4 := fun X => in_any x3 0 131072 X
          obtain ⟨b4, hb4⟩ : ∃ b, inF x3 0 131072 = b := ⟨_, rfl⟩
          rw [hb4] at k4
          have K4 := Lib.hid k4
          have hb : (b1 && (b2 && (b3 && b4))) = rowOk cs.length ⟨x0, x1, x2, x3⟩ := by rw [← rowOk_ref]; simp only [hb1, hb2, hb3, hb4]
          have ew : IntKind.i64.wrap ((cs.length : Int) - 1) = cs.length - 1 := IntWalk.i64_in _ (by omega)
          have hbel2 := Lib.hid (hbel.trans (hbX.mono hbel.size))
          have ij1 : (j : Int) < (rs.length : Int) := by omega
          have HST := Lib.hid hst
          have HBB := Lib.hid hb
          clear k1 hb1 k2 hb2 k3 hb3 k4 hb4 hst hb hx hall hcx hrX hbX hbel
          go_upto_region 13 with fail
          have hst := HST.out
          have hb := HBB.out
          clear hX hQ g0 g1 g2 g3 e0 e1 e2 e3 HST HBB
          cases b1 with
          | false =>
            simp only [Bool.false_and] at hb
            have hf : R = false := by rw [← HR.out, all_stop (by rw [hst, ← hb])]; simp
            subst hf
            clear hst hb
            go_wp2_with ((go_at_call 28; (with_reducible refine (K1.out _).mono ?_); rintro e w2 ⟨rfl, rfl⟩))
            go_ret
            exact ⟨rfl, HB.out.trans (hbel2.out.mono HB.out.size)⟩
          | true =>
            cases b2 with
            | false =>
              simp only [Bool.false_and, Bool.true_and] at hb
              have hf : R = false := by rw [← HR.out, all_stop (by rw [hst, ← hb])]; simp
              subst hf
              clear hst hb
              go_wp2_with (first | (go_at_call 28; (with_reducible refine (K1.out _).mono ?_); rintro e w2 ⟨rfl, rfl⟩) | (go_at_call 28; (with_reducible refine (K2.out _).mono ?_); rintro e w2 ⟨rfl, rfl⟩))
              go_ret
              exact ⟨rfl, HB.out.trans (hbel2.out.mono HB.out.size)⟩
            | true =>
              cases b3 with
              | false =>
                simp only [Bool.false_and, Bool.true_and] at hb
                have hf : R = false := by rw [← HR.out, all_stop (by rw [hst, ← hb])]; simp
                subst hf
                clear hst hb
                go_wp2_with (first | (go_at_call 28; (with_reducible refine (K1.out _).mono ?_); rintro e w2 ⟨rfl, rfl⟩) | (go_at_call 28; (with_reducible refine (K2.out _).mono ?_); rintro e w2 ⟨rfl, rfl⟩) | (go_at_call 28; (with_reducible refine (K3.out _).mono ?_); rintro e w2 ⟨rfl, rfl⟩))
                go_ret
                exact ⟨rfl, HB.out.trans (hbel2.out.mono HB.out.size)⟩
              | true =>
                cases b4 with
                | false =>
                  simp only [Bool.false_and, Bool.true_and] at hb
                  have hf : R = false := by rw [← HR.out, all_stop (by rw [hst, ← hb])]; simp
                  subst hf
                  clear hst hb
                  go_wp2_with (first | (go_at_call 28; (with_reducible refine (K1.out _).mono ?_); rintro e w2 ⟨rfl, rfl⟩) | (go_at_call 28; (with_reducible refine (K2.out _).mono ?_); rintro e w2 ⟨rfl, rfl⟩) | (go_at_call 28; (with_reducible refine (K3.out _).mono ?_); rintro e w2 ⟨rfl, rfl⟩) | (go_at_call 28; (with_reducible refine (K4.out _).mono ?_); rintro e w2 ⟨rfl, rfl⟩))
                  go_ret
                  exact ⟨rfl, HB.out.trans (hbel2.out.mono HB.out.size)⟩
                | true =>
                  simp only [Bool.true_and] at hb
                  rw [← hb] at hst
                  have HST := Lib.hid hst
                  clear hst hb
                  go_wp2_with (first | (go_at_call 28; (with_reducible refine (K1.out _).mono ?_); rintro e w2 ⟨rfl, rfl⟩) | (go_at_call 28; (with_reducible refine (K2.out _).mono ?_); rintro e w2 ⟨rfl, rfl⟩) | (go_at_call 28; (with_reducible refine (K3.out _).mono ?_); rintro e w2 ⟨rfl, rfl⟩) | (go_at_call 28; (with_reducible refine (K4.out _).mono ?_); rintro e w2 ⟨rfl, rfl⟩))
                  go_roundw
                  case rel => exact ⟨j + 1, by omega, by go_num, hbel2.out, HST.out⟩
                  case measure => simp [intOf]; omega
        · have hjl : j = rs.length := by omega
          have hr := HR.out
          rw [show rs.all (rowOk cs.length) = true by rw [← hall, hjl, List.take_length]] at hr
          simp only [Bool.true_and] at hr
          clear HR
          have HR := Lib.hid hr
          have HB1 := Lib.hid hbel
          have i1 : ¬ (j : Int) < (rs.length : Int) := by omega
          obtain ⟨wo, hwo⟩ : ∃ wo : World, wr = wo := ⟨_, rfl⟩
          subst hwo
          clear hall hjl hr hbel 
          go_wp2
          clear i1 e0 e1 e2 e3
          go_loopw [7] (fun i wr => ∃ j : Nat, j ≤ ps.length ∧ i = .int .i64 j ∧ Below W0.heap.size W0 wr ∧ (ps.take j).all (prfOk cs.length) = true) (fun i _ => ps.length - (intOf i).toNat)
          case atStart => exact ⟨0, by omega, rfl, HB1.out, rfl⟩
          case round =>
            obtain ⟨j, hj, rfl, hbel, hall⟩ := hrel
            obtain ⟨e0, e1, e2, e3⟩ := four_cells (box_step (w0 := w) HR0.out hbel)
            by_cases hlt : j < ps.length
            · obtain ⟨bb, off, e1, hlb, hcx⟩ := (hp0.out.below hbel).at (by omega)
              subst e1
              obtain ⟨⟨x0, x1, x2, x3⟩, hx⟩ : ∃ x : Prf, ps.getD j default = x := ⟨_, rfl⟩
              obtain ⟨sv, g0, g1, g2, g3, hsv⟩ := hcx j hlt
              rw [hx] at g0 g1 g3 hsv
              simp only [] at g0 g1 g2 g3 hsv
              obtain ⟨sa, sc, rfl⟩ := hsv.shape
              have hst := all_next hlt hx hall
              obtain ⟨X, hX⟩ : ∃ X, wr.alloc (.cells #[.int .i64 x0, .int .i64 x1, .slice sa x2.length sc, .int .i64 x3] 52) = X := ⟨_, rfl⟩
              have hbX : Below wr.heap.size wr X := by rw [← hX]; exact (Below.refl _ _).alloc (Nat.le_refl _) _
              have hrX : X.heap[wr.heap.size]? = some (.cells #[.int .i64 x0, .int .i64 x1, .slice sa x2.length sc, .int .i64 x3] 52 (0, 0)) := by rw [← hX]; exact alloc_heap wr _
              obtain ⟨Q, hQ⟩ : ∃ Q, wr.heap.size = Q := ⟨_, rfl⟩
              obtain ⟨c0, c1, c2, c3⟩ := four_cells (box_step (w0 := w) (box_step (w0 := w) HR0.out hbel) hbX)
              obtain ⟨q0, q1, q2, q3⟩ := four_cells hrX
              have hx2 : x2.length ≤ 9223372036854775807 := hsv.1
              have HSV := Lib.hid (hsv.below hbX)
              rw [hQ] at q0 q1 q2 q3
              have k1 := fun X => in_any x0 0 (cs.length - 1) X
              obtain ⟨b1, hb1⟩ : ∃ b, inF x0 0 (cs.length - 1) = b := ⟨_, rfl⟩
              rw [hb1] at k1
              have K1 := Lib.hid k1
              have k2 := fun X => in_any x1 0 131072 X
              obtain ⟨b2, hb2⟩ : ∃ b, inF x1 0 131072 = b := ⟨_, rfl⟩
              rw [hb2] at k2
              have K2 := Lib.hid k2
              have k3 := fun X => in_any x2.length 1 20 X
              obtain ⟨b3, hb3⟩ : ∃ b, inF x2.length 1 20 = b := ⟨_, rfl⟩
              rw [hb3] at k3
              have K3 := Lib.hid k3
              have k4 := fun X => in_any x3 0 (2 ^ x2.length - 1) X
              obtain ⟨b4, hb4⟩ : ∃ b, inF x3 0 (2 ^ x2.length - 1) = b := ⟨_, rfl⟩
              rw [hb4] at k4
              have K4 := Lib.hid k4
              have hb : (b1 && (b2 && (b3 && (b4 && x2.all (fun s => inF s 1 1000000))))) = prfOk cs.length ⟨x0, x1, x2, x3⟩ := by rw [← prfOk_ref]; simp only [hb1, hb2, hb3, hb4]
              have ew : IntKind.i64.wrap ((cs.length : Int) - 1) = cs.length - 1 := IntWalk.i64_in _ (by omega)
              have hbel2 := Lib.hid (hbel.trans (hbX.mono hbel.size))
              have ij1 : (j : Int) < (ps.length : Int) := by omega
              have HST := Lib.hid hst
              have HBB := Lib.hid hb
              have H3 := Lib.hid hb3
              clear k1 k2 k3 k4 hb1 hb2 hb3 hb4 hst hb hx hall hcx hrX hbX hbel hsv
              go_upto_region 19 with fail
              have hst := HST.out
              have hb := HBB.out
              clear hX hQ g0 g1 g2 g3 e0 e1 e2 e3 HST HBB
              cases b1 with
              | false =>
                simp only [Bool.false_and] at hb
                have hf : R = false := by rw [← HR.out, all_stop (by rw [hst, ← hb])]; simp
                subst hf
                clear hst hb
                go_quiet ((go_at_call 28; with_reducible exact Calls.quiet_of_same ((K1.out _).mono fun _ _ ⟨a, b⟩ => ⟨a, b.symm⟩)))
                go_wp2
                go_ret
                exact ⟨rfl, HB.out.trans ((below_drewn hbel2.out _).mono HB.out.size)⟩
              | true =>
                cases b2 with
                | false =>
                  simp only [Bool.false_and, Bool.true_and] at hb
                  have hf : R = false := by rw [← HR.out, all_stop (by rw [hst, ← hb])]; simp
                  subst hf
                  clear hst hb
                  go_quiet (first | (go_at_call 28; with_reducible exact Calls.quiet_of_same ((K1.out _).mono fun _ _ ⟨a, b⟩ => ⟨a, b.symm⟩)) | (go_at_call 28; with_reducible exact Calls.quiet_of_same ((K2.out _).mono fun _ _ ⟨a, b⟩ => ⟨a, b.symm⟩)))
                  go_wp2
                  go_ret
                  exact ⟨rfl, HB.out.trans ((below_drewn hbel2.out _).mono HB.out.size)⟩
                | true =>
                  cases b3 with
                  | false =>
                    simp only [Bool.false_and, Bool.true_and] at hb
                    have hf : R = false := by rw [← HR.out, all_stop (by rw [hst, ← hb])]; simp
                    subst hf
                    clear hst hb
                    go_quiet (first | (go_at_call 28; with_reducible exact Calls.quiet_of_same ((K1.out _).mono fun _ _ ⟨a, b⟩ => ⟨a, b.symm⟩)) | (go_at_call 28; with_reducible exact Calls.quiet_of_same ((K2.out _).mono fun _ _ ⟨a, b⟩ => ⟨a, b.symm⟩)) | (go_at_call 28; with_reducible exact Calls.quiet_of_same ((K3.out _).mono fun _ _ ⟨a, b⟩ => ⟨a, b.symm⟩)))
                    go_wp2
                    go_ret
                    exact ⟨rfl, HB.out.trans ((below_drewn hbel2.out _).mono HB.out.size)⟩
                  | true =>
                    cases b4 with
                    | false =>
                      simp only [Bool.false_and, Bool.true_and] at hb
                      have hf : R = false := by rw [← HR.out, all_stop (by rw [hst, ← hb])]; simp
                      subst hf
                      clear hst hb
                      have h3 := H3.out
                      simp only [inF_iff] at h3
                      have kp := fun X => power_any x2.length (by omega) X
                      have KP := Lib.hid kp
                      have p1 : (2 : Int) ^ x2.length ≤ 2 ^ 20 := two_pow_le (by omega)
                      have p0 := two_pow_pos x2.length
                      have ew1 : IntKind.i64.wrap (2 ^ x2.length - 1) = 2 ^ x2.length - 1 := IntWalk.i64_in _ (by omega)
                      clear p0 p1 kp h3
                      go_quiet (first | (go_at_call 28; with_reducible exact Calls.quiet_of_same ((K1.out _).mono fun _ _ ⟨a, b⟩ => ⟨a, b.symm⟩)) | (go_at_call 28; with_reducible exact Calls.quiet_of_same ((K2.out _).mono fun _ _ ⟨a, b⟩ => ⟨a, b.symm⟩)) | (go_at_call 28; with_reducible exact Calls.quiet_of_same ((K3.out _).mono fun _ _ ⟨a, b⟩ => ⟨a, b.symm⟩)) | (go_at_call 28; with_reducible exact Calls.quiet_of_same ((K4.out _).mono fun _ _ ⟨a, b⟩ => ⟨a, b.symm⟩)) | (go_at_call 31; exact Calls.quiet_of_same ((KP.out _).mono fun _ _ ⟨a, b⟩ => ⟨a, b.symm⟩)))
                      go_wp2
                      go_ret
                      exact ⟨rfl, HB.out.trans ((below_drewn hbel2.out _).mono HB.out.size)⟩
                    | true =>
                      simp only [Bool.true_and] at hb
                      rw [← hb] at hst
                      have HST := Lib.hid hst
                      clear hst hb
                      have h3 := H3.out
                      simp only [inF_iff] at h3
                      have kp := fun X => power_any x2.length (by omega) X
                      have KP := Lib.hid kp
                      have p1 : (2 : Int) ^ x2.length ≤ 2 ^ 20 := two_pow_le (by omega)
                      have p0 := two_pow_pos x2.length
                      have ew1 : IntKind.i64.wrap (2 ^ x2.length - 1) = 2 ^ x2.length - 1 := IntWalk.i64_in _ (by omega)
                      clear p0 p1 kp h3
                      go_quiet (first | (go_at_call 28; with_reducible exact Calls.quiet_of_same ((K1.out _).mono fun _ _ ⟨a, b⟩ => ⟨a, b.symm⟩)) | (go_at_call 28; with_reducible exact Calls.quiet_of_same ((K2.out _).mono fun _ _ ⟨a, b⟩ => ⟨a, b.symm⟩)) | (go_at_call 28; with_reducible exact Calls.quiet_of_same ((K3.out _).mono fun _ _ ⟨a, b⟩ => ⟨a, b.symm⟩)) | (go_at_call 28; with_reducible exact Calls.quiet_of_same ((K4.out _).mono fun _ _ ⟨a, b⟩ => ⟨a, b.symm⟩)) | (go_at_call 31; exact Calls.quiet_of_same ((KP.out _).mono fun _ _ ⟨a, b⟩ => ⟨a, b.symm⟩)))
                      obtain ⟨Y, hY⟩ : ∃ Y, X.drewN nq = Y := ⟨_, rfl⟩
                      rw [hY]
                      have hbY := below_drewn hbel2.out nq
                      rw [hY] at hbY
                      have hbXY : Below X.heap.size X Y := by rw [← hY]; exact below_drewn (Below.refl _ _) _
                      have HSY := Lib.hid (HSV.out.below hbXY)
                      have y2 : Y.cell? ⟨Q, 2, none⟩ = some (.slice sa x2.length sc) := by rw [← hY]; exact q2
                      have HBY := Lib.hid hbY
                      clear hbY hbXY hY c0 c1 c2 c3 q0 q1 q2 q3 ew ew1 ij1
                      go_wp2
                      go_loopw [9] (fun i wr => ∃ k : Nat, k ≤ x2.length ∧ i = .int .i64 k ∧ wr = Y ∧ (x2.take k).all (fun s => inF s 1 1000000) = true) (fun i _ => x2.length - (intOf i).toNat)
                      case atStart => exact ⟨0, by omega, rfl, rfl, rfl⟩
                      case round =>
                        obtain ⟨k, hk, rfl, rfl, hall⟩ := hrel
                        by_cases hlk : k < x2.length
                        · obtain ⟨b2, off2, e1, hlb2, hcx⟩ := HSY.out.at (by omega)
                          subst e1
                          obtain ⟨x, hx⟩ : ∃ x : Int, x2.getD k default = x := ⟨_, rfl⟩
                          have g0 := hcx k hlk 0 (by omega)
                          rw [hx] at g0
                          simp only [Nat.add_zero, Nat.mul_one, numC] at g0
                          have hsk := all_next hlk hx hall
                          have k9 := fun X => in_any x 1 1000000 X
                          try simp only [] at hsk
                          obtain ⟨b9, hb9⟩ : ∃ b, inF x 1 1000000 = b := ⟨_, rfl⟩
                          rw [hb9] at k9 hsk
                          have K9 := Lib.hid k9
                          have HSK := Lib.hid hsk
                          have ik1 : (k : Int) < (x2.length : Int) := by omega
                          clear k9 hb9 hsk hx hall hcx
                          cases b9 with
                          | false =>
                            have hf : R = false := by rw [← HR.out, all_stop (by rw [HST.out, all_stop HSK.out])]; simp
                            subst hf
                            go_wp2_with (go_at_call 28; (with_reducible refine (K9.out _).mono ?_); rintro e w2 ⟨rfl, rfl⟩)
                            go_ret
                            exact ⟨rfl, HB.out.trans (HBY.out.mono HB.out.size)⟩
                          | true =>
                            go_wp2_with (go_at_call 28; (with_reducible refine (K9.out _).mono ?_); rintro e w2 ⟨rfl, rfl⟩)
                            go_roundw
                            case rel => exact ⟨k + 1, by omega, by go_num, by simp, HSK.out⟩
                            case measure => simp [intOf]; omega
                        · have hkl : k = x2.length := by omega
                          have hst2 := HST.out
                          rw [show x2.all (fun s => inF s 1 1000000) = true by rw [← hall, hkl, List.take_length]] at hst2
                          have HST2 := Lib.hid hst2
                          have ik1 : ¬ (k : Int) < (x2.length : Int) := by omega
                          clear hall hkl hst2 HST
                          go_wp2
                          go_roundw
                          case rel => exact ⟨j + 1, by omega, by go_num, HBY.out, HST2.out⟩
                          case measure => simp [intOf]; omega
            · have hjl : j = ps.length := by omega
              have hr := HR.out
              rw [show ps.all (prfOk cs.length) = true by rw [← hall, hjl, List.take_length]] at hr
              simp only [Bool.true_and] at hr
              clear HR
              have HR := Lib.hid hr
              have HB2 := Lib.hid hbel
              have i1 : ¬ (j : Int) < (ps.length : Int) := by omega
              obtain ⟨wo, hwo⟩ : ∃ wo : World, wr = wo := ⟨_, rfl⟩
              subst hwo
              clear hall hjl hr hbel
              go_wp2
              clear i1 e0 e1 e2 e3
              go_loopw [10] (fun i wr => ∃ j : Nat, j ≤ bs.length ∧ i = .int .i64 j ∧ Below W0.heap.size W0 wr ∧ (bs.take j).all brkOk = true) (fun i _ => bs.length - (intOf i).toNat)
              case atStart => exact ⟨0, by omega, rfl, HB2.out, rfl⟩
              case round =>
                obtain ⟨j, hj, rfl, hbel, hall⟩ := hrel
                obtain ⟨e0, e1, e2, e3⟩ := four_cells (box_step (w0 := w) HR0.out hbel)
                by_cases hlt : j < bs.length
                · obtain ⟨bb, off, e1, hlb, hcx⟩ := (hs0.out.below hbel).at (by omega)
                  subst e1
                  obtain ⟨⟨x0, x1⟩, hx⟩ : ∃ x : Int × Int, bs.getD j default = x := ⟨_, rfl⟩
                  have g0 := hcx j hlt 0 (by omega)
                  have g1 := hcx j hlt 1 (by omega)
                  rw [hx] at g0 g1
                  simp only [Nat.add_zero, brkC] at g0 g1
                  have hst := all_next hlt hx hall
                  have k1 := fun X => in_any x0 1 1000000 X
                  obtain ⟨b1, hb1⟩ : ∃ b, inF x0 1 1000000 = b := ⟨_, rfl⟩
                  rw [hb1] at k1
                  have k2 := fun X => in_any x1 0 131072 X
                  obtain ⟨b2, hb2⟩ : ∃ b, inF x1 0 131072 = b := ⟨_, rfl⟩
                  rw [hb2] at k2
                  have hb : (b1 && b2) = brkOk (x0, x1) := by unfold brkOk; simp only [hb1, hb2]
                  have K1 := Lib.hid k1
                  have K2 := Lib.hid k2
                  have hbel2 := Lib.hid hbel
                  have ij1 : (j : Int) < (bs.length : Int) := by omega
                  have HST := Lib.hid hst
                  have HBB := Lib.hid hb
                  clear k1 k2 hb1 hb2 hst hb hx hall hcx hbel
                  go_upto_region 29 with fail
                  have hst := HST.out
                  have hb := HBB.out
                  clear HST HBB
                  cases b1 with
                  | false =>
                    simp only [Bool.false_and] at hb
                    have hf : R = false := by rw [← HR.out, all_stop (by rw [hst, ← hb])]
                    subst hf
                    clear hst hb
                    go_wp2_with ((go_at_call 28; (with_reducible refine (K1.out _).mono ?_); rintro e w2 ⟨rfl, rfl⟩))
                    go_ret
                    exact ⟨rfl, HB.out.trans (hbel2.out.mono HB.out.size)⟩
                  | true =>
                    simp only [Bool.true_and] at hb
                    rw [← hb] at hst
                    have HST := Lib.hid hst
                    clear hst hb
                    cases b2 with
                    | false =>
                      have hf : R = false := by rw [← HR.out, all_stop HST.out]
                      subst hf
                      go_wp2_with (first | (go_at_call 28; (with_reducible refine (K1.out _).mono ?_); rintro e w2 ⟨rfl, rfl⟩) | (go_at_call 28; (with_reducible refine (K2.out _).mono ?_); rintro e w2 ⟨rfl, rfl⟩))
                      go_ret
                      exact ⟨rfl, HB.out.trans (hbel2.out.mono HB.out.size)⟩
                    | true =>
                      go_wp2_with (first | (go_at_call 28; (with_reducible refine (K1.out _).mono ?_); rintro e w2 ⟨rfl, rfl⟩) | (go_at_call 28; (with_reducible refine (K2.out _).mono ?_); rintro e w2 ⟨rfl, rfl⟩))
                      go_roundw
                      case rel => exact ⟨j + 1, by omega, by go_num, hbel2.out, HST.out⟩
                      case measure => simp [intOf]; omega
                · have hjl : j = bs.length := by omega
                  have hr := HR.out
                  rw [show bs.all brkOk = true by rw [← hall, hjl, List.take_length]] at hr
                  subst hr
                  have i1 : ¬ (j : Int) < (bs.length : Int) := by omega
                  clear hall hjl
                  go_wp2
                  go_ret
                  exact ⟨rfl, HB.out.trans (hbel.mono HB.out.size)⟩
end Go.Proofs.Ytcmfplfnpjknlaa
