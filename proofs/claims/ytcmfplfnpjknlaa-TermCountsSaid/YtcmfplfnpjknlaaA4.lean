/- Term: contract of isStock. -/
import Derived.Test.YtcmfplfnpjknlaaA3
namespace Go.Proofs.Ytcmfplfnpjknlaa
set_option linter.unusedSimpArgs false
set_option linter.unusedVariables false
open Go.RowKit

theorem all_stop {α : Type} {p : α → Bool} {L : List α} {j : Nat} (h : (L.take j).all p = false) : L.all p = false := by
  rw [List.all_eq_false] at h ⊢
  obtain ⟨y, hy, h⟩ := h
  exact ⟨y, List.mem_of_mem_take hy, h⟩
theorem all_next {α : Type} [Inhabited α] {p : α → Bool} {L : List α} {j : Nat} {x : α} (hlt : j < L.length) (hx : L.getD j default = x) (h : (L.take j).all p = true) : (L.take (j + 1)).all p = p x := by
  rw [List.take_succ_eq_append_getElem hlt, List.all_append, h]
  simp [← hx, List.getD, hlt]
set_option maxRecDepth 100000 in
set_option maxHeartbeats 6400000 in
theorem isStock_any (s : Stk) (v : Value) (w : World) (hs : StkAt w v s) : Calls Try.prog 35 #[v] w fun e w' => e = .returned (.bool (stkOk s)) ∧ Below w.heap.size w w' := by
  obtain ⟨cv, rv, pv, bv, rfl, hc, hr, hp, hb⟩ := hs
  obtain ⟨cs, rs, ps, bs⟩ := s
  simp only [] at hc hr hp hb
  obtain ⟨ca, cc, rfl⟩ := hc.shape
  obtain ⟨ra, rc, rfl⟩ := hr.shape
  obtain ⟨pa, pc, rfl⟩ := hp.shape
  obtain ⟨ba, bc, rfl⟩ := hb.shape
  have m1 : cs.length ≤ 9223372036854775807 := hc.1
  have m2 : rs.length ≤ 9223372036854775807 := hr.1
  have m3 : ps.length ≤ 9223372036854775807 := hp.1
  have m4 : bs.length ≤ 9223372036854775807 := hb.1
  obtain ⟨W0, hW0⟩ : ∃ X, X = w.alloc (.cells #[.slice ca cs.length cc, .slice ra rs.length rc, .slice pa ps.length pc, .slice ba bs.length bc] 27) := ⟨_, rfl⟩
  have hb0 : Below w.heap.size w W0 := by rw [hW0]; exact (Below.refl _ _).alloc (Nat.le_refl _) _
  have hr0 : W0.heap[w.heap.size]? = some (.cells #[.slice ca cs.length cc, .slice ra rs.length rc, .slice pa ps.length pc, .slice ba bs.length bc] 27 (0, 0)) := by rw [hW0]; exact alloc_heap w _
  have hc0 := Lib.hid (hc.below hb0)
  have hq0 := Lib.hid (hr.below hb0)
  have hp0 := Lib.hid (hp.below hb0)
  have hs0 := Lib.hid (hb.below hb0)
  obtain ⟨P, hP⟩ : ∃ P, w.heap.size = P := ⟨_, rfl⟩
  rw [hP] at hr0
  obtain ⟨d0, d1, d2, d3⟩ := four_cells hr0
  have HB := Lib.hid hb0
  have HR0 := Lib.hid hr0
  clear hr0 hb0 hc hr hp hb
  obtain ⟨R, hR⟩ : ∃ R, stkOk ⟨cs, rs, ps, bs⟩ = R := ⟨_, rfl⟩
  rw [hR]
  unfold stkOk at hR
  simp only [] at hR
  go_enter Try.func35, Try.ntmps35
  go_upto_region 1 with fail
  rw [← hW0]
  clear hW0 hP
  by_cases l0 : cs.length ≤ 5
  rotate_left
  · have hf : R = false := by
      rw [← hR, show decide (cs.length ≤ 5) = false from decide_eq_false l0]
      simp
    have l0' : (5 : Int) < (cs.length : Int) := by omega
    subst hf
    clear hR
    go_wp2
    go_ret
    exact ⟨rfl, HB.out⟩
  by_cases l1 : rs.length ≤ 24
  rotate_left
  · have hf : R = false := by
      rw [← hR, show decide (rs.length ≤ 24) = false from decide_eq_false l1]
      simp
    have l1' : (24 : Int) < (rs.length : Int) := by omega
    have z0 : ¬ (5 : Int) < (cs.length : Int) := by omega
    subst hf
    clear hR
    go_wp2
    go_ret
    exact ⟨rfl, HB.out⟩
  by_cases l2 : ps.length ≤ 12
  rotate_left
  · have hf : R = false := by
      rw [← hR, show decide (ps.length ≤ 12) = false from decide_eq_false l2]
      simp
    have l2' : (12 : Int) < (ps.length : Int) := by omega
    have z0 : ¬ (5 : Int) < (cs.length : Int) := by omega
    have z1 : ¬ (24 : Int) < (rs.length : Int) := by omega
    subst hf
    clear hR
    go_wp2
    go_ret
    exact ⟨rfl, HB.out⟩
  by_cases l3 : bs.length ≤ 24
  rotate_left
  · have hf : R = false := by
      rw [← hR, show decide (bs.length ≤ 24) = false from decide_eq_false l3]
      simp
    have l3' : (24 : Int) < (bs.length : Int) := by omega
    have z0 : ¬ (5 : Int) < (cs.length : Int) := by omega
    have z1 : ¬ (24 : Int) < (rs.length : Int) := by omega
    have z2 : ¬ (12 : Int) < (ps.length : Int) := by omega
    subst hf
    clear hR
    go_wp2
    go_ret
    exact ⟨rfl, HB.out⟩
  rw [show decide (cs.length ≤ 5) = true from decide_eq_true l0, show decide (rs.length ≤ 24) = true from decide_eq_true l1, show decide (ps.length ≤ 12) = true from decide_eq_true l2, show decide (bs.length ≤ 24) = true from decide_eq_true l3] at hR
  simp only [Bool.true_and] at hR
  have HR := Lib.hid hR
  have z0 : ¬ (5 : Int) < (cs.length : Int) := by omega
  have z1 : ¬ (24 : Int) < (rs.length : Int) := by omega
  have z2 : ¬ (12 : Int) < (ps.length : Int) := by omega
  have z3 : ¬ (24 : Int) < (bs.length : Int) := by omega
  clear hR
  go_wp2
  clear z0 z1 z2 z3
  go_loopw [36] (fun i wr => ∃ j : Nat, j ≤ cs.length ∧ i = .int .i64 j ∧ Below W0.heap.size W0 wr ∧ (cs.take j).all clsOk = true) (fun i _ => cs.length - (intOf i).toNat)
  case atStart => exact ⟨0, by omega, rfl, Below.refl _ _, rfl⟩
  case round =>
    obtain ⟨j, hj, rfl, hbel, hall⟩ := hrel
    by_cases hlt : j < cs.length
    · obtain ⟨bb, off, e1, hlb, hcx⟩ := (hc0.out.below hbel).at (by omega)
      subst e1
      obtain ⟨⟨x0, x1, x2, x3⟩, hx⟩ : ∃ x : Cls, cs.getD j default = x := ⟨_, rfl⟩
      have g0 := hcx j hlt 0 (by omega)
      have g1 := hcx j hlt 1 (by omega)
      have g2 := hcx j hlt 2 (by omega)
      have g3 := hcx j hlt 3 (by omega)
      rw [hx] at g0 g1 g2 g3
      simp only [Nat.add_zero, clsC] at g0 g1 g2 g3
      have hst := all_next hlt hx hall
      obtain ⟨b, hb⟩ : ∃ b, clsOk ⟨x0, x1, x2, x3⟩ = b := ⟨_, rfl⟩
      rw [hb] at hst
      obtain ⟨X, hX⟩ : ∃ X, wr.alloc (.cells #[.int .i64 x0, .int .i64 x1, .int .i64 x2, .int .i64 x3] 50) = X := ⟨_, rfl⟩
      have hbX : Below wr.heap.size wr X := by rw [← hX]; exact (Below.refl _ _).alloc (Nat.le_refl _) _
      have hrX : X.heap[wr.heap.size]? = some (.cells #[.int .i64 x0, .int .i64 x1, .int .i64 x2, .int .i64 x3] 50 (0, 0)) := by rw [← hX]; exact alloc_heap wr _
      obtain ⟨Q, hQ⟩ : ∃ Q, wr.heap.size = Q := ⟨_, rfl⟩
      obtain ⟨c0, c1, c2, c3⟩ := four_cells (box_step (w0 := w) (box_step (w0 := w) HR0.out hbel) hbX)
      obtain ⟨q0, q1, q2, q3⟩ := four_cells hrX
      rw [hQ] at q0 q1 q2 q3
      have k1 := fun X => isClass_any ⟨x0, x1, x2, x3⟩ X
      rw [hb] at k1
      simp only [clsV] at k1
      have K1 := Lib.hid k1
      clear k1
      have HST := Lib.hid hst
      have hbel2 := Lib.hid (hbel.trans (hbX.mono hbel.size))
      have ij1 : (j : Int) < (cs.length : Int) := by omega
      clear hst hb hx hall hcx hrX hbX hbel
      go_upto_region 6 with fail
      clear hX hQ g0 g1
      cases b with
      | false =>
          have hf : R = false := by rw [← HR.out, all_stop HST.out]; simp
          subst hf
          go_wp2_with (go_at_call 48; (with_reducible refine (K1.out _).mono ?_); rintro e w2 ⟨rfl, hb2⟩)
          go_ret
          exact ⟨rfl, HB.out.trans ((hbel2.out.trans (hb2.mono hbel2.out.size)).mono HB.out.size)⟩
      | true =>
          go_wp2_with (go_at_call 48; (with_reducible refine (K1.out _).mono ?_); rintro e w2 ⟨rfl, hb2⟩)
          go_roundw
          case rel => exact ⟨j + 1, by omega, by go_num, hbel2.out.trans (hb2.mono hbel2.out.size), HST.out⟩
          case measure => simp [intOf]; omega
    · have hjl : j = cs.length := by omega
      have hr := HR.out
      rw [show cs.all clsOk = true by rw [← hall, hjl, List.take_length]] at hr
      simp only [Bool.true_and] at hr
      clear HR
      have HR := Lib.hid hr
      have HB0 := Lib.hid hbel
      have i1 : ¬ (j : Int) < (cs.length : Int) := by omega
      obtain ⟨c0, c1, c2, c3⟩ := four_cells (box_step (w0 := w) HR0.out hbel)
      obtain ⟨wo, hwo⟩ : ∃ wo : World, wr = wo := ⟨_, rfl⟩
      subst hwo
      clear hall hjl hr hbel d0 d1 d2 d3
      go_wp2
      clear i1 c0 c1 c2 c3
      go_loopw [47] (fun i wr => ∃ j : Nat, j ≤ rs.length ∧ i = .int .i64 j ∧ Below W0.heap.size W0 wr ∧ (rs.take j).all (rowOk cs.length) = true) (fun i _ => rs.length - (intOf i).toNat)
      case atStart => exact ⟨0, by omega, rfl, HB0.out, rfl⟩
      case round =>
        obtain ⟨j, hj, rfl, hbel, hall⟩ := hrel
        by_cases hlt : j < rs.length
        · obtain ⟨bb, off, e1, hlb, hcx⟩ := (hq0.out.below hbel).at (by omega)
          subst e1
          obtain ⟨⟨x0, x1, x2, x3⟩, hx⟩ : ∃ x : Row, rs.getD j default = x := ⟨_, rfl⟩
          have g0 := hcx j hlt 0 (by omega)
          have g1 := hcx j hlt 1 (by omega)
          have g2 := hcx j hlt 2 (by omega)
          have g3 := hcx j hlt 3 (by omega)
          rw [hx] at g0 g1 g2 g3
          simp only [Nat.add_zero, rowC] at g0 g1 g2 g3
          have hst := all_next hlt hx hall
          obtain ⟨b, hb⟩ : ∃ b, (rowOk cs.length) ⟨x0, x1, x2, x3⟩ = b := ⟨_, rfl⟩
          rw [hb] at hst
          obtain ⟨X, hX⟩ : ∃ X, wr.alloc (.cells #[.int .i64 x0, .int .i64 x1, .int .i64 x2, .int .i64 x3] 42) = X := ⟨_, rfl⟩
          have hbX : Below wr.heap.size wr X := by rw [← hX]; exact (Below.refl _ _).alloc (Nat.le_refl _) _
          have hrX : X.heap[wr.heap.size]? = some (.cells #[.int .i64 x0, .int .i64 x1, .int .i64 x2, .int .i64 x3] 42 (0, 0)) := by rw [← hX]; exact alloc_heap wr _
          obtain ⟨Q, hQ⟩ : ∃ Q, wr.heap.size = Q := ⟨_, rfl⟩
          obtain ⟨c0, c1, c2, c3⟩ := four_cells (box_step (w0 := w) (box_step (w0 := w) HR0.out hbel) hbX)
          obtain ⟨q0, q1, q2, q3⟩ := four_cells hrX
          rw [hQ] at q0 q1 q2 q3
          have k1 := fun X => isRow_any cs.length ⟨x0, x1, x2, x3⟩ X (by omega) (by omega)
          rw [hb] at k1
          simp only [rowV] at k1
          have K1 := Lib.hid k1
          clear k1
          have HST := Lib.hid hst
          have hbel2 := Lib.hid (hbel.trans (hbX.mono hbel.size))
          have ij1 : (j : Int) < (rs.length : Int) := by omega
          clear hst hb hx hall hcx hrX hbX hbel
          go_upto_region 12 with fail
          clear hX hQ g0 g1
          cases b with
          | false =>
              have hf : R = false := by rw [← HR.out, all_stop HST.out]; simp
              subst hf
              go_wp2_with (go_at_call 49; (with_reducible refine (K1.out _).mono ?_); rintro e w2 ⟨rfl, hb2⟩)
              go_ret
              exact ⟨rfl, HB.out.trans ((hbel2.out.trans (hb2.mono hbel2.out.size)).mono HB.out.size)⟩
          | true =>
              go_wp2_with (go_at_call 49; (with_reducible refine (K1.out _).mono ?_); rintro e w2 ⟨rfl, hb2⟩)
              go_roundw
              case rel => exact ⟨j + 1, by omega, by go_num, hbel2.out.trans (hb2.mono hbel2.out.size), HST.out⟩
              case measure => simp [intOf]; omega
        · have hjl : j = rs.length := by omega
          have hr := HR.out
          rw [show rs.all (rowOk cs.length) = true by rw [← hall, hjl, List.take_length]] at hr
          simp only [Bool.true_and] at hr
          clear HR
          have HR := Lib.hid hr
          have HB1 := Lib.hid hbel
          have i1 : ¬ (j : Int) < (rs.length : Int) := by omega
          obtain ⟨c0, c1, c2, c3⟩ := four_cells (box_step (w0 := w) HR0.out hbel)
          obtain ⟨wo, hwo⟩ : ∃ wo : World, wr = wo := ⟨_, rfl⟩
          subst hwo
          clear hall hjl hr hbel 
          go_wp2
          clear i1 c0 c1 c2 c3
          go_loopw [61] (fun i wr => ∃ j : Nat, j ≤ ps.length ∧ i = .int .i64 j ∧ Below W0.heap.size W0 wr ∧ (ps.take j).all (prfOk cs.length) = true) (fun i _ => ps.length - (intOf i).toNat)
          case atStart => exact ⟨0, by omega, rfl, HB1.out, rfl⟩
          case round =>
            obtain ⟨j, hj, rfl, hbel, hall⟩ := hrel
            by_cases hlt : j < ps.length
            · obtain ⟨bb, off, e1, hlb, hcx⟩ := (hp0.out.below hbel).at (by omega)
              subst e1
              obtain ⟨⟨x0, x1, x2, x3⟩, hx⟩ : ∃ x : Prf, ps.getD j default = x := ⟨_, rfl⟩
              obtain ⟨sv, g0, g1, g2, g3, hsv⟩ := hcx j hlt
              rw [hx] at g0 g1 g3 hsv
              simp only [] at g0 g1 g2 g3 hsv
              obtain ⟨sa, sc, rfl⟩ := hsv.shape
              have hst := all_next hlt hx hall
              obtain ⟨b, hb⟩ : ∃ b, (prfOk cs.length) ⟨x0, x1, x2, x3⟩ = b := ⟨_, rfl⟩
              rw [hb] at hst
              obtain ⟨X, hX⟩ : ∃ X, wr.alloc (.cells #[.int .i64 x0, .int .i64 x1, .slice sa x2.length sc, .int .i64 x3] 52) = X := ⟨_, rfl⟩
              have hbX : Below wr.heap.size wr X := by rw [← hX]; exact (Below.refl _ _).alloc (Nat.le_refl _) _
              have hrX : X.heap[wr.heap.size]? = some (.cells #[.int .i64 x0, .int .i64 x1, .slice sa x2.length sc, .int .i64 x3] 52 (0, 0)) := by rw [← hX]; exact alloc_heap wr _
              obtain ⟨Q, hQ⟩ : ∃ Q, wr.heap.size = Q := ⟨_, rfl⟩
              obtain ⟨c0, c1, c2, c3⟩ := four_cells (box_step (w0 := w) (box_step (w0 := w) HR0.out hbel) hbX)
              obtain ⟨q0, q1, q2, q3⟩ := four_cells hrX
              rw [hQ] at q0 q1 q2 q3
              have k1 := isProof_any cs.length ⟨x0, x1, x2, x3⟩ (.slice sa x2.length sc) X (by omega) (by omega) (hsv.below hbX)
              rw [hb] at k1
              have K1 := Lib.hid k1
              clear k1 hsv
              have HST := Lib.hid hst
              have hbel2 := Lib.hid (hbel.trans (hbX.mono hbel.size))
              have ij1 : (j : Int) < (ps.length : Int) := by omega
              clear hst hb hx hall hcx hrX hbX hbel
              go_upto_region 18 with fail
              clear hX hQ g0 g1
              cases b with
              | false =>
                  have hf : R = false := by rw [← HR.out, all_stop HST.out]; simp
                  subst hf
                  go_wp2_with (go_at_call 50; (with_reducible refine (K1.out).mono ?_); rintro e w2 ⟨rfl, hb2⟩)
                  go_ret
                  exact ⟨rfl, HB.out.trans ((hbel2.out.trans (hb2.mono hbel2.out.size)).mono HB.out.size)⟩
              | true =>
                  go_wp2_with (go_at_call 50; (with_reducible refine (K1.out).mono ?_); rintro e w2 ⟨rfl, hb2⟩)
                  go_roundw
                  case rel => exact ⟨j + 1, by omega, by go_num, hbel2.out.trans (hb2.mono hbel2.out.size), HST.out⟩
                  case measure => simp [intOf]; omega
            · have hjl : j = ps.length := by omega
              have hr := HR.out
              rw [show ps.all (prfOk cs.length) = true by rw [← hall, hjl, List.take_length]] at hr
              simp only [Bool.true_and] at hr
              clear HR
              have HR := Lib.hid hr
              have HB2 := Lib.hid hbel
              have i1 : ¬ (j : Int) < (ps.length : Int) := by omega
              obtain ⟨c0, c1, c2, c3⟩ := four_cells (box_step (w0 := w) HR0.out hbel)
              obtain ⟨wo, hwo⟩ : ∃ wo : World, wr = wo := ⟨_, rfl⟩
              subst hwo
              clear hall hjl hr hbel 
              go_wp2
              clear i1 c0 c1 c2 c3
              go_loopw [75] (fun i wr => ∃ j : Nat, j ≤ bs.length ∧ i = .int .i64 j ∧ Below W0.heap.size W0 wr ∧ (bs.take j).all brkOk = true) (fun i _ => bs.length - (intOf i).toNat)
              case atStart => exact ⟨0, by omega, rfl, HB2.out, rfl⟩
              case round =>
                obtain ⟨j, hj, rfl, hbel, hall⟩ := hrel
                by_cases hlt : j < bs.length
                · obtain ⟨bb, off, e1, hlb, hcx⟩ := (hs0.out.below hbel).at (by omega)
                  subst e1
                  obtain ⟨⟨x0, x1⟩, hx⟩ : ∃ x : Int × Int, bs.getD j default = x := ⟨_, rfl⟩
                  have g0 := hcx j hlt 0 (by omega)
                  have g1 := hcx j hlt 1 (by omega)
                  rw [hx] at g0 g1
                  simp only [Nat.add_zero, brkC] at g0 g1
                  have hst := all_next hlt hx hall
                  obtain ⟨b, hb⟩ : ∃ b, brkOk ⟨x0, x1⟩ = b := ⟨_, rfl⟩
                  rw [hb] at hst
                  obtain ⟨X, hX⟩ : ∃ X, wr.alloc (.cells #[.int .i64 x0, .int .i64 x1] 43) = X := ⟨_, rfl⟩
                  have hbX : Below wr.heap.size wr X := by rw [← hX]; exact (Below.refl _ _).alloc (Nat.le_refl _) _
                  have hrX : X.heap[wr.heap.size]? = some (.cells #[.int .i64 x0, .int .i64 x1] 43 (0, 0)) := by rw [← hX]; exact alloc_heap wr _
                  obtain ⟨Q, hQ⟩ : ∃ Q, wr.heap.size = Q := ⟨_, rfl⟩
                  obtain ⟨c0, c1, c2, c3⟩ := four_cells (box_step (w0 := w) (box_step (w0 := w) HR0.out hbel) hbX)
                  obtain ⟨q0, q1⟩ := two_cells hrX
                  rw [hQ] at q0 q1
                  have k1 := fun X => isSeal_any x0 X
                  have k2 := fun X => isDay_any x1 X
                  unfold brkOk at hb
                  simp only [] at hb
                  obtain ⟨b1, hb1⟩ : ∃ b, inF x0 1 1000000 = b := ⟨_, rfl⟩
                  obtain ⟨b2, hb2⟩ : ∃ b, inF x1 0 131072 = b := ⟨_, rfl⟩
                  rw [hb1] at k1 hb
                  rw [hb2] at k2 hb
                  have K1 := Lib.hid k1
                  have K2 := Lib.hid k2
                  have HBB := Lib.hid hb
                  clear k1 k2 hb1 hb2
                  have HST := Lib.hid hst
                  have hbel2 := Lib.hid (hbel.trans (hbX.mono hbel.size))
                  have ij1 : (j : Int) < (bs.length : Int) := by omega
                  clear hst hb hx hall hcx hrX hbX hbel
                  go_upto_region 24 with fail
                  clear hX hQ g0 g1
                  cases b1 with
                  | false =>
                      have hbf := HBB.out
                      simp only [Bool.false_and] at hbf
                      subst hbf
                      have hf : R = false := by rw [← HR.out, all_stop HST.out]
                      subst hf
                      go_wp2_with (go_at_call 51; (with_reducible refine (K1.out _).mono ?_); rintro e w2 ⟨rfl, rfl⟩)
                      go_ret
                      exact ⟨rfl, HB.out.trans (hbel2.out.mono HB.out.size)⟩
                  | true =>
                      have hbf := HBB.out
                      simp only [Bool.true_and] at hbf
                      subst hbf
                      cases b2 with
                      | false =>
                          have hf : R = false := by rw [← HR.out, all_stop HST.out]
                          subst hf
                          go_wp2_with (first | (go_at_call 51; (with_reducible refine (K1.out _).mono ?_); rintro e w2 ⟨rfl, rfl⟩) | (go_at_call 25; (with_reducible refine (K2.out _).mono ?_); rintro e w2 ⟨rfl, rfl⟩))
                          go_ret
                          exact ⟨rfl, HB.out.trans (hbel2.out.mono HB.out.size)⟩
                      | true =>
                          go_wp2_with (first | (go_at_call 51; (with_reducible refine (K1.out _).mono ?_); rintro e w2 ⟨rfl, rfl⟩) | (go_at_call 25; (with_reducible refine (K2.out _).mono ?_); rintro e w2 ⟨rfl, rfl⟩))
                          go_roundw
                          case rel => exact ⟨j + 1, by omega, by go_num, hbel2.out, HST.out⟩
                          case measure => simp [intOf]; omega
                · have hjl : j = bs.length := by omega
                  have hr := HR.out
                  rw [show bs.all brkOk = true by rw [← hall, hjl, List.take_length]] at hr

                  subst hr
                  have i1 : ¬ (j : Int) < (bs.length : Int) := by omega
                  clear hall hjl
                  go_wp2
                  go_ret
                  exact ⟨rfl, HB.out.trans (hbel.mono HB.out.size)⟩
end Go.Proofs.Ytcmfplfnpjknlaa
