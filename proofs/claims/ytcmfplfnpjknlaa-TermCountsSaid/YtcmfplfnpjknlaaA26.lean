/- Term: the laws' large. -/
import Derived.Test.YtcmfplfnpjknlaaA25
namespace Go.Proofs.Ytcmfplfnpjknlaa
set_option linter.unusedSimpArgs false
set_option linter.unusedVariables false
open Go.RowKit

def IsBool (e : Ending) : Prop := ∃ b, e = .returned (.bool b)
theorem isBool (b : Bool) : IsBool (.returned (.bool b)) := ⟨b, rfl⟩
set_option maxRecDepth 100000 in
set_option maxHeartbeats 12800000 in
theorem large_any (s : Stk) (z : Int) (v : Value) (w : World) (hs : StkAt w v s) : Calls Try.prog 8 #[v, .int .i64 z] w fun e w' => IsBool e ∧ Below w.heap.size w w' := by
  obtain ⟨cv, rv, pv, bv, rfl, hc, hr, hp, hb⟩ := hs
  obtain ⟨cs, rs, ps, bs⟩ := s
  simp only [] at hc hr hp hb
  obtain ⟨ca, cc, rfl⟩ := hc.shape
  obtain ⟨ra, rc, rfl⟩ := hr.shape
  obtain ⟨pa, pc, rfl⟩ := hp.shape
  obtain ⟨ba, bc, rfl⟩ := hb.shape
  have m1 : cs.length ≤ 9223372036854775807 := hc.1
  have m2 : rs.length ≤ 9223372036854775807 := hr.1
  have m3 : ps.length ≤ 9223372036854775807 := hp.1
  have m4 : bs.length ≤ 9223372036854775807 := hb.1
  obtain ⟨W0, hW0⟩ : ∃ X, X = w.alloc (.cells #[.slice ca cs.length cc, .slice ra rs.length rc, .slice pa ps.length pc, .slice ba bs.length bc] 27) := ⟨_, rfl⟩
  have hb0 : Below w.heap.size w W0 := by rw [hW0]; exact (Below.refl _ _).alloc (Nat.le_refl _) _
  have hr0 : W0.heap[w.heap.size]? = some (.cells #[.slice ca cs.length cc, .slice ra rs.length rc, .slice pa ps.length pc, .slice ba bs.length bc] 27 (0, 0)) := by rw [hW0]; exact alloc_heap w _
  have hc0 := Lib.hid (hc.below hb0)
  have hq0 := Lib.hid (hr.below hb0)
  have hp0 := Lib.hid (hp.below hb0)
  have hs0 := Lib.hid (hb.below hb0)
  obtain ⟨P, hP⟩ : ∃ P, w.heap.size = P := ⟨_, rfl⟩
  rw [hP] at hr0
  obtain ⟨d0, d1, d2, d3⟩ := four_cells hr0
  have HB := Lib.hid hb0
  have HR0 := Lib.hid hr0
  clear hr0 hb0 hc hr hp hb
  have hz0 : StkAt W0 (.agg #[.slice ca cs.length cc, .slice ra rs.length rc, .slice pa ps.length pc, .slice ba bs.length bc]) ⟨cs, rs, ps, bs⟩ := ⟨_, _, _, _, rfl, hc0.out, hq0.out, hp0.out, hs0.out⟩
  have ks := fun (X : World) (hX : Below W0.heap.size W0 X) => refStock_any ⟨cs, rs, ps, bs⟩ _ X (hz0.below hX)
  obtain ⟨R, hR⟩ : ∃ R, stkOk ⟨cs, rs, ps, bs⟩ = R := ⟨_, rfl⟩
  rw [hR] at ks
  have KS := Lib.hid ks
  clear ks hR hz0
  go_enter Try.func8, Try.ntmps8
  go_upto_region 1 with fail
  rw [← hW0]
  clear hW0 hP
  by_cases l0 : (10 : Int) < (cs.length : Int)
  · go_wp2
    go_ret
    exact ⟨isBool _, HB.out⟩
  by_cases l1 : (30 : Int) < (rs.length : Int)
  · go_wp2
    go_ret
    exact ⟨isBool _, HB.out⟩
  by_cases l2 : (16 : Int) < (ps.length : Int)
  · go_wp2
    go_ret
    exact ⟨isBool _, HB.out⟩
  by_cases l3 : (30 : Int) < (bs.length : Int)
  · go_wp2
    go_ret
    exact ⟨isBool _, HB.out⟩
  go_wp2
  clear l0 l1 l2 l3
  go_loopw [5] (fun i wr => ∃ j : Nat, j ≤ ps.length ∧ i = .int .i64 j ∧ Below W0.heap.size W0 wr) (fun i _ => ps.length - (intOf i).toNat)
  case atStart => exact ⟨0, by omega, rfl, Below.refl _ _⟩
  case round =>
    obtain ⟨j, hj, rfl, hbel⟩ := hrel
    obtain ⟨c0, c1, c2, c3⟩ := four_cells (box_step (w0 := w) HR0.out hbel)
    have HBK := Lib.hid hbel
    clear hbel
    by_cases hlt : j < ps.length
    · obtain ⟨bb, off, e1, hlb, hcx⟩ := (hp0.out.below HBK.out).at (by omega)
      subst e1
      obtain ⟨sv, g0, g1, g2, g3, hsv⟩ := hcx j hlt
      obtain ⟨sa, sc, rfl⟩ := hsv.shape
      obtain ⟨k, hk⟩ : ∃ k, (ps.getD j default).seals.length = k := ⟨_, rfl⟩
      have hk2 : k ≤ 9223372036854775807 := by rw [← hk]; exact hsv.1
      rw [hk] at g2
      have ij1 : (j : Int) < (ps.length : Int) := by omega
      clear g0 g1 g3 hsv hcx hk
      by_cases hl : (30 : Int) < (k : Int)
      · go_wp2
        go_ret
        exact ⟨isBool _, HB.out.trans (HBK.out.mono HB.out.size)⟩
      · go_wp2
        go_roundw
        case rel => exact ⟨j + 1, by omega, by go_num, HBK.out⟩
        case measure => simp [intOf]; omega
    · have i1 : ¬ (j : Int) < (ps.length : Int) := by omega
      clear hj hlt d0 d1 d2 d3
      go_wp2
      clear i1 c0 c1 c2 c3
      go_loopw [6, 7] (fun n i wr => ∃ (j : Nat) (z : Int), j ≤ rs.length ∧ n = .int .i64 z ∧ i = .int .i64 j ∧ Below W0.heap.size W0 wr) (fun n i _ => rs.length - (intOf i).toNat)
      case atStart => exact ⟨0, 0, by omega, rfl, rfl, HBK.out⟩
      case round =>
        obtain ⟨j, y, hj, rfl, rfl, hbel⟩ := hrel
        obtain ⟨c0, c1, c2, c3⟩ := four_cells (box_step (w0 := w) HR0.out hbel)
        have HBL := Lib.hid hbel
        by_cases hlt : j < rs.length
        · have ij1 : (j : Int) < (rs.length : Int) := by omega
          clear hbel
          cases R with
          | false =>
            by_cases hf : z < y
            all_goals
              go_wp2_with (go_at_call 15; (with_reducible refine (KS.out _ HBL.out).mono ?_); rintro e w2 ⟨rfl, hb2⟩)
              go_ret
              exact ⟨isBool _, HB.out.trans ((HBL.out.trans (hb2.mono HBL.out.size)).mono HB.out.size)⟩
          | true =>
            go_upto_region 12 with (go_at_call 15; (with_reducible refine (KS.out _ HBL.out).mono ?_); rintro e w2 ⟨rfl, hb2⟩)
            have hbl := HBL.out.trans (hb2.mono HBL.out.size)
            obtain ⟨c0, c1, c2, c3⟩ := four_cells (box_step (w0 := w) HR0.out hbl)
            obtain ⟨bb, off, e1, hlb, hcx⟩ := (hq0.out.below hbl).at (by omega)
            subst e1
            have g0 := hcx j hlt 0 (by omega)
            have g1 := hcx j hlt 1 (by omega)
            obtain ⟨⟨x0, x1, x2, x3⟩, hx⟩ : ∃ x : Row, rs.getD j default = x := ⟨_, rfl⟩
            rw [hx] at g0 g1
            simp only [Nat.add_zero, rowC] at g0 g1
            have HBM := Lib.hid hbl
            clear hcx hx hb2 hbl
            go_quiet (fail)
            go_wp2
            go_roundw
            case rel => exact ⟨j + 1, _, by omega, rfl, by go_num, below_drewn HBM.out _⟩
            case measure => simp [intOf]; omega
        · have i1 : ¬ (j : Int) < (rs.length : Int) := by omega
          by_cases hf : z < y
          all_goals
            go_wp2
            go_ret
            exact ⟨isBool _, HB.out.trans (hbel.mono HB.out.size)⟩
end Go.Proofs.Ytcmfplfnpjknlaa
