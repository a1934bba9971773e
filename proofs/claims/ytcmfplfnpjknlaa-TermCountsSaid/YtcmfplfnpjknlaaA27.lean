/- Term: the reference's Row, breaks, IsBroken. -/
import Derived.Test.YtcmfplfnpjknlaaA26
namespace Go.Proofs.Ytcmfplfnpjknlaa
set_option linter.unusedSimpArgs false
set_option linter.unusedVariables false
open Go.RowKit

def ixI (rs : List Row) (n : Int) : Int := match rowIx rs n with | some j => (j : Int) | none => -1
set_option maxRecDepth 100000 in
set_option maxHeartbeats 12800000 in
theorem refRow_any (s : Stk) (n : Int) (v : Value) (w : World) (hs : StkAt w v s) : Calls Try.prog 19 #[v, .int .i64 n] w fun e w' => e = .returned (.int .i64 (ixI s.rs n)) ∧ Below w.heap.size w w' := by
  obtain ⟨cv, rv, pv, bv, rfl, hc, hr, hp, hb⟩ := hs
  obtain ⟨cs, rs, ps, bs⟩ := s
  simp only [] at hc hr hp hb
  obtain ⟨ca, cc, rfl⟩ := hc.shape
  obtain ⟨ra, rc, rfl⟩ := hr.shape
  obtain ⟨pa, pc, rfl⟩ := hp.shape
  obtain ⟨ba, bc, rfl⟩ := hb.shape
  have m1 : cs.length ≤ 9223372036854775807 := hc.1
  have m2 : rs.length ≤ 9223372036854775807 := hr.1
  have m3 : ps.length ≤ 9223372036854775807 := hp.1
  have m4 : bs.length ≤ 9223372036854775807 := hb.1
  obtain ⟨W0, hW0⟩ : ∃ X, X = w.alloc (.cells #[.slice ca cs.length cc, .slice ra rs.length rc, .slice pa ps.length pc, .slice ba bs.length bc] 27) := ⟨_, rfl⟩
  have hb0 : Below w.heap.size w W0 := by rw [hW0]; exact (Below.refl _ _).alloc (Nat.le_refl _) _
  have hr0 : W0.heap[w.heap.size]? = some (.cells #[.slice ca cs.length cc, .slice ra rs.length rc, .slice pa ps.length pc, .slice ba bs.length bc] 27 (0, 0)) := by rw [hW0]; exact alloc_heap w _
  have hc0 := Lib.hid (hc.below hb0)
  have hq0 := Lib.hid (hr.below hb0)
  have hp0 := Lib.hid (hp.below hb0)
  have hs0 := Lib.hid (hb.below hb0)
  obtain ⟨P, hP⟩ : ∃ P, w.heap.size = P := ⟨_, rfl⟩
  rw [hP] at hr0
  obtain ⟨d0, d1, d2, d3⟩ := four_cells hr0
  have HB := Lib.hid hb0
  have HR0 := Lib.hid hr0
  clear hr0 hb0 hc hr hp hb
  obtain ⟨R, hR⟩ : ∃ R, ixI rs n = R := ⟨_, rfl⟩
  rw [hR]
  have HR := Lib.hid hR
  clear hR
  go_enter Try.func19, Try.ntmps19
  go_upto_region 1 with fail
  rw [← hW0]
  clear hW0 hP
  go_wp2
  clear d0 d1 d2 d3
  go_loopw [5] (fun i wr => ∃ j : Nat, j ≤ rs.length ∧ i = .int .i64 j ∧ Below W0.heap.size W0 wr ∧ rowIx (rs.take j) n = none) (fun i _ => rs.length - (intOf i).toNat)
  case atStart => exact ⟨0, by omega, rfl, Below.refl _ _, by simp [rowIx]⟩
  case round =>
    obtain ⟨j, hj, rfl, hbel, hno⟩ := hrel
    obtain ⟨c0, c1, c2, c3⟩ := four_cells (box_step (w0 := w) HR0.out hbel)
    have HBL := Lib.hid hbel
    by_cases hlt : j < rs.length
    · obtain ⟨bb, off, e1, hlb, hcx⟩ := (hq0.out.below hbel).at (by omega)
      subst e1
      have g0 := hcx j hlt 0 (by omega)
      have g1 := hcx j hlt 1 (by omega)
      have hn := ix_next (n := n) hlt
      have hsx := ix_step (n := n) hlt
      obtain ⟨⟨x0, x1, x2, x3⟩, hx⟩ : ∃ x : Row, rs.getD j default = x := ⟨_, rfl⟩
      rw [hx] at g0 g1 hn hsx
      simp only [Nat.add_zero, rowC] at g0 g1
      have k1 := fun X => in_any n x0 x1 X
      unfold hasF at hn hsx
      simp only [] at hn hsx
      obtain ⟨b, hb⟩ : ∃ b, inF n x0 x1 = b := ⟨_, rfl⟩
      rw [hb] at k1 hn hsx
      have K1 := Lib.hid k1
      have HN := Lib.hid (fun h => hn h hno)
      have HSX := Lib.hid (fun h => hsx h hno)
      have ij1 : (j : Int) < (rs.length : Int) := by omega
      clear k1 hb hn hsx hno hx hcx hbel
      cases b with
      | true =>
        have hr := HR.out
        unfold ixI at hr
        rw [HN.out rfl] at hr
        simp only [] at hr
        subst hr
        go_upto_region 4 with fail
        go_quiet ((go_at_call 28; with_reducible exact Calls.quiet_of_same ((K1.out _).mono fun _ _ ⟨a, b⟩ => ⟨a, b.symm⟩)))
        go_wp2
        go_ret
        exact ⟨rfl, HB.out.trans ((below_drewn HBL.out _).mono HB.out.size)⟩
      | false =>
        have HNX := Lib.hid (HSX.out rfl)
        clear HSX HN
        go_upto_region 4 with fail
        go_quiet ((go_at_call 28; with_reducible exact Calls.quiet_of_same ((K1.out _).mono fun _ _ ⟨a, b⟩ => ⟨a, b.symm⟩)))
        go_wp2
        go_roundw
        case rel => exact ⟨j + 1, by omega, by go_num, below_drewn HBL.out _, HNX.out⟩
        case measure => simp [intOf]; omega
    · have hjl : j = rs.length := by omega
      have hr := HR.out
      unfold ixI at hr
      rw [show rowIx rs n = none by rw [← hno, hjl, List.take_length]] at hr
      simp only [] at hr
      subst hr
      have i1 : ¬ (j : Int) < (rs.length : Int) := by omega
      clear hno hjl hbel
      go_wp2
      go_ret
      exact ⟨rfl, HB.out.trans (HBL.out.mono HB.out.size)⟩
theorem day_next {L : List (Int × Int)} {n x y : Int} {j : Nat} (hlt : j < L.length) (hx : L.getD j default = (x, y)) (h : brkDay (L.take j) n = none) : brkDay (L.take (j + 1)) n = if x = n then some y else none := by
  unfold brkDay at h ⊢
  rw [List.take_succ_eq_append_getElem hlt, List.find?_append]
  have e : L[j] = (x, y) := by simpa [List.getD, hlt] using hx
  rw [Option.map_eq_none_iff] at h
  rw [h, e]
  by_cases hn : x = n
  · simp [List.find?, hn]
  · have : (x == n) = false := by simp [hn]
    simp [List.find?, hn, this]
theorem day_hit {L : List (Int × Int)} {n d : Int} {j : Nat} (h : brkDay (L.take j) n = some d) : brkDay L n = some d := by
  unfold brkDay at h ⊢
  rw [Option.map_eq_some_iff] at h ⊢
  obtain ⟨a, h, rfl⟩ := h
  refine ⟨a, ?_, rfl⟩
  rw [← List.take_append_drop j L, List.find?_append, h]
  rfl
def dayV (bs : List (Int × Int)) (n : Int) : Value := match brkDay bs n with | some d => .tuple #[.int .i64 d, .bool true] | none => .tuple #[.int .i64 0, .bool false]
set_option maxRecDepth 100000 in
set_option maxHeartbeats 12800000 in
theorem breaks_any (s : Stk) (n : Int) (v : Value) (w : World) (hs : StkAt w v s) : Calls Try.prog 34 #[v, .int .i64 n] w fun e w' => e = .returned (dayV s.bs n) ∧ Below w.heap.size w w' := by
  obtain ⟨cv, rv, pv, bv, rfl, hc, hr, hp, hb⟩ := hs
  obtain ⟨cs, rs, ps, bs⟩ := s
  simp only [] at hc hr hp hb
  obtain ⟨ca, cc, rfl⟩ := hc.shape
  obtain ⟨ra, rc, rfl⟩ := hr.shape
  obtain ⟨pa, pc, rfl⟩ := hp.shape
  obtain ⟨ba, bc, rfl⟩ := hb.shape
  have m1 : cs.length ≤ 9223372036854775807 := hc.1
  have m2 : rs.length ≤ 9223372036854775807 := hr.1
  have m3 : ps.length ≤ 9223372036854775807 := hp.1
  have m4 : bs.length ≤ 9223372036854775807 := hb.1
  obtain ⟨W0, hW0⟩ : ∃ X, X = w.alloc (.cells #[.slice ca cs.length cc, .slice ra rs.length rc, .slice pa ps.length pc, .slice ba bs.length bc] 27) := ⟨_, rfl⟩
  have hb0 : Below w.heap.size w W0 := by rw [hW0]; exact (Below.refl _ _).alloc (Nat.le_refl _) _
  have hr0 : W0.heap[w.heap.size]? = some (.cells #[.slice ca cs.length cc, .slice ra rs.length rc, .slice pa ps.length pc, .slice ba bs.length bc] 27 (0, 0)) := by rw [hW0]; exact alloc_heap w _
  have hc0 := Lib.hid (hc.below hb0)
  have hq0 := Lib.hid (hr.below hb0)
  have hp0 := Lib.hid (hp.below hb0)
  have hs0 := Lib.hid (hb.below hb0)
  obtain ⟨P, hP⟩ : ∃ P, w.heap.size = P := ⟨_, rfl⟩
  rw [hP] at hr0
  obtain ⟨d0, d1, d2, d3⟩ := four_cells hr0
  have HB := Lib.hid hb0
  have HR0 := Lib.hid hr0
  clear hr0 hb0 hc hr hp hb
  obtain ⟨R, hR⟩ : ∃ R, dayV bs n = R := ⟨_, rfl⟩
  rw [hR]
  have HR := Lib.hid hR
  clear hR
  go_enter Try.func34, Try.ntmps34
  go_upto_region 1 with fail
  rw [← hW0]
  clear hW0 hP
  go_wp2
  clear d0 d1 d2 d3
  go_loopw [6] (fun i wr => ∃ j : Nat, j ≤ bs.length ∧ i = .int .i64 j ∧ Below W0.heap.size W0 wr ∧ brkDay (bs.take j) n = none) (fun i _ => bs.length - (intOf i).toNat)
  case atStart => exact ⟨0, by omega, rfl, Below.refl _ _, by simp [brkDay]⟩
  case round =>
    obtain ⟨j, hj, rfl, hbel, hno⟩ := hrel
    obtain ⟨c0, c1, c2, c3⟩ := four_cells (box_step (w0 := w) HR0.out hbel)
    have HBL := Lib.hid hbel
    by_cases hlt : j < bs.length
    · obtain ⟨bb, off, e1, hlb, hcx⟩ := (hs0.out.below hbel).at (by omega)
      subst e1
      have g0 := hcx j hlt 0 (by omega)
      have g1 := hcx j hlt 1 (by omega)
      obtain ⟨⟨x0, x1⟩, hx⟩ : ∃ x : Int × Int, bs.getD j default = x := ⟨_, rfl⟩
      have hn := day_next hlt hx hno
      rw [hx] at g0 g1
      simp only [Nat.add_zero, brkC] at g0 g1
      have ij1 : (j : Int) < (bs.length : Int) := by omega
      have HN := Lib.hid hn
      clear hn hno hx hcx hbel
      by_cases hxn : x0 = n
      · subst hxn
        have hr := HR.out
        unfold dayV at hr
        rw [day_hit (by rw [HN.out, if_pos rfl])] at hr
        simp only [] at hr
        subst hr
        go_wp2
        go_ret2
        exact ⟨rfl, HB.out.trans (HBL.out.mono HB.out.size)⟩
      · have hn := HN.out
        rw [if_neg hxn] at hn
        have HNX := Lib.hid hn
        clear hn HN
        go_wp2
        go_roundw
        case rel => exact ⟨j + 1, by omega, by go_num, HBL.out, HNX.out⟩
        case measure => simp [intOf]; omega
    · have hjl : j = bs.length := by omega
      have hr := HR.out
      unfold dayV at hr
      rw [show brkDay bs n = none by rw [← hno, hjl, List.take_length]] at hr
      simp only [] at hr
      subst hr
      have i1 : ¬ (j : Int) < (bs.length : Int) := by omega
      clear hno hjl hbel
      go_wp2
      go_ret2
      exact ⟨rfl, HB.out.trans (HBL.out.mono HB.out.size)⟩
set_option maxRecDepth 100000 in
set_option maxHeartbeats 12800000 in
theorem refBroken_any (s : Stk) (n day : Int) (v : Value) (w : World) (hs : StkAt w v s) : Calls Try.prog 21 #[v, .int .i64 n, .int .i64 day] w fun e w' => e = .returned (.bool (brkBy s.bs n day)) ∧ Below w.heap.size w w' := by
  obtain ⟨cv, rv, pv, bv, rfl, hc, hr, hp, hb⟩ := hs
  obtain ⟨cs, rs, ps, bs⟩ := s
  simp only [] at hc hr hp hb
  obtain ⟨ca, cc, rfl⟩ := hc.shape
  obtain ⟨ra, rc, rfl⟩ := hr.shape
  obtain ⟨pa, pc, rfl⟩ := hp.shape
  obtain ⟨ba, bc, rfl⟩ := hb.shape
  have m1 : cs.length ≤ 9223372036854775807 := hc.1
  have m2 : rs.length ≤ 9223372036854775807 := hr.1
  have m3 : ps.length ≤ 9223372036854775807 := hp.1
  have m4 : bs.length ≤ 9223372036854775807 := hb.1
  obtain ⟨W0, hW0⟩ : ∃ X, X = w.alloc (.cells #[.slice ca cs.length cc, .slice ra rs.length rc, .slice pa ps.length pc, .slice ba bs.length bc] 27) := ⟨_, rfl⟩
  have hb0 : Below w.heap.size w W0 := by rw [hW0]; exact (Below.refl _ _).alloc (Nat.le_refl _) _
  have hr0 : W0.heap[w.heap.size]? = some (.cells #[.slice ca cs.length cc, .slice ra rs.length rc, .slice pa ps.length pc, .slice ba bs.length bc] 27 (0, 0)) := by rw [hW0]; exact alloc_heap w _
  have hc0 := Lib.hid (hc.below hb0)
  have hq0 := Lib.hid (hr.below hb0)
  have hp0 := Lib.hid (hp.below hb0)
  have hs0 := Lib.hid (hb.below hb0)
  obtain ⟨P, hP⟩ : ∃ P, w.heap.size = P := ⟨_, rfl⟩
  rw [hP] at hr0
  obtain ⟨d0, d1, d2, d3⟩ := four_cells hr0
  have HB := Lib.hid hb0
  have HR0 := Lib.hid hr0
  clear hr0 hb0 hc hr hp hb
  have hz0 : StkAt W0 (.agg #[.slice ca cs.length cc, .slice ra rs.length rc, .slice pa ps.length pc, .slice ba bs.length bc]) ⟨cs, rs, ps, bs⟩ := ⟨_, _, _, _, rfl, hc0.out, hq0.out, hp0.out, hs0.out⟩
  have ks := breaks_any ⟨cs, rs, ps, bs⟩ n _ W0 hz0
  obtain ⟨R, hR⟩ : ∃ R, brkBy bs n day = R := ⟨_, rfl⟩
  rw [hR]
  unfold brkBy at hR
  unfold dayV at ks
  simp only [] at ks
  obtain ⟨o, ho⟩ : ∃ o, brkDay bs n = o := ⟨_, rfl⟩
  rw [ho] at hR ks
  clear ho hz0
  go_enter Try.func21, Try.ntmps21
  cases o with
  | none =>
    simp only [] at hR ks
    subst hR
    have KS := Lib.hid ks
    clear ks
    go_upto_region 1 with fail
    rw [← hW0]
    clear hW0 hP
    go_wp2_with (go_at_call 34; (with_reducible refine KS.out.mono ?_); rintro e w2 ⟨rfl, hb2⟩)
    go_ret
    exact ⟨rfl, HB.out.trans (hb2.mono HB.out.size)⟩
  | some d =>
    simp only [] at hR ks
    have KS := Lib.hid ks
    clear ks
    go_upto_region 1 with fail
    rw [← hW0]
    clear hW0 hP
    subst hR
    go_wp2_with (go_at_call 34; (with_reducible refine KS.out.mono ?_); rintro e w2 ⟨rfl, hb2⟩)
    go_ret
    exact ⟨rfl, HB.out.trans (hb2.mono HB.out.size)⟩
end Go.Proofs.Ytcmfplfnpjknlaa
