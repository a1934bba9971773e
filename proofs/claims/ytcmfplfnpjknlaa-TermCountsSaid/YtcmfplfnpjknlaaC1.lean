/- Term: the reference's force, status. -/
import Derived.Test.YtcmfplfnpjknlaaA27
namespace Go.Proofs.Ytcmfplfnpjknlaa
set_option linter.unusedSimpArgs false
set_option linter.unusedVariables false
open Go.RowKit

def trmC (t : Int × Int) : Nat → Int | 0 => t.1 | _ => t.2
set_option maxRecDepth 100000 in
set_option maxHeartbeats 12800000 in
theorem force_any (s : Stk) (ts : List (Int × Int)) (k : Nat) (day : Int) (v lv : Value) (w : World) (hs : StkAt w v s) (hl : TabAt 2 trmC w lv ts) (hk : k < s.rs.length) (hk2 : k < ts.length) :
    Calls Try.prog 56 #[v, lv, .int .i64 k, .int .i64 day] w fun e w' => e = .returned (.bool (decide ((s.rs.getD k default).day ≤ day) && decide (day < (ts.getD k default).1))) ∧ Below w.heap.size w w' := by
  obtain ⟨la, lc, rfl⟩ := hl.shape
  obtain ⟨lb, lo, rfl, hlb, hlx⟩ := hl.at (by omega)
  have u0 := hlx k hk2 0 (by omega)
  obtain ⟨⟨t0, t1⟩, ht⟩ : ∃ x, ts.getD k default = x := ⟨_, rfl⟩
  rw [ht] at u0 ⊢
  simp only [Nat.add_zero, trmC] at u0
  have ml : ts.length ≤ 9223372036854775807 := hl.1
  obtain ⟨tn, htn⟩ : ∃ n, ts.length = n := ⟨_, rfl⟩
  rw [htn] at hk2 ml ⊢
  clear hl hlx ht htn
  obtain ⟨cv, rv, pv, bv, rfl, hc, hr, hp, hb⟩ := hs
  obtain ⟨cs, rs, ps, bs⟩ := s
  simp only [] at hc hr hp hb
  obtain ⟨ca, cc, rfl⟩ := hc.shape
  obtain ⟨ra, rc, rfl⟩ := hr.shape
  obtain ⟨pa, pc, rfl⟩ := hp.shape
  obtain ⟨ba, bc, rfl⟩ := hb.shape
  have m1 : cs.length ≤ 9223372036854775807 := hc.1
  have m2 : rs.length ≤ 9223372036854775807 := hr.1
  have m3 : ps.length ≤ 9223372036854775807 := hp.1
  have m4 : bs.length ≤ 9223372036854775807 := hb.1
  obtain ⟨W0, hW0⟩ : ∃ X, X = w.alloc (.cells #[.slice ca cs.length cc, .slice ra rs.length rc, .slice pa ps.length pc, .slice ba bs.length bc] 27) := ⟨_, rfl⟩
  have hb0 : Below w.heap.size w W0 := by rw [hW0]; exact (Below.refl _ _).alloc (Nat.le_refl _) _
  have hr0 : W0.heap[w.heap.size]? = some (.cells #[.slice ca cs.length cc, .slice ra rs.length rc, .slice pa ps.length pc, .slice ba bs.length bc] 27 (0, 0)) := by rw [hW0]; exact alloc_heap w _
  have hc0 := Lib.hid (hc.below hb0)
  have hq0 := Lib.hid (hr.below hb0)
  have hp0 := Lib.hid (hp.below hb0)
  have hs0 := Lib.hid (hb.below hb0)
  obtain ⟨P, hP⟩ : ∃ P, w.heap.size = P := ⟨_, rfl⟩
  rw [hP] at hr0
  obtain ⟨d0, d1, d2, d3⟩ := four_cells hr0
  have HB := Lib.hid hb0
  have HR0 := Lib.hid hr0
  clear hr0 hb0 hc hr hp hb
  have v0 := (HB.out.cell (p := ⟨lb, lo + k * 2, none⟩) hlb).trans u0
  obtain ⟨rb, ro, e1, hrb, hrx⟩ := hq0.out.at (show 0 < rs.length from Nat.lt_of_le_of_lt (Nat.zero_le _) hk)
  subst e1
  have g3 := hrx k hk 3 (by omega)
  obtain ⟨⟨x0, x1, x2, x3⟩, hx⟩ : ∃ x : Row, rs.getD k default = x := ⟨_, rfl⟩
  rw [hx] at g3
  simp only [rowC] at g3
  have i1 : (k : Int) < (rs.length : Int) := Int.ofNat_lt.2 hk
  have i2 : (k : Int) < (tn : Int) := by omega
  simp only [hx]
  obtain ⟨R, hR⟩ : ∃ R, (decide (x3 ≤ day) && decide (day < t0)) = R := ⟨_, rfl⟩
  rw [hR]
  have HR := Lib.hid hR
  clear u0 hrx hx hlb hR
  go_enter Try.func56, Try.ntmps56
  go_upto_region 1 with fail
  rw [← hW0]
  clear hW0 hP
  by_cases hd : x3 ≤ day
  · go_wp2
    go_ret
    exact ⟨by rw [← HR.out, decide_eq_true hd]; rfl, HB.out⟩
  · go_wp2
    go_ret
    exact ⟨by rw [← HR.out, decide_eq_false (by omega)]; rfl, HB.out⟩
def refStatF (bs : List (Int × Int)) (r : Row) (e n day : Int) : Int := if day < r.day then 0 else if brkBy bs n day then 3 else if day < e then 1 else 2
set_option maxRecDepth 100000 in
set_option maxHeartbeats 12800000 in
theorem refStatus_any (s : Stk) (ts : List (Int × Int)) (k : Nat) (n day : Int) (v lv : Value) (w : World) (hs : StkAt w v s) (hl : TabAt 2 trmC w lv ts) (hk : k < s.rs.length) (hk2 : k < ts.length) :
    Calls Try.prog 29 #[v, lv, .int .i64 k, .int .i64 n, .int .i64 day] w fun e w' => e = .returned (.int .i64 (refStatF s.bs (s.rs.getD k default) (ts.getD k default).1 n day)) ∧ Below w.heap.size w w' := by
  obtain ⟨la, lc, rfl⟩ := hl.shape
  obtain ⟨lb, lo, rfl, hlb, hlx⟩ := hl.at (by omega)
  have u0 := hlx k hk2 0 (by omega)
  obtain ⟨⟨t0, t1⟩, ht⟩ : ∃ x, ts.getD k default = x := ⟨_, rfl⟩
  rw [ht] at u0 ⊢
  simp only [Nat.add_zero, trmC] at u0
  have ml : ts.length ≤ 9223372036854775807 := hl.1
  obtain ⟨tn, htn⟩ : ∃ n, ts.length = n := ⟨_, rfl⟩
  rw [htn] at hk2 ml ⊢
  clear hl hlx ht htn
  obtain ⟨cv, rv, pv, bv, rfl, hc, hr, hp, hb⟩ := hs
  obtain ⟨cs, rs, ps, bs⟩ := s
  simp only [] at hc hr hp hb
  obtain ⟨ca, cc, rfl⟩ := hc.shape
  obtain ⟨ra, rc, rfl⟩ := hr.shape
  obtain ⟨pa, pc, rfl⟩ := hp.shape
  obtain ⟨ba, bc, rfl⟩ := hb.shape
  have m1 : cs.length ≤ 9223372036854775807 := hc.1
  have m2 : rs.length ≤ 9223372036854775807 := hr.1
  have m3 : ps.length ≤ 9223372036854775807 := hp.1
  have m4 : bs.length ≤ 9223372036854775807 := hb.1
  obtain ⟨W0, hW0⟩ : ∃ X, X = w.alloc (.cells #[.slice ca cs.length cc, .slice ra rs.length rc, .slice pa ps.length pc, .slice ba bs.length bc] 27) := ⟨_, rfl⟩
  have hb0 : Below w.heap.size w W0 := by rw [hW0]; exact (Below.refl _ _).alloc (Nat.le_refl _) _
  have hr0 : W0.heap[w.heap.size]? = some (.cells #[.slice ca cs.length cc, .slice ra rs.length rc, .slice pa ps.length pc, .slice ba bs.length bc] 27 (0, 0)) := by rw [hW0]; exact alloc_heap w _
  have hc0 := Lib.hid (hc.below hb0)
  have hq0 := Lib.hid (hr.below hb0)
  have hp0 := Lib.hid (hp.below hb0)
  have hs0 := Lib.hid (hb.below hb0)
  obtain ⟨P, hP⟩ : ∃ P, w.heap.size = P := ⟨_, rfl⟩
  rw [hP] at hr0
  obtain ⟨d0, d1, d2, d3⟩ := four_cells hr0
  have HB := Lib.hid hb0
  have HR0 := Lib.hid hr0
  clear hr0 hb0 hc hr hp hb
  have v0 := (HB.out.cell (p := ⟨lb, lo + k * 2, none⟩) hlb).trans u0
  have hlb2 : lb < W0.heap.size := Nat.lt_of_lt_of_le hlb HB.out.size
  have kb := refBroken_any ⟨cs, rs, ps, bs⟩ n day _ W0 (⟨_, _, _, _, rfl, hc0.out, hq0.out, hp0.out, hs0.out⟩ : StkAt W0 (.agg #[.slice ca cs.length cc, .slice ra rs.length rc, .slice pa ps.length pc, .slice ba bs.length bc]) ⟨cs, rs, ps, bs⟩)
  obtain ⟨rb, ro, e1, hrb, hrx⟩ := hq0.out.at (show 0 < rs.length from Nat.lt_of_le_of_lt (Nat.zero_le _) hk)
  subst e1
  have g3 := hrx k hk 3 (by omega)
  obtain ⟨⟨x0, x1, x2, x3⟩, hx⟩ : ∃ x : Row, rs.getD k default = x := ⟨_, rfl⟩
  rw [hx] at g3
  simp only [rowC] at g3
  have i1 : (k : Int) < (rs.length : Int) := Int.ofNat_lt.2 hk
  have i2 : (k : Int) < (tn : Int) := by omega
  simp only [hx]
  obtain ⟨b, hb'⟩ : ∃ b, brkBy bs n day = b := ⟨_, rfl⟩
  unfold refStatF
  rw [hb']
  obtain ⟨R, hR⟩ : ∃ R, (if day < x3 then (0 : Int) else if b = true then 3 else if day < t0 then 1 else 2) = R := ⟨_, rfl⟩
  simp only [hR]
  have HR := Lib.hid hR
  clear hR
  rw [hb'] at kb
  have KB := Lib.hid kb
  clear u0 hrx hx hlb kb hb'
  go_enter Try.func29, Try.ntmps29
  go_upto_region 1 with fail
  rw [← hW0]
  clear hW0 hP
  by_cases hd : day < x3
  · have hr := HR.out
    rw [if_pos hd] at hr
    subst hr
    go_wp2
    go_ret
    exact ⟨rfl, HB.out⟩
  · have hr := HR.out
    rw [if_neg hd] at hr
    clear HR
    cases b with
    | true =>
      simp only [if_true] at hr
      subst hr
      go_wp2_with (go_at_call 21; (with_reducible refine KB.out.mono ?_); rintro e w2 ⟨rfl, hb2⟩)
      go_ret
      exact ⟨rfl, HB.out.trans (hb2.mono HB.out.size)⟩
    | false =>
      simp only [Bool.false_eq_true, if_false] at hr
      go_wp2_with fail
      refine KB.out.mono ?_
      rintro e w2 ⟨rfl, hb2⟩
      have y0 := (hb2.cell (p := ⟨lb, lo + k * 2, none⟩) hlb2).trans v0
      by_cases he : day < t0
      · rw [if_pos he] at hr
        subst hr
        go_wp2
        go_ret
        exact ⟨rfl, HB.out.trans (hb2.mono HB.out.size)⟩
      · rw [if_neg he] at hr
        subst hr
        go_wp2
        go_ret
        exact ⟨rfl, HB.out.trans (hb2.mono HB.out.size)⟩
end Go.Proofs.Ytcmfplfnpjknlaa
