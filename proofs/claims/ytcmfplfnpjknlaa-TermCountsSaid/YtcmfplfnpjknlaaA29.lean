/- Term: the reference's Passes. -/
import Derived.Test.YtcmfplfnpjknlaaA28
import Derived.Test.YtcmfplfnpjknlaaM3
namespace Go.Proofs.Ytcmfplfnpjknlaa
set_option linter.unusedSimpArgs false
set_option linter.unusedVariables false
open Go.RowKit

theorem onesN_next (l : Nat) (h : l < 1048576) : onesN 20 l = l % 2 + onesN 20 (l / 2) := by
  have e1 : onesN 20 l = l % 2 + onesN 19 (l / 2) := rfl
  have e2 : onesN (19 + 1) (l / 2) = onesN 19 (l / 2 % 2 ^ 19) + onesN 1 (l / 2 / 2 ^ 19) := onesN_add 19 1 _
  rw [show l / 2 / 2 ^ 19 = 0 by omega, show l / 2 % 2 ^ 19 = l / 2 by omega, onesN_zero] at e2
  rw [e1]
  simp only [Nat.add_zero] at e2
  rw [show (20 : Nat) = 19 + 1 by rfl, e2]
theorem onesN_few : ∀ k n, onesN k n ≤ k
  | 0, _ => Nat.le_refl _
  | k + 1, n => by
    have := onesN_few k (n / 2)
    rw [onesN]; omega
theorem half64 {l : Nat} (h : l < 1048576) : wrap64 ((l : Int) / 2) = ((l / 2 : Nat) : Int) := by
  unfold wrap64; omega
def Left (F q l : Nat) : Prop := q + onesN 20 l = onesN 20 F ∧ l < 1048576
set_option maxRecDepth 100000 in
set_option maxHeartbeats 12800000 in
theorem passes_any (s : Stk) (p : Prf) (v sv : Value) (w : World) (hs : StkAt w v s) (hpn : TabAt 1 numC w sv p.seals) (f0 : 0 ≤ p.failed) (f1 : p.failed < 1048576) (k0 : 0 ≤ p.cls) (k1 : p.cls < s.cs.length) :
    Calls Try.prog 20 #[v, .agg #[.int .i64 p.cls, .int .i64 p.day, sv, .int .i64 p.failed]] w fun e w' => e = .returned (.bool (decide (failsF p ≤ (s.cs.getD p.cls.toNat default).fail))) ∧ Below w.heap.size w w' := by
  obtain ⟨x0, x1, x2, x3⟩ := p
  simp only [] at hpn f0 f1 k0 k1
  obtain ⟨sa, sc, rfl⟩ := hpn.shape
  obtain ⟨x2n, hx2n⟩ : ∃ k, x2.length = k := ⟨_, rfl⟩
  have mx : x2n ≤ 9223372036854775807 := by rw [← hx2n]; exact hpn.1
  rw [hx2n]
  clear hpn
  obtain ⟨F, rfl⟩ : ∃ F : Nat, x3 = F := ⟨x3.toNat, by omega⟩
  obtain ⟨c, rfl⟩ : ∃ c : Nat, x0 = c := ⟨x0.toNat, by omega⟩
  have hF : failsF ⟨c, x1, x2, F⟩ = (onesN 20 F : Nat) := popF_ones F (by omega)
  rw [hF]
  simp only [Int.toNat_natCast]
  clear hF
  obtain ⟨cv, rv, pv, bv, rfl, hc, hr, hp, hb⟩ := hs
  obtain ⟨cs, rs, ps, bs⟩ := s
  simp only [] at hc hr hp hb
  obtain ⟨ca, cc, rfl⟩ := hc.shape
  obtain ⟨ra, rc, rfl⟩ := hr.shape
  obtain ⟨pa, pc, rfl⟩ := hp.shape
  obtain ⟨ba, bc, rfl⟩ := hb.shape
  have m1 : cs.length ≤ 9223372036854775807 := hc.1
  have m2 : rs.length ≤ 9223372036854775807 := hr.1
  have m3 : ps.length ≤ 9223372036854775807 := hp.1
  have m4 : bs.length ≤ 9223372036854775807 := hb.1
  obtain ⟨W0, hW0⟩ : ∃ X, X = w.alloc (.cells #[.slice ca cs.length cc, .slice ra rs.length rc, .slice pa ps.length pc, .slice ba bs.length bc] 27) := ⟨_, rfl⟩
  have hb0 : Below w.heap.size w W0 := by rw [hW0]; exact (Below.refl _ _).alloc (Nat.le_refl _) _
  have hr0 : W0.heap[w.heap.size]? = some (.cells #[.slice ca cs.length cc, .slice ra rs.length rc, .slice pa ps.length pc, .slice ba bs.length bc] 27 (0, 0)) := by rw [hW0]; exact alloc_heap w _
  have hc0 := Lib.hid (hc.below hb0)
  have hq0 := Lib.hid (hr.below hb0)
  have hp0 := Lib.hid (hp.below hb0)
  have hs0 := Lib.hid (hb.below hb0)
  obtain ⟨P, hP⟩ : ∃ P, w.heap.size = P := ⟨_, rfl⟩
  rw [hP] at hr0
  obtain ⟨d0, d1, d2, d3⟩ := four_cells hr0
  have HB := Lib.hid hb0
  have HR0 := Lib.hid hr0
  clear hr0 hb0 hc hr hp hb
  simp only [] at k1
  have hsz : W0.heap.size = w.heap.size + 1 := by rw [hW0]; simp
  rw [hP] at hsz
  have HSZ := Lib.hid hsz
  clear hsz
  obtain ⟨R, hR⟩ : ∃ R, decide (((onesN 20 F : Nat) : Int) ≤ (cs.getD c default).fail) = R := ⟨_, rfl⟩
  rw [hR]
  have HR := Lib.hid hR
  clear hR
  go_enter Try.func20, Try.ntmps20
  go_upto_region 1 with fail
  rw [← hW0]
  clear hW0 hP
  obtain ⟨W1, hW1⟩ : ∃ X, W0.alloc (.cells #[.int .i64 c, .int .i64 x1, .slice sa x2n sc, .int .i64 F] 52) = X := ⟨_, rfl⟩
  have hb1 : Below W0.heap.size W0 W1 := by rw [← hW1]; exact (Below.refl _ _).alloc (Nat.le_refl _) _
  have hq1 : W1.heap[P + 1]? = some (.cells #[.int .i64 c, .int .i64 x1, .slice sa x2n sc, .int .i64 F] 52 (0, 0)) := by rw [← hW1, ← HSZ.out]; exact alloc_heap W0 _
  rw [hW1]
  obtain ⟨q0, q1, q2, q3⟩ := four_cells hq1
  have HB1 := Lib.hid hb1
  have HQ1 := Lib.hid hq1
  clear hW1 hb1 hq1 d0 d1 d2 d3
  have HF1 := Lib.hid f1
  have HF3 := Lib.hid (show (F < 1048576) by omega)
  clear f0 f1
  go_quiet (fail)
  have hbd := below_drewn (Below.refl W1.heap.size W1) nq
  have HBD := Lib.hid hbd
  clear hbd q0 q1 q2 q3
  obtain ⟨Y, hY⟩ : ∃ Y, W1.drewN nq = Y := ⟨_, rfl⟩
  rw [hY] at HBD ⊢
  clear hY
  go_wp2
  go_loopw [5, 6] (fun n i wr => ∃ q l : Nat, n = .int .i64 q ∧ i = .int .i64 l ∧ Left F q l ∧ wr = Y) (fun n i _ => (intOf i).toNat)
  case atStart => exact ⟨0, F, rfl, rfl, ⟨by omega, HF3.out⟩, rfl⟩
  case round =>
    obtain ⟨q, l, rfl, rfl, ⟨hql, hl⟩, hwr⟩ := hrel
    subst hwr
    have hfew := onesN_few 20 F
    by_cases hl0 : 0 < l
    · have hn := onesN_next l hl
      have i1 : (0 : Int) < (l : Int) := by omega
      have b1 : (0 : Int) ≤ (l : Int) % 2 := by omega
      have b2 : (l : Int) % 2 < 2 := by omega
      have b3 : (q : Int) ≤ 20 := by omega
      have b4 : (0 : Int) ≤ q := by omega
      have e3 : IntKind.i64.wrap ((q : Int) + (l : Int) % 2) = (q : Int) + (l : Int) % 2 := IntWalk.i64_in _ (by omega)
      have HL2 := Lib.hid (show l / 2 < 1048576 by omega)
      have HH := Lib.hid (show (q + l % 2) + onesN 20 (l / 2) = onesN 20 F by omega)
      have V1 := Lib.hid (show ((q : Int) + (l : Int) % 2) = ((q + l % 2 : Nat) : Int) by omega)
      have V2 := Lib.hid (show ((l : Int) / 2) = ((l / 2 : Nat) : Int) by omega)
      have HL1 := Lib.hid hl
      clear hn hql hfew hl b1 b2 b3 b4
      go_upto_region 3 with fail
      go_upto_region 4 with fail
      go_wp2
      go_roundw
      case rel => exact ⟨q + l % 2, l / 2, by rw [← V1.out], by rw [half64 HL1.out], ⟨HH.out, HL2.out⟩, trivial⟩
      case measure =>
        rw [half64 HL1.out]
        simp only [intOf, Int.toNat_natCast]
        omega
    · have i1 : ¬ (0 : Int) < (l : Int) := by omega
      have hl1 : l = 0 := by omega
      subst hl1
      rw [onesN_zero, Nat.add_zero] at hql
      subst hql
      clear hfew hl hl0 i1
      obtain ⟨c0, c1, c2, c3⟩ := four_cells (box_step (w0 := w) (box_step (w0 := w) HR0.out HB1.out) HBD.out)
      obtain ⟨q0, q1, q2, q3⟩ := four_cells (box_step (w0 := w) HQ1.out HBD.out)
      obtain ⟨cb, co, e1, hlb, hcx⟩ := ((hc0.out.below HB1.out).below HBD.out).at (by omega)
      subst e1
      have g3 := hcx c (by omega) 3 (by omega)
      simp only [clsC] at g3
      obtain ⟨fl, hfl⟩ : ∃ x, (cs.getD c default).fail = x := ⟨_, rfl⟩
      have hr := HR.out
      rw [hfl] at g3 hr
      have HRR := Lib.hid hr
      clear hcx hfl hr
      have i1 : (c : Int) < (cs.length : Int) := k1
      have i2 : ¬ (0 : Int) < ((0 : Nat) : Int) := by omega
      go_wp2
      go_ret
      exact ⟨by rw [← HRR.out]; rfl, HB.out.trans ((HB1.out.trans (HBD.out.mono HB1.out.size)).mono HB.out.size)⟩
end Go.Proofs.Ytcmfplfnpjknlaa
