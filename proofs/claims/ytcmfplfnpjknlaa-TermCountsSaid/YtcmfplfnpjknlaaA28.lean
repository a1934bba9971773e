/- Term: the law's all: how many seals there are. -/
import Derived.Test.YtcmfplfnpjknlaaA26
namespace Go.Proofs.Ytcmfplfnpjknlaa
set_option linter.unusedSimpArgs false
set_option linter.unusedVariables false
open Go.RowKit

def allF (rs : List Row) : Int := (rs.map sizeF).sum
theorem all_step {L : List Row} {j : Nat} {x : Row} (hlt : j < L.length) (hx : L.getD j default = x) : allF (L.take (j + 1)) = allF (L.take j) + sizeF x := by
  unfold allF
  rw [List.take_succ_eq_append_getElem hlt, List.map_append, List.sum_append]
  simp [← hx, List.getD, hlt]
theorem row_good {s : Stk} (hok : stkOk s = true) {j : Nat} (hlt : j < s.rs.length) : 1 ≤ (s.rs.getD j default).lo ∧ (s.rs.getD j default).lo ≤ (s.rs.getD j default).hi ∧ (s.rs.getD j default).hi ≤ 1000000 ∧ 0 ≤ (s.rs.getD j default).cls ∧ (s.rs.getD j default).cls < s.cs.length ∧ 0 ≤ (s.rs.getD j default).day ∧ (s.rs.getD j default).day ≤ 131072 := by
  unfold stkOk at hok
  simp only [Bool.and_eq_true, List.all_eq_true] at hok
  have h := hok.2.2.1 (s.rs.getD j default) (by simp [List.getD, hlt])
  simp only [rowOk, Bool.and_eq_true, inF_iff, decide_eq_true_eq] at h
  omega
theorem rows_few {s : Stk} (hok : stkOk s = true) : s.rs.length ≤ 24 := by
  unfold stkOk at hok
  simp only [Bool.and_eq_true, decide_eq_true_eq] at hok
  exact hok.1.2.1
set_option maxRecDepth 100000 in
set_option maxHeartbeats 12800000 in
theorem all_any (s : Stk) (v : Value) (w : World) (hs : StkAt w v s) (hok : stkOk s = true) : Calls Try.prog 16 #[v] w fun e w' => e = .returned (.int .i64 (allF s.rs)) ∧ Below w.heap.size w w' := by
  have hfew := rows_few hok
  have hgood := fun j => row_good hok (j := j)
  obtain ⟨cv, rv, pv, bv, rfl, hc, hr, hp, hb⟩ := hs
  obtain ⟨cs, rs, ps, bs⟩ := s
  simp only [] at hc hr hp hb
  obtain ⟨ca, cc, rfl⟩ := hc.shape
  obtain ⟨ra, rc, rfl⟩ := hr.shape
  obtain ⟨pa, pc, rfl⟩ := hp.shape
  obtain ⟨ba, bc, rfl⟩ := hb.shape
  have m1 : cs.length ≤ 9223372036854775807 := hc.1
  have m2 : rs.length ≤ 9223372036854775807 := hr.1
  have m3 : ps.length ≤ 9223372036854775807 := hp.1
  have m4 : bs.length ≤ 9223372036854775807 := hb.1
  obtain ⟨W0, hW0⟩ : ∃ X, X = w.alloc (.cells #[.slice ca cs.length cc, .slice ra rs.length rc, .slice pa ps.length pc, .slice ba bs.length bc] 27) := ⟨_, rfl⟩
  have hb0 : Below w.heap.size w W0 := by rw [hW0]; exact (Below.refl _ _).alloc (Nat.le_refl _) _
  have hr0 : W0.heap[w.heap.size]? = some (.cells #[.slice ca cs.length cc, .slice ra rs.length rc, .slice pa ps.length pc, .slice ba bs.length bc] 27 (0, 0)) := by rw [hW0]; exact alloc_heap w _
  have hc0 := Lib.hid (hc.below hb0)
  have hq0 := Lib.hid (hr.below hb0)
  have hp0 := Lib.hid (hp.below hb0)
  have hs0 := Lib.hid (hb.below hb0)
  obtain ⟨P, hP⟩ : ∃ P, w.heap.size = P := ⟨_, rfl⟩
  rw [hP] at hr0
  obtain ⟨d0, d1, d2, d3⟩ := four_cells hr0
  have HB := Lib.hid hb0
  have HR0 := Lib.hid hr0
  clear hr0 hb0 hc hr hp hb
  simp only [] at hfew hgood
  have HG := Lib.hid hgood
  clear hok hgood
  go_enter Try.func16, Try.ntmps16
  go_upto_region 1 with fail
  rw [← hW0]
  clear hW0 hP
  go_wp2
  clear d0 d1 d2 d3
  go_loopw [3, 4] (fun n i wr => ∃ (j : Nat) (z : Int), j ≤ rs.length ∧ n = .int .i64 z ∧ i = .int .i64 j ∧ z = allF (rs.take j) ∧ 0 ≤ z ∧ z ≤ j * 1000000 ∧ Below W0.heap.size W0 wr) (fun n i _ => rs.length - (intOf i).toNat)
  case atStart => exact ⟨0, 0, by omega, rfl, rfl, by simp [allF], by omega, by omega, Below.refl _ _⟩
  case round =>
    obtain ⟨j, z, hj, rfl, rfl, hz, hz0, hz1, hbel⟩ := hrel
    obtain ⟨c0, c1, c2, c3⟩ := four_cells (box_step (w0 := w) HR0.out hbel)
    have HBL := Lib.hid hbel
    by_cases hlt : j < rs.length
    · obtain ⟨bb, off, e1, hlb, hcx⟩ := (hq0.out.below hbel).at (by omega)
      subst e1
      have g0 := hcx j hlt 0 (by omega)
      have g1 := hcx j hlt 1 (by omega)
      have hg := HG.out j hlt
      obtain ⟨⟨x0, x1, x2, x3⟩, hx⟩ : ∃ x : Row, rs.getD j default = x := ⟨_, rfl⟩
      have hn := all_step hlt hx
      rw [hx] at g0 g1 hg
      simp only [Nat.add_zero, rowC] at g0 g1
      simp only [sizeF] at hn
      simp only [] at hg
      rw [← hz] at hn
      have ij1 : (j : Int) < (rs.length : Int) := by omega
      have w1 : IntKind.i64.wrap (z + x1) = z + x1 := IntWalk.i64_in _ (by omega)
      have w2 : IntKind.i64.wrap (z + x1 - x0) = z + x1 - x0 := IntWalk.i64_in _ (by omega)
      have w3 : IntKind.i64.wrap (z + x1 - x0 + 1) = z + x1 - x0 + 1 := IntWalk.i64_in _ (by omega)
      have hnz : z + x1 - x0 + 1 = allF (rs.take (j + 1)) := by rw [hn]; omega
      have hn0 : 0 ≤ z + x1 - x0 + 1 ∧ z + x1 - x0 + 1 ≤ (j + 1 : Nat) * 1000000 := by
        constructor
        · omega
        · push_cast; omega
      have HN := Lib.hid hnz
      have HN0 := Lib.hid hn0
      clear hn hx hcx hbel hg hz hz0 hz1 hnz hn0
      go_upto_region 5 with fail
      go_quiet (fail)
      go_wp2
      go_roundw
      case rel => exact ⟨j + 1, z + x1 - x0 + 1, by omega, rfl, by go_num, HN.out, HN0.out.1, HN0.out.2, below_drewn HBL.out _⟩
      case measure => simp [intOf]; omega
    · have hjl : j = rs.length := by omega
      rw [hjl, List.take_length] at hz
      have HZ := Lib.hid hz
      have i1 : ¬ (j : Int) < (rs.length : Int) := by omega
      clear hz hjl hz0 hz1 hbel
      go_wp2
      go_ret
      exact ⟨ret_int HZ.out, HB.out.trans (HBL.out.mono HB.out.size)⟩
end Go.Proofs.Ytcmfplfnpjknlaa
