/- Contracts: when two rows of spans are the same; a span. -/
import Derived.Test.YtmcndecmnfbggaaD27
namespace Go.Proofs.Ytmcndecmnfbggaa
set_option linter.unusedSimpArgs false
set_option linter.unusedVariables false
open Go.RowKit

theorem span_any (lo hi : Int) (w : World) : Calls Try.prog 26 #[.int .i64 lo, .int .i64 hi] w fun e w' => e = .returned (.agg #[.int .i64 lo, .int .i64 hi]) ∧ Below w.heap.size w w' := by
  go_enter Try.func26, Try.ntmps26
  go_wp2
  refine bodyPost_ret (v := .agg #[.int .i64 lo, .int .i64 hi]) (by simp [results, Try.results26, go_sem]) rfl ⟨rfl, ?_⟩
  repeat (first | with_reducible exact Below.refl _ _ | refine Below.alloc ?_ (by simp; try omega) _)
theorem getDS_eq {l m : List (Int × Int)} (h : l.length = m.length) (hk : ∀ k, k < l.length → l.getD k (0, 0) = m.getD k (0, 0)) : l = m := by
  refine List.ext_getElem h (fun i h1 h2 => ?_)
  have := hk i h1
  simpa [List.getD, h1, h2] using this
def sameS (l m : List (Int × Int)) : Bool := decide (l = m)
set_option maxRecDepth 100000 in
set_option maxHeartbeats 3200000 in
theorem refSpans_any (l m : List (Int × Int)) (u v : Value) (w : World) (hl : SpansAt w u l) (hm : SpansAt w v m) : Calls Try.prog 19 #[u, v] w fun e w' => e = .returned (.bool (sameS l m)) ∧ Below w.heap.size w w' := by
  obtain ⟨a, c, rfl⟩ := hl.shape
  obtain ⟨b, d, rfl⟩ := hm.shape
  have hlm : l.length ≤ 9223372036854775807 := hl.1
  by_cases hn : l.length = m.length
  rotate_left
  · have H := Lib.hid (show sameS l m = false by unfold sameS; simp; intro e; exact hn (by rw [e]))
    have hn1 : (((l.length : Nat) : Int) != (m.length : Nat)) = true := by rw [bne_iff_ne]; omega
    go_enter Try.func19, Try.ntmps19
    go_wp2
    go_ret
    exact ⟨by rw [H.out]; rfl, Below.refl _ _⟩
  have hn1 : (((l.length : Nat) : Int) != (m.length : Nat)) = false := by rw [hn]; simp
  have HN := Lib.hid hn
  obtain ⟨S, hS⟩ : ∃ S, sameS l m = S := ⟨_, rfl⟩
  rw [hS]
  have HS := Lib.hid hS
  clear hS hn
  go_enter Try.func19, Try.ntmps19
  go_wp2
  go_loopw [5] (fun i wr => ∃ k : Nat, k ≤ l.length ∧ i = .int .i64 k ∧ Below w.heap.size w wr ∧ ∀ j, j < k → l.getD j (0, 0) = m.getD j (0, 0)) (fun i _ => l.length - (intOf i).toNat)
  case atStart => exact ⟨0, by omega, rfl, Below.refl _ _, fun j hj => by omega⟩
  case round =>
    obtain ⟨k, hk, rfl, hb, hj⟩ := hrel
    have HJ := Lib.hid hj
    clear hj
    by_cases hlt : k < l.length
    · obtain ⟨b1, off1, e1, l1, hc1⟩ := (hl.below hb).at (by omega)
      obtain ⟨b2, off2, e2, l2, hc2⟩ := (hm.below hb).at (by have := HN.out; omega)
      subst e1 e2
      obtain ⟨c1, c2⟩ := hc1 k hlt
      obtain ⟨d1, d2⟩ := hc2 k (by have := HN.out; omega)
      obtain ⟨⟨x1, x2⟩, hx⟩ : ∃ x, l.getD k (0, 0) = x := ⟨_, rfl⟩
      obtain ⟨⟨y1, y2⟩, hy⟩ : ∃ y, m.getD k (0, 0) = y := ⟨_, rfl⟩
      rw [hx] at c1 c2
      rw [hy] at d1 d2
      simp only [] at c1 c2 d1 d2
      rw [Nat.mul_comm 2 k] at c1 c2 d1 d2
      have i0 : (0 : Int) ≤ (k : Int) := by omega
      have i1 : (k : Int) < (l.length : Int) := by omega
      have i2 : (k : Int) < (m.length : Int) := by have := HN.out; omega
      have HX := Lib.hid hx
      have HY := Lib.hid hy
      clear hx hy hc1 hc2
      by_cases h1 : x1 = y1
      · by_cases h2 : x2 = y2
        · subst h1 h2
          have hs : ∀ j, j < k + 1 → l.getD j (0, 0) = m.getD j (0, 0) := fun j hj => by
            by_cases e : j = k
            · rw [e, HX.out, HY.out]
            · exact HJ.out j (by omega)
          have HS2 := Lib.hid hs
          clear hs
          go_wp2_with fail
          go_quiet (fail)
          go_wp2
          go_roundw
          case rel => exact ⟨k + 1, by omega, by go_num, below_drewN' hb _, HS2.out⟩
          case measure => simp [intOf]; omega
        · have hne : (x2 == y2) = false := by simpa using h2
          have H := Lib.hid (show S = false by
            rw [← HS.out]; unfold sameS; simp
            intro e; apply h2
            have := HX.out.symm.trans ((by rw [e] : l.getD k (0, 0) = m.getD k (0, 0)).trans HY.out)
            exact (Prod.mk.inj this).2)
          subst h1
          clear h2
          go_wp2_with fail
          go_quiet (fail)
          go_wp2
          go_ret
          exact ⟨by rw [H.out]; rfl, below_drewN' hb _⟩
      · have hne : (x1 == y1) = false := by simpa using h1
        have H := Lib.hid (show S = false by
          rw [← HS.out]; unfold sameS; simp
          intro e; apply h1
          have := HX.out.symm.trans ((by rw [e] : l.getD k (0, 0) = m.getD k (0, 0)).trans HY.out)
          exact (Prod.mk.inj this).1)
        clear h1
        go_wp2_with fail
        go_quiet (fail)
        go_wp2
        go_ret
        exact ⟨by rw [H.out]; rfl, below_drewN' hb _⟩
    · obtain rfl : k = l.length := by omega
      have i1 : ¬ (l.length : Int) < (l.length : Int) := by omega
      have H := Lib.hid (show S = true by rw [← HS.out]; unfold sameS; simp; exact getDS_eq HN.out HJ.out)
      go_wp2
      go_ret
      exact ⟨by rw [H.out]; rfl, hb⟩
end Go.Proofs.Ytmcndecmnfbggaa
