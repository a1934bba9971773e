/- Same: two trains. -/
import Derived.Test.YtoiapnokgpeipaaD3
namespace Go.Proofs.Ytoiapnokgpeipaa
set_option linter.unusedSimpArgs false
open Go.RowKit Go.Maps

def sameB (P : List (Int × Int)) (i : Int) (Q : List (Int × Int)) (j : Int) : Bool := decide (P = Q) && (i == j)
theorem sameB_len {P Q : List (Int × Int)} {i j : Int} (h : P.length ≠ Q.length) : sameB P i Q j = false := by
  unfold sameB; rw [decide_eq_false (fun e => h (by rw [e]))]; rfl
theorem sameB_idler {P Q : List (Int × Int)} {i j : Int} (h : (i == j) = false) : sameB P i Q j = false := by
  unfold sameB; rw [h, Bool.and_false]
theorem sameB_at {P Q : List (Int × Int)} {i j : Int} (k : Nat) (h : P.getD k (0, 0) ≠ Q.getD k (0, 0)) : sameB P i Q j = false := by
  unfold sameB; rw [decide_eq_false (fun e => h (by rw [e]))]; rfl
theorem sameB_all {P Q : List (Int × Int)} {i j : Int} (hl : P.length = Q.length) (hi : (i == j) = true) (h : ∀ k, k < P.length → P.getD k (0, 0) = Q.getD k (0, 0)) : sameB P i Q j = true := by
  unfold sameB
  rw [hi, Bool.and_true]
  refine decide_eq_true (List.ext_getElem hl fun k h1 h2 => ?_)
  have := h k h1
  simpa [h1, h2] using this
theorem WheelsAt.at {w : World} {v : Value} {S : List (Int × Int)} {a : Option Addr} {n c : Nat} (h : WheelsAt w v S) (e : v = .slice a n c) (hn : 0 < S.length) :
    ∃ b off, a = some ⟨b, off, none⟩ ∧ n = S.length ∧ n ≤ c ∧ c ≤ 9223372036854775807 ∧ b < w.heap.size ∧ ∀ i, i < S.length → w.cell? ⟨b, off + i * 2, none⟩ = some (.int .i64 (S.getD i (0, 0)).1) ∧ w.cell? ⟨b, off + i * 2 + 1, none⟩ = some (.int .i64 (S.getD i (0, 0)).2) := by
  obtain ⟨hl, ⟨rfl, _⟩ | ⟨b, off, cap, e2, hlc, hcm, hlt, hc⟩⟩ := h
  · simp at hn
  · rw [e2] at e
    simp only [Value.slice.injEq] at e
    obtain ⟨rfl, rfl, rfl⟩ := e
    exact ⟨b, off, rfl, rfl, hlc, hcm, hlt, hc⟩

set_option maxRecDepth 100000 in
set_option maxHeartbeats 1600000 in
theorem same_any (P Q : List (Int × Int)) (pv qv : Value) (i j : Int) (w : World) (hP : WheelsAt w pv P) (hQ : WheelsAt w qv Q) :
    Calls Try.prog 21 #[.agg #[pv, .int .i64 i], .agg #[qv, .int .i64 j]] w fun e w' => e = .returned (.bool (sameB P i Q j)) ∧ Below w.heap.size w w' := by
  obtain ⟨C, hC⟩ : ∃ C, C = sameB P i Q j := ⟨_, rfl⟩
  rw [← hC]
  obtain ⟨pa, pc, rfl⟩ := hP.shape
  obtain ⟨qa, qc, rfl⟩ := hQ.shape
  have hpl : P.length ≤ 9223372036854775807 := hP.1
  have hql : Q.length ≤ 9223372036854775807 := hQ.1
  obtain ⟨W0, hW0⟩ : ∃ W0, W0 = (w.alloc (.cells #[.slice pa P.length pc, .int .i64 i] 27)).alloc (.cells #[.slice qa Q.length qc, .int .i64 j] 27) := ⟨_, rfl⟩
  have hg0 : Below w.heap.size w W0 := by rw [hW0]; exact ((Below.refl _ _).alloc (Nat.le_refl _) _).alloc (by simp) _
  have hG0 : W0.heap[w.heap.size]? = some (.cells #[.slice pa P.length pc, .int .i64 i] 27) := by rw [hW0, Below.heap_alloc _ _ _ (by simp)]; exact (MapKept.heap_alloc w _).1
  have hR0 : W0.heap[w.heap.size + 1]? = some (.cells #[.slice qa Q.length qc, .int .i64 j] 27) := by
    have := (MapKept.heap_alloc (w.alloc (.cells #[.slice pa P.length pc, .int .i64 i] 27)) (.cells #[.slice qa Q.length qc, .int .i64 j] 27)).1
    rw [hW0]; simpa using this
  have hz0 : W0.heap.size = w.heap.size + 2 := by rw [hW0]; simp
  obtain ⟨e0, e1⟩ := tcells hG0
  obtain ⟨f0, f1⟩ := tcells hR0
  by_cases hlen : P.length = Q.length
  case neg =>
    have HC := Lib.hid (hC.trans (sameB_len hlen))
    have hb : ((P.length : Int) != Q.length) = true := by rw [bne_iff_ne]; omega
    clear hC hlen
    have hG := Lib.hid hW0
    clear hW0 hG0 hR0 hz0 e0 e1 f0 f1
    go_enter Try.func21, Try.ntmps21
    go_wp2
    go_ret
    exact ⟨by rw [HC.out]; rfl, by rw [← hG.out]; exact hg0⟩
  by_cases hij : (i == j) = true
  case neg =>
    replace hij : (i == j) = false := by simpa using hij
    have HC := Lib.hid (hC.trans (sameB_idler hij))
    have hb : ((P.length : Int) != Q.length) = false := by rw [bne_eq_false_iff_eq]; omega
    have hb2 : (i != j) = true := by rw [bne, hij]; rfl
    clear hC hlen
    have hG := Lib.hid hW0
    clear hW0 hG0 hR0 hz0 e0 e1 f0 f1
    go_enter Try.func21, Try.ntmps21
    go_wp2
    go_ret
    exact ⟨by rw [HC.out]; rfl, by rw [← hG.out]; exact hg0⟩
  have hb : ((P.length : Int) != Q.length) = false := by rw [bne_eq_false_iff_eq]; omega
  have hb2 : (i != j) = false := by rw [bne, hij]; rfl
  have HL := Lib.hid hlen
  have HC := Lib.hid hC
  have HI := Lib.hid hij
  clear hC hlen
  go_enter Try.func21, Try.ntmps21
  go_wp2
  rw [← hW0]
  clear hW0 e0 e1 f0 f1 hb hb2 hij
  go_loopw [5] (fun c wr => ∃ k : Nat, k ≤ P.length ∧ c = .int .i64 k ∧ Below W0.heap.size W0 wr ∧ ∀ m, m < k → P.getD m (0, 0) = Q.getD m (0, 0)) (fun c _ => P.length - (intOf c).toNat)
  case atStart => exact ⟨0, by omega, rfl, Below.refl _ _, fun m hm => by omega⟩
  case round =>
    obtain ⟨k, hk, rfl, hbel, hno⟩ := hrel
    have hb2 : Below w.heap.size w wr := hg0.trans (hbel.mono (by omega))
    obtain ⟨e0, e1⟩ := tcells ((hbel.block w.heap.size (by omega)).trans hG0)
    obtain ⟨f0, f1⟩ := tcells ((hbel.block (w.heap.size + 1) (by omega)).trans hR0)
    by_cases hlt : k < P.length
    · obtain ⟨b, off, rfl, _, hc1, hc2, hbl, hc⟩ := hP.at rfl (by omega)
      obtain ⟨b', off', rfl, _, hc1', hc2', hbl', hc'⟩ := hQ.at rfl (by rw [← HL.out]; omega)
      obtain ⟨c0, c1⟩ := hc k hlt
      obtain ⟨d0, d1⟩ := hc' k (by rw [← HL.out]; exact hlt)
      rw [← hb2.cell (p := ⟨b, _, none⟩) hbl] at c0 c1
      rw [← hb2.cell (p := ⟨b', _, none⟩) hbl'] at d0 d1
      have hlt' : k < Q.length := by rw [← HL.out]; exact hlt
      obtain ⟨x, hx⟩ : ∃ x, P.getD k (0, 0) = x := ⟨_, rfl⟩
      obtain ⟨y, hy⟩ : ∃ y, Q.getD k (0, 0) = y := ⟨_, rfl⟩
      rw [hx] at c0 c1
      rw [hy] at d0 d1
      obtain ⟨x1, x2⟩ := x
      obtain ⟨y1, y2⟩ := y
      have HX := Lib.hid hx
      have HY := Lib.hid hy
      have HN := Lib.hid hno
      clear hx hy hno hc hc' hG0 hR0
      by_cases hxy : (x1 == y1 && x2 == y2) = true
      · obtain ⟨h1, h2⟩ : x1 = y1 ∧ x2 = y2 := by simpa using hxy
        subst h1 h2
        clear hxy
        go_wp2
        go_quiet (fail)
        go_wp2
        go_roundw
        case rel => exact ⟨k + 1, by omega, by go_num, below_drewN' hbel _, fun m hm => by by_cases e : m = k; exact e ▸ HX.out.trans HY.out.symm; exact HN.out m (by omega)⟩
        case measure => simp [intOf]; omega
      · have HC2 := Lib.hid (HC.out.trans (sameB_at (i := i) (j := j) k (by rw [HX.out, HY.out]; intro e; simp only [Prod.mk.injEq] at e; exact hxy (by simp [e.1, e.2]))))
        cases h1 : (x1 == y1) with
        | false =>
          clear hxy
          go_wp2
          go_quiet (fail)
          go_wp2
          go_ret
          exact ⟨by rw [HC2.out]; rfl, below_drewN' hb2 _⟩
        | true =>
          have h2 : (x2 == y2) = false := by rw [h1] at hxy; simpa using hxy
          clear hxy
          go_wp2
          go_quiet (fail)
          go_wp2
          go_ret
          exact ⟨by rw [HC2.out]; rfl, below_drewN' hb2 _⟩
    · go_wp2
      go_ret
      exact ⟨by rw [HC.out, sameB_all HL.out HI.out (fun m hm => hno m (by omega))]; rfl, hb2⟩
end Go.Proofs.Ytoiapnokgpeipaa
