/- Contract: Rows at two lists that are the same; sample, span. -/
import Derived.Test.YtclcconllkfjiaaA17
import Derived.Deep.QuietTactic
import Derived.BigQuiet
namespace Go.Proofs.Ytclcconllkfjiaa
set_option linter.unusedSimpArgs false
set_option linter.unusedVariables false
open Go.RowKit

theorem below_drewn {B : Nat} {a w : World} (h : Below B a w) (n : Nat) : Below B a (w.drewN n) := ⟨h.os, h.tape, h.output, h.size, h.block⟩
/-- a slice that reads as rows -/
def RowsAt (w : World) (v : Value) (L : List (Int × Int × Int)) : Prop :=
  (L = [] ∧ ∃ a c, v = .slice a 0 c) ∨ ∃ b off c, v = .slice (some ⟨b, off, none⟩) L.length c ∧ L.length ≤ c ∧ c ≤ maxLen ∧ ∀ i x, L[i]? = some x → w.cell? ⟨b, off + i * 3, none⟩ = some (.int .i64 x.1) ∧ w.cell? ⟨b, off + i * 3 + 1, none⟩ = some (.int .i64 x.2.1) ∧ w.cell? ⟨b, off + i * 3 + 2, none⟩ = some (.int .i64 x.2.2)
theorem flat3_get : ∀ (L : List (Int × Int × Int)) (i : Nat) (x : Int × Int × Int), L[i]? = some x → (flat3 L)[i * 3]? = some (.int .i64 x.1) ∧ (flat3 L)[i * 3 + 1]? = some (.int .i64 x.2.1) ∧ (flat3 L)[i * 3 + 2]? = some (.int .i64 x.2.2)
  | [], i, x, h => by simp at h
  | y :: l, 0, x, h => by simp at h; subst h; simp [flat3]
  | y :: l, i + 1, x, h => by
    have := flat3_get l i x (by simpa using h)
    have e : flat3 (y :: l) = .int .i64 y.1 :: .int .i64 y.2.1 :: .int .i64 y.2.2 :: flat3 l := by unfold flat3; simp
    rw [e, show (i + 1) * 3 = i * 3 + 3 by omega]
    exact this
theorem RowsAt.below {w w' : World} {v : Value} {L : List (Int × Int × Int)} (h : RowsAt w v L) (hb : Below w.heap.size w w') : RowsAt w' v L := by
  rcases h with h | ⟨b, off, c, h1, h2, h3, h4⟩
  · exact .inl h
  · refine .inr ⟨b, off, c, h1, h2, h3, fun i x hx => ?_⟩
    obtain ⟨q1, q2, q3⟩ := h4 i x hx
    exact ⟨(hb.cell (p := ⟨b, _, none⟩) (World.block_lt_of_cell? _ _ q1)).trans q1, (hb.cell (p := ⟨b, _, none⟩) (World.block_lt_of_cell? _ _ q2)).trans q2, (hb.cell (p := ⟨b, _, none⟩) (World.block_lt_of_cell? _ _ q3)).trans q3⟩
set_option maxRecDepth 100000 in
set_option maxHeartbeats 1600000 in
theorem rows_eq (v1 v2 : Value) (L : List (Int × Int × Int)) (w : World) (h1 : RowsAt w v1 L) (h2 : RowsAt w v2 L) :
    Calls Try.prog 21 #[v1, v2] w fun e w' => e = .returned (.bool true) ∧ Below w.heap.size w w' := by
  rcases h1 with ⟨e1, a1, c1, rfl⟩ | ⟨p1, o1, c1, rfl, l1, m1, r1⟩
  · subst e1
    have hv2 : ∃ a c, v2 = .slice a 0 c := by
      rcases h2 with ⟨-, h⟩ | ⟨b, off, c, h, _⟩
      · exact h
      · exact ⟨_, _, h⟩
    obtain ⟨a2, c2, rfl⟩ := hv2
    go_enter Try.func21, Try.ntmps21
    go_wp2
    refine wp_loop_rounds 1 ?_
    rw [rounds_succ]
    go_wp2
    go_ret
    exact ⟨rfl, Below.refl _ _⟩
  · have h2' : (∃ a c, v2 = .slice a L.length c ∧ L.length = 0) ∨ ∃ p2 o2 c2, v2 = .slice (some ⟨p2, o2, none⟩) L.length c2 ∧ L.length ≤ c2 ∧ c2 ≤ maxLen ∧ ∀ i x, L[i]? = some x → w.cell? ⟨p2, o2 + i * 3, none⟩ = some (.int .i64 x.1) ∧ w.cell? ⟨p2, o2 + i * 3 + 1, none⟩ = some (.int .i64 x.2.1) ∧ w.cell? ⟨p2, o2 + i * 3 + 2, none⟩ = some (.int .i64 x.2.2) := by
      rcases h2 with ⟨e, a, c, h⟩ | h
      · exact .inl ⟨a, c, by rw [h, e]; rfl, by rw [e]; rfl⟩
      · exact .inr h
    have hlen : ∃ a2 c2, v2 = .slice a2 L.length c2 := by
      rcases h2' with ⟨a, c, h, _⟩ | ⟨p2, o2, c2, h, _⟩
      · exact ⟨a, c, h⟩
      · exact ⟨_, _, h⟩
    obtain ⟨a2, c2, rfl⟩ := hlen
    unfold maxLen at *
    have R1 := Lib.hid r1
    have R2 := Lib.hid h2'
    obtain ⟨m, hm⟩ : ∃ m, L.length = m := ⟨_, rfl⟩
    have HM := Lib.hid hm
    rw [hm] at l1 ⊢
    clear r1 h2' h2 hm
    go_enter Try.func21, Try.ntmps21
    go_wp2
    go_loopw [5] (fun i wr => ∃ k : Nat, k ≤ m ∧ i = .int .i64 k ∧ Below w.heap.size w wr) (fun i _ => m - (intOf i).toNat)
    case atStart => exact ⟨0, by omega, rfl, Below.refl _ _⟩
    case round =>
      obtain ⟨k, hk, rfl, hbel⟩ := hrel
      by_cases hlt : k < m
      · have hkl : k < L.length := by have := HM.out; omega
        have hx := List.getElem?_eq_getElem hkl
        obtain ⟨x, hxe⟩ : ∃ x, L[k] = x := ⟨_, rfl⟩
        rw [hxe] at hx
        obtain ⟨q1, q2, q3⟩ := R1.out k x hx
        have hl1 : p1 < w.heap.size := World.block_lt_of_cell? _ _ q1
        have q1 := (hbel.cell (p := ⟨p1, _, none⟩) hl1).trans q1
        have q2 := (hbel.cell (p := ⟨p1, _, none⟩) hl1).trans q2
        have q3 := (hbel.cell (p := ⟨p1, _, none⟩) hl1).trans q3
        rcases R2.out with ⟨_, _, _, h0⟩ | ⟨p2, o2, c3, e2, l2, m2, r2⟩
        · omega
        · simp only [Value.slice.injEq] at e2
          obtain ⟨rfl, -, rfl⟩ := e2
          obtain ⟨s1, s2, s3⟩ := r2 k x hx
          have hl2 : p2 < w.heap.size := World.block_lt_of_cell? _ _ s1
          have s1 := (hbel.cell (p := ⟨p2, _, none⟩) hl2).trans s1
          have s2 := (hbel.cell (p := ⟨p2, _, none⟩) hl2).trans s2
          have s3 := (hbel.cell (p := ⟨p2, _, none⟩) hl2).trans s3
          obtain ⟨x0, x1, x2⟩ := x
          simp only [] at q1 q2 q3 s1 s2 s3
          have k0 : (0 : Int) ≤ (k : Int) := by omega
          have k1 : (k : Int) < (m : Int) := by omega
          clear hx hxe r2 hl1 hl2
          go_wp2_with fail
          go_quiet (fail)
          go_wp2
          go_roundw
          case rel => exact ⟨k + 1, by omega, by go_num, below_drewn hbel _⟩
          case measure => simp [intOf]; omega
      · have hkm : k = m := by omega
        subst hkm
        have hge : ¬ ((k : Int) < (k : Int)) := by omega
        go_wp2
        go_ret
        exact ⟨rfl, hbel⟩
end Go.Proofs.Ytclcconllkfjiaa
