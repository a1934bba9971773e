/- The document's own small functions: in, Products, Wheels, used, held, Exact; great. -/
import Derived.Test.YtoiapnokgpeipaaE1
namespace Go.Proofs.Ytoiapnokgpeipaa
set_option linter.unusedSimpArgs false
open Go.RowKit Go.Maps

def inB (n lo hi : Int) : Bool := decide (lo ≤ n ∧ n ≤ hi)
theorem in_any (n lo hi : Int) (w : World) : Calls Try.prog 46 #[.int .i64 n, .int .i64 lo, .int .i64 hi] w fun e w' => e = .returned (.bool (inB n lo hi)) ∧ w = w' := by
  by_cases h : lo ≤ n
  · have : inB n lo hi = decide (n ≤ hi) := by simp [inB, h]
    have H := Lib.hid this
    clear this
    go_enter Try.func46, Try.ntmps46
    go_wp2
    go_ret
    exact ⟨by rw [H.out]; rfl, rfl⟩
  · have : inB n lo hi = false := by simp [inB, h]
    have H := Lib.hid this
    clear this
    go_enter Try.func46, Try.ntmps46
    go_wp2
    go_ret
    exact ⟨by rw [H.out]; rfl, rfl⟩
theorem inB_teeth (n : Int) : inB n 6 100 = teethB n := rfl

theorem drvs_snoc (P : List (Int × Int)) (k : Nat) (h : k < P.length) : prodW (drvs (P.take (k + 1))) = wrap64 (prodW (drvs (P.take k)) * P[k].1) := by
  unfold drvs; rw [List.take_succ_eq_append_getElem h, List.map_append]; unfold prodW; rw [List.foldl_append]; rfl
theorem drns_snoc (P : List (Int × Int)) (k : Nat) (h : k < P.length) : prodW (drns (P.take (k + 1))) = wrap64 (prodW (drns (P.take k)) * P[k].2) := by
  unfold drns; rw [List.take_succ_eq_append_getElem h, List.map_append]; unfold prodW; rw [List.foldl_append]; rfl

/-- the first box of a train -/
theorem box27 (w : World) (v : Value) (i : Int) : ∃ W0, W0 = w.alloc (.cells #[v, .int .i64 i] 27) ∧ Below w.heap.size w W0 ∧ W0.heap[w.heap.size]? = some (.cells #[v, .int .i64 i] 27) ∧ W0.heap.size = w.heap.size + 1 :=
  ⟨_, rfl, (Below.refl _ _).alloc (Nat.le_refl _) _, (MapKept.heap_alloc w _).1, by simp⟩

set_option maxRecDepth 100000 in
set_option maxHeartbeats 1600000 in
theorem products_any (P : List (Int × Int)) (v : Value) (i : Int) (w : World) (hP : WheelsAt w v P) :
    Calls Try.prog 47 #[.agg #[v, .int .i64 i]] w fun e w' => e = .returned (.tuple #[.int .i64 (prodW (drvs P)), .int .i64 (prodW (drns P))]) ∧ Below w.heap.size w w' := by
  obtain ⟨pa, pc, rfl⟩ := hP.shape
  have hpl : P.length ≤ 9223372036854775807 := hP.1
  obtain ⟨W0, hW0, hg0, hG0, hz0⟩ := box27 w (.slice pa P.length pc) i
  have HG := Lib.hid hG0
  have HC := Lib.hid (show ∃ C, C = prodW (drvs P) from ⟨_, rfl⟩)
  clear hG0 HC
  go_enter Try.func47, Try.ntmps47
  go_wp2
  rw [← hW0]
  clear hW0
  go_loop [4, 5, 6] (fun d n c => ∃ k : Nat, k ≤ P.length ∧ c = .int .i64 k ∧ d = .int .i64 (prodW (drvs (P.take k))) ∧ n = .int .i64 (prodW (drns (P.take k)))) (fun _ _ c => P.length - (intOf c).toNat)
  case atStart => exact ⟨0, by omega, rfl, rfl, rfl⟩
  case round =>
    obtain ⟨k, hk, rfl, rfl, rfl⟩ := hrel
    obtain ⟨e0, e1⟩ := tcells HG.out
    by_cases hlt : k < P.length
    · obtain ⟨b, off, rfl, _, hc1, hc2, hbl, hc⟩ := hP.at rfl (by omega)
      obtain ⟨c0, c1⟩ := hc k hlt
      rw [← hg0.cell (p := ⟨b, _, none⟩) hbl] at c0 c1
      have hgd : P.getD k (0, 0) = P[k] := by simp [hlt]
      rw [hgd] at c0 c1
      have h1 := Lib.hid (drvs_snoc P k hlt)
      have h2 := Lib.hid (drns_snoc P k hlt)
      obtain ⟨x, hx⟩ : ∃ x, P[k].1 = x := ⟨_, rfl⟩
      obtain ⟨y, hy⟩ : ∃ y, P[k].2 = y := ⟨_, rfl⟩
      rw [hx] at c0 h1
      rw [hy] at c1 h2
      clear hgd hc hx hy
      generalize prodW (drvs (P.take k)) = d at *
      generalize prodW (drns (P.take k)) = n at *
      go_wp2
      go_round
      case rel => exact ⟨k + 1, by omega, by go_num, by rw [h1.out], by rw [h2.out]⟩
      case measure => simp [intOf]; omega
    · have hkl : k = P.length := by omega
      subst hkl
      rw [List.take_of_length_le (Nat.le_refl _)]
      go_wp2
      go_ret2
      exact ⟨rfl, hg0⟩

def wheelsN (P : List (Int × Int)) (i : Int) : Int := if i = 0 then 2 * P.length else 2 * P.length + 1
set_option maxRecDepth 100000 in
set_option maxHeartbeats 1600000 in
theorem wheels_any (P : List (Int × Int)) (sa : Option Addr) (cap N : Nat) (i : Int) (w : World) (hN : N = P.length) (hl : N ≤ 1000000) :
    Calls Try.prog 27 #[.agg #[.slice sa N cap, .int .i64 i]] w fun e w' => e = .returned (.int .i64 (wheelsN P i)) ∧ Below w.heap.size w w' := by
  subst hN
  by_cases h : i = 0
  · have H := Lib.hid (show wheelsN P i = 2 * P.length by unfold wheelsN; rw [if_pos h])
    have hd : (i != 0) = false := by simp [h]
    clear h
    go_enter Try.func27, Try.ntmps27
    go_wp2
    go_ret
    exact ⟨by rw [H.out]; rfl, (Below.refl _ _).alloc (Nat.le_refl _) _⟩
  · have H := Lib.hid (show wheelsN P i = 2 * P.length + 1 by unfold wheelsN; rw [if_neg h])
    have hd : (i != 0) = true := by simp [h]
    clear h
    go_enter Try.func27, Try.ntmps27
    go_wp2
    go_ret
    exact ⟨by rw [H.out]; rfl, (Below.refl _ _).alloc (Nat.le_refl _) _⟩
end Go.Proofs.Ytoiapnokgpeipaa
