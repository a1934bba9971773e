/- LotWays: its walk. -/
import Derived.Test.YtclcconllkfjiaaU7
import Derived.Test.YtclcconllkfjiaaU3
import Derived.Test.YtclcconllkfjiaaT8
namespace Go.Proofs.Ytclcconllkfjiaa
set_option linter.unusedSimpArgs false
set_option linter.unusedVariables false
open Go.RowKit

set_option maxRecDepth 100000 in
set_option maxHeartbeats 6400000 in
theorem ways_law (n b c a : Int) (fi ac re se tot : Int) (sa fo do_ : Int) (w : World) : Calls Try.prog 3 #[.int .i64 n, .int .i64 b, planV c a, doubleV fi ac re se tot, .int .i64 sa, .int .i64 fo, .int .i64 do_] w fun e w' => e = .returned (.bool true) ∧ Below w.heap.size w w' := by
  have h1 := fun W => ways_any n b c a W
  have h2 := fun W => refWays_any n b c a W
  have h3 := fun W => twice_any n b fi ac re se tot W
  have h4 := fun W => refTwice_any n b fi ac re se tot W
  have h5 := fun W => within_any n sa fo do_ W
  have h6 := fun W => refWithin_any n sa fo do_ W
  obtain ⟨x0, x1, x2, hx⟩ : ∃ x0 x1 x2, waysP n b c a = (x0, x1, x2) := ⟨_, _, _, rfl⟩
  obtain ⟨y0, y1, y2, y3, hy⟩ : ∃ x0 x1 x2 x3, twiceP n b fi ac re se tot = (x0, x1, x2, x3) := ⟨_, _, _, _, rfl⟩
  obtain ⟨z0, z1, z2, hz⟩ : ∃ x0 x1 x2, withinP n sa fo do_ = (x0, x1, x2) := ⟨_, _, _, rfl⟩
  rw [hx] at h1 h2
  rw [hy] at h3 h4
  rw [hz] at h5 h6
  unfold three planV at h1 h2
  unfold four doubleV at h3 h4
  unfold spanErr at h5 h6
  unfold planV doubleV
  simp only [] at h1 h2 h3 h4 h5 h6
  have H1 := Lib.hid h1
  have H2 := Lib.hid h2
  have H3 := Lib.hid h3
  have H4 := Lib.hid h4
  have H5 := Lib.hid h5
  have H6 := Lib.hid h6
  clear h1 h2 h3 h4 h5 h6 hx hy hz
  obtain ⟨W0, hW0⟩ : ∃ X, X = (w.alloc (.cells #[.int .i64 c, .int .i64 a] 23)).alloc (.cells #[.int .i64 fi, .int .i64 ac, .int .i64 re, .int .i64 se, .int .i64 tot] 25) := ⟨_, rfl⟩
  have hB : Below w.heap.size w W0 := by rw [hW0]; exact ((Below.refl _ _).alloc (Nat.le_refl _) _).alloc (by simp) _
  obtain ⟨P, hP⟩ : ∃ H, H = w.heap.size := ⟨_, rfl⟩
  have k0 : W0.heap[P]? = some (.cells #[.int .i64 c, .int .i64 a] 23 (0, 0)) := by rw [hW0, hP, Below.heap_alloc _ _ _ (by simp)]; exact alloc_heap _ _
  have k1 : W0.heap[P + 1]? = some (.cells #[.int .i64 fi, .int .i64 ac, .int .i64 re, .int .i64 se, .int .i64 tot] 25 (0, 0)) := by
    rw [hW0, hP]
    have := alloc_heap (w.alloc (.cells #[.int .i64 c, .int .i64 a] 23)) (.cells #[.int .i64 fi, .int .i64 ac, .int .i64 re, .int .i64 se, .int .i64 tot] 25)
    simpa using this
  have hPw : P + 1 < W0.heap.size := (Array.getElem?_eq_some_iff.1 k1).1
  have HPP := Lib.hid hP
  obtain ⟨p0, p1⟩ := two_cells k0
  obtain ⟨c0, c1, c2, c3, c4⟩ := five_cells k1
  go_enter Try.func3, Try.ntmps3
  go_wp2_with fail
  rw [← hW0, ← hP]
  clear hW0 hP
  refine (H1.out _).mono ?_
  rintro e w1 ⟨rfl, hb⟩
  have k0 := (hb.block _ (by omega)).trans k0
  have k1 := (hb.block _ hPw).trans k1
  have hB := hB.trans (hb.mono hB.size)
  have hPw := Nat.lt_of_lt_of_le hPw hb.size
  clear hb p0 p1 c0 c1 c2 c3 c4
  obtain ⟨p0, p1⟩ := two_cells k0
  go_wp2_with fail
  refine (H2.out _).mono ?_
  rintro e w2 ⟨rfl, hb⟩
  have k1 := (hb.block _ hPw).trans k1
  have hB := hB.trans (hb.mono hB.size)
  have hPw := Nat.lt_of_lt_of_le hPw hb.size
  clear hb p0 p1 k0
  obtain ⟨c0, c1, c2, c3, c4⟩ := five_cells k1
  go_wp2_with fail
  refine (H3.out _).mono ?_
  rintro e w3 ⟨rfl, hb⟩
  have k1 := (hb.block _ hPw).trans k1
  have hB := hB.trans (hb.mono hB.size)
  have hPw := Nat.lt_of_lt_of_le hPw hb.size
  clear hb c0 c1 c2 c3 c4
  obtain ⟨c0, c1, c2, c3, c4⟩ := five_cells k1
  go_wp2_with fail
  refine (H4.out _).mono ?_
  rintro e w4 ⟨rfl, hb⟩
  have hB := hB.trans (hb.mono hB.size)
  clear hb c0 c1 c2 c3 c4 k1 hPw
  go_wp2_with fail
  refine (H5.out _).mono ?_
  rintro e w5 ⟨rfl, hb⟩
  have hB := hB.trans (hb.mono hB.size)
  clear hb
  have q0 := alloc_heap w5 (.cells #[.int .i64 z0, .int .i64 z1] 32)
  have hB : Below w.heap.size w (w5.alloc (.cells #[.int .i64 z0, .int .i64 z1] 32)) := hB.alloc hB.size _
  have hQ : w5.heap.size < (w5.alloc (.cells #[.int .i64 z0, .int .i64 z1] 32)).heap.size := by simp
  go_upto_region 6 with fail
  obtain ⟨X, hX⟩ : ∃ X, X = w5.alloc (.cells #[.int .i64 z0, .int .i64 z1] 32) := ⟨_, rfl⟩
  obtain ⟨Q, hQe⟩ : ∃ X, X = w5.heap.size := ⟨_, rfl⟩
  rw [← hX] at q0 hB hQ ⊢
  rw [← hQe] at q0 hQ ⊢
  clear hX hQe
  go_wp2_with fail
  refine (H6.out _).mono ?_
  rintro e w6 ⟨rfl, hb⟩
  have q0 := (hb.block _ hQ).trans q0
  have hB := hB.trans (hb.mono hB.size)
  have hQ := Nat.lt_of_lt_of_le hQ hb.size
  clear hb
  have q1 := alloc_heap w6 (.cells #[.int .i64 z0, .int .i64 z1] 32)
  have q0 : (w6.alloc (.cells #[.int .i64 z0, .int .i64 z1] 32)).heap[Q]? = _ := (Below.heap_alloc _ _ _ hQ).trans q0
  have hB : Below w.heap.size w (w6.alloc (.cells #[.int .i64 z0, .int .i64 z1] 32)) := hB.alloc hB.size _
  go_upto_region 7 with fail
  obtain ⟨X, hX⟩ : ∃ X, X = w6.alloc (.cells #[.int .i64 z0, .int .i64 z1] 32) := ⟨_, rfl⟩
  obtain ⟨Q2, hQe⟩ : ∃ X, X = w6.heap.size := ⟨_, rfl⟩
  rw [← hX] at q0 q1 hB ⊢
  rw [← hQe] at q1 ⊢
  clear hX hQe hQ
  obtain ⟨l0, l1⟩ := two_cells q0
  obtain ⟨l2, l3⟩ := two_cells q1
  clear q0 q1
  go_wp2_with fail
  refine (alive_any _).mono ?_
  rintro e w9 ⟨rfl, hb9⟩
  go_wp2
  go_ret
  exact ⟨rfl, hB.trans (hb9.mono hB.size)⟩
end Go.Proofs.Ytclcconllkfjiaa
