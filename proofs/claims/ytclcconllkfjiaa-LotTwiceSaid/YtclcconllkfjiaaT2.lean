/- LotTwice: its walk. -/
import Derived.Test.YtclcconllkfjiaaT1
import Derived.Test.YtclcconllkfjiaaA21
namespace Go.Proofs.Ytclcconllkfjiaa
set_option linter.unusedSimpArgs false
set_option linter.unusedVariables false
open Go.RowKit

theorem twiceP_arg {n b fi ac re se tot : Int} (h : isDoubleB fi ac re se tot n = false) : twiceP n b fi ac re se tot = (0, 0, 0, 1) := by unfold twiceP; rw [h]; rfl
theorem twiceP_range {n b fi ac re se tot : Int} (h : isDoubleB fi ac re se tot n = true) (hb : inB b 0 n = false) : twiceP n b fi ac re se tot = (0, 0, 0, 2) := by unfold twiceP; rw [h, hb]; rfl
theorem set_three {X : World} {G : Nat} {a b c d e : Value} {t : TypeId} (h : X.heap[G]? = some (.cells #[a, b, c, d, e] t (0, 0))) (x y z : Value) :
    (((X.setCell ⟨G, 3, none⟩ x).setCell ⟨G, 2, none⟩ y).setCell ⟨G, 4, none⟩ z).drew.heap[G]? = some (.cells #[a, b, y, x, z] t (0, 0)) := by
  have h1 := heap_setCell_same X G 3 _ t x h
  have h2 := heap_setCell_same _ G 2 _ t y h1
  have h3 := heap_setCell_same _ G 4 _ t z h2
  exact h3.trans (by simp)
theorem below_three {B G : Nat} {w X : World} (h : Below B w X) (hG : B ≤ G) (i j k : Nat) (x y z : Value) : Below B w (((X.setCell ⟨G, i, none⟩ x).setCell ⟨G, j, none⟩ y).setCell ⟨G, k, none⟩ z).drew := by
  exact (((h.setCell hG x).setCell hG y).setCell hG z).drew
set_option maxRecDepth 100000 in
set_option maxHeartbeats 6400000 in
theorem twice_law (n b fi ac re se tot : Int) (w : World) : Calls Try.prog 6 #[.int .i64 n, .int .i64 b, doubleV fi ac re se tot] w fun e w' => e = .returned (.bool true) ∧ Below w.heap.size w w' := by
  obtain ⟨W0, hW0⟩ : ∃ X, X = w.alloc (.cells #[.int .i64 fi, .int .i64 ac, .int .i64 re, .int .i64 se, .int .i64 tot] 25) := ⟨_, rfl⟩
  have hb0 : Below w.heap.size w W0 := by rw [hW0]; exact (Below.refl _ _).alloc (Nat.le_refl _) _
  obtain ⟨H, hH⟩ : ∃ H, H = w.heap.size := ⟨_, rfl⟩
  have k0 : W0.heap[H]? = some (.cells #[.int .i64 fi, .int .i64 ac, .int .i64 re, .int .i64 se, .int .i64 tot] 25 (0, 0)) := by rw [hW0, hH]; exact alloc_heap _ _
  have htw := fun W => twice_any n b fi ac re se tot W
  have hre := fun W => refTwo_any fi ac re se tot n W
  have HH := Lib.hid hH
  have K0 := Lib.hid k0
  obtain ⟨c0, c1, c2, c3, c4⟩ := five_cells k0
  have carry : ∀ W1, Below W0.heap.size W0 W1 → W1.heap[H]? = some (.cells #[.int .i64 fi, .int .i64 ac, .int .i64 re, .int .i64 se, .int .i64 tot] 25 (0, 0)) := fun W1 hb1 => (hb1.block _ (Array.getElem?_eq_some_iff.1 K0.out).1).trans K0.out
  have CA := Lib.hid carry
  clear carry k0
  by_cases hd : isDoubleB fi ac re se tot n = true
  · by_cases hbb : inB b 0 n = true
    · obtain ⟨P, S, A, F, O, R, M, ok⟩ := twice_math n b fi ac re se tot hd hbb
      have OK := Lib.hid ok
      rw [ok.twice] at htw
      rw [hd] at hre
      have hw1' := fun W => ways_any n b fi ac W
      rw [ok.first] at hw1'
      have hw3' := fun W => ways_any n b fi (min fi (re - 1)) W
      rw [ok.most] at hw3'
      have hem := fun W => twice_any n b fi ac (ac + 1) 0 ac W
      rw [ok.empty] at hem
      have hwr := fun W => ways_any (n - fi) 0 se se W
      obtain ⟨x0, x1, x2, hx, hx2⟩ : ∃ x0 x1 x2, waysP (n - fi) 0 se se = (x0, x1, x2) ∧ (n ≠ fi → x0 = (R : Int) ∧ x1 = (R : Int) ∧ x2 = 0) := by
        by_cases hnf : n = fi
        · exact ⟨_, _, _, rfl, fun h => absurd hnf h⟩
        · exact ⟨_, _, _, ok.rest hnf, fun _ => ⟨rfl, rfl, rfl⟩⟩
      rw [hx] at hwr
      obtain ⟨mm, hmm⟩ : ∃ m, min fi (re - 1) = m := ⟨_, rfl⟩
      rw [hmm] at hw3'
      unfold four at htw hem
      unfold three planV at hw1' hw3' hwr
      unfold doubleV at htw hre hem ⊢
      simp only [] at htw hem hw1' hw3' hwr
      have HT := Lib.hid htw
      have HR := Lib.hid hre
      have HE := Lib.hid hem
      have HW1 := Lib.hid hw1'
      have HW3 := Lib.hid hw3'
      have HWR := Lib.hid hwr
      have HX := Lib.hid hx2
      have HMM := Lib.hid hmm
      have hif : (if re - 1 < fi then re - 1 else fi) = mm := by rw [← hmm]; split <;> omega
      obtain ⟨u1, u2⟩ := ok.v1
      obtain ⟨u3, u4⟩ := ok.v2
      obtain ⟨u5, u6⟩ := ok.v7
      obtain ⟨u7, u8⟩ := ok.v5
      obtain ⟨u9, u10⟩ := ok.v4
      clear hbb hd htw hre hem hw1' hw3' hwr hx hx2 hmm ok
      have a1 : IntKind.i64.wrap (n - fi) = n - fi := IntWalk.i64_in _ (by omega)
      have a2 : IntKind.i64.wrap (re - 1) = re - 1 := IntWalk.i64_in _ (by omega)
      have a3 : IntKind.i64.wrap (ac + 1) = ac + 1 := IntWalk.i64_in _ (by omega)
      have l1 : ¬ b < 0 := by omega
      have l2 : ¬ n < b := by omega
      go_enter Try.func6, Try.ntmps6
      go_wp2_with fail
      rw [← hW0, ← hH]
      clear hW0 hH
      refine (HT.out _).mono ?_
      rintro e W1 ⟨rfl, hb1⟩
      have hw1 : Below w.heap.size w W1 := hb0.trans (hb1.mono hb0.size)
      have hw01 : Below W0.heap.size W0 W1 := hb1
      have j0 := CA.out W1 hw01
      clear c0 c1 c2 c3 c4 hb0 hb1
      obtain ⟨c0, c1, c2, c3, c4⟩ := five_cells j0
      clear j0
      go_wp2_with fail
      refine (HR.out _).mono ?_
      rintro e W2 ⟨rfl, hb2⟩
      have hw2 := hw1.trans (hb2.mono hw1.size)
      have hw02 := hw01.trans (hb2.mono hw01.size)
      have j0 := CA.out _ hw02
      clear c0 c1 c2 c3 c4 hw1 hw01 hb2
      obtain ⟨c0, c1, c2, c3, c4⟩ := five_cells j0
      clear j0
      go_wp2_with fail
      refine (HW1.out _).mono ?_
      rintro e W3 ⟨rfl, hb3⟩
      have hw3 := hw2.trans (hb3.mono hw2.size)
      have hw03 := hw02.trans (hb3.mono hw02.size)
      have j0 := CA.out _ hw03
      clear c0 c1 c2 c3 c4 hw2 hw02 hb3
      obtain ⟨c0, c1, c2, c3, c4⟩ := five_cells j0
      clear j0
      go_wp2_with fail
      refine (HWR.out _).mono ?_
      rintro e W4 ⟨rfl, hb4⟩
      have hw4 := hw3.trans (hb4.mono hw3.size)
      have hw04 := hw03.trans (hb4.mono hw03.size)
      have j0 := CA.out _ hw04
      clear c0 c1 c2 c3 c4 hw3 hw03 hb4
      obtain ⟨c0, c1, c2, c3, c4⟩ := five_cells j0
      clear j0
      by_cases hnf : n = fi
      · obtain rfl : R = 1 := OK.out.rest1 hnf
        have HNF := Lib.hid hnf
        clear a1
        subst hnf
        go_wp2_with fail
        refine (HW3.out _).mono ?_
        rintro e W5 ⟨rfl, hb5⟩
        have hw5 := hw4.trans (hb5.mono hw4.size)
        have hw05 := hw04.trans (hb5.mono hw04.size)
        have j0 := CA.out _ hw05
        clear c0 c1 c2 c3 c4 hw4 hw04 hb5 hif
        obtain ⟨c0, c1, c2, c3, c4⟩ := five_cells j0
        clear j0
        have ok := OK.out
        have hA : A = O := by rw [ok.all, Nat.mul_one]
        subst hA
        have hS : S = M - F := by have := ok.second; omega
        subst hS
        have bO := ok.bO
        have bM := ok.bM
        have hFM := ok.fm
        have hlo := ok.low
        have hhi := ok.high
        clear ok
        have q1 : IntKind.i64.wrap ((A : Nat) : Int) = ((A : Nat) : Int) := i64n _ (by omega)
        have q2 : IntKind.i64.wrap ((F : Nat) : Int) = ((F : Nat) : Int) := i64n _ (by omega)
        have q3 : IntKind.i64.wrap ((M : Nat) : Int) = ((M : Nat) : Int) := i64n _ (by omega)
        have q4 : IntKind.i64.wrap ((M : Int) - (F : Int)) = ((M - F : Nat) : Int) := by rw [← Int.ofNat_sub hFM]; exact i64n _ (by omega)
        have q5 : IntKind.i64.wrap ((M - F : Nat) : Int) = ((M - F : Nat) : Int) := i64n _ (by omega)
        have q6 : ¬ ((P : Int) < (F : Int)) := by omega
        have q7 : ¬ ((M : Int) < (P : Int)) := by omega
        clear bO bM hFM hlo hhi
        have hcl := (Array.getElem?_eq_some_iff.1 (CA.out _ hw05)).1
        have jG : (W5.alloc (.cells #[.int .i64 n, .int .i64 ac, .int .i64 re, .int .i64 se, .int .i64 tot] 25)).heap[W5.heap.size]? = some (.cells #[.int .i64 n, .int .i64 ac, .int .i64 re, .int .i64 se, .int .i64 tot] 25 (0, 0)) := alloc_heap _ _
        have hBG : Below w.heap.size w (W5.alloc (.cells #[.int .i64 n, .int .i64 ac, .int .i64 re, .int .i64 se, .int .i64 tot] 25)) := hw5.alloc hw5.size _
        have jH : (W5.alloc (.cells #[.int .i64 n, .int .i64 ac, .int .i64 re, .int .i64 se, .int .i64 tot] 25)).heap[H]? = _ := (Below.heap_alloc _ _ _ hcl).trans (CA.out _ hw05)
        have hGw := hw5.size
        go_upto_region 14 with fail
        obtain ⟨X0, hX0⟩ : ∃ X, X = W5.alloc (.cells #[.int .i64 n, .int .i64 ac, .int .i64 re, .int .i64 se, .int .i64 tot] 25) := ⟨_, rfl⟩
        obtain ⟨G, hG⟩ : ∃ G, G = W5.heap.size := ⟨_, rfl⟩
        rw [← hX0] at jG jH hBG ⊢
        rw [← hG] at jG hGw hcl ⊢
        clear hX0 hG c0 c1 c2 c3 c4
        have c1 := (five_cells jH).2.1
        have f0 : ∀ o, X0.frozen? ⟨G, o, none⟩ = false := fun o => frozen_of jG
        have g2 := (five_cells jG).2.2.1
        have g3 := (five_cells jG).2.2.2.1
        have g4 := (five_cells jG).2.2.2.2
        have hne : ¬ H = G := by omega
        go_region
        have hs := set_three jG (.int .i64 0) (.int .i64 (ac + 1)) (.int .i64 ac)
        have hBs := below_three hBG hGw 3 2 4 (.int .i64 0) (.int .i64 (ac + 1)) (.int .i64 ac)
        obtain ⟨X1, hX1⟩ : ∃ X, X = (((X0.setCell ⟨G, 3, none⟩ (.int .i64 0)).setCell ⟨G, 2, none⟩ (.int .i64 (ac + 1))).setCell ⟨G, 4, none⟩ (.int .i64 ac)).drew := ⟨_, rfl⟩
        rw [← hX1] at hs hBs ⊢
        clear hX1 c1 f0 g2 g3 g4 hne jG jH hBG
        obtain ⟨c0, c1, c2, c3, c4⟩ := five_cells hs
        go_wp2_with fail
        refine (HE.out _).mono ?_
        rintro e W6 ⟨rfl, hb6⟩
        have hw6 := hBs.trans (hb6.mono hBs.size)
        clear c0 c1 c2 c3 c4 hs hBs hb6
        go_wp2_with fail
        refine (alive_any _).mono ?_
        rintro e W7 ⟨rfl, hb7⟩
        go_wp2
        go_ret
        exact ⟨rfl, hw6.trans (hb7.mono hw6.size)⟩
      · obtain ⟨rfl, rfl, rfl⟩ := HX.out hnf
        go_wp2_with fail
        refine (HW3.out _).mono ?_
        rintro e W5 ⟨rfl, hb5⟩
        have hw5 := hw4.trans (hb5.mono hw4.size)
        have hw05 := hw04.trans (hb5.mono hw04.size)
        have j0 := CA.out _ hw05
        clear c0 c1 c2 c3 c4 hw4 hw04 hb5 hif
        obtain ⟨c0, c1, c2, c3, c4⟩ := five_cells j0
        clear j0
        have ok := OK.out
        have bO := ok.bO
        have bR := ok.bR
        have bM := ok.bM
        have hFM := ok.fm
        have hlo := ok.low
        have hhi := ok.high
        have hsec := ok.second
        have hall := ok.all
        have b1 : O * R ≤ 1073741824 * 1073741824 := mulBd bO bR
        have b2 : M * R ≤ 1073741824 * 1073741824 := mulBd bM bR
        clear ok
        have q1 : IntKind.i64.wrap ((O : Int) * (R : Int)) = ((A : Nat) : Int) := by rw [hall, ← Int.natCast_mul]; exact i64n _ (by omega)
        have q2 : IntKind.i64.wrap ((F : Int) * (R : Int)) = ((F * R : Nat) : Int) := by rw [← Int.natCast_mul]; exact i64n _ (by omega)
        have q3 : IntKind.i64.wrap ((M : Int) * (R : Int)) = ((M * R : Nat) : Int) := by rw [← Int.natCast_mul]; exact i64n _ (by omega)
        have q4 : IntKind.i64.wrap ((M : Int) - (F : Int)) = ((M - F : Nat) : Int) := by rw [← Int.ofNat_sub hFM]; exact i64n _ (by omega)
        have hS : (M - F) * R = S := by rw [Nat.sub_mul]; omega
        have q5 : IntKind.i64.wrap (((M - F : Nat) : Int) * (R : Int)) = ((S : Nat) : Int) := by rw [← Int.natCast_mul, hS]; exact i64n _ (by omega)
        have q6 : ¬ ((P : Int) < ((F * R : Nat) : Int)) := by omega
        have q7 : ¬ (((M * R : Nat) : Int) < (P : Int)) := by omega
        clear bO bR bM hFM hlo hhi hsec hall b1 b2 hS
        have hcl := (Array.getElem?_eq_some_iff.1 (CA.out _ hw05)).1
        have jG : (W5.alloc (.cells #[.int .i64 fi, .int .i64 ac, .int .i64 re, .int .i64 se, .int .i64 tot] 25)).heap[W5.heap.size]? = some (.cells #[.int .i64 fi, .int .i64 ac, .int .i64 re, .int .i64 se, .int .i64 tot] 25 (0, 0)) := alloc_heap _ _
        have hBG : Below w.heap.size w (W5.alloc (.cells #[.int .i64 fi, .int .i64 ac, .int .i64 re, .int .i64 se, .int .i64 tot] 25)) := hw5.alloc hw5.size _
        have jH : (W5.alloc (.cells #[.int .i64 fi, .int .i64 ac, .int .i64 re, .int .i64 se, .int .i64 tot] 25)).heap[H]? = _ := (Below.heap_alloc _ _ _ hcl).trans (CA.out _ hw05)
        have hGw := hw5.size
        go_upto_region 14 with fail
        obtain ⟨X0, hX0⟩ : ∃ X, X = W5.alloc (.cells #[.int .i64 fi, .int .i64 ac, .int .i64 re, .int .i64 se, .int .i64 tot] 25) := ⟨_, rfl⟩
        obtain ⟨G, hG⟩ : ∃ G, G = W5.heap.size := ⟨_, rfl⟩
        rw [← hX0] at jG jH hBG ⊢
        rw [← hG] at jG hGw hcl ⊢
        clear hX0 hG c0 c1 c2 c3 c4
        have c1 := (five_cells jH).2.1
        have f0 : ∀ o, X0.frozen? ⟨G, o, none⟩ = false := fun o => frozen_of jG
        have g2 := (five_cells jG).2.2.1
        have g3 := (five_cells jG).2.2.2.1
        have g4 := (five_cells jG).2.2.2.2
        have hne : ¬ H = G := by omega
        go_region
        have hs := set_three jG (.int .i64 0) (.int .i64 (ac + 1)) (.int .i64 ac)
        have hBs := below_three hBG hGw 3 2 4 (.int .i64 0) (.int .i64 (ac + 1)) (.int .i64 ac)
        obtain ⟨X1, hX1⟩ : ∃ X, X = (((X0.setCell ⟨G, 3, none⟩ (.int .i64 0)).setCell ⟨G, 2, none⟩ (.int .i64 (ac + 1))).setCell ⟨G, 4, none⟩ (.int .i64 ac)).drew := ⟨_, rfl⟩
        rw [← hX1] at hs hBs ⊢
        clear hX1 c1 f0 g2 g3 g4 hne jG jH hBG
        obtain ⟨c0, c1, c2, c3, c4⟩ := five_cells hs
        go_wp2_with fail
        refine (HE.out _).mono ?_
        rintro e W6 ⟨rfl, hb6⟩
        have hw6 := hBs.trans (hb6.mono hBs.size)
        clear c0 c1 c2 c3 c4 hs hBs hb6
        go_wp2_with fail
        refine (alive_any _).mono ?_
        rintro e W7 ⟨rfl, hb7⟩
        go_wp2
        go_ret
        exact ⟨rfl, hw6.trans (hb7.mono hw6.size)⟩
    · have hbb : inB b 0 n = false := by simpa using hbb
      rw [twiceP_range hd hbb] at htw
      rw [hd] at hre
      unfold four at htw
      unfold doubleV at htw hre ⊢
      simp only [] at htw
      have HT := Lib.hid htw
      have HR := Lib.hid hre
      clear hbb hd htw hre
      go_enter Try.func6, Try.ntmps6
      go_wp2_with fail
      rw [← hW0, ← hH]
      clear hW0 hH
      refine (HT.out _).mono ?_
      rintro e W1 ⟨rfl, hb1⟩
      have hw1 : Below w.heap.size w W1 := hb0.trans (hb1.mono hb0.size)
      have j0 := CA.out W1 hb1
      clear c0 c1 c2 c3 c4 hb0 hb1
      obtain ⟨c0, c1, c2, c3, c4⟩ := five_cells j0
      clear j0
      go_wp2_with fail
      refine (HR.out _).mono ?_
      rintro e W2 ⟨rfl, hb2⟩
      have hw2 := hw1.trans (hb2.mono hw1.size)
      clear c0 c1 c2 c3 c4 hw1 hb2
      go_wp2_with fail
      refine (alive_any _).mono ?_
      rintro e W3 ⟨rfl, hb3⟩
      go_wp2
      go_ret
      exact ⟨rfl, hw2.trans (hb3.mono hw2.size)⟩
  · have hd : isDoubleB fi ac re se tot n = false := by simpa using hd
    rw [twiceP_arg hd] at htw
    rw [hd] at hre
    unfold four at htw
    unfold doubleV at htw hre ⊢
    simp only [] at htw
    have HT := Lib.hid htw
    have HR := Lib.hid hre
    clear hd htw hre
    go_enter Try.func6, Try.ntmps6
    go_wp2_with fail
    rw [← hW0, ← hH]
    clear hW0 hH
    refine (HT.out _).mono ?_
    rintro e W1 ⟨rfl, hb1⟩
    have hw1 : Below w.heap.size w W1 := hb0.trans (hb1.mono hb0.size)
    have j0 := CA.out W1 hb1
    clear c0 c1 c2 c3 c4 hb0 hb1
    obtain ⟨c0, c1, c2, c3, c4⟩ := five_cells j0
    clear j0
    go_wp2_with fail
    refine (HR.out _).mono ?_
    rintro e W2 ⟨rfl, hb2⟩
    have hw2 := hw1.trans (hb2.mono hw1.size)
    clear c0 c1 c2 c3 c4 hw1 hb2
    go_wp2_with fail
    refine (alive_any _).mono ?_
    rintro e W3 ⟨rfl, hb3⟩
    go_wp2
    go_ret
    exact ⟨rfl, hw2.trans (hb3.mono hw2.size)⟩
end Go.Proofs.Ytclcconllkfjiaa
