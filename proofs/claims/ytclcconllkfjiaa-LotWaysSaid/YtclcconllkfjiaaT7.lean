/- LotCounts: its walk. -/
import Derived.Test.YtclcconllkfjiaaT6
import Derived.Test.YtclcconllkfjiaaT1
import Derived.Test.YtclcconllkfjiaaA21
import Derived.Lib.RabinKarpLaws
namespace Go.Proofs.Ytclcconllkfjiaa
set_option linter.unusedSimpArgs false
set_option linter.unusedVariables false
open Go.RowKit

theorem fnd_zero (s : Nat) : ∀ n, fnd 0 s n = 0
  | 0 => rfl
  | n + 1 => by unfold fnd; rw [fnd_zero s n, if_neg (by omega)]
theorem measure_step {E s : Nat} (h : s < E) : E - (intOf (.int .i64 ((s : Int) + 1))).toNat < E - (intOf (.int .i64 (s : Int))).toNat := by simp [intOf]; omega
theorem bit_is (s k : Nat) (h : s < 9223372036854775808) : bits BinOp.and IntKind.i64 ((s : Int) / 2 ^ k) 1 = ((s / 2 ^ k % 2 : Nat) : Int) := by
  have e : ((s : Int) / 2 ^ k) = ((s / 2 ^ k : Nat) : Int) := by simp
  rw [e]
  exact and_one _ (Nat.lt_of_le_of_lt (Nat.div_le_self _ _) h)
set_option maxRecDepth 100000 in
set_option maxHeartbeats 12800000 in
theorem counts_walk (N B C : Nat) (a : Int) (F O : Nat) (x y z x2 y2 z2 : Int) (w : World)
    (v1 : 1 ≤ N ∧ N ≤ 50) (v2 : B ≤ N) (v3 : C ≤ N) (v4 : 0 ≤ a ∧ a ≤ C)
    (h1 : waysP N B C a = ((F : Int), (O : Int), 0)) (h2 : waysP N (B + 1) C a = (x, y, z)) (h3 : waysP N B C (a + 1) = (x2, y2, z2)) (h4 : waysP N 0 C a = ((O : Int), (O : Int), 0)) (h5 : waysP N B C C = ((O : Int), (O : Int), 0))
    (hF : F ≤ O) (hx : (B < N ∧ z = 0 ∧ x ≤ F) ∨ (B = N ∧ z = 2)) (hx2 : z2 = 2 ∨ (z2 = 0 ∧ (F : Int) ≤ x2))
    (hcF : cntS N B C (a + 1).toNat (2 ^ N) = F) (hcO : cntS N 0 C 1 (2 ^ N) = O) :
    Calls Try.prog 5 #[.int .i64 N, .int .i64 B, planV C a] w fun e w' => e = .returned (.bool true) ∧ Below w.heap.size w w' := by
  obtain ⟨n1, n2⟩ := v1
  obtain ⟨a1, a2⟩ := v4
  have hwa := fun W => ways_any N B C a W
  have hww := fun W => ways_any N (B + 1) C a W
  have hwl := fun W => ways_any N B C (a + 1) W
  have hw0 := fun W => ways_any N 0 C a W
  have hwe := fun W => ways_any N B C C W
  have hpl := fun W => refPlan_any C a N W
  rw [show isPlanB C a N = true by unfold isPlanB; rw [inB_iff.2 (by omega), inB_iff.2 (by omega)]; rfl] at hpl
  rw [h1] at hwa
  rw [h2] at hww
  rw [h3] at hwl
  rw [h4] at hw0
  rw [h5] at hwe
  unfold planV at hpl hwa hww hwl hw0 hwe ⊢
  unfold three at hwa hww hwl hw0 hwe
  simp only [] at hwa hww hwl hw0 hwe
  obtain ⟨W0, hW0⟩ : ∃ X, X = w.alloc (.cells #[.int .i64 (C : Nat), .int .i64 a] 23) := ⟨_, rfl⟩
  have hB : Below w.heap.size w W0 := by rw [hW0]; exact (Below.refl _ _).alloc (Nat.le_refl _) _
  obtain ⟨P, hP⟩ : ∃ H, H = w.heap.size := ⟨_, rfl⟩
  have k0 : W0.heap[P]? = some (.cells #[.int .i64 (C : Nat), .int .i64 a] 23 (0, 0)) := by rw [hW0, hP]; exact alloc_heap _ _
  have hPw : P < W0.heap.size := (Array.getElem?_eq_some_iff.1 k0).1
  have HW := Lib.hid hwa
  have HWW := Lib.hid hww
  have HWL := Lib.hid hwl
  have HWZ := Lib.hid hw0
  have HWE := Lib.hid hwe
  have HPL := Lib.hid hpl
  have HX := Lib.hid hx
  have HX2 := Lib.hid hx2
  have HCF := Lib.hid hcF
  have HCO := Lib.hid hcO
  have HPP := Lib.hid hP
  have l1 : ¬ (N : Int) < 1 := by omega
  have l2 : ¬ 50 < (N : Int) := by omega
  have l3 : ¬ (B : Int) < 0 := by omega
  have l4 : ¬ (N : Int) < (B : Int) := by omega
  have l5 : ¬ (F : Int) < 0 := by omega
  have l6 : ¬ (O : Int) < (F : Int) := by omega
  clear h1 h2 h3 h4 h5 hwa hww hwl hw0 hwe hpl hx hx2 hcF hcO
  obtain ⟨c0, c1⟩ := two_cells k0
  go_enter Try.func5, Try.ntmps5
  go_wp2_with fail
  rw [← hW0, ← hP]
  clear hW0 hP
  refine (HW.out _).mono ?_
  rintro e W1 ⟨rfl, hb1⟩
  have k0 := (hb1.block _ hPw).trans k0
  have hB := hB.trans (hb1.mono hB.size)
  have hPw := Nat.lt_of_lt_of_le hPw hb1.size
  clear hb1 c0 c1
  obtain ⟨c0, c1⟩ := two_cells k0
  go_wp2_with fail
  refine (HPL.out _).mono ?_
  rintro e W2 ⟨rfl, hb2⟩
  have k0 := (hb2.block _ hPw).trans k0
  have hB := hB.trans (hb2.mono hB.size)
  have hPw := Nat.lt_of_lt_of_le hPw hb2.size
  clear hb2 c0 c1
  obtain ⟨c0, c1⟩ := two_cells k0
  go_upto_if 88 with fail
  go_cut [7, 8, 9] (fun u v z wx => u = .int .i64 (F : Nat) ∧ v = .int .i64 (O : Nat) ∧ z = .int .i64 0 ∧ wx = W2)
  case first =>
    go_wp2_with fail
    go_meet
    case rel => exact ⟨rfl, rfl, rfl, rfl⟩
  case rest =>
  obtain ⟨rfl, rfl, rfl, rfl⟩ := hcut
  obtain ⟨Wd, rfl⟩ : ∃ X : World, X = wc := ⟨_, rfl⟩
  clear l1 l2 l3 l4 l5 l6 c0 c1
  go_upto_if 90 with fail
  go_cut [7, 8] (fun u v wx => u = .int .i64 (F : Nat) ∧ v = .int .i64 (O : Nat) ∧ Below Wd.heap.size Wd wx)
  case first =>
    clear v2 v3 hF a1 a2
    by_cases hN : (N : Int) ≤ 10
    · have hN10 : N ≤ 10 := by omega
      clear HW HWW HWL HWZ HWE HPL HX HX2
      obtain ⟨E, hE⟩ : ∃ E, 2 ^ N = E := ⟨_, rfl⟩
      have hEI : (2 : Int) ^ N = (E : Int) := by rw [← hE]; simp
      have hE0 : 0 < E := by rw [← hE]; exact Nat.two_pow_pos N
      have hE1 : E ≤ 1024 := by rw [← hE]; exact Nat.pow_le_pow_right (n := 2) (by decide) hN10
      have hwE : wrap64 (E : Int) = (E : Int) := w64n _ (by omega)
      have HE := Lib.hid hE
      have HEI := Lib.hid hEI
      clear hE
      go_wp2_with fail
      try rw [hwE]
      clear hEI hwE
      go_loopw [10, 11, 93] (fun p q i wr => ∃ s : Nat, s ≤ E ∧ i = .int .i64 s ∧ p = .int .i64 (cntS N B C (a + 1).toNat s : Nat) ∧ q = .int .i64 (cntS N 0 C 1 s : Nat) ∧ Below Wd.heap.size Wd wr) (fun _ _ i _ => E - (intOf i).toNat)
      case atStart => exact ⟨0, by omega, rfl, rfl, rfl, Below.refl _ _⟩
      case round =>
        obtain ⟨s, hs, rfl, rfl, rfl, hbel⟩ := hrel
        obtain ⟨p, hp⟩ : ∃ p, cntS N B C (a + 1).toNat s = p := ⟨_, rfl⟩
        obtain ⟨q, hq⟩ : ∃ q, cntS N 0 C 1 s = q := ⟨_, rfl⟩
        rw [hp, hq]
        have HP := Lib.hid hp
        have HQ := Lib.hid hq
        clear hp hq
        by_cases hlt : s < E
        · obtain ⟨c0, c1⟩ := two_cells ((hbel.block _ hPw).trans k0)
          go_wp2_with fail
          obtain ⟨wo, rfl⟩ : ∃ wo : World, wo = wr := ⟨_, rfl⟩
          go_loopw [13, 14, 97] (fun p q i wr => ∃ k : Nat, k ≤ N ∧ i = .int .i64 k ∧ p = .int .i64 (tst s k : Nat) ∧ q = .int .i64 (fnd B s k : Nat) ∧ Below wo.heap.size wo wr) (fun _ _ i _ => N - (intOf i).toNat)
          case atStart => exact ⟨0, by omega, rfl, rfl, rfl, Below.refl _ _⟩
          case round =>
            obtain ⟨k, hk, rfl, rfl, rfl, hbi⟩ := hrel
            by_cases hkn : k < N
            · have ht1 := tst_le s k
              have hf1 := fnd_le B s k
              have ht2 : tst s (k + 1) = tst s k + s / 2 ^ k % 2 := rfl
              have hf2 : fnd B s (k + 1) = fnd B s k + (if k < B then s / 2 ^ k % 2 else 0) := rfl
              have hbit := bit_is s k (by omega)
              obtain ⟨tb, htb⟩ : ∃ t, s / 2 ^ k % 2 = t := ⟨_, rfl⟩
              have htb2 : tb = 0 ∨ tb = 1 := by omega
              rw [htb] at ht2 hf2 hbit
              clear htb
              have H1 := Lib.hid ht2
              have H2 := Lib.hid hf2
              clear ht2 hf2
              obtain ⟨tk, htk⟩ : ∃ t, tst s k = t := ⟨_, rfl⟩
              obtain ⟨fk, hfk⟩ : ∃ t, fnd B s k = t := ⟨_, rfl⟩
              rw [htk] at ht1 H1 ⊢
              rw [hfk] at hf1 H2 ⊢
              clear htk hfk
              have w1 : IntKind.i64.wrap ((tk : Int) + 1) = (tk : Int) + 1 := IntWalk.i64_in _ (by omega)
              have w2 : IntKind.i64.wrap ((fk : Int) + 1) = (fk : Int) + 1 := IntWalk.i64_in _ (by omega)
              rcases htb2 with rfl | rfl
              · have hbq : (bits BinOp.and IntKind.i64 ((s : Int) / 2 ^ k) 1 == 1) = false := by rw [hbit]; rfl
                clear hbit
                go_wp2_with fail
                go_roundw
                case rel => exact ⟨k + 1, by omega, by go_num, by rw [H1.out]; rfl, by rw [H2.out]; simp, hbi⟩
                case measure => exact measure_step hkn
              · have hbq : (bits BinOp.and IntKind.i64 ((s : Int) / 2 ^ k) 1 == 1) = true := by rw [hbit]; rfl
                clear hbit
                by_cases hkB : (k : Int) < (B : Int)
                · have hkb : k < B := by omega
                  go_wp2_with fail
                  go_roundw
                  case rel => exact ⟨k + 1, by omega, by go_num, by rw [H1.out]; go_num, by rw [H2.out, if_pos hkb]; go_num, hbi⟩
                  case measure => exact measure_step hkn
                · have hkb : ¬ k < B := by omega
                  go_wp2_with fail
                  go_roundw
                  case rel => exact ⟨k + 1, by omega, by go_num, by rw [H1.out]; go_num, by rw [H2.out, if_neg hkb]; simp, hbi⟩
                  case measure => exact measure_step hkn
            · obtain rfl : k = N := by omega
              have hge : ¬ ((k : Int) < (k : Int)) := by omega
              clear c0 c1
              obtain ⟨c0, c1⟩ := two_cells (((hbel.trans (hbi.mono hbel.size)).block _ hPw).trans k0)
              have hbel2 := hbel.trans (hbi.mono hbel.size)
              have hcs1 := cntS_succ k B C (a + 1).toNat s
              have hcs2 := cntS_succ k 0 C 1 s
              have hcl1 := cntS_le k B C (a + 1).toNat s
              have hcl2 := cntS_le k 0 C 1 s
              rw [HP.out] at hcs1 hcl1
              rw [HQ.out] at hcs2 hcl2
              unfold isSet at hcs1 hcs2
              rw [fnd_zero] at hcs2
              obtain ⟨tk, htk⟩ : ∃ t, tst s k = t := ⟨_, rfl⟩
              obtain ⟨fk, hfk⟩ : ∃ t, fnd B s k = t := ⟨_, rfl⟩
              rw [htk] at hcs1 hcs2 ⊢
              rw [hfk] at hcs1 ⊢
              clear htk hfk
              have H1 := Lib.hid hcs1
              have H2 := Lib.hid hcs2
              clear hcs1 hcs2
              have w1 : IntKind.i64.wrap ((p : Int) + 1) = (p : Int) + 1 := IntWalk.i64_in _ (by omega)
              have w2 : IntKind.i64.wrap ((q : Int) + 1) = (q : Int) + 1 := IntWalk.i64_in _ (by omega)
              by_cases htc : tk = C
              · have htc' : ((tk : Int) == (C : Int)) = true := by rw [htc]; simp
                by_cases hfa : (fk : Int) ≤ a
                · go_wp2_with fail
                  go_roundw
                  case rel => exact ⟨s + 1, by omega, by go_num, by rw [H1.out, decide_eq_true htc, decide_eq_true (by omega)]; go_num, by rw [H2.out, decide_eq_true htc]; go_num, hbel2⟩
                  case measure => exact measure_step hlt
                · go_wp2_with fail
                  go_roundw
                  case rel => exact ⟨s + 1, by omega, by go_num, by rw [H1.out, decide_eq_true htc, decide_eq_false (by omega)]; simp, by rw [H2.out, decide_eq_true htc]; go_num, hbel2⟩
                  case measure => exact measure_step hlt
              · have htc' : ((tk : Int) == (C : Int)) = false := by simp; omega
                go_wp2_with fail
                go_roundw
                case rel => exact ⟨s + 1, by omega, by go_num, by rw [H1.out, decide_eq_false htc]; simp, by rw [H2.out, decide_eq_false htc]; simp, hbel2⟩
                case measure => exact measure_step hlt
        · obtain rfl : s = E := by omega
          have hge : ¬ ((s : Int) < (s : Int)) := by omega
          have hpF : p = F := by have := HCF.out; rw [HE.out, HP.out] at this; exact this
          have hqO : q = O := by have := HCO.out; rw [HE.out, HQ.out] at this; exact this
          subst hpF
          subst hqO
          go_wp2_with fail
          go_meet
          case rel => exact ⟨rfl, rfl, hbel⟩
    · go_wp2_with fail
      go_meet
      case rel => exact ⟨rfl, rfl, Below.refl _ _⟩
  case rest =>
    obtain ⟨rfl, rfl, hbc⟩ := hcut
    have k0 := (hbc.block _ hPw).trans k0
    have hB := hB.trans (hbc.mono hB.size)
    have hPw := Nat.lt_of_lt_of_le hPw hbc.size
    clear hbc
    obtain ⟨c0, c1⟩ := two_cells k0
    have e1 : IntKind.i64.wrap ((B : Int) + 1) = (B : Int) + 1 := IntWalk.i64_in _ (by omega)
    have e2 : IntKind.i64.wrap (a + 1) = a + 1 := IntWalk.i64_in _ (by omega)
    go_wp2_with fail
    refine (HWW.out _).mono ?_
    rintro e W3 ⟨rfl, hb3⟩
    have k0 := (hb3.block _ hPw).trans k0
    have hB := hB.trans (hb3.mono hB.size)
    have hPw := Nat.lt_of_lt_of_le hPw hb3.size
    clear hb3 c0 c1
    obtain ⟨c0, c1⟩ := two_cells k0
    rcases HX.out with ⟨hbn, rfl, hxF⟩ | ⟨hbn, rfl⟩
    · have q1 : (B : Int) < (N : Int) := by omega
      have q2 : ¬ (F : Int) < x := by omega
      clear hbn hxF
      go_upto_region 31 with fail
      have hGs := hB.size
      obtain ⟨X1, hX1⟩ : ∃ X, X = W3.alloc (.cells #[.int .i64 (C : Nat), .int .i64 a] 23) := ⟨_, rfl⟩
      obtain ⟨G, hG⟩ : ∃ G, G = W3.heap.size := ⟨_, rfl⟩
      have jG : X1.heap[G]? = some (.cells #[.int .i64 (C : Nat), .int .i64 a] 23 (0, 0)) := by rw [hX1, hG]; exact alloc_heap _ _
      have jP : X1.heap[P]? = some (.cells #[.int .i64 (C : Nat), .int .i64 a] 23 (0, 0)) := by rw [hX1]; exact (Below.heap_alloc _ _ _ hPw).trans k0
      have hB : Below w.heap.size w X1 := by rw [hX1]; exact hB.alloc hGs _
      have hPX : P < X1.heap.size := (Array.getElem?_eq_some_iff.1 jP).1
      rw [← hG] at hPw hGs
      rw [← hX1, ← hG]
      clear hX1 hG k0 c0 c1
      have hne : ¬ P = G := by omega
      obtain ⟨g0, g1⟩ := two_cells jG
      have f1 : X1.frozen? ⟨G, 1, none⟩ = false := frozen_of jG
      go_upto_region 32 with fail
      have sG : (X1.setCell ⟨G, 1, none⟩ (.int .i64 (a + 1))).heap[G]? = some (.cells #[.int .i64 (C : Nat), .int .i64 (a + 1)] 23 (0, 0)) := (heap_setCell_same X1 G 1 _ 23 _ jG).trans (by simp)
      have sP : (X1.setCell ⟨G, 1, none⟩ (.int .i64 (a + 1))).heap[P]? = some (.cells #[.int .i64 (C : Nat), .int .i64 a] 23 (0, 0)) := (heap_setCell_other X1 ⟨G, 1, none⟩ P _ hne).trans jP
      have hB := hB.setCell (p := ⟨G, 1, none⟩) hGs (.int .i64 (a + 1))
      obtain ⟨X2, hX2⟩ : ∃ X, X = X1.setCell ⟨G, 1, none⟩ (.int .i64 (a + 1)) := ⟨_, rfl⟩
      rw [← hX2] at sG sP hB ⊢
      clear hX2 g0 g1 f1 jG jP hPX
      obtain ⟨g0, g1⟩ := two_cells sG
      have hP2 := (Array.getElem?_eq_some_iff.1 sP).1
      go_wp2_with fail
      refine (HWL.out _).mono ?_
      rintro e W4 ⟨rfl, hb4⟩
      have sP := (hb4.block _ hP2).trans sP
      have hB := hB.trans (hb4.mono hB.size)
      have hP2 := Nat.lt_of_lt_of_le hP2 hb4.size
      clear hb4 g0 g1 sG
      obtain ⟨c0, c1⟩ := two_cells sP
      go_wp2_with fail
      refine (HWZ.out _).mono ?_
      rintro e W5 ⟨rfl, hb5⟩
      have sP := (hb5.block _ hP2).trans sP
      have hB := hB.trans (hb5.mono hB.size)
      clear hb5 c0 c1
      obtain ⟨c0, c1⟩ := two_cells sP
      go_wp2_with fail
      refine (HWE.out _).mono ?_
      rintro e W6 ⟨rfl, hb6⟩
      have hB := hB.trans (hb6.mono hB.size)
      clear hb6 c0 c1 sP
      rcases HX2.out with rfl | ⟨rfl, hx2⟩
      · go_wp2_with fail
        refine (alive_any _).mono ?_
        rintro e W9 ⟨rfl, hb9⟩
        go_wp2
        go_ret
        exact ⟨rfl, hB.trans (hb9.mono hB.size)⟩
      · have hx3 : ¬ x2 < (F : Int) := by omega
        clear hx2
        go_wp2_with fail
        refine (alive_any _).mono ?_
        rintro e W9 ⟨rfl, hb9⟩
        go_wp2
        go_ret
        exact ⟨rfl, hB.trans (hb9.mono hB.size)⟩
    · have q1 : ¬ (B : Int) < (N : Int) := by omega
      clear hbn
      go_upto_region 31 with fail
      have hGs := hB.size
      obtain ⟨X1, hX1⟩ : ∃ X, X = W3.alloc (.cells #[.int .i64 (C : Nat), .int .i64 a] 23) := ⟨_, rfl⟩
      obtain ⟨G, hG⟩ : ∃ G, G = W3.heap.size := ⟨_, rfl⟩
      have jG : X1.heap[G]? = some (.cells #[.int .i64 (C : Nat), .int .i64 a] 23 (0, 0)) := by rw [hX1, hG]; exact alloc_heap _ _
      have jP : X1.heap[P]? = some (.cells #[.int .i64 (C : Nat), .int .i64 a] 23 (0, 0)) := by rw [hX1]; exact (Below.heap_alloc _ _ _ hPw).trans k0
      have hB : Below w.heap.size w X1 := by rw [hX1]; exact hB.alloc hGs _
      have hPX : P < X1.heap.size := (Array.getElem?_eq_some_iff.1 jP).1
      rw [← hG] at hPw hGs
      rw [← hX1, ← hG]
      clear hX1 hG k0 c0 c1
      have hne : ¬ P = G := by omega
      obtain ⟨g0, g1⟩ := two_cells jG
      have f1 : X1.frozen? ⟨G, 1, none⟩ = false := frozen_of jG
      go_upto_region 32 with fail
      have sG : (X1.setCell ⟨G, 1, none⟩ (.int .i64 (a + 1))).heap[G]? = some (.cells #[.int .i64 (C : Nat), .int .i64 (a + 1)] 23 (0, 0)) := (heap_setCell_same X1 G 1 _ 23 _ jG).trans (by simp)
      have sP : (X1.setCell ⟨G, 1, none⟩ (.int .i64 (a + 1))).heap[P]? = some (.cells #[.int .i64 (C : Nat), .int .i64 a] 23 (0, 0)) := (heap_setCell_other X1 ⟨G, 1, none⟩ P _ hne).trans jP
      have hB := hB.setCell (p := ⟨G, 1, none⟩) hGs (.int .i64 (a + 1))
      obtain ⟨X2, hX2⟩ : ∃ X, X = X1.setCell ⟨G, 1, none⟩ (.int .i64 (a + 1)) := ⟨_, rfl⟩
      rw [← hX2] at sG sP hB ⊢
      clear hX2 g0 g1 f1 jG jP hPX
      obtain ⟨g0, g1⟩ := two_cells sG
      have hP2 := (Array.getElem?_eq_some_iff.1 sP).1
      go_wp2_with fail
      refine (HWL.out _).mono ?_
      rintro e W4 ⟨rfl, hb4⟩
      have sP := (hb4.block _ hP2).trans sP
      have hB := hB.trans (hb4.mono hB.size)
      have hP2 := Nat.lt_of_lt_of_le hP2 hb4.size
      clear hb4 g0 g1 sG
      obtain ⟨c0, c1⟩ := two_cells sP
      go_wp2_with fail
      refine (HWZ.out _).mono ?_
      rintro e W5 ⟨rfl, hb5⟩
      have sP := (hb5.block _ hP2).trans sP
      have hB := hB.trans (hb5.mono hB.size)
      clear hb5 c0 c1
      obtain ⟨c0, c1⟩ := two_cells sP
      go_wp2_with fail
      refine (HWE.out _).mono ?_
      rintro e W6 ⟨rfl, hb6⟩
      have hB := hB.trans (hb6.mono hB.size)
      clear hb6 c0 c1 sP
      rcases HX2.out with rfl | ⟨rfl, hx2⟩
      · go_wp2_with fail
        refine (alive_any _).mono ?_
        rintro e W9 ⟨rfl, hb9⟩
        go_wp2
        go_ret
        exact ⟨rfl, hB.trans (hb9.mono hB.size)⟩
      · have hx3 : ¬ x2 < (F : Int) := by omega
        clear hx2
        go_wp2_with fail
        refine (alive_any _).mono ?_
        rintro e W9 ⟨rfl, hb9⟩
        go_wp2
        go_ret
        exact ⟨rfl, hB.trans (hb9.mono hB.size)⟩
end Go.Proofs.Ytclcconllkfjiaa
