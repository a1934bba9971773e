/- Contract: the document's Twice, where it is valid: its walk. -/
import Derived.Test.YtclcconllkfjiaaU4
namespace Go.Proofs.Ytclcconllkfjiaa
set_option linter.unusedSimpArgs false
set_option linter.unusedVariables false
open Go.RowKit

theorem step_in {c : Nat} {i : Nat} (h : i < c + 1) : c + 1 - (intOf (.int .i64 ((i : Int) + 1))).toNat < c + 1 - (intOf (.int .i64 (i : Int))).toNat := by simp [intOf]; omega
theorem exI_bd30 (n b c x : Int) (h : n ≤ 30) : exI n b c x ≤ 1073741824 := by
  unfold exI chI
  by_cases h1 : x < 0 ∨ b < x
  · rw [if_pos h1, Nat.zero_mul]; exact Nat.zero_le _
  · by_cases h2 : c - x < 0 ∨ n - b < c - x
    · rw [if_pos h2, Nat.mul_zero]; exact Nat.zero_le _
    · rw [if_neg h1, if_neg h2]
      refine Nat.le_trans (Nat.mul_le_mul (ch_le _ _) (ch_le _ _)) ?_
      rw [← Nat.pow_add]
      exact Nat.pow_le_pow_right (n := 2) (by decide) (show b.toNat + (n - b).toNat ≤ 30 by omega)
set_option maxRecDepth 100000 in
set_option maxHeartbeats 6400000 in
theorem refTwice_ok (n b : Int) (C S : Nat) (ac re tot : Int) (w : World) (hd : isDoubleB C ac re S tot n = true) (hb : inB b 0 n = true) (hn : n ≤ 30) (hC : C ≤ 30) (hS : S ≤ 30) :
    Calls Try.prog 12 #[.int .i64 n, .int .i64 b, doubleV C ac re S tot] w fun e w' => e = .returned (four (wv (sumX (fun x => (Par.mk n b C ac re S tot).pas x (S + 1)) (C + 1)), wv (sumX (fun x => (Par.mk n b C ac re S tot).sec x (S + 1)) (C + 1)), wv (sumX (fun x => (Par.mk n b C ac re S tot).all x (S + 1)) (C + 1)), 0)) ∧ Below w.heap.size w w' := by
  obtain ⟨p, hp⟩ : ∃ p, p = Par.mk n b C ac re S tot := ⟨_, rfl⟩
  rw [← hp]
  have v7 := inB_iff.1 hb
  have hEx1 := fun W (x : Nat) (hx : x ≤ C) => exactly_any n b C x W (by omega) (by omega) (by omega) (by omega) (by omega) (by omega)
  have hEx2 := fun W (x y : Nat) (hx : x ≤ C) (hy : y ≤ S) => exactly_any (n - C) (b - x) S y W (by omega) (by omega) (by omega) (by omega) (by omega) (by omega)
  have hE : ∀ x : Nat, exI n b C x = p.E x := fun x => by rw [hp]; rfl
  have a0 := fun x j => all_step p x j
  have a1 := fun x j => pas_step1 p x j
  have a2 := fun x j => pas_step2 p x j
  have a3 := fun x j => pas_step3 p x j
  have a4 := fun x j => pas_step4 p x j
  have a5 := fun x j => sec_step1 p x j
  have a6 := fun x j => sec_step2 p x j
  have a7 := fun x j => sec_step3 p x j
  have hp1 : p.ac = ac := by rw [hp]
  have hp2 : p.re = re := by rw [hp]
  have hp3 : p.tot = tot := by rw [hp]
  have hp4 : p.n = n := by rw [hp]
  have hp5 : p.b = b := by rw [hp]
  have hp6 : p.c = C := by rw [hp]
  have hp7 : p.s = S := by rw [hp]
  rw [hp1] at a1 a2 a3 a4 a5 a6 a7
  rw [hp2] at a2 a3 a4 a6 a7
  rw [hp3] at a2 a3
  rw [hp4, hp5, hp6, hp7] at a0 a1 a2 a6
  clear hp1 hp2 hp3 hp4 hp5 hp6 hp7 hp
  have i1 := fun W => refTwo_any C ac re S tot n W
  rw [hd] at i1
  have i2 := fun W => in_any b 0 n W
  rw [hb] at i2
  obtain ⟨W0, hW0⟩ : ∃ X, X = w.alloc (.cells #[.int .i64 C, .int .i64 ac, .int .i64 re, .int .i64 S, .int .i64 tot] 25) := ⟨_, rfl⟩
  have hB : Below w.heap.size w W0 := by rw [hW0]; exact (Below.refl _ _).alloc (Nat.le_refl _) _
  obtain ⟨P, hP⟩ : ∃ H, H = w.heap.size := ⟨_, rfl⟩
  have k0 : W0.heap[P]? = some (.cells #[.int .i64 C, .int .i64 ac, .int .i64 re, .int .i64 S, .int .i64 tot] 25 (0, 0)) := by rw [hW0, hP]; exact alloc_heap _ _
  have hPw : P < W0.heap.size := (Array.getElem?_eq_some_iff.1 k0).1
  unfold doubleV at i1 ⊢
  obtain ⟨c0, c1, c2, c3, c4⟩ := five_cells k0
  have I1 := Lib.hid i1
  have I2 := Lib.hid i2
  have X1 := Lib.hid hEx1
  have X2 := Lib.hid hEx2
  have HE := Lib.hid hE
  have A0 := Lib.hid a0
  have A1 := Lib.hid a1
  have A2 := Lib.hid a2
  have A3 := Lib.hid a3
  have A4 := Lib.hid a4
  have A5 := Lib.hid a5
  have A6 := Lib.hid a6
  have A7 := Lib.hid a7
  have V7 := Lib.hid v7
  clear i1 i2 hEx1 hEx2 hE a0 a1 a2 a3 a4 a5 a6 a7 hd hb v7
  go_enter Try.func12, Try.ntmps12
  go_wp2_with fail
  rw [← hW0, ← hP]
  clear hW0 hP
  refine (I1.out _).mono ?_
  rintro e w2 ⟨rfl, hb2⟩
  have hB2 := hB.trans (hb2.mono hB.size)
  have k2 := (hb2.block _ hPw).trans k0
  have hPw2 := Nat.lt_of_lt_of_le hPw hb2.size
  clear c0 c1 c2 c3 c4 hb2 hB k0 hPw
  obtain ⟨c0, c1, c2, c3, c4⟩ := five_cells k2
  go_wp2_with fail
  refine (I2.out _).mono ?_
  rintro e w1 ⟨rfl, rfl⟩
  go_wp2_with fail
  go_loopw [10, 11, 12, 13] (fun sp ss sa i wr => ∃ k : Nat, k ≤ C + 1 ∧ i = .int .i64 k ∧ sp = .int .i64 (wv (sumX (fun x => p.pas x (S + 1)) k)) ∧ ss = .int .i64 (wv (sumX (fun x => p.sec x (S + 1)) k)) ∧ sa = .int .i64 (wv (sumX (fun x => p.all x (S + 1)) k)) ∧ Below w2.heap.size w2 wr) (fun _ _ _ i _ => C + 1 - (intOf i).toNat)
  case atStart => exact ⟨0, by omega, rfl, rfl, rfl, rfl, Below.refl _ _⟩
  case round =>
    obtain ⟨k, hk, rfl, rfl, rfl, rfl, hbel⟩ := hrel
    clear c0 c1 c2 c3 c4
    obtain ⟨c0, c1, c2, c3, c4⟩ := five_cells ((hbel.block _ hPw2).trans k2)
    obtain ⟨GP, hGP⟩ : ∃ G, sumX (fun x => p.pas x (S + 1)) k = G := ⟨_, rfl⟩
    obtain ⟨GS, hGS⟩ : ∃ G, sumX (fun x => p.sec x (S + 1)) k = G := ⟨_, rfl⟩
    obtain ⟨GA, hGA⟩ : ∃ G, sumX (fun x => p.all x (S + 1)) k = G := ⟨_, rfl⟩
    rw [hGP, hGS, hGA]
    by_cases hkC : k < C + 1
    · have hle : (k : Int) ≤ (C : Int) := by omega
      have s1 : sumX (fun x => p.pas x (S + 1)) (k + 1) = GP + p.pas k (S + 1) := by rw [← hGP]; rfl
      have s2 : sumX (fun x => p.sec x (S + 1)) (k + 1) = GS + p.sec k (S + 1) := by rw [← hGS]; rfl
      have s3 : sumX (fun x => p.all x (S + 1)) (k + 1) = GA + p.all k (S + 1) := by rw [← hGA]; rfl
      have S1 := Lib.hid s1
      have S2 := Lib.hid s2
      have S3 := Lib.hid s3
      clear s1 s2 s3 hGP hGS hGA
      go_wp2_with fail
      obtain ⟨wo, rfl⟩ : ∃ wo : World, wo = wr := ⟨_, rfl⟩
      go_loopw [10, 11, 12, 14] (fun sp ss sa i wr => ∃ j : Nat, j ≤ S + 1 ∧ i = .int .i64 j ∧ sp = .int .i64 (wv (GP + p.pas k j)) ∧ ss = .int .i64 (wv (GS + p.sec k j)) ∧ sa = .int .i64 (wv (GA + p.all k j)) ∧ Below wo.heap.size wo wr) (fun _ _ _ i _ => S + 1 - (intOf i).toNat)
      case atStart => exact ⟨0, by omega, rfl, by rw [pas_zero]; rfl, by rw [sec_zero]; rfl, by rw [all_zero]; rfl, Below.refl _ _⟩
      case round =>
        obtain ⟨j, hj, rfl, rfl, rfl, rfl, hbi⟩ := hrel
        clear c0 c1 c2 c3 c4
        have hbel2 := hbel.trans (hbi.mono hbel.size)
        obtain ⟨c0, c1, c2, c3, c4⟩ := five_cells ((hbel2.block _ hPw2).trans k2)
        by_cases hjS : j < S + 1
        · have hjle : (j : Int) ≤ (S : Int) := by omega
          have hx1 := fun W => X1.out W k (by omega)
          rw [HE.out k] at hx1
          have hx2 := fun W => X2.out W k j (by omega) (by omega)
          have b1 : p.E k ≤ 1073741824 := by rw [← HE.out k]; exact exI_bd30 _ _ _ _ hn
          have b2 := exI_bd30 (n - C) (b - k) S j (by omega)
          have st0 := A0.out k j
          obtain ⟨E, hEE⟩ : ∃ E, p.E k = E := ⟨_, rfl⟩
          obtain ⟨D, hDD⟩ : ∃ E, exI (n - C) (b - k) S j = E := ⟨_, rfl⟩
          obtain ⟨M, hMM⟩ : ∃ M, E * D = M := ⟨_, rfl⟩
          rw [hEE] at hx1 b1
          rw [hDD] at hx2 b2
          rw [hEE, hDD, hMM] at st0
          have hM : M ≤ 1073741824 * 1073741824 := by rw [← hMM]; exact Nat.mul_le_mul b1 b2
          have e1 : IntKind.i64.wrap ((E : Int) * (D : Int)) = (M : Int) := by rw [← Int.natCast_mul, hMM]; exact i64n _ (by omega)
          have V := V7.out
          have e2 : IntKind.i64.wrap (n - (C : Int)) = n - (C : Int) := IntWalk.i64_in _ (by omega)
          have e3 : IntKind.i64.wrap (b - (k : Int)) = b - (k : Int) := IntWalk.i64_in _ (by omega)
          have e4 : IntKind.i64.wrap ((k : Int) + (j : Int)) = (k : Int) + (j : Int) := IntWalk.i64_in _ (by omega)
          have e5 : IntKind.i64.wrap ((j : Int) + 1) = (j : Int) + 1 := IntWalk.i64_in _ (by omega)
          have e6 : IntKind.i64.wrap (wv (GA + p.all k j) + (M : Int)) = wv (GA + p.all k (j + 1)) := by rw [wv_add, st0, Nat.add_assoc]
          have HX1 := Lib.hid hx1
          have HX2 := Lib.hid hx2
          clear V b1 b2 hM st0 hx1 hx2
          by_cases hac : (k : Int) ≤ ac
          · have t1 := A1.out k j (by omega)
            have t2 := A5.out k j (by omega)
            rw [hEE, hDD, hMM] at t1
            obtain ⟨UP, hUP⟩ : ∃ U, wv (GP + p.pas k j) = U := ⟨_, rfl⟩
            obtain ⟨US, hUS⟩ : ∃ U, wv (GS + p.sec k j) = U := ⟨_, rfl⟩
            obtain ⟨UA, hUA⟩ : ∃ U, wv (GA + p.all k j) = U := ⟨_, rfl⟩
            obtain ⟨UA2, hUA2⟩ : ∃ U, wv (GA + p.all k (j + 1)) = U := ⟨_, rfl⟩
            obtain ⟨UP2, hUP2⟩ : ∃ U, wv (GP + p.pas k (j + 1)) = U := ⟨_, rfl⟩
            obtain ⟨US2, hUS2⟩ : ∃ U, wv (GS + p.sec k (j + 1)) = U := ⟨_, rfl⟩
            rw [hUA, hUA2] at e6
            have e7 : IntKind.i64.wrap (UP + (M : Int)) = UP2 := by rw [← hUP, ← hUP2, wv_add, t1, Nat.add_assoc]
            have e8 : US2 = US := by rw [← hUS2, ← hUS, t2]
            have E8 := Lib.hid e8
            clear t1 t2 e8
            have q1 : ¬ ac < (k : Int) := by omega
            have N1 := Lib.hid hUA2
            have N2 := Lib.hid hUP2
            have N3 := Lib.hid hUS2
            rw [hUP, hUS, hUA]
            clear hUA2 hUP2 hUS2 hUP hUS hUA hEE hDD hMM
            go_wp2_with fail
            go_quiet ((go_at_call 32; first | (with_reducible exact Calls.quiet_of_same (HX1.out _)) | (with_reducible exact Calls.quiet_of_same (HX2.out _))))
            go_wp2_with fail
            go_roundw
            case rel => exact ⟨j + 1, by omega, by go_num, by rw [N2.out], by rw [N3.out, E8.out], by rw [N1.out], drewn_below hbi _⟩
            case measure => exact step_in hjS
          · by_cases hre : (k : Int) < re
            · by_cases htt : (k : Int) + (j : Int) ≤ tot
              · have t1 := A2.out k j (by omega) (by omega) (by omega)
                have t2 := A6.out k j (by omega) (by omega)
                rw [hEE, hDD, hMM] at t1 t2
                obtain ⟨UP, hUP⟩ : ∃ U, wv (GP + p.pas k j) = U := ⟨_, rfl⟩
                obtain ⟨US, hUS⟩ : ∃ U, wv (GS + p.sec k j) = U := ⟨_, rfl⟩
                obtain ⟨UA, hUA⟩ : ∃ U, wv (GA + p.all k j) = U := ⟨_, rfl⟩
                obtain ⟨UA2, hUA2⟩ : ∃ U, wv (GA + p.all k (j + 1)) = U := ⟨_, rfl⟩
                obtain ⟨UP2, hUP2⟩ : ∃ U, wv (GP + p.pas k (j + 1)) = U := ⟨_, rfl⟩
                obtain ⟨US2, hUS2⟩ : ∃ U, wv (GS + p.sec k (j + 1)) = U := ⟨_, rfl⟩
                rw [hUA, hUA2] at e6
                have e7 : IntKind.i64.wrap (UP + (M : Int)) = UP2 := by rw [← hUP, ← hUP2, wv_add, t1, Nat.add_assoc]
                have e8 : IntKind.i64.wrap (US + (M : Int)) = US2 := by rw [← hUS, ← hUS2, wv_add, t2, Nat.add_assoc]
                clear t1 t2
                have q1 : ac < (k : Int) := by omega
                have N1 := Lib.hid hUA2
                have N2 := Lib.hid hUP2
                have N3 := Lib.hid hUS2
                rw [hUP, hUS, hUA]
                clear hUA2 hUP2 hUS2 hUP hUS hUA hEE hDD hMM
                go_wp2_with fail
                go_quiet ((go_at_call 32; first | (with_reducible exact Calls.quiet_of_same (HX1.out _)) | (with_reducible exact Calls.quiet_of_same (HX2.out _))))
                go_wp2_with fail
                go_roundw
                case rel => exact ⟨j + 1, by omega, by go_num, by rw [N2.out], by rw [N3.out], by rw [N1.out], drewn_below hbi _⟩
                case measure => exact step_in hjS
              · have t1 := A3.out k j (by omega) (by omega) (by omega)
                have t2 := A6.out k j (by omega) (by omega)
                rw [hEE, hDD, hMM] at t2
                obtain ⟨UP, hUP⟩ : ∃ U, wv (GP + p.pas k j) = U := ⟨_, rfl⟩
                obtain ⟨US, hUS⟩ : ∃ U, wv (GS + p.sec k j) = U := ⟨_, rfl⟩
                obtain ⟨UA, hUA⟩ : ∃ U, wv (GA + p.all k j) = U := ⟨_, rfl⟩
                obtain ⟨UA2, hUA2⟩ : ∃ U, wv (GA + p.all k (j + 1)) = U := ⟨_, rfl⟩
                obtain ⟨UP2, hUP2⟩ : ∃ U, wv (GP + p.pas k (j + 1)) = U := ⟨_, rfl⟩
                obtain ⟨US2, hUS2⟩ : ∃ U, wv (GS + p.sec k (j + 1)) = U := ⟨_, rfl⟩
                rw [hUA, hUA2] at e6
                have e7 : UP2 = UP := by rw [← hUP2, ← hUP, t1]
                have e8 : IntKind.i64.wrap (US + (M : Int)) = US2 := by rw [← hUS, ← hUS2, wv_add, t2, Nat.add_assoc]
                have E7 := Lib.hid e7
                clear t1 t2 e7
                have q1 : ac < (k : Int) := by omega
                have N1 := Lib.hid hUA2
                have N2 := Lib.hid hUP2
                have N3 := Lib.hid hUS2
                rw [hUP, hUS, hUA]
                clear hUA2 hUP2 hUS2 hUP hUS hUA hEE hDD hMM
                go_wp2_with fail
                go_quiet ((go_at_call 32; first | (with_reducible exact Calls.quiet_of_same (HX1.out _)) | (with_reducible exact Calls.quiet_of_same (HX2.out _))))
                go_wp2_with fail
                go_roundw
                case rel => exact ⟨j + 1, by omega, by go_num, by rw [N2.out, E7.out], by rw [N3.out], by rw [N1.out], drewn_below hbi _⟩
                case measure => exact step_in hjS
            · have t1 := A4.out k j (by omega) (by omega)
              have t2 := A7.out k j (by omega) (by omega)
              obtain ⟨UP, hUP⟩ : ∃ U, wv (GP + p.pas k j) = U := ⟨_, rfl⟩
              obtain ⟨US, hUS⟩ : ∃ U, wv (GS + p.sec k j) = U := ⟨_, rfl⟩
              obtain ⟨UA, hUA⟩ : ∃ U, wv (GA + p.all k j) = U := ⟨_, rfl⟩
              obtain ⟨UA2, hUA2⟩ : ∃ U, wv (GA + p.all k (j + 1)) = U := ⟨_, rfl⟩
              obtain ⟨UP2, hUP2⟩ : ∃ U, wv (GP + p.pas k (j + 1)) = U := ⟨_, rfl⟩
              obtain ⟨US2, hUS2⟩ : ∃ U, wv (GS + p.sec k (j + 1)) = U := ⟨_, rfl⟩
              rw [hUA, hUA2] at e6
              have e7 : UP2 = UP := by rw [← hUP2, ← hUP, t1]
              have e8 : US2 = US := by rw [← hUS2, ← hUS, t2]
              have E7 := Lib.hid e7
              have E8 := Lib.hid e8
              clear t1 t2 e7 e8
              have q1 : ac < (k : Int) := by omega
              have N1 := Lib.hid hUA2
              have N2 := Lib.hid hUP2
              have N3 := Lib.hid hUS2
              rw [hUP, hUS, hUA]
              clear hUA2 hUP2 hUS2 hUP hUS hUA hEE hDD hMM
              go_wp2_with fail
              go_quiet ((go_at_call 32; first | (with_reducible exact Calls.quiet_of_same (HX1.out _)) | (with_reducible exact Calls.quiet_of_same (HX2.out _))))
              go_wp2_with fail
              go_roundw
              case rel => exact ⟨j + 1, by omega, by go_num, by rw [N2.out, E7.out], by rw [N3.out, E8.out], by rw [N1.out], drewn_below hbi _⟩
              case measure => exact step_in hjS
        · obtain rfl : j = S + 1 := by omega
          have hgt : ¬ ((S + 1 : Nat) : Int) ≤ (S : Int) := by omega
          go_wp2_with fail
          go_roundw
          case rel => exact ⟨k + 1, by omega, by go_num, by rw [S1.out], by rw [S2.out], by rw [S3.out], hbel2⟩
          case measure => exact step_in hkC
    · obtain rfl : k = C + 1 := by omega
      have hgt : ¬ ((C + 1 : Nat) : Int) ≤ (C : Int) := by omega
      go_wp2
      exact bodyPost_ret (v := .tuple #[.int .i64 (wv GP), .int .i64 (wv GS), .int .i64 (wv GA), .int .i64 0]) (by simp [results, Try.results12, go_sem]) rfl ⟨rfl, hB2.trans (hbel.mono hB2.size)⟩
end Go.Proofs.Ytclcconllkfjiaa
