/- Contracts: the document's Ways and Bears. -/
import Derived.Test.YtclcconllkfjiaaU1
import Derived.Test.YtclcconllkfjiaaT3
import Derived.Test.YtclcconllkfjiaaT1
import Derived.Deep.QuietTactic
import Derived.BigQuiet
namespace Go.Proofs.Ytclcconllkfjiaa
set_option linter.unusedSimpArgs false
set_option linter.unusedVariables false
open Go.RowKit

theorem drewn_below {B : Nat} {a w : World} (h : Below B a w) (n : Nat) : Below B a (w.drewN n) := ⟨h.os, h.tape, h.output, h.size, h.block⟩
set_option maxRecDepth 100000 in
set_option maxHeartbeats 3200000 in
theorem refWays_any (n b c a : Int) (w : World) : Calls Try.prog 10 #[.int .i64 n, .int .i64 b, planV c a] w fun e w' => e = .returned (three (waysP n b c a)) ∧ Below w.heap.size w w' := by
  obtain ⟨W0, hW0⟩ : ∃ X, X = w.alloc (.cells #[.int .i64 c, .int .i64 a] 23) := ⟨_, rfl⟩
  have hB : Below w.heap.size w W0 := by rw [hW0]; exact (Below.refl _ _).alloc (Nat.le_refl _) _
  obtain ⟨P, hP⟩ : ∃ H, H = w.heap.size := ⟨_, rfl⟩
  have k0 : W0.heap[P]? = some (.cells #[.int .i64 c, .int .i64 a] 23 (0, 0)) := by rw [hW0, hP]; exact alloc_heap _ _
  have hPw : P < W0.heap.size := (Array.getElem?_eq_some_iff.1 k0).1
  have i1 := fun W => in_any n 1 50 W
  have i2 := fun W => in_any b 0 n W
  have i3 := fun W => refPlan_any c a n W
  unfold planV at i3 ⊢
  obtain ⟨c0, c1⟩ := two_cells k0
  by_cases h1 : inB n 1 50 = true
  · have v1 := inB_iff.1 h1
    rw [h1] at i1
    by_cases h2 : inB b 0 n = true
    · rw [h2] at i2
      have v2 := inB_iff.1 h2
      by_cases h3 : isPlanB c a n = true
      · rw [h3] at i3
        have h3' : inB c 0 n = true ∧ inB a 0 c = true := by unfold isPlanB at h3; rwa [Bool.and_eq_true] at h3
        have v3 := inB_iff.1 h3'.1
        have v4 := inB_iff.1 h3'.2
        have hr := ways_val v1 v2 v3 v4
        rw [hr]
        obtain ⟨N, rfl⟩ : ∃ N : Nat, n = N := ⟨n.toNat, by omega⟩
        obtain ⟨B, rfl⟩ : ∃ B : Nat, b = B := ⟨b.toNat, by omega⟩
        obtain ⟨C, rfl⟩ : ∃ C : Nat, c = C := ⟨c.toNat, by omega⟩
        have hu := fun W => upTo_any B (N - B) C a W (by omega) (by omega) (by omega)
        rw [show (B : Int) + ((N - B : Nat) : Int) = (N : Int) by omega] at hu
        have hc := fun W => choices_any N C W (by omega)
        rw [show chI N C = ch N C from if_neg (by omega)] at hc
        unfold three
        simp only [Int.toNat_natCast, show ((N : Int) - (B : Int)).toNat = N - B by omega]
        obtain ⟨F, hF⟩ : ∃ F, passN B (N - B) C a = F := ⟨_, rfl⟩
        obtain ⟨O, hO⟩ : ∃ F, ch N C = F := ⟨_, rfl⟩
        rw [hF] at hu ⊢
        rw [hO] at hc ⊢
        have I1 := Lib.hid i1
        have I2 := Lib.hid i2
        have I3 := Lib.hid i3
        have HU := Lib.hid hu
        have HC := Lib.hid hc
        clear i1 i2 i3 hu hc hF hO hr h1 h2 h3 h3' v1 v2 v3 v4
        go_enter Try.func10, Try.ntmps10
        go_wp2_with fail
        rw [← hW0, ← hP]
        clear hW0 hP
        refine (I1.out _).mono ?_
        rintro e w1 ⟨rfl, rfl⟩
        go_wp2_with fail
        refine (I2.out _).mono ?_
        rintro e w1 ⟨rfl, rfl⟩
        go_wp2_with fail
        refine (I3.out _).mono ?_
        rintro e w2 ⟨rfl, hb⟩
        have hB2 := hB.trans (hb.mono hB.size)
        have k2 := (hb.block _ hPw).trans k0
        clear c0 c1 hb hB
        obtain ⟨c0, c1⟩ := two_cells k2
        go_wp2_with fail
        go_quiet ((first | (go_at_call 28; with_reducible exact Calls.quiet_of_same (HU.out _)) | (go_at_call 29; with_reducible exact Calls.quiet_of_same (HC.out _))))
        go_wp2
        go_ret3
        exact ⟨rfl, drewn_below hB2 _⟩
      · have h3 : isPlanB c a n = false := by simpa using h3
        have hr : waysP n b c a = (0, 0, 2) := by unfold waysP; rw [h1, h2, h3]; rfl
        rw [hr]
        rw [h3] at i3
        have I1 := Lib.hid i1
        have I2 := Lib.hid i2
        have I3 := Lib.hid i3
        clear i1 i2 i3 hr h1 h2 h3 v1 v2
        go_enter Try.func10, Try.ntmps10
        go_wp2_with fail
        rw [← hW0, ← hP]
        clear hW0 hP
        refine (I1.out _).mono ?_
        rintro e w1 ⟨rfl, rfl⟩
        go_wp2_with fail
        refine (I2.out _).mono ?_
        rintro e w1 ⟨rfl, rfl⟩
        go_wp2_with fail
        refine (I3.out _).mono ?_
        rintro e w2 ⟨rfl, hb⟩
        have hB2 := hB.trans (hb.mono hB.size)
        go_wp2
        go_ret3
        exact ⟨rfl, hB2⟩
    · have h2 : inB b 0 n = false := by simpa using h2
      have hr : waysP n b c a = (0, 0, 2) := by unfold waysP; rw [h1, h2]; rfl
      rw [hr]
      rw [h2] at i2
      have I1 := Lib.hid i1
      have I2 := Lib.hid i2
      clear i1 i2 i3 hr h1 h2 v1
      go_enter Try.func10, Try.ntmps10
      go_wp2_with fail
      rw [← hW0, ← hP]
      clear hW0 hP
      refine (I1.out _).mono ?_
      rintro e w1 ⟨rfl, rfl⟩
      go_wp2_with fail
      refine (I2.out _).mono ?_
      rintro e w1 ⟨rfl, rfl⟩
      go_wp2
      go_ret3
      exact ⟨rfl, hB⟩
  · have h1 : inB n 1 50 = false := by simpa using h1
    have hr : waysP n b c a = (0, 0, 1) := by unfold waysP; rw [h1]; rfl
    rw [hr]
    rw [h1] at i1
    have I1 := Lib.hid i1
    clear i1 i2 i3 hr h1
    go_enter Try.func10, Try.ntmps10
    go_wp2_with fail
    rw [← hW0, ← hP]
    clear hW0 hP
    refine (I1.out _).mono ?_
    rintro e w1 ⟨rfl, rfl⟩
    go_wp2
    go_ret3
    exact ⟨rfl, hB⟩
set_option maxRecDepth 100000 in
set_option maxHeartbeats 3200000 in
theorem refBears_any (N B C : Nat) (f d : Int) (w : World) (hN : N ≤ 50) (hB : B ≤ N) (hC : C ≤ N) (hf : 0 ≤ f ∧ f ≤ C) (hd : 0 ≤ d ∧ d ≤ 1000) : Calls Try.prog 37 #[.int .i64 N, .int .i64 B, .int .i64 C, .int .i64 f, .int .i64 d] w fun e w' => e = .returned (.bool (canF N C f d B)) ∧ w' = w := by
  have hu := fun W => upTo_any B (N - B) C f W (by omega) (by omega) (by omega)
  have hu2 := fun W => upTo_any B (N - B) C (f - 1) W (by omega) (by omega) (by omega)
  rw [show (B : Int) + ((N - B : Nat) : Int) = (N : Int) by omega] at hu hu2
  have hc := fun W => choices_any N C W (by omega)
  rw [show chI N C = ch N C from if_neg (by omega)] at hc
  have hb1 := passN_le B (N - B) C f
  have hb2 := passN_le B (N - B) C (f - 1)
  rw [show B + (N - B) = N by omega] at hb1 hb2
  have hb3 := ch_bd N C hN
  rw [canF_is N C f d B hB]
  unfold lowB highB
  obtain ⟨F, hF⟩ : ∃ F, passN B (N - B) C f = F := ⟨_, rfl⟩
  obtain ⟨G, hG⟩ : ∃ F, passN B (N - B) C (f - 1) = F := ⟨_, rfl⟩
  obtain ⟨O, hO⟩ : ∃ F, ch N C = F := ⟨_, rfl⟩
  rw [hF] at hu hb1 ⊢
  rw [hG] at hu2 hb2 ⊢
  rw [hO] at hc hb1 hb2 hb3 ⊢
  have m1 := Int.mul_le_mul_of_nonneg_left hd.2 (Int.natCast_nonneg O)
  have m2 := Int.mul_nonneg (Int.natCast_nonneg O) hd.1
  obtain ⟨M, hM⟩ : ∃ M, (O : Int) * d = M := ⟨_, rfl⟩
  rw [hM] at m1 m2 ⊢
  have e1 : IntKind.i64.wrap (f - 1) = f - 1 := IntWalk.i64_in _ (by omega)
  have e2 : IntKind.i64.wrap ((O : Int) - (G : Int)) = (O : Int) - (G : Int) := IntWalk.i64_in _ (by omega)
  have e3 : IntKind.i64.wrap ((F : Int) * 1000) = (F : Int) * 1000 := IntWalk.i64_in _ (by omega)
  have e4 : IntKind.i64.wrap (((O : Int) - (G : Int)) * 1000) = ((O : Int) - (G : Int)) * 1000 := IntWalk.i64_in _ (by omega)
  have e5 : IntKind.i64.wrap ((O : Int) * d) = M := by rw [hM]; exact IntWalk.i64_in _ (by omega)
  obtain ⟨L, hL⟩ : ∃ L, decide (M < (F : Int) * 1000) = L := ⟨_, rfl⟩
  obtain ⟨R, hR⟩ : ∃ L, decide (M < ((O : Int) - (G : Int)) * 1000) = L := ⟨_, rfl⟩
  rw [hL, hR]
  have HU := Lib.hid hu
  have HU2 := Lib.hid hu2
  have HC := Lib.hid hc
  clear hu hu2 hc hF hG hO hb1 hb2 hb3 m1 m2 hM
  cases L with
  | false =>
    go_enter Try.func37, Try.ntmps37
    go_wp2_with fail
    refine (HC.out _).mono ?_
    rintro e w1 ⟨rfl, rfl⟩
    go_wp2_with fail
    refine (HU.out _).mono ?_
    rintro e w1 ⟨rfl, rfl⟩
    go_wp2_with fail
    refine (HU2.out _).mono ?_
    rintro e w1 ⟨rfl, rfl⟩
    go_wp2
    go_ret
    exact ⟨rfl, rfl⟩
  | true =>
    go_enter Try.func37, Try.ntmps37
    go_wp2_with fail
    refine (HC.out _).mono ?_
    rintro e w1 ⟨rfl, rfl⟩
    go_wp2_with fail
    refine (HU.out _).mono ?_
    rintro e w1 ⟨rfl, rfl⟩
    go_wp2_with fail
    refine (HU2.out _).mono ?_
    rintro e w1 ⟨rfl, rfl⟩
    go_wp2
    go_ret
    exact ⟨rfl, rfl⟩
end Go.Proofs.Ytclcconllkfjiaa
