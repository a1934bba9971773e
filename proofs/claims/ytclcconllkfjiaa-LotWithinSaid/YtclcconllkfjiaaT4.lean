/- LotWithin: its walk. -/
import Derived.Test.YtclcconllkfjiaaT3
import Derived.Test.YtclcconllkfjiaaT1
import Derived.Test.YtclcconllkfjiaaA21
namespace Go.Proofs.Ytclcconllkfjiaa
set_option linter.unusedSimpArgs false
set_option linter.unusedVariables false
open Go.RowKit

theorem two_cells' {X : World} {b : Nat} {u v : Value} {t : TypeId} (h : X.heap[b]? = some (.cells #[u, v] t (0, 0))) : X.cell? ⟨b, 0, none⟩ = some u ∧ X.cell? ⟨b, 1, none⟩ = some v := by simp [World.cell?, h]
/-- an error: a span of zeros -/
theorem within_err {n c f d : Int} (h : ¬ (inB n 1 50 = true ∧ inB c 0 n = true ∧ inB f 0 c = true ∧ inB d 0 1000 = true)) : withinP n c f d = (0, 0, 1) ∨ (withinP n c f d = (0, 0, 2) ∧ (d < 0 ∨ 0 ≤ d ∧ 1000 < d)) := by
  unfold withinP
  cases h1 : inB n 1 50 with
  | false => exact .inl (if_pos rfl)
  | true =>
    cases h2 : inB c 0 n with
    | false => exact .inl (by simp)
    | true =>
      cases h3 : inB f 0 c with
      | false => exact .inl (by simp)
      | true =>
        cases h4 : inB d 0 1000 with
        | false =>
          refine .inr ⟨by simp, ?_⟩
          unfold inB at h4
          rw [decide_eq_false_iff_not] at h4
          omega
        | true => exact absurd ⟨h1, h2, h3, h4⟩ h
theorem within_valid {n c f d : Int} (h1 : inB n 1 50 = true) (h2 : inB c 0 n = true) (h3 : inB f 0 c = true) (h4 : inB d 0 1000 = true) : withinP n c f d = withinR n.toNat c.toNat f d := by
  unfold withinP; rw [h1, h2, h3, h4]; rfl
set_option maxRecDepth 100000 in
set_option maxHeartbeats 6400000 in
theorem within_bad (n c f d ow bw : Int) (w : World) (h : ¬ (inB n 1 50 = true ∧ inB c 0 n = true ∧ inB f 0 c = true ∧ inB d 0 1000 = true)) : Calls Try.prog 7 #[.int .i64 n, .int .i64 c, .int .i64 f, .int .i64 d, .int .u8 ow, .int .u8 bw] w fun e w' => e = .returned (.bool true) ∧ Below w.heap.size w w' := by
  have hwi := fun W => within_any n c f d W
  rcases within_err h with he | ⟨he, hd⟩
  · rw [he] at hwi
    unfold spanErr at hwi
    simp only [] at hwi
    have HW := Lib.hid hwi
    clear hwi he h
    go_enter Try.func7, Try.ntmps7
    go_wp2_with fail
    refine (HW.out _).mono ?_
    rintro e W1 ⟨rfl, hb1⟩
    have k0 := alloc_heap W1 (.cells #[.int .i64 0, .int .i64 0] 32)
    obtain ⟨c0, c1⟩ := two_cells' k0
    clear k0
    go_wp2_with fail
    refine (alive_any _).mono ?_
    rintro e W3 ⟨rfl, hb3⟩
    go_wp2
    go_ret
    exact ⟨rfl, (hb1.alloc hb1.size _).trans (hb3.mono (by have := hb1.size; simp; omega))⟩
  · rw [he] at hwi
    unfold spanErr at hwi
    simp only [] at hwi
    have HW := Lib.hid hwi
    clear hwi he h
    rcases hd with hd | ⟨hd, hd2⟩
    all_goals
      go_enter Try.func7, Try.ntmps7
      go_wp2_with fail
      refine (HW.out _).mono ?_
      rintro e W1 ⟨rfl, hb1⟩
      have k0 := alloc_heap W1 (.cells #[.int .i64 0, .int .i64 0] 32)
      obtain ⟨c0, c1⟩ := two_cells' k0
      clear k0
      go_wp2_with fail
      refine (alive_any _).mono ?_
      rintro e W3 ⟨rfl, hb3⟩
      go_wp2
      go_ret
      exact ⟨rfl, (hb1.alloc hb1.size _).trans (hb3.mono (by have := hb1.size; simp; omega))⟩
theorem tmod_nn {a b : Int} (h : 0 ≤ a) : a.tmod b = a % b := Int.tmod_eq_emod_of_nonneg h
set_option maxRecDepth 100000 in
set_option maxHeartbeats 12800000 in
theorem within_walk (N C K : Nat) (f d ow bw : Int) (lo hi er lo2 hi2 er2 : Int) (F O G : Nat) (L H : Bool) (w : World)
    (v1 : 1 ≤ N ∧ N ≤ 50) (v2 : C ≤ N) (v3 : 0 ≤ f ∧ f ≤ C) (v4 : 0 ≤ d ∧ d ≤ 1000) (v5 : 0 ≤ ow ∧ ow ≤ 255) (v6 : 0 ≤ bw ∧ bw ≤ 255) (hK : ow % ((N : Int) + 1) = K)
    (h1 : withinP N C f d = (lo, hi, er)) (h2 : withinP N C f (min 1000 (d + bw)) = (lo2, hi2, er2)) (h3 : waysP N K C f = ((F : Int), (O : Int), 0)) (h4 : 0 < f → waysP N K C (f - 1) = ((G : Int), (O : Int), 0)) (h5 : ¬ 0 < f → G = 0)
    (hL : decide ((O : Int) * d < (F : Int) * 1000) = L) (hH : decide ((O : Int) * d < ((O : Int) - (G : Int)) * 1000) = H) (bF : F ≤ 1125899906842624) (bO : O ≤ 1125899906842624) (hGO : G ≤ O)
    (hc : (er = 4 ∧ lo = 0 ∧ hi = 0 ∧ (L = true → H = false)) ∨ (er = 0 ∧ 0 ≤ lo ∧ hi ≤ N ∧ lo ≤ hi ∧ (L && H) = decide (lo ≤ (K : Int) ∧ (K : Int) ≤ hi) ∧ (hi < (K : Int) → L = false) ∧ ((K : Int) < lo → H = false) ∧ (er2 = 4 ∨ (er2 = 0 ∧ lo ≤ lo2 ∧ hi2 ≤ hi)))) :
    Calls Try.prog 7 #[.int .i64 N, .int .i64 C, .int .i64 f, .int .i64 d, .int .u8 ow, .int .u8 bw] w fun e w' => e = .returned (.bool true) ∧ Below w.heap.size w w' := by
  obtain ⟨n1, n2⟩ := v1
  obtain ⟨f1, f2⟩ := v3
  obtain ⟨d1, d2⟩ := v4
  obtain ⟨o1, o2⟩ := v5
  obtain ⟨b1, b2⟩ := v6
  obtain ⟨d', hd'⟩ : ∃ d', min 1000 (d + bw) = d' := ⟨_, rfl⟩
  have hif : (if d + bw < 1000 then d + bw else 1000) = d' := by rw [← hd']; split <;> omega
  have hwi := fun W => within_any N C f d W
  have hwi2 := fun W => within_any N C f (min 1000 (d + bw)) W
  have hwa := fun W => ways_any N K C f W
  have hpl := fun W => refPlan_any C f N W
  rw [show isPlanB C f N = true by unfold isPlanB; rw [inB_iff.2 (by omega), inB_iff.2 (by omega)]; rfl] at hpl
  rw [h1] at hwi
  rw [h2, hd'] at hwi2
  rw [h3] at hwa
  unfold spanErr at hwi hwi2
  unfold three planV at hwa
  unfold planV at hpl
  simp only [] at hwi hwi2 hwa
  have HW := Lib.hid hwi
  have HW2 := Lib.hid hwi2
  have HWA := Lib.hid hwa
  have HPL := Lib.hid hpl
  have H4 := Lib.hid h4
  have H5 := Lib.hid h5
  have HC := Lib.hid hc
  have HGO := Lib.hid hGO
  have HK := Lib.hid hK
  have hr0 : ¬ (N : Int) + 1 = 0 := by omega
  have hr1 : Int.tmod ow ((N : Int) + 1) = (K : Int) := by rw [tmod_nn o1, hK]
  have e1 : IntKind.i64.wrap ow = ow := IntWalk.i64_in _ (by omega)
  have e2 : IntKind.i64.wrap bw = bw := IntWalk.i64_in _ (by omega)
  have e3 : IntKind.i64.wrap ((N : Int) + 1) = (N : Int) + 1 := IntWalk.i64_in _ (by omega)
  have e4 : IntKind.i64.wrap (f - 1) = f - 1 := IntWalk.i64_in _ (by omega)
  have e5 : IntKind.i64.wrap ((F : Int) * 1000) = (F : Int) * 1000 := IntWalk.i64_in _ (by omega)
  have e6 : IntKind.i64.wrap ((O : Int) * d) = (O : Int) * d := by
    have := Int.mul_le_mul_of_nonneg_left d2 (Int.natCast_nonneg O)
    have := Int.mul_nonneg (Int.natCast_nonneg O) d1
    exact IntWalk.i64_in _ (by omega)
  have e7 : IntKind.i64.wrap ((O : Int) - (G : Int)) = (O : Int) - (G : Int) := IntWalk.i64_in _ (by omega)
  have e8 : IntKind.i64.wrap (((O : Int) - (G : Int)) * 1000) = ((O : Int) - (G : Int)) * 1000 := IntWalk.i64_in _ (by omega)
  have e9 : IntKind.i64.wrap (d + bw) = d + bw := IntWalk.i64_in _ (by omega)
  have l1 : ¬ (N : Int) < 1 := by omega
  have l2 : ¬ 50 < (N : Int) := by omega
  have l3 : ¬ d < 0 := by omega
  have l4 : ¬ 1000 < d := by omega
  clear hwi hwi2 hwa hpl h1 h2 h3 h4 h5 hc bF bO hd' hK hGO
  by_cases h0 : 0 < f
  · have HW4 : Hid (∀ W, Calls Try.prog 9 #[.int .i64 N, .int .i64 K, planV C (f - 1)] W fun e w' => e = .returned (three ((G : Int), (O : Int), 0)) ∧ Below W.heap.size W w') := Lib.hid (fun W => by have := ways_any N K C (f - 1) W; rw [H4.out h0] at this; exact this)
    unfold three planV at HW4
    simp only [] at HW4
    clear H4 H5
    rcases HC.out with ⟨rfl, rfl, rfl, hc⟩ | ⟨rfl, hc⟩
    · clear HC
      have HC := Lib.hid hc
      clear hc
      go_enter Try.func7, Try.ntmps7
      go_wp2_with fail
      refine (HW.out _).mono ?_
      rintro e W1 ⟨rfl, hb1⟩
      have k0 : (W1.alloc (.cells #[.int .i64 0, .int .i64 0] 32)).heap[W1.heap.size]? = some (.cells #[.int .i64 0, .int .i64 0] 32 (0, 0)) := alloc_heap _ _
      have hB : Below w.heap.size w (W1.alloc (.cells #[.int .i64 0, .int .i64 0] 32)) := hb1.alloc hb1.size _
      have hPw : W1.heap.size < (W1.alloc (.cells #[.int .i64 0, .int .i64 0] 32)).heap.size := by simp
      clear hb1
      go_upto_region 2 with fail
      obtain ⟨X1, hX1⟩ : ∃ X, X = W1.alloc (.cells #[.int .i64 0, .int .i64 0] 32) := ⟨_, rfl⟩
      obtain ⟨P, hP⟩ : ∃ P, P = W1.heap.size := ⟨_, rfl⟩
      rw [← hX1] at k0 hB hPw ⊢
      rw [← hP] at k0 hPw ⊢
      clear hX1 hP
      go_wp2_with fail
      refine (HPL.out _).mono ?_
      rintro e W2 ⟨rfl, hb2⟩
      have k0 := (hb2.block _ hPw).trans k0
      have hB := hB.trans (hb2.mono hB.size)
      have hPw := Nat.lt_of_lt_of_le hPw hb2.size
      clear hb2
      go_wp2_with fail
      refine (HWA.out _).mono ?_
      rintro e W3 ⟨rfl, hb3⟩
      have k0 := (hb3.block _ hPw).trans k0
      have hB := hB.trans (hb3.mono hB.size)
      have hPw := Nat.lt_of_lt_of_le hPw hb3.size
      clear hb3
      go_wp2_with fail
      refine (HW4.out _).mono ?_
      rintro e W4 ⟨rfl, hb4⟩
      have k0 := (hb4.block _ hPw).trans k0
      have hB := hB.trans (hb4.mono hB.size)
      have hPw := Nat.lt_of_lt_of_le hPw hb4.size
      clear hb4
      obtain ⟨c0, c1⟩ := two_cells' k0
      go_upto_region 14 with fail
      clear hL hH
      rcases L with _ | _
      · rcases H with _ | _
        · go_wp2_with fail
          refine (alive_any _).mono ?_
          rintro e W9 ⟨rfl, hb9⟩
          go_wp2
          go_ret
          exact ⟨rfl, hB.trans (hb9.mono hB.size)⟩
        · go_wp2_with fail
          refine (alive_any _).mono ?_
          rintro e W9 ⟨rfl, hb9⟩
          go_wp2
          go_ret
          exact ⟨rfl, hB.trans (hb9.mono hB.size)⟩
      · obtain rfl : H = false := HC.out rfl
        go_wp2_with fail
        refine (alive_any _).mono ?_
        rintro e W9 ⟨rfl, hb9⟩
        go_wp2
        go_ret
        exact ⟨rfl, hB.trans (hb9.mono hB.size)⟩
    · clear HC
      have HC := Lib.hid hc
      clear hc
      go_enter Try.func7, Try.ntmps7
      go_wp2_with fail
      refine (HW.out _).mono ?_
      rintro e W1 ⟨rfl, hb1⟩
      have k0 : (W1.alloc (.cells #[.int .i64 lo, .int .i64 hi] 32)).heap[W1.heap.size]? = some (.cells #[.int .i64 lo, .int .i64 hi] 32 (0, 0)) := alloc_heap _ _
      have hB : Below w.heap.size w (W1.alloc (.cells #[.int .i64 lo, .int .i64 hi] 32)) := hb1.alloc hb1.size _
      have hPw : W1.heap.size < (W1.alloc (.cells #[.int .i64 lo, .int .i64 hi] 32)).heap.size := by simp
      clear hb1
      go_upto_region 2 with fail
      obtain ⟨X1, hX1⟩ : ∃ X, X = W1.alloc (.cells #[.int .i64 lo, .int .i64 hi] 32) := ⟨_, rfl⟩
      obtain ⟨P, hP⟩ : ∃ P, P = W1.heap.size := ⟨_, rfl⟩
      rw [← hX1] at k0 hB hPw ⊢
      rw [← hP] at k0 hPw ⊢
      clear hX1 hP
      go_wp2_with fail
      refine (HPL.out _).mono ?_
      rintro e W2 ⟨rfl, hb2⟩
      have k0 := (hb2.block _ hPw).trans k0
      have hB := hB.trans (hb2.mono hB.size)
      have hPw := Nat.lt_of_lt_of_le hPw hb2.size
      clear hb2
      go_wp2_with fail
      refine (HWA.out _).mono ?_
      rintro e W3 ⟨rfl, hb3⟩
      have k0 := (hb3.block _ hPw).trans k0
      have hB := hB.trans (hb3.mono hB.size)
      have hPw := Nat.lt_of_lt_of_le hPw hb3.size
      clear hb3
      go_wp2_with fail
      refine (HW4.out _).mono ?_
      rintro e W4 ⟨rfl, hb4⟩
      have k0 := (hb4.block _ hPw).trans k0
      have hB := hB.trans (hb4.mono hB.size)
      have hPw := Nat.lt_of_lt_of_le hPw hb4.size
      clear hb4
      obtain ⟨c0, c1⟩ := two_cells' k0
      go_upto_region 14 with fail
      clear hL hH
      obtain ⟨hh1, hh2, hh3, hLH, hh5, hh6, hh7⟩ := HC.out
      have q1 : ¬ lo < 0 := by omega
      have q2 : ¬ (N : Int) < hi := by omega
      have q3 : ¬ hi < lo := by omega
      have HH7 := Lib.hid hh7
      clear hh7
      by_cases ka : lo ≤ (K : Int)
      · by_cases kb : (K : Int) ≤ hi
        · rw [decide_eq_true (And.intro ka kb), Bool.and_eq_true] at hLH
          obtain ⟨rfl, rfl⟩ := hLH
          clear hh5 hh6
          have kb' : ¬ hi < (K : Int) := by omega
          have ka' : ¬ (K : Int) < lo := by omega
          rcases HH7.out with rfl | ⟨rfl, r1, r2⟩
          · go_upto_region 19 with fail
            go_wp2_with fail
            refine (HW2.out _).mono ?_
            rintro e W5 ⟨rfl, hb5⟩
            have k0 := (hb5.block _ hPw).trans k0
            have hB := hB.trans (hb5.mono hB.size)
            have hPw := Nat.lt_of_lt_of_le hPw hb5.size
            have k1 : (W5.alloc (.cells #[.int .i64 lo2, .int .i64 hi2] 32)).heap[W5.heap.size]? = some (.cells #[.int .i64 lo2, .int .i64 hi2] 32 (0, 0)) := alloc_heap _ _
            have k0 : (W5.alloc (.cells #[.int .i64 lo2, .int .i64 hi2] 32)).heap[P]? = _ := (Below.heap_alloc _ _ _ hPw).trans k0
            have hB : Below w.heap.size w (W5.alloc (.cells #[.int .i64 lo2, .int .i64 hi2] 32)) := hB.alloc hB.size _
            clear hb5 c0 c1 hPw
            go_upto_region 20 with fail
            obtain ⟨X2, hX2⟩ : ∃ X, X = W5.alloc (.cells #[.int .i64 lo2, .int .i64 hi2] 32) := ⟨_, rfl⟩
            obtain ⟨P2, hP2⟩ : ∃ P, P = W5.heap.size := ⟨_, rfl⟩
            rw [← hX2] at k0 k1 hB ⊢
            rw [← hP2] at k1 ⊢
            clear hX2 hP2
            obtain ⟨c0, c1⟩ := two_cells' k0
            obtain ⟨c2, c3⟩ := two_cells' k1
            clear k0 k1
            go_wp2_with fail
            refine (alive_any _).mono ?_
            rintro e W9 ⟨rfl, hb9⟩
            go_wp2
            go_ret
            exact ⟨rfl, hB.trans (hb9.mono hB.size)⟩
          · go_upto_region 19 with fail
            go_wp2_with fail
            refine (HW2.out _).mono ?_
            rintro e W5 ⟨rfl, hb5⟩
            have k0 := (hb5.block _ hPw).trans k0
            have hB := hB.trans (hb5.mono hB.size)
            have hPw := Nat.lt_of_lt_of_le hPw hb5.size
            have k1 : (W5.alloc (.cells #[.int .i64 lo2, .int .i64 hi2] 32)).heap[W5.heap.size]? = some (.cells #[.int .i64 lo2, .int .i64 hi2] 32 (0, 0)) := alloc_heap _ _
            have k0 : (W5.alloc (.cells #[.int .i64 lo2, .int .i64 hi2] 32)).heap[P]? = _ := (Below.heap_alloc _ _ _ hPw).trans k0
            have hB : Below w.heap.size w (W5.alloc (.cells #[.int .i64 lo2, .int .i64 hi2] 32)) := hB.alloc hB.size _
            clear hb5 c0 c1 hPw
            go_upto_region 20 with fail
            obtain ⟨X2, hX2⟩ : ∃ X, X = W5.alloc (.cells #[.int .i64 lo2, .int .i64 hi2] 32) := ⟨_, rfl⟩
            obtain ⟨P2, hP2⟩ : ∃ P, P = W5.heap.size := ⟨_, rfl⟩
            rw [← hX2] at k0 k1 hB ⊢
            rw [← hP2] at k1 ⊢
            clear hX2 hP2
            obtain ⟨c0, c1⟩ := two_cells' k0
            obtain ⟨c2, c3⟩ := two_cells' k1
            clear k0 k1
            go_wp2_with fail
            refine (alive_any _).mono ?_
            rintro e W9 ⟨rfl, hb9⟩
            go_wp2
            go_ret
            exact ⟨rfl, hB.trans (hb9.mono hB.size)⟩
        · have kb2 : hi < (K : Int) := by omega
          have ka' : ¬ (K : Int) < lo := by omega
          obtain rfl := hh5 kb2
          clear hLH hh5 hh6
          rcases H with _ | _
          · rcases HH7.out with rfl | ⟨rfl, r1, r2⟩
            · go_upto_region 19 with fail
              go_wp2_with fail
              refine (HW2.out _).mono ?_
              rintro e W5 ⟨rfl, hb5⟩
              have k0 := (hb5.block _ hPw).trans k0
              have hB := hB.trans (hb5.mono hB.size)
              have hPw := Nat.lt_of_lt_of_le hPw hb5.size
              have k1 : (W5.alloc (.cells #[.int .i64 lo2, .int .i64 hi2] 32)).heap[W5.heap.size]? = some (.cells #[.int .i64 lo2, .int .i64 hi2] 32 (0, 0)) := alloc_heap _ _
              have k0 : (W5.alloc (.cells #[.int .i64 lo2, .int .i64 hi2] 32)).heap[P]? = _ := (Below.heap_alloc _ _ _ hPw).trans k0
              have hB : Below w.heap.size w (W5.alloc (.cells #[.int .i64 lo2, .int .i64 hi2] 32)) := hB.alloc hB.size _
              clear hb5 c0 c1 hPw
              go_upto_region 20 with fail
              obtain ⟨X2, hX2⟩ : ∃ X, X = W5.alloc (.cells #[.int .i64 lo2, .int .i64 hi2] 32) := ⟨_, rfl⟩
              obtain ⟨P2, hP2⟩ : ∃ P, P = W5.heap.size := ⟨_, rfl⟩
              rw [← hX2] at k0 k1 hB ⊢
              rw [← hP2] at k1 ⊢
              clear hX2 hP2
              obtain ⟨c0, c1⟩ := two_cells' k0
              obtain ⟨c2, c3⟩ := two_cells' k1
              clear k0 k1
              go_wp2_with fail
              refine (alive_any _).mono ?_
              rintro e W9 ⟨rfl, hb9⟩
              go_wp2
              go_ret
              exact ⟨rfl, hB.trans (hb9.mono hB.size)⟩
            · go_upto_region 19 with fail
              go_wp2_with fail
              refine (HW2.out _).mono ?_
              rintro e W5 ⟨rfl, hb5⟩
              have k0 := (hb5.block _ hPw).trans k0
              have hB := hB.trans (hb5.mono hB.size)
              have hPw := Nat.lt_of_lt_of_le hPw hb5.size
              have k1 : (W5.alloc (.cells #[.int .i64 lo2, .int .i64 hi2] 32)).heap[W5.heap.size]? = some (.cells #[.int .i64 lo2, .int .i64 hi2] 32 (0, 0)) := alloc_heap _ _
              have k0 : (W5.alloc (.cells #[.int .i64 lo2, .int .i64 hi2] 32)).heap[P]? = _ := (Below.heap_alloc _ _ _ hPw).trans k0
              have hB : Below w.heap.size w (W5.alloc (.cells #[.int .i64 lo2, .int .i64 hi2] 32)) := hB.alloc hB.size _
              clear hb5 c0 c1 hPw
              go_upto_region 20 with fail
              obtain ⟨X2, hX2⟩ : ∃ X, X = W5.alloc (.cells #[.int .i64 lo2, .int .i64 hi2] 32) := ⟨_, rfl⟩
              obtain ⟨P2, hP2⟩ : ∃ P, P = W5.heap.size := ⟨_, rfl⟩
              rw [← hX2] at k0 k1 hB ⊢
              rw [← hP2] at k1 ⊢
              clear hX2 hP2
              obtain ⟨c0, c1⟩ := two_cells' k0
              obtain ⟨c2, c3⟩ := two_cells' k1
              clear k0 k1
              go_wp2_with fail
              refine (alive_any _).mono ?_
              rintro e W9 ⟨rfl, hb9⟩
              go_wp2
              go_ret
              exact ⟨rfl, hB.trans (hb9.mono hB.size)⟩
          · rcases HH7.out with rfl | ⟨rfl, r1, r2⟩
            · go_upto_region 19 with fail
              go_wp2_with fail
              refine (HW2.out _).mono ?_
              rintro e W5 ⟨rfl, hb5⟩
              have k0 := (hb5.block _ hPw).trans k0
              have hB := hB.trans (hb5.mono hB.size)
              have hPw := Nat.lt_of_lt_of_le hPw hb5.size
              have k1 : (W5.alloc (.cells #[.int .i64 lo2, .int .i64 hi2] 32)).heap[W5.heap.size]? = some (.cells #[.int .i64 lo2, .int .i64 hi2] 32 (0, 0)) := alloc_heap _ _
              have k0 : (W5.alloc (.cells #[.int .i64 lo2, .int .i64 hi2] 32)).heap[P]? = _ := (Below.heap_alloc _ _ _ hPw).trans k0
              have hB : Below w.heap.size w (W5.alloc (.cells #[.int .i64 lo2, .int .i64 hi2] 32)) := hB.alloc hB.size _
              clear hb5 c0 c1 hPw
              go_upto_region 20 with fail
              obtain ⟨X2, hX2⟩ : ∃ X, X = W5.alloc (.cells #[.int .i64 lo2, .int .i64 hi2] 32) := ⟨_, rfl⟩
              obtain ⟨P2, hP2⟩ : ∃ P, P = W5.heap.size := ⟨_, rfl⟩
              rw [← hX2] at k0 k1 hB ⊢
              rw [← hP2] at k1 ⊢
              clear hX2 hP2
              obtain ⟨c0, c1⟩ := two_cells' k0
              obtain ⟨c2, c3⟩ := two_cells' k1
              clear k0 k1
              go_wp2_with fail
              refine (alive_any _).mono ?_
              rintro e W9 ⟨rfl, hb9⟩
              go_wp2
              go_ret
              exact ⟨rfl, hB.trans (hb9.mono hB.size)⟩
            · go_upto_region 19 with fail
              go_wp2_with fail
              refine (HW2.out _).mono ?_
              rintro e W5 ⟨rfl, hb5⟩
              have k0 := (hb5.block _ hPw).trans k0
              have hB := hB.trans (hb5.mono hB.size)
              have hPw := Nat.lt_of_lt_of_le hPw hb5.size
              have k1 : (W5.alloc (.cells #[.int .i64 lo2, .int .i64 hi2] 32)).heap[W5.heap.size]? = some (.cells #[.int .i64 lo2, .int .i64 hi2] 32 (0, 0)) := alloc_heap _ _
              have k0 : (W5.alloc (.cells #[.int .i64 lo2, .int .i64 hi2] 32)).heap[P]? = _ := (Below.heap_alloc _ _ _ hPw).trans k0
              have hB : Below w.heap.size w (W5.alloc (.cells #[.int .i64 lo2, .int .i64 hi2] 32)) := hB.alloc hB.size _
              clear hb5 c0 c1 hPw
              go_upto_region 20 with fail
              obtain ⟨X2, hX2⟩ : ∃ X, X = W5.alloc (.cells #[.int .i64 lo2, .int .i64 hi2] 32) := ⟨_, rfl⟩
              obtain ⟨P2, hP2⟩ : ∃ P, P = W5.heap.size := ⟨_, rfl⟩
              rw [← hX2] at k0 k1 hB ⊢
              rw [← hP2] at k1 ⊢
              clear hX2 hP2
              obtain ⟨c0, c1⟩ := two_cells' k0
              obtain ⟨c2, c3⟩ := two_cells' k1
              clear k0 k1
              go_wp2_with fail
              refine (alive_any _).mono ?_
              rintro e W9 ⟨rfl, hb9⟩
              go_wp2
              go_ret
              exact ⟨rfl, hB.trans (hb9.mono hB.size)⟩
      · have ka2 : (K : Int) < lo := by omega
        have kb' : ¬ hi < (K : Int) := by omega
        obtain rfl := hh6 ka2
        clear hLH hh5 hh6
        rcases L with _ | _
        · rcases HH7.out with rfl | ⟨rfl, r1, r2⟩
          · go_upto_region 19 with fail
            go_wp2_with fail
            refine (HW2.out _).mono ?_
            rintro e W5 ⟨rfl, hb5⟩
            have k0 := (hb5.block _ hPw).trans k0
            have hB := hB.trans (hb5.mono hB.size)
            have hPw := Nat.lt_of_lt_of_le hPw hb5.size
            have k1 : (W5.alloc (.cells #[.int .i64 lo2, .int .i64 hi2] 32)).heap[W5.heap.size]? = some (.cells #[.int .i64 lo2, .int .i64 hi2] 32 (0, 0)) := alloc_heap _ _
            have k0 : (W5.alloc (.cells #[.int .i64 lo2, .int .i64 hi2] 32)).heap[P]? = _ := (Below.heap_alloc _ _ _ hPw).trans k0
            have hB : Below w.heap.size w (W5.alloc (.cells #[.int .i64 lo2, .int .i64 hi2] 32)) := hB.alloc hB.size _
            clear hb5 c0 c1 hPw
            go_upto_region 20 with fail
            obtain ⟨X2, hX2⟩ : ∃ X, X = W5.alloc (.cells #[.int .i64 lo2, .int .i64 hi2] 32) := ⟨_, rfl⟩
            obtain ⟨P2, hP2⟩ : ∃ P, P = W5.heap.size := ⟨_, rfl⟩
            rw [← hX2] at k0 k1 hB ⊢
            rw [← hP2] at k1 ⊢
            clear hX2 hP2
            obtain ⟨c0, c1⟩ := two_cells' k0
            obtain ⟨c2, c3⟩ := two_cells' k1
            clear k0 k1
            go_wp2_with fail
            refine (alive_any _).mono ?_
            rintro e W9 ⟨rfl, hb9⟩
            go_wp2
            go_ret
            exact ⟨rfl, hB.trans (hb9.mono hB.size)⟩
          · go_upto_region 19 with fail
            go_wp2_with fail
            refine (HW2.out _).mono ?_
            rintro e W5 ⟨rfl, hb5⟩
            have k0 := (hb5.block _ hPw).trans k0
            have hB := hB.trans (hb5.mono hB.size)
            have hPw := Nat.lt_of_lt_of_le hPw hb5.size
            have k1 : (W5.alloc (.cells #[.int .i64 lo2, .int .i64 hi2] 32)).heap[W5.heap.size]? = some (.cells #[.int .i64 lo2, .int .i64 hi2] 32 (0, 0)) := alloc_heap _ _
            have k0 : (W5.alloc (.cells #[.int .i64 lo2, .int .i64 hi2] 32)).heap[P]? = _ := (Below.heap_alloc _ _ _ hPw).trans k0
            have hB : Below w.heap.size w (W5.alloc (.cells #[.int .i64 lo2, .int .i64 hi2] 32)) := hB.alloc hB.size _
            clear hb5 c0 c1 hPw
            go_upto_region 20 with fail
            obtain ⟨X2, hX2⟩ : ∃ X, X = W5.alloc (.cells #[.int .i64 lo2, .int .i64 hi2] 32) := ⟨_, rfl⟩
            obtain ⟨P2, hP2⟩ : ∃ P, P = W5.heap.size := ⟨_, rfl⟩
            rw [← hX2] at k0 k1 hB ⊢
            rw [← hP2] at k1 ⊢
            clear hX2 hP2
            obtain ⟨c0, c1⟩ := two_cells' k0
            obtain ⟨c2, c3⟩ := two_cells' k1
            clear k0 k1
            go_wp2_with fail
            refine (alive_any _).mono ?_
            rintro e W9 ⟨rfl, hb9⟩
            go_wp2
            go_ret
            exact ⟨rfl, hB.trans (hb9.mono hB.size)⟩
        · rcases HH7.out with rfl | ⟨rfl, r1, r2⟩
          · go_upto_region 19 with fail
            go_wp2_with fail
            refine (HW2.out _).mono ?_
            rintro e W5 ⟨rfl, hb5⟩
            have k0 := (hb5.block _ hPw).trans k0
            have hB := hB.trans (hb5.mono hB.size)
            have hPw := Nat.lt_of_lt_of_le hPw hb5.size
            have k1 : (W5.alloc (.cells #[.int .i64 lo2, .int .i64 hi2] 32)).heap[W5.heap.size]? = some (.cells #[.int .i64 lo2, .int .i64 hi2] 32 (0, 0)) := alloc_heap _ _
            have k0 : (W5.alloc (.cells #[.int .i64 lo2, .int .i64 hi2] 32)).heap[P]? = _ := (Below.heap_alloc _ _ _ hPw).trans k0
            have hB : Below w.heap.size w (W5.alloc (.cells #[.int .i64 lo2, .int .i64 hi2] 32)) := hB.alloc hB.size _
            clear hb5 c0 c1 hPw
            go_upto_region 20 with fail
            obtain ⟨X2, hX2⟩ : ∃ X, X = W5.alloc (.cells #[.int .i64 lo2, .int .i64 hi2] 32) := ⟨_, rfl⟩
            obtain ⟨P2, hP2⟩ : ∃ P, P = W5.heap.size := ⟨_, rfl⟩
            rw [← hX2] at k0 k1 hB ⊢
            rw [← hP2] at k1 ⊢
            clear hX2 hP2
            obtain ⟨c0, c1⟩ := two_cells' k0
            obtain ⟨c2, c3⟩ := two_cells' k1
            clear k0 k1
            go_wp2_with fail
            refine (alive_any _).mono ?_
            rintro e W9 ⟨rfl, hb9⟩
            go_wp2
            go_ret
            exact ⟨rfl, hB.trans (hb9.mono hB.size)⟩
          · go_upto_region 19 with fail
            go_wp2_with fail
            refine (HW2.out _).mono ?_
            rintro e W5 ⟨rfl, hb5⟩
            have k0 := (hb5.block _ hPw).trans k0
            have hB := hB.trans (hb5.mono hB.size)
            have hPw := Nat.lt_of_lt_of_le hPw hb5.size
            have k1 : (W5.alloc (.cells #[.int .i64 lo2, .int .i64 hi2] 32)).heap[W5.heap.size]? = some (.cells #[.int .i64 lo2, .int .i64 hi2] 32 (0, 0)) := alloc_heap _ _
            have k0 : (W5.alloc (.cells #[.int .i64 lo2, .int .i64 hi2] 32)).heap[P]? = _ := (Below.heap_alloc _ _ _ hPw).trans k0
            have hB : Below w.heap.size w (W5.alloc (.cells #[.int .i64 lo2, .int .i64 hi2] 32)) := hB.alloc hB.size _
            clear hb5 c0 c1 hPw
            go_upto_region 20 with fail
            obtain ⟨X2, hX2⟩ : ∃ X, X = W5.alloc (.cells #[.int .i64 lo2, .int .i64 hi2] 32) := ⟨_, rfl⟩
            obtain ⟨P2, hP2⟩ : ∃ P, P = W5.heap.size := ⟨_, rfl⟩
            rw [← hX2] at k0 k1 hB ⊢
            rw [← hP2] at k1 ⊢
            clear hX2 hP2
            obtain ⟨c0, c1⟩ := two_cells' k0
            obtain ⟨c2, c3⟩ := two_cells' k1
            clear k0 k1
            go_wp2_with fail
            refine (alive_any _).mono ?_
            rintro e W9 ⟨rfl, hb9⟩
            go_wp2
            go_ret
            exact ⟨rfl, hB.trans (hb9.mono hB.size)⟩
  · obtain rfl : G = 0 := H5.out h0
    obtain rfl : f = 0 := by omega
    simp only [Int.natCast_zero, Int.sub_zero] at hH e7 e8
    clear H4 H5 h0
    rcases HC.out with ⟨rfl, rfl, rfl, hc⟩ | ⟨rfl, hc⟩
    · clear HC
      have HC := Lib.hid hc
      clear hc
      go_enter Try.func7, Try.ntmps7
      go_wp2_with fail
      refine (HW.out _).mono ?_
      rintro e W1 ⟨rfl, hb1⟩
      have k0 : (W1.alloc (.cells #[.int .i64 0, .int .i64 0] 32)).heap[W1.heap.size]? = some (.cells #[.int .i64 0, .int .i64 0] 32 (0, 0)) := alloc_heap _ _
      have hB : Below w.heap.size w (W1.alloc (.cells #[.int .i64 0, .int .i64 0] 32)) := hb1.alloc hb1.size _
      have hPw : W1.heap.size < (W1.alloc (.cells #[.int .i64 0, .int .i64 0] 32)).heap.size := by simp
      clear hb1
      go_upto_region 2 with fail
      obtain ⟨X1, hX1⟩ : ∃ X, X = W1.alloc (.cells #[.int .i64 0, .int .i64 0] 32) := ⟨_, rfl⟩
      obtain ⟨P, hP⟩ : ∃ P, P = W1.heap.size := ⟨_, rfl⟩
      rw [← hX1] at k0 hB hPw ⊢
      rw [← hP] at k0 hPw ⊢
      clear hX1 hP
      go_wp2_with fail
      refine (HPL.out _).mono ?_
      rintro e W2 ⟨rfl, hb2⟩
      have k0 := (hb2.block _ hPw).trans k0
      have hB := hB.trans (hb2.mono hB.size)
      have hPw := Nat.lt_of_lt_of_le hPw hb2.size
      clear hb2
      go_wp2_with fail
      refine (HWA.out _).mono ?_
      rintro e W3 ⟨rfl, hb3⟩
      have k0 := (hb3.block _ hPw).trans k0
      have hB := hB.trans (hb3.mono hB.size)
      have hPw := Nat.lt_of_lt_of_le hPw hb3.size
      clear hb3
      obtain ⟨c0, c1⟩ := two_cells' k0
      go_upto_region 14 with fail
      clear hL hH
      rcases L with _ | _
      · rcases H with _ | _
        · go_wp2_with fail
          refine (alive_any _).mono ?_
          rintro e W9 ⟨rfl, hb9⟩
          go_wp2
          go_ret
          exact ⟨rfl, hB.trans (hb9.mono hB.size)⟩
        · go_wp2_with fail
          refine (alive_any _).mono ?_
          rintro e W9 ⟨rfl, hb9⟩
          go_wp2
          go_ret
          exact ⟨rfl, hB.trans (hb9.mono hB.size)⟩
      · obtain rfl : H = false := HC.out rfl
        go_wp2_with fail
        refine (alive_any _).mono ?_
        rintro e W9 ⟨rfl, hb9⟩
        go_wp2
        go_ret
        exact ⟨rfl, hB.trans (hb9.mono hB.size)⟩
    · clear HC
      have HC := Lib.hid hc
      clear hc
      go_enter Try.func7, Try.ntmps7
      go_wp2_with fail
      refine (HW.out _).mono ?_
      rintro e W1 ⟨rfl, hb1⟩
      have k0 : (W1.alloc (.cells #[.int .i64 lo, .int .i64 hi] 32)).heap[W1.heap.size]? = some (.cells #[.int .i64 lo, .int .i64 hi] 32 (0, 0)) := alloc_heap _ _
      have hB : Below w.heap.size w (W1.alloc (.cells #[.int .i64 lo, .int .i64 hi] 32)) := hb1.alloc hb1.size _
      have hPw : W1.heap.size < (W1.alloc (.cells #[.int .i64 lo, .int .i64 hi] 32)).heap.size := by simp
      clear hb1
      go_upto_region 2 with fail
      obtain ⟨X1, hX1⟩ : ∃ X, X = W1.alloc (.cells #[.int .i64 lo, .int .i64 hi] 32) := ⟨_, rfl⟩
      obtain ⟨P, hP⟩ : ∃ P, P = W1.heap.size := ⟨_, rfl⟩
      rw [← hX1] at k0 hB hPw ⊢
      rw [← hP] at k0 hPw ⊢
      clear hX1 hP
      go_wp2_with fail
      refine (HPL.out _).mono ?_
      rintro e W2 ⟨rfl, hb2⟩
      have k0 := (hb2.block _ hPw).trans k0
      have hB := hB.trans (hb2.mono hB.size)
      have hPw := Nat.lt_of_lt_of_le hPw hb2.size
      clear hb2
      go_wp2_with fail
      refine (HWA.out _).mono ?_
      rintro e W3 ⟨rfl, hb3⟩
      have k0 := (hb3.block _ hPw).trans k0
      have hB := hB.trans (hb3.mono hB.size)
      have hPw := Nat.lt_of_lt_of_le hPw hb3.size
      clear hb3
      obtain ⟨c0, c1⟩ := two_cells' k0
      go_upto_region 14 with fail
      clear hL hH
      obtain ⟨hh1, hh2, hh3, hLH, hh5, hh6, hh7⟩ := HC.out
      have q1 : ¬ lo < 0 := by omega
      have q2 : ¬ (N : Int) < hi := by omega
      have q3 : ¬ hi < lo := by omega
      have HH7 := Lib.hid hh7
      clear hh7
      by_cases ka : lo ≤ (K : Int)
      · by_cases kb : (K : Int) ≤ hi
        · rw [decide_eq_true (And.intro ka kb), Bool.and_eq_true] at hLH
          obtain ⟨rfl, rfl⟩ := hLH
          clear hh5 hh6
          have kb' : ¬ hi < (K : Int) := by omega
          have ka' : ¬ (K : Int) < lo := by omega
          rcases HH7.out with rfl | ⟨rfl, r1, r2⟩
          · go_upto_region 19 with fail
            go_wp2_with fail
            refine (HW2.out _).mono ?_
            rintro e W5 ⟨rfl, hb5⟩
            have k0 := (hb5.block _ hPw).trans k0
            have hB := hB.trans (hb5.mono hB.size)
            have hPw := Nat.lt_of_lt_of_le hPw hb5.size
            have k1 : (W5.alloc (.cells #[.int .i64 lo2, .int .i64 hi2] 32)).heap[W5.heap.size]? = some (.cells #[.int .i64 lo2, .int .i64 hi2] 32 (0, 0)) := alloc_heap _ _
            have k0 : (W5.alloc (.cells #[.int .i64 lo2, .int .i64 hi2] 32)).heap[P]? = _ := (Below.heap_alloc _ _ _ hPw).trans k0
            have hB : Below w.heap.size w (W5.alloc (.cells #[.int .i64 lo2, .int .i64 hi2] 32)) := hB.alloc hB.size _
            clear hb5 c0 c1 hPw
            go_upto_region 20 with fail
            obtain ⟨X2, hX2⟩ : ∃ X, X = W5.alloc (.cells #[.int .i64 lo2, .int .i64 hi2] 32) := ⟨_, rfl⟩
            obtain ⟨P2, hP2⟩ : ∃ P, P = W5.heap.size := ⟨_, rfl⟩
            rw [← hX2] at k0 k1 hB ⊢
            rw [← hP2] at k1 ⊢
            clear hX2 hP2
            obtain ⟨c0, c1⟩ := two_cells' k0
            obtain ⟨c2, c3⟩ := two_cells' k1
            clear k0 k1
            go_wp2_with fail
            refine (alive_any _).mono ?_
            rintro e W9 ⟨rfl, hb9⟩
            go_wp2
            go_ret
            exact ⟨rfl, hB.trans (hb9.mono hB.size)⟩
          · go_upto_region 19 with fail
            go_wp2_with fail
            refine (HW2.out _).mono ?_
            rintro e W5 ⟨rfl, hb5⟩
            have k0 := (hb5.block _ hPw).trans k0
            have hB := hB.trans (hb5.mono hB.size)
            have hPw := Nat.lt_of_lt_of_le hPw hb5.size
            have k1 : (W5.alloc (.cells #[.int .i64 lo2, .int .i64 hi2] 32)).heap[W5.heap.size]? = some (.cells #[.int .i64 lo2, .int .i64 hi2] 32 (0, 0)) := alloc_heap _ _
            have k0 : (W5.alloc (.cells #[.int .i64 lo2, .int .i64 hi2] 32)).heap[P]? = _ := (Below.heap_alloc _ _ _ hPw).trans k0
            have hB : Below w.heap.size w (W5.alloc (.cells #[.int .i64 lo2, .int .i64 hi2] 32)) := hB.alloc hB.size _
            clear hb5 c0 c1 hPw
            go_upto_region 20 with fail
            obtain ⟨X2, hX2⟩ : ∃ X, X = W5.alloc (.cells #[.int .i64 lo2, .int .i64 hi2] 32) := ⟨_, rfl⟩
            obtain ⟨P2, hP2⟩ : ∃ P, P = W5.heap.size := ⟨_, rfl⟩
            rw [← hX2] at k0 k1 hB ⊢
            rw [← hP2] at k1 ⊢
            clear hX2 hP2
            obtain ⟨c0, c1⟩ := two_cells' k0
            obtain ⟨c2, c3⟩ := two_cells' k1
            clear k0 k1
            go_wp2_with fail
            refine (alive_any _).mono ?_
            rintro e W9 ⟨rfl, hb9⟩
            go_wp2
            go_ret
            exact ⟨rfl, hB.trans (hb9.mono hB.size)⟩
        · have kb2 : hi < (K : Int) := by omega
          have ka' : ¬ (K : Int) < lo := by omega
          obtain rfl := hh5 kb2
          clear hLH hh5 hh6
          rcases H with _ | _
          · rcases HH7.out with rfl | ⟨rfl, r1, r2⟩
            · go_upto_region 19 with fail
              go_wp2_with fail
              refine (HW2.out _).mono ?_
              rintro e W5 ⟨rfl, hb5⟩
              have k0 := (hb5.block _ hPw).trans k0
              have hB := hB.trans (hb5.mono hB.size)
              have hPw := Nat.lt_of_lt_of_le hPw hb5.size
              have k1 : (W5.alloc (.cells #[.int .i64 lo2, .int .i64 hi2] 32)).heap[W5.heap.size]? = some (.cells #[.int .i64 lo2, .int .i64 hi2] 32 (0, 0)) := alloc_heap _ _
              have k0 : (W5.alloc (.cells #[.int .i64 lo2, .int .i64 hi2] 32)).heap[P]? = _ := (Below.heap_alloc _ _ _ hPw).trans k0
              have hB : Below w.heap.size w (W5.alloc (.cells #[.int .i64 lo2, .int .i64 hi2] 32)) := hB.alloc hB.size _
              clear hb5 c0 c1 hPw
              go_upto_region 20 with fail
              obtain ⟨X2, hX2⟩ : ∃ X, X = W5.alloc (.cells #[.int .i64 lo2, .int .i64 hi2] 32) := ⟨_, rfl⟩
              obtain ⟨P2, hP2⟩ : ∃ P, P = W5.heap.size := ⟨_, rfl⟩
              rw [← hX2] at k0 k1 hB ⊢
              rw [← hP2] at k1 ⊢
              clear hX2 hP2
              obtain ⟨c0, c1⟩ := two_cells' k0
              obtain ⟨c2, c3⟩ := two_cells' k1
              clear k0 k1
              go_wp2_with fail
              refine (alive_any _).mono ?_
              rintro e W9 ⟨rfl, hb9⟩
              go_wp2
              go_ret
              exact ⟨rfl, hB.trans (hb9.mono hB.size)⟩
            · go_upto_region 19 with fail
              go_wp2_with fail
              refine (HW2.out _).mono ?_
              rintro e W5 ⟨rfl, hb5⟩
              have k0 := (hb5.block _ hPw).trans k0
              have hB := hB.trans (hb5.mono hB.size)
              have hPw := Nat.lt_of_lt_of_le hPw hb5.size
              have k1 : (W5.alloc (.cells #[.int .i64 lo2, .int .i64 hi2] 32)).heap[W5.heap.size]? = some (.cells #[.int .i64 lo2, .int .i64 hi2] 32 (0, 0)) := alloc_heap _ _
              have k0 : (W5.alloc (.cells #[.int .i64 lo2, .int .i64 hi2] 32)).heap[P]? = _ := (Below.heap_alloc _ _ _ hPw).trans k0
              have hB : Below w.heap.size w (W5.alloc (.cells #[.int .i64 lo2, .int .i64 hi2] 32)) := hB.alloc hB.size _
              clear hb5 c0 c1 hPw
              go_upto_region 20 with fail
              obtain ⟨X2, hX2⟩ : ∃ X, X = W5.alloc (.cells #[.int .i64 lo2, .int .i64 hi2] 32) := ⟨_, rfl⟩
              obtain ⟨P2, hP2⟩ : ∃ P, P = W5.heap.size := ⟨_, rfl⟩
              rw [← hX2] at k0 k1 hB ⊢
              rw [← hP2] at k1 ⊢
              clear hX2 hP2
              obtain ⟨c0, c1⟩ := two_cells' k0
              obtain ⟨c2, c3⟩ := two_cells' k1
              clear k0 k1
              go_wp2_with fail
              refine (alive_any _).mono ?_
              rintro e W9 ⟨rfl, hb9⟩
              go_wp2
              go_ret
              exact ⟨rfl, hB.trans (hb9.mono hB.size)⟩
          · rcases HH7.out with rfl | ⟨rfl, r1, r2⟩
            · go_upto_region 19 with fail
              go_wp2_with fail
              refine (HW2.out _).mono ?_
              rintro e W5 ⟨rfl, hb5⟩
              have k0 := (hb5.block _ hPw).trans k0
              have hB := hB.trans (hb5.mono hB.size)
              have hPw := Nat.lt_of_lt_of_le hPw hb5.size
              have k1 : (W5.alloc (.cells #[.int .i64 lo2, .int .i64 hi2] 32)).heap[W5.heap.size]? = some (.cells #[.int .i64 lo2, .int .i64 hi2] 32 (0, 0)) := alloc_heap _ _
              have k0 : (W5.alloc (.cells #[.int .i64 lo2, .int .i64 hi2] 32)).heap[P]? = _ := (Below.heap_alloc _ _ _ hPw).trans k0
              have hB : Below w.heap.size w (W5.alloc (.cells #[.int .i64 lo2, .int .i64 hi2] 32)) := hB.alloc hB.size _
              clear hb5 c0 c1 hPw
              go_upto_region 20 with fail
              obtain ⟨X2, hX2⟩ : ∃ X, X = W5.alloc (.cells #[.int .i64 lo2, .int .i64 hi2] 32) := ⟨_, rfl⟩
              obtain ⟨P2, hP2⟩ : ∃ P, P = W5.heap.size := ⟨_, rfl⟩
              rw [← hX2] at k0 k1 hB ⊢
              rw [← hP2] at k1 ⊢
              clear hX2 hP2
              obtain ⟨c0, c1⟩ := two_cells' k0
              obtain ⟨c2, c3⟩ := two_cells' k1
              clear k0 k1
              go_wp2_with fail
              refine (alive_any _).mono ?_
              rintro e W9 ⟨rfl, hb9⟩
              go_wp2
              go_ret
              exact ⟨rfl, hB.trans (hb9.mono hB.size)⟩
            · go_upto_region 19 with fail
              go_wp2_with fail
              refine (HW2.out _).mono ?_
              rintro e W5 ⟨rfl, hb5⟩
              have k0 := (hb5.block _ hPw).trans k0
              have hB := hB.trans (hb5.mono hB.size)
              have hPw := Nat.lt_of_lt_of_le hPw hb5.size
              have k1 : (W5.alloc (.cells #[.int .i64 lo2, .int .i64 hi2] 32)).heap[W5.heap.size]? = some (.cells #[.int .i64 lo2, .int .i64 hi2] 32 (0, 0)) := alloc_heap _ _
              have k0 : (W5.alloc (.cells #[.int .i64 lo2, .int .i64 hi2] 32)).heap[P]? = _ := (Below.heap_alloc _ _ _ hPw).trans k0
              have hB : Below w.heap.size w (W5.alloc (.cells #[.int .i64 lo2, .int .i64 hi2] 32)) := hB.alloc hB.size _
              clear hb5 c0 c1 hPw
              go_upto_region 20 with fail
              obtain ⟨X2, hX2⟩ : ∃ X, X = W5.alloc (.cells #[.int .i64 lo2, .int .i64 hi2] 32) := ⟨_, rfl⟩
              obtain ⟨P2, hP2⟩ : ∃ P, P = W5.heap.size := ⟨_, rfl⟩
              rw [← hX2] at k0 k1 hB ⊢
              rw [← hP2] at k1 ⊢
              clear hX2 hP2
              obtain ⟨c0, c1⟩ := two_cells' k0
              obtain ⟨c2, c3⟩ := two_cells' k1
              clear k0 k1
              go_wp2_with fail
              refine (alive_any _).mono ?_
              rintro e W9 ⟨rfl, hb9⟩
              go_wp2
              go_ret
              exact ⟨rfl, hB.trans (hb9.mono hB.size)⟩
      · have ka2 : (K : Int) < lo := by omega
        have kb' : ¬ hi < (K : Int) := by omega
        obtain rfl := hh6 ka2
        clear hLH hh5 hh6
        rcases L with _ | _
        · rcases HH7.out with rfl | ⟨rfl, r1, r2⟩
          · go_upto_region 19 with fail
            go_wp2_with fail
            refine (HW2.out _).mono ?_
            rintro e W5 ⟨rfl, hb5⟩
            have k0 := (hb5.block _ hPw).trans k0
            have hB := hB.trans (hb5.mono hB.size)
            have hPw := Nat.lt_of_lt_of_le hPw hb5.size
            have k1 : (W5.alloc (.cells #[.int .i64 lo2, .int .i64 hi2] 32)).heap[W5.heap.size]? = some (.cells #[.int .i64 lo2, .int .i64 hi2] 32 (0, 0)) := alloc_heap _ _
            have k0 : (W5.alloc (.cells #[.int .i64 lo2, .int .i64 hi2] 32)).heap[P]? = _ := (Below.heap_alloc _ _ _ hPw).trans k0
            have hB : Below w.heap.size w (W5.alloc (.cells #[.int .i64 lo2, .int .i64 hi2] 32)) := hB.alloc hB.size _
            clear hb5 c0 c1 hPw
            go_upto_region 20 with fail
            obtain ⟨X2, hX2⟩ : ∃ X, X = W5.alloc (.cells #[.int .i64 lo2, .int .i64 hi2] 32) := ⟨_, rfl⟩
            obtain ⟨P2, hP2⟩ : ∃ P, P = W5.heap.size := ⟨_, rfl⟩
            rw [← hX2] at k0 k1 hB ⊢
            rw [← hP2] at k1 ⊢
            clear hX2 hP2
            obtain ⟨c0, c1⟩ := two_cells' k0
            obtain ⟨c2, c3⟩ := two_cells' k1
            clear k0 k1
            go_wp2_with fail
            refine (alive_any _).mono ?_
            rintro e W9 ⟨rfl, hb9⟩
            go_wp2
            go_ret
            exact ⟨rfl, hB.trans (hb9.mono hB.size)⟩
          · go_upto_region 19 with fail
            go_wp2_with fail
            refine (HW2.out _).mono ?_
            rintro e W5 ⟨rfl, hb5⟩
            have k0 := (hb5.block _ hPw).trans k0
            have hB := hB.trans (hb5.mono hB.size)
            have hPw := Nat.lt_of_lt_of_le hPw hb5.size
            have k1 : (W5.alloc (.cells #[.int .i64 lo2, .int .i64 hi2] 32)).heap[W5.heap.size]? = some (.cells #[.int .i64 lo2, .int .i64 hi2] 32 (0, 0)) := alloc_heap _ _
            have k0 : (W5.alloc (.cells #[.int .i64 lo2, .int .i64 hi2] 32)).heap[P]? = _ := (Below.heap_alloc _ _ _ hPw).trans k0
            have hB : Below w.heap.size w (W5.alloc (.cells #[.int .i64 lo2, .int .i64 hi2] 32)) := hB.alloc hB.size _
            clear hb5 c0 c1 hPw
            go_upto_region 20 with fail
            obtain ⟨X2, hX2⟩ : ∃ X, X = W5.alloc (.cells #[.int .i64 lo2, .int .i64 hi2] 32) := ⟨_, rfl⟩
            obtain ⟨P2, hP2⟩ : ∃ P, P = W5.heap.size := ⟨_, rfl⟩
            rw [← hX2] at k0 k1 hB ⊢
            rw [← hP2] at k1 ⊢
            clear hX2 hP2
            obtain ⟨c0, c1⟩ := two_cells' k0
            obtain ⟨c2, c3⟩ := two_cells' k1
            clear k0 k1
            go_wp2_with fail
            refine (alive_any _).mono ?_
            rintro e W9 ⟨rfl, hb9⟩
            go_wp2
            go_ret
            exact ⟨rfl, hB.trans (hb9.mono hB.size)⟩
        · rcases HH7.out with rfl | ⟨rfl, r1, r2⟩
          · go_upto_region 19 with fail
            go_wp2_with fail
            refine (HW2.out _).mono ?_
            rintro e W5 ⟨rfl, hb5⟩
            have k0 := (hb5.block _ hPw).trans k0
            have hB := hB.trans (hb5.mono hB.size)
            have hPw := Nat.lt_of_lt_of_le hPw hb5.size
            have k1 : (W5.alloc (.cells #[.int .i64 lo2, .int .i64 hi2] 32)).heap[W5.heap.size]? = some (.cells #[.int .i64 lo2, .int .i64 hi2] 32 (0, 0)) := alloc_heap _ _
            have k0 : (W5.alloc (.cells #[.int .i64 lo2, .int .i64 hi2] 32)).heap[P]? = _ := (Below.heap_alloc _ _ _ hPw).trans k0
            have hB : Below w.heap.size w (W5.alloc (.cells #[.int .i64 lo2, .int .i64 hi2] 32)) := hB.alloc hB.size _
            clear hb5 c0 c1 hPw
            go_upto_region 20 with fail
            obtain ⟨X2, hX2⟩ : ∃ X, X = W5.alloc (.cells #[.int .i64 lo2, .int .i64 hi2] 32) := ⟨_, rfl⟩
            obtain ⟨P2, hP2⟩ : ∃ P, P = W5.heap.size := ⟨_, rfl⟩
            rw [← hX2] at k0 k1 hB ⊢
            rw [← hP2] at k1 ⊢
            clear hX2 hP2
            obtain ⟨c0, c1⟩ := two_cells' k0
            obtain ⟨c2, c3⟩ := two_cells' k1
            clear k0 k1
            go_wp2_with fail
            refine (alive_any _).mono ?_
            rintro e W9 ⟨rfl, hb9⟩
            go_wp2
            go_ret
            exact ⟨rfl, hB.trans (hb9.mono hB.size)⟩
          · go_upto_region 19 with fail
            go_wp2_with fail
            refine (HW2.out _).mono ?_
            rintro e W5 ⟨rfl, hb5⟩
            have k0 := (hb5.block _ hPw).trans k0
            have hB := hB.trans (hb5.mono hB.size)
            have hPw := Nat.lt_of_lt_of_le hPw hb5.size
            have k1 : (W5.alloc (.cells #[.int .i64 lo2, .int .i64 hi2] 32)).heap[W5.heap.size]? = some (.cells #[.int .i64 lo2, .int .i64 hi2] 32 (0, 0)) := alloc_heap _ _
            have k0 : (W5.alloc (.cells #[.int .i64 lo2, .int .i64 hi2] 32)).heap[P]? = _ := (Below.heap_alloc _ _ _ hPw).trans k0
            have hB : Below w.heap.size w (W5.alloc (.cells #[.int .i64 lo2, .int .i64 hi2] 32)) := hB.alloc hB.size _
            clear hb5 c0 c1 hPw
            go_upto_region 20 with fail
            obtain ⟨X2, hX2⟩ : ∃ X, X = W5.alloc (.cells #[.int .i64 lo2, .int .i64 hi2] 32) := ⟨_, rfl⟩
            obtain ⟨P2, hP2⟩ : ∃ P, P = W5.heap.size := ⟨_, rfl⟩
            rw [← hX2] at k0 k1 hB ⊢
            rw [← hP2] at k1 ⊢
            clear hX2 hP2
            obtain ⟨c0, c1⟩ := two_cells' k0
            obtain ⟨c2, c3⟩ := two_cells' k1
            clear k0 k1
            go_wp2_with fail
            refine (alive_any _).mono ?_
            rintro e W9 ⟨rfl, hb9⟩
            go_wp2
            go_ret
            exact ⟨rfl, hB.trans (hb9.mono hB.size)⟩
end Go.Proofs.Ytclcconllkfjiaa
