/- The document's own small functions: used, held, Exact, Gearing; great. -/
import Derived.Test.YtoiapnokgpeipaaR1
namespace Go.Proofs.Ytoiapnokgpeipaa
set_option linter.unusedSimpArgs false
open Go.RowKit Go.Maps

/-- how often a train uses a wheel -/
def usedN (P : List (Int × Int)) (i x : Int) : Int := ((usedP P).count x : Nat) + if i = x then 1 else 0
theorem usedP_count (P : List (Int × Int)) (k : Nat) (h : k < P.length) (x : Int) : (((usedP (P.take (k + 1))).count x : Nat) : Int) = ((usedP (P.take k)).count x : Nat) + (if P[k].1 = x then 1 else 0) + (if P[k].2 = x then 1 else 0) := by
  rw [List.take_succ_eq_append_getElem h]; unfold usedP
  rw [List.flatMap_append, List.count_append]
  simp only [List.flatMap_cons, List.flatMap_nil, List.append_nil, List.count_cons, List.count_nil, beq_iff_eq]
  split <;> split <;> simp <;> omega

set_option maxRecDepth 100000 in
set_option maxHeartbeats 3200000 in
theorem used_any (P : List (Int × Int)) (v : Value) (i x : Int) (w : World) (hP : WheelsAt w v P) (hl : P.length ≤ 1000000) :
    Calls Try.prog 59 #[.agg #[v, .int .i64 i], .int .i64 x] w fun e w' => e = .returned (.int .i64 (usedN P i x)) ∧ Below w.heap.size w w' := by
  obtain ⟨pa, pc, rfl⟩ := hP.shape
  obtain ⟨W0, hW0, hg0, hG0, hz0⟩ := box27 w (.slice pa P.length pc) i
  have HG := Lib.hid hG0
  clear hG0
  go_enter Try.func59, Try.ntmps59
  go_wp2
  rw [← hW0]
  clear hW0
  go_loop [5, 6] (fun n c => ∃ k : Nat, k ≤ P.length ∧ c = .int .i64 k ∧ ∃ m : Int, n = .int .i64 m ∧ 0 ≤ m ∧ m ≤ 2 * k ∧ Hid (m = ((usedP (P.take k)).count x : Nat))) (fun _ c => P.length - (intOf c).toNat)
  case atStart => exact ⟨0, by omega, rfl, 0, rfl, by omega, by omega, Lib.hid rfl⟩
  case round =>
    obtain ⟨k, hk, rfl, m, rfl, hm0, hm1, hm⟩ := hrel
    obtain ⟨e0, e1⟩ := tcells HG.out
    by_cases hlt : k < P.length
    · obtain ⟨b, off, rfl, _, hc1, hc2, hbl, hc⟩ := hP.at rfl (by omega)
      obtain ⟨c0, c1⟩ := hc k hlt
      rw [← hg0.cell (p := ⟨b, _, none⟩) hbl] at c0 c1
      have hgd : P.getD k (0, 0) = P[k] := by simp [hlt]
      rw [hgd] at c0 c1
      have hs := usedP_count P k hlt x
      rw [← hm.out] at hs
      obtain ⟨y, hy⟩ : ∃ y, P[k].1 = y := ⟨_, rfl⟩
      obtain ⟨z, hz⟩ : ∃ z, P[k].2 = z := ⟨_, rfl⟩
      rw [hy] at c0 hs
      rw [hz] at c1 hs
      have HS := Lib.hid hs
      clear hgd hc hy hz hs
      by_cases h1 : y = x
      · have b1 : (y == x) = true := by simp [h1]
        by_cases h2 : z = x
        · have b2 : (z == x) = true := by simp [h2]
          have H := Lib.hid (show m + 1 + 1 = ((usedP (P.take (k + 1))).count x : Nat) by rw [HS.out, if_pos h1, if_pos h2])
          clear h1 h2
          go_wp2
          go_round
          case rel => exact ⟨k + 1, by omega, by go_num, m + 1 + 1, rfl, by omega, by omega, H⟩
          case measure => simp [intOf]; omega
        · have b2 : (z == x) = false := by simp [h2]
          have H := Lib.hid (show m + 1 = ((usedP (P.take (k + 1))).count x : Nat) by rw [HS.out, if_pos h1, if_neg h2]; omega)
          clear h1 h2
          go_wp2
          go_round
          case rel => exact ⟨k + 1, by omega, by go_num, m + 1, rfl, by omega, by omega, H⟩
          case measure => simp [intOf]; omega
      · have b1 : (y == x) = false := by simp [h1]
        by_cases h2 : z = x
        · have b2 : (z == x) = true := by simp [h2]
          have H := Lib.hid (show m + 1 = ((usedP (P.take (k + 1))).count x : Nat) by rw [HS.out, if_neg h1, if_pos h2]; omega)
          clear h1 h2
          go_wp2
          go_round
          case rel => exact ⟨k + 1, by omega, by go_num, m + 1, rfl, by omega, by omega, H⟩
          case measure => simp [intOf]; omega
        · have b2 : (z == x) = false := by simp [h2]
          have H := Lib.hid (show m = ((usedP (P.take (k + 1))).count x : Nat) by rw [HS.out, if_neg h1, if_neg h2]; omega)
          clear h1 h2
          go_wp2
          go_round
          case rel => exact ⟨k + 1, by omega, by go_num, m, rfl, by omega, by omega, H⟩
          case measure => simp [intOf]; omega
    · have hkl : k = P.length := by omega
      have hm2 : m = ((usedP P).count x : Nat) := by rw [hm.out, List.take_of_length_le (by omega)]
      by_cases hix : i = x
      · have b1 : (i == x) = true := by simp [hix]
        have H := Lib.hid (show usedN P i x = m + 1 by unfold usedN; rw [if_pos hix, hm2])
        clear hix hm2 hkl
        go_wp2
        go_ret
        exact ⟨by rw [H.out]; rfl, hg0⟩
      · have b1 : (i == x) = false := by simp [hix]
        have H := Lib.hid (show usedN P i x = m by unfold usedN; rw [if_neg hix, hm2]; omega)
        clear hix hm2 hkl
        go_wp2
        go_ret
        exact ⟨by rw [H.out]; rfl, hg0⟩

set_option maxRecDepth 100000 in
set_option maxHeartbeats 1600000 in
theorem held_any (S : List (Int × Int)) (v : Value) (t : Int) (w : World) (hS : WheelsAt w v S) :
    Calls Try.prog 60 #[v, .int .i64 t] w fun e w' => e = .returned (.int .i64 (heldI S t)) ∧ w = w' := by
  obtain ⟨sa, sc, rfl⟩ := hS.shape
  have hsl : S.length ≤ 9223372036854775807 := hS.1
  go_enter Try.func60, Try.ntmps60
  go_wp2
  go_loop [5] (fun c => ∃ k : Nat, k ≤ S.length ∧ c = .int .i64 k ∧ (S.take k).find? (fun x => x.1 == t) = none) (fun c => S.length - (intOf c).toNat)
  case atStart => exact ⟨0, by omega, rfl, rfl⟩
  case round =>
    obtain ⟨k, hk, rfl, hno⟩ := hrel
    by_cases hlt : k < S.length
    · obtain ⟨b, off, rfl, _, hc1, hc2, hbl, hc⟩ := hS.at rfl (by omega)
      obtain ⟨c0, c1⟩ := hc k hlt
      have hgd : S.getD k (0, 0) = S[k] := by simp [hlt]
      rw [hgd] at c0 c1
      by_cases he : (S[k].1 == t) = true
      · have H := Lib.hid (heldI_hit hlt hno he)
        obtain ⟨x, hx⟩ : ∃ x, S[k].1 = x := ⟨_, rfl⟩
        obtain ⟨y, hy⟩ : ∃ y, S[k].2 = y := ⟨_, rfl⟩
        rw [hx] at c0 he
        rw [hy] at c1 H
        clear hgd hc hx hy hno
        go_wp2
        go_ret
        exact ⟨ret_int H.out.symm, rfl⟩
      · have H := Lib.hid (find_miss hlt hno (by simpa using he))
        have he' : (S[k].1 == t) = false := by simpa using he
        obtain ⟨x, hx⟩ : ∃ x, S[k].1 = x := ⟨_, rfl⟩
        rw [hx] at c0 he'
        clear hgd hc hx hno he c1
        go_wp2
        go_round
        case rel => exact ⟨k + 1, by omega, by go_num, H.out⟩
        case measure => simp [intOf]; omega
    · rw [List.take_of_length_le (by omega)] at hno
      have H := Lib.hid (show heldI S t = 0 by simp [heldI, hno])
      clear hno
      go_wp2
      go_ret
      exact ⟨ret_int H.out.symm, rfl⟩

set_option maxRecDepth 100000 in
set_option maxHeartbeats 1600000 in
theorem refGearing_any (t r p o : Int) (same : Bool) (w : World) :
    Calls Try.prog 26 #[.agg #[.int .i64 t, .int .i64 r, .bool same, .int .i64 p, .int .i64 o]] w fun e w' => e = .returned (.bool (gearB t r p o)) ∧ Below w.heap.size w w' := by
  have E : gearB t r p o = (inB t 1 1000 && inB r 1 1000 && inB p 0 3 && inB o 0 200) := by
    unfold gearB inB; rw [Bool.eq_iff_iff]; simp; omega
  obtain ⟨a, ha⟩ : ∃ a, inB t 1 1000 = a := ⟨_, rfl⟩
  obtain ⟨b, hb⟩ : ∃ b, inB r 1 1000 = b := ⟨_, rfl⟩
  obtain ⟨c, hc⟩ : ∃ c, inB p 0 3 = c := ⟨_, rfl⟩
  obtain ⟨d, hd⟩ : ∃ d, inB o 0 200 = d := ⟨_, rfl⟩
  have A : ∀ X, Calls Try.prog 46 #[.int .i64 t, .int .i64 1, .int .i64 1000] X fun e w' => e = .returned (.bool a) ∧ X = w' := fun X => by rw [← ha]; exact in_any _ _ _ X
  have B : ∀ X, Calls Try.prog 46 #[.int .i64 r, .int .i64 1, .int .i64 1000] X fun e w' => e = .returned (.bool b) ∧ X = w' := fun X => by rw [← hb]; exact in_any _ _ _ X
  have C : ∀ X, Calls Try.prog 46 #[.int .i64 p, .int .i64 0, .int .i64 3] X fun e w' => e = .returned (.bool c) ∧ X = w' := fun X => by rw [← hc]; exact in_any _ _ _ X
  have D : ∀ X, Calls Try.prog 46 #[.int .i64 o, .int .i64 0, .int .i64 200] X fun e w' => e = .returned (.bool d) ∧ X = w' := fun X => by rw [← hd]; exact in_any _ _ _ X
  rw [ha, hb, hc, hd] at E
  have HE := Lib.hid E
  have HA := Lib.hid A
  have HB := Lib.hid B
  have HC := Lib.hid C
  have HD := Lib.hid D
  clear E ha hb hc hd A B C D
  cases a
  · go_enter Try.func26, Try.ntmps26
    go_wp2_with fail
    refine (HA.out _).mono ?_
    rintro e w1 ⟨rfl, rfl⟩
    go_wp2
    go_ret
    exact ⟨by rw [HE.out]; rfl, (Below.refl _ _).alloc (Nat.le_refl _) _⟩
  cases b
  · go_enter Try.func26, Try.ntmps26
    go_wp2_with fail
    refine (HA.out _).mono ?_
    rintro e w1 ⟨rfl, rfl⟩
    go_wp2_with fail
    refine (HB.out _).mono ?_
    rintro e w1 ⟨rfl, rfl⟩
    go_wp2
    go_ret
    exact ⟨by rw [HE.out]; rfl, (Below.refl _ _).alloc (Nat.le_refl _) _⟩
  cases c
  · go_enter Try.func26, Try.ntmps26
    go_wp2_with fail
    refine (HA.out _).mono ?_
    rintro e w1 ⟨rfl, rfl⟩
    go_wp2_with fail
    refine (HB.out _).mono ?_
    rintro e w1 ⟨rfl, rfl⟩
    go_wp2_with fail
    refine (HC.out _).mono ?_
    rintro e w1 ⟨rfl, rfl⟩
    go_wp2
    go_ret
    exact ⟨by rw [HE.out]; rfl, (Below.refl _ _).alloc (Nat.le_refl _) _⟩
  go_enter Try.func26, Try.ntmps26
  go_wp2_with fail
  refine (HA.out _).mono ?_
  rintro e w1 ⟨rfl, rfl⟩
  go_wp2_with fail
  refine (HB.out _).mono ?_
  rintro e w1 ⟨rfl, rfl⟩
  go_wp2_with fail
  refine (HC.out _).mono ?_
  rintro e w1 ⟨rfl, rfl⟩
  go_wp2_with fail
  refine (HD.out _).mono ?_
  rintro e w1 ⟨rfl, rfl⟩
  go_wp2
  go_ret
  exact ⟨by rw [HE.out]; rfl, (Below.refl _ _).alloc (Nat.le_refl _) _⟩

/-- more kinds than a statement looks at, but not too many, or far too many -/
def greatB (n : Nat) (k : Int) : Bool := decide (k < n ∧ n ≤ 8 ∨ 14 < n)
set_option maxRecDepth 100000 in
set_option maxHeartbeats 1600000 in
theorem great_any (sa : Option Addr) (N cap : Nat) (k : Int) (w : World) (hN : N ≤ 9223372036854775807) :
    Calls Try.prog 11 #[.slice sa N cap, .int .i64 k] w fun e w' => e = .returned (.bool (greatB N k)) ∧ w = w' := by
  by_cases h1 : k < N
  · by_cases h2 : N ≤ 8
    · have H := Lib.hid (show greatB N k = true by unfold greatB; simp; omega)
      have d1 : decide (k < (N : Int)) = true := by simp; omega
      go_enter Try.func11, Try.ntmps11
      go_wp2
      go_ret
      exact ⟨by rw [H.out]; rfl, rfl⟩
    · have H := Lib.hid (show greatB N k = decide (14 < N) by unfold greatB; rw [Bool.eq_iff_iff]; simp; omega)
      have d1 : decide (k < (N : Int)) = true := by simp; omega
      have d2 : decide (N ≤ 8) = false := by simp; omega
      by_cases h3 : 14 < N
      · go_enter Try.func11, Try.ntmps11
        go_wp2
        go_ret
        exact ⟨by rw [H.out]; simp [h3]; omega, rfl⟩
      · go_enter Try.func11, Try.ntmps11
        go_wp2
        go_ret
        exact ⟨by rw [H.out]; simp [h3]; omega, rfl⟩
  · have H := Lib.hid (show greatB N k = decide (14 < N) by unfold greatB; rw [Bool.eq_iff_iff]; simp; omega)
    have d1 : decide (k < (N : Int)) = false := by simp; omega
    by_cases h3 : 14 < N
    · go_enter Try.func11, Try.ntmps11
      go_wp2
      go_ret
      exact ⟨by rw [H.out]; simp [h3]; omega, rfl⟩
    · go_enter Try.func11, Try.ntmps11
      go_wp2
      go_ret
      exact ⟨by rw [H.out]; simp [h3]; omega, rfl⟩
end Go.Proofs.Ytoiapnokgpeipaa
