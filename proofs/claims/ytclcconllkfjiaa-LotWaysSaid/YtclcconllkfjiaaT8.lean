/- LotCounts: its errors, and what it asks of Ways holds. -/
import Derived.Test.YtclcconllkfjiaaT7
namespace Go.Proofs.Ytclcconllkfjiaa
set_option linter.unusedSimpArgs false
set_option linter.unusedVariables false
open Go.RowKit

set_option maxRecDepth 100000 in
set_option maxHeartbeats 6400000 in
theorem counts_bad (n b c a : Int) (er : Int) (w : World) (h : waysP n b c a = (0, 0, er)) (her : (er = 1 ∧ (n < 1 ∨ 1 ≤ n ∧ 50 < n)) ∨ (er = 2 ∧ 1 ≤ n ∧ n ≤ 50)) : Calls Try.prog 5 #[.int .i64 n, .int .i64 b, planV c a] w fun e w' => e = .returned (.bool true) ∧ Below w.heap.size w w' := by
  have hwa := fun W => ways_any n b c a W
  rw [h] at hwa
  unfold planV at hwa ⊢
  unfold three at hwa
  simp only [] at hwa
  have HW := Lib.hid hwa
  clear hwa h
  have k0 := alloc_heap w (.cells #[.int .i64 c, .int .i64 a] 23)
  have hB : Below w.heap.size w (w.alloc (.cells #[.int .i64 c, .int .i64 a] 23)) := (Below.refl _ _).alloc (Nat.le_refl _) _
  obtain ⟨c0, c1⟩ := two_cells k0
  clear k0
  rcases her with ⟨rfl, q1 | ⟨q0, q1⟩⟩ | ⟨rfl, q1, q2⟩
  · go_enter Try.func5, Try.ntmps5
    go_wp2_with fail
    refine (HW.out _).mono ?_
    rintro e W1 ⟨rfl, hb1⟩
    have hB := hB.trans (hb1.mono hB.size)
    clear c0 c1 hb1
    go_wp2_with fail
    refine (alive_any _).mono ?_
    rintro e W9 ⟨rfl, hb9⟩
    go_wp2
    go_ret
    exact ⟨rfl, hB.trans (hb9.mono hB.size)⟩
  · go_enter Try.func5, Try.ntmps5
    go_wp2_with fail
    refine (HW.out _).mono ?_
    rintro e W1 ⟨rfl, hb1⟩
    have hB := hB.trans (hb1.mono hB.size)
    clear c0 c1 hb1
    go_wp2_with fail
    refine (alive_any _).mono ?_
    rintro e W9 ⟨rfl, hb9⟩
    go_wp2
    go_ret
    exact ⟨rfl, hB.trans (hb9.mono hB.size)⟩
  · have q3 : ¬ n < 1 := by omega
    have q4 : ¬ 50 < n := by omega
    go_enter Try.func5, Try.ntmps5
    go_wp2_with fail
    refine (HW.out _).mono ?_
    rintro e W1 ⟨rfl, hb1⟩
    have hB := hB.trans (hb1.mono hB.size)
    clear c0 c1 hb1
    go_wp2_with fail
    refine (alive_any _).mono ?_
    rintro e W9 ⟨rfl, hb9⟩
    go_wp2
    go_ret
    refine ⟨?_, hB.trans (hb9.mono hB.size)⟩
    show Ending.returned (.bool (!decide (n < 1) && !decide (50 < n))) = _
    rw [decide_eq_false (by omega), decide_eq_false (by omega)]; rfl
theorem inB_false {n lo hi : Int} (h : ¬ (lo ≤ n ∧ n ≤ hi)) : inB n lo hi = false := decide_eq_false h
theorem counts_law (n b c a : Int) (w : World) : Calls Try.prog 5 #[.int .i64 n, .int .i64 b, planV c a] w fun e w' => e = .returned (.bool true) ∧ Below w.heap.size w w' := by
  by_cases v1 : 1 ≤ n ∧ n ≤ 50
  · by_cases v2 : (0 ≤ b ∧ b ≤ n) ∧ (0 ≤ c ∧ c ≤ n) ∧ 0 ≤ a ∧ a ≤ c
    · obtain ⟨v2, v3, v4⟩ := v2
      obtain ⟨N, rfl⟩ : ∃ N : Nat, n = N := ⟨n.toNat, by omega⟩
      obtain ⟨B, rfl⟩ : ∃ B : Nat, b = B := ⟨b.toNat, by omega⟩
      obtain ⟨C, rfl⟩ : ∃ C : Nat, c = C := ⟨c.toNat, by omega⟩
      obtain ⟨x, y, z, hw⟩ : ∃ x y z, waysP N (B + 1) C a = (x, y, z) := ⟨_, _, _, rfl⟩
      obtain ⟨x2, y2, z2, hw2⟩ : ∃ x y z, waysP N B C (a + 1) = (x, y, z) := ⟨_, _, _, rfl⟩
      have eB : ((N : Int) - (B : Int)).toNat = N - B := by omega
      have hfull : ∀ k f, (C : Int) ≤ f → k ≤ N → passN k (N - k) C f = ch N C := by
        intro k f hf hk
        unfold passN
        rw [sm_full _ _ _ _ (by omega), show k + (N - k) = N by omega]
      refine counts_walk N B C a (passN B (N - B) C a) (ch N C) x y z x2 y2 z2 w (by omega) (by omega) (by omega) v4 ?_ hw hw2 ?_ ?_ ?_ ?_ ?_ ?_ ?_
      · rw [ways_val v1 v2 v3 v4, eB]; rfl
      · rw [ways_val v1 (by omega) v3 v4, show ((N : Int) - 0).toNat = N by omega]
        show (((passN 0 N C a : Nat) : Int), _, _) = _
        have h0 : passN 0 N C a = ch N C := by
          unfold passN
          obtain ⟨m, hm⟩ : ∃ m, (a + 1).toNat = m + 1 := ⟨a.toNat, by omega⟩
          rw [hm, sm_b0]
        rw [h0]; rfl
      · rw [ways_val v1 v2 v3 (by omega), eB]
        show (((passN B (N - B) C C : Nat) : Int), _, _) = _
        rw [hfull B C (Int.le_refl _) (by omega)]; rfl
      · have := passN_le B (N - B) C a
        rw [show B + (N - B) = N by omega] at this; exact this
      · by_cases hb : B < N
        · refine .inl ⟨hb, ?_⟩
          rw [ways_val v1 (by omega) v3 v4] at hw
          obtain ⟨rfl, -, rfl⟩ : ((passN ((B : Int) + 1).toNat ((N : Int) - ((B : Int) + 1)).toNat C a : Nat) : Int) = x ∧ ((ch N C : Nat) : Int) = y ∧ (0 : Int) = z := by simpa using hw
          refine ⟨rfl, ?_⟩
          rw [show ((B : Int) + 1).toNat = B + 1 by omega, show ((N : Int) - ((B : Int) + 1)).toNat = N - (B + 1) by omega]
          have h1 : passN (B + 1) (N - (B + 1)) C a ≤ passN B (N - B) C a := by
            unfold passN
            rw [show N - B = (N - (B + 1)) + 1 by omega]
            exact sm_worse _ _ _ _
          omega
        · refine .inr ⟨by omega, ?_⟩
          unfold waysP at hw
          rw [inB_iff.2 v1, inB_false (n := (B : Int) + 1) (by omega)] at hw
          have : (0, 0, 2) = (x, y, z) := by simpa using hw
          simp only [Prod.mk.injEq] at this
          exact this.2.2.symm
      · by_cases ha : a + 1 ≤ C
        · rw [ways_val v1 v2 v3 (by omega), eB] at hw2
          obtain ⟨rfl, -, rfl⟩ : ((passN B (N - B) C (a + 1) : Nat) : Int) = x2 ∧ ((ch N C : Nat) : Int) = y2 ∧ (0 : Int) = z2 := by simpa using hw2
          refine .inr ⟨rfl, ?_⟩
          have h1 : passN B (N - B) C a ≤ passN B (N - B) C (a + 1) := by unfold passN; exact sm_mono _ _ _ _ _ (by omega)
          omega
        · refine .inl ?_
          unfold waysP isPlanB at hw2
          rw [inB_iff.2 v1, inB_false (n := a + 1) (by omega)] at hw2
          have : (0, 0, 2) = (x2, y2, z2) := by simpa using hw2
          simp only [Prod.mk.injEq] at this
          exact this.2.2.symm
      · rw [cnt_all N B C _ (by omega)]; rfl
      · rw [cnt_all N 0 C 1 (by omega), sm_b0, Nat.sub_zero]
    · refine counts_bad n b c a 2 w ?_ (.inr ⟨rfl, v1⟩)
      unfold waysP isPlanB
      rw [inB_iff.2 v1]
      by_cases h1 : 0 ≤ b ∧ b ≤ n
      · by_cases h2 : 0 ≤ c ∧ c ≤ n
        · rw [inB_iff.2 h1, inB_iff.2 h2, inB_false (n := a) (fun h => v2 ⟨h1, h2, h⟩)]; rfl
        · rw [inB_iff.2 h1, inB_false (n := c) h2]; rfl
      · rw [inB_false (n := b) h1]; rfl
  · refine counts_bad n b c a 1 w ?_ (.inl ⟨rfl, by omega⟩)
    unfold waysP
    rw [inB_false v1]; rfl
section
open Go.ChangeShapes Go.WideShapes Go.ChangeAt
set_option maxRecDepth 100000 in
theorem plan_two {T : TypeId} {fs : Array Field} {H : Type} {enc : TypeId × Value → H} {W : World} (hT : Try.prog.underlying T = some (.struct fs)) (h2 : fs.size = 2) (hc2 : Try.prog.cellsOf T = 2) (hf : ∀ i, i < 2 → ∃ f, fs[i]? = some f ∧ f.type = 3 ∧ f.offset = i) {v : Value} {d : DataW H} {p : List MemPlace} (hok : Value.okWide Try.prog W .any 0 T v) (h : DataW.Trod enc Try.prog W 0 (fun _ => true) true T v d p) :
    ∃ (x0 x1 : Int), v = .agg #[.int .i64 x0, .int .i64 x1] := by
  obtain ⟨cs, rfl, hsz⟩ := okWide_struct hT hok
  have c3 : Try.prog.cellsOf 3 = 1 := by kernel_rfl
  obtain ⟨n, hn⟩ := h
  obtain ⟨xs, m, _, _, _, hxl, hg⟩ := DataW.trod_struct hT hn
  have hx : xs.length = 2 := by rw [hxl]; exact h2
  obtain ⟨l⟩ := cs
  have get : ∀ i a, i < 2 → l[i]? = some a → ∃ z : Int, a = .int .i64 z := fun i a hi ha => by
    obtain ⟨f, f1, f2, f3⟩ := hf i hi
    have g : DataW.trod enc Try.prog W 0 (fun _ => true) true m f.type ((l.drop f.offset).take (Try.prog.cellsOf f.type)) = xs[i]? := hg i f f1
    rw [one_field (c := a) ha f3 (by rw [f2]; exact c3), List.getElem?_eq_getElem (by omega), f2] at g
    obtain ⟨z, hz, _⟩ := DataW.trod_int Try.underlying3 g
    simp only [List.cons.injEq, and_true] at hz
    exact ⟨z, hz⟩
  match l, hsz.trans hc2, get with
  | [a0, a1], _, get =>
    obtain ⟨x0, e0⟩ := get 0 a0 (by omega) rfl
    obtain ⟨x1, e1⟩ := get 1 a1 (by omega) rfl
    exact ⟨x0, x1, by rw [e0, e1]⟩
set_option maxRecDepth 100000 in
theorem plan_at {H : Type} {enc : TypeId × Value → H} {W : World} {v : Value} {d : DataW H} {p : List MemPlace} (hok : Value.okWide Try.prog W .any 0 23 v) (h : DataW.Trod enc Try.prog W 0 (fun _ => true) true 23 v d p) : ∃ (x0 x1 : Int), v = planV x0 x1 :=
  plan_two Try.underlying23 rfl (by kernel_rfl) (fun i hi => by
    match i, hi with
    | 0, _ => exact ⟨_, rfl, rfl, rfl⟩
    | 1, _ => exact ⟨_, rfl, rfl, rfl⟩) hok h
end
end Go.Proofs.Ytclcconllkfjiaa
