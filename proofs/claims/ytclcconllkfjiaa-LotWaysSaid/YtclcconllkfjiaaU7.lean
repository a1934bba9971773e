/- Contract: the document's Twice. -/
import Derived.Test.YtclcconllkfjiaaU5
import Derived.Test.YtclcconllkfjiaaU6
namespace Go.Proofs.Ytclcconllkfjiaa
set_option linter.unusedSimpArgs false
set_option linter.unusedVariables false
open Go.RowKit

set_option maxRecDepth 100000 in
set_option maxHeartbeats 3200000 in
theorem refTwice_bad (n b c ac re s tot er : Int) (w : World) (h : (isDoubleB c ac re s tot n = false ∧ er = 1) ∨ (isDoubleB c ac re s tot n = true ∧ inB b 0 n = false ∧ er = 2)) : Calls Try.prog 12 #[.int .i64 n, .int .i64 b, doubleV c ac re s tot] w fun e w' => e = .returned (four (0, 0, 0, er)) ∧ Below w.heap.size w w' := by
  have i1 := fun W => refTwo_any c ac re s tot n W
  have i2 := fun W => in_any b 0 n W
  have k0 := alloc_heap w (.cells #[.int .i64 c, .int .i64 ac, .int .i64 re, .int .i64 s, .int .i64 tot] 25)
  have hB : Below w.heap.size w (w.alloc (.cells #[.int .i64 c, .int .i64 ac, .int .i64 re, .int .i64 s, .int .i64 tot] 25)) := (Below.refl _ _).alloc (Nat.le_refl _) _
  obtain ⟨c0, c1, c2, c3, c4⟩ := five_cells k0
  clear k0
  unfold doubleV at i1 ⊢
  rcases h with ⟨h1, rfl⟩ | ⟨h1, h2, rfl⟩
  · rw [h1] at i1
    have I1 := Lib.hid i1
    clear i1 i2 h1
    go_enter Try.func12, Try.ntmps12
    go_wp2_with fail
    refine (I1.out _).mono ?_
    rintro e w2 ⟨rfl, hb2⟩
    have hB2 := hB.trans (hb2.mono hB.size)
    go_wp2
    exact bodyPost_ret (v := .tuple #[.int .i64 0, .int .i64 0, .int .i64 0, .int .i64 1]) (by simp [results, Try.results12, go_sem]) rfl ⟨rfl, hB2⟩
  · rw [h1] at i1
    rw [h2] at i2
    have I1 := Lib.hid i1
    have I2 := Lib.hid i2
    clear i1 i2 h1 h2
    go_enter Try.func12, Try.ntmps12
    go_wp2_with fail
    refine (I1.out _).mono ?_
    rintro e w2 ⟨rfl, hb2⟩
    have hB2 := hB.trans (hb2.mono hB.size)
    go_wp2_with fail
    refine (I2.out _).mono ?_
    rintro e w3 ⟨rfl, rfl⟩
    go_wp2
    exact bodyPost_ret (v := .tuple #[.int .i64 0, .int .i64 0, .int .i64 0, .int .i64 2]) (by simp [results, Try.results12, go_sem]) rfl ⟨rfl, hB2⟩
theorem refTwice_any (n b c ac re s tot : Int) (w : World) : Calls Try.prog 12 #[.int .i64 n, .int .i64 b, doubleV c ac re s tot] w fun e w' => e = .returned (four (twiceP n b c ac re s tot)) ∧ Below w.heap.size w w' := by
  cases hd : isDoubleB c ac re s tot n with
  | false =>
    have : twiceP n b c ac re s tot = (0, 0, 0, 1) := by unfold twiceP; rw [hd]; rfl
    rw [this]
    exact refTwice_bad n b c ac re s tot 1 w (.inl ⟨hd, rfl⟩)
  | true =>
    cases hb : inB b 0 n with
    | false =>
      have : twiceP n b c ac re s tot = (0, 0, 0, 2) := by unfold twiceP; rw [hd, hb]; rfl
      rw [this]
      exact refTwice_bad n b c ac re s tot 2 w (.inr ⟨hd, hb, rfl⟩)
    | true =>
      obtain ⟨v1, v2, v3, v4, v5, v6⟩ := isDoubleB_spec hd
      have v7 := inB_iff.1 hb
      obtain ⟨C, rfl⟩ : ∃ C : Nat, c = C := ⟨c.toNat, by omega⟩
      obtain ⟨S, rfl⟩ : ∃ S : Nat, s = S := ⟨s.toNat, by omega⟩
      obtain ⟨B, rfl⟩ : ∃ B : Nat, b = B := ⟨b.toNat, by omega⟩
      obtain ⟨G, rfl⟩ : ∃ G : Nat, n = (B : Int) + (G : Int) := ⟨(n - B).toNat, by omega⟩
      have hc : C + S ≤ B + G := by omega
      have hg : B + G ≤ 30 := by omega
      have hok := refTwice_ok ((B : Int) + (G : Int)) B C S ac re tot w hd hb (by omega) (by omega) (by omega)
      have e : Par.mk ((B : Int) + (G : Int)) B C ac re S tot = parN B G C S ac re tot := rfl
      rw [e, pas_sum hc, sec_sum hc, all_sum hc] at hok
      have b1 := all_bd B G C S hc hg
      have b2 := sec_le B G C S ac re (itemsL B G C)
      have b3 := pas_le B G C S ac re tot (itemsL B G C) hc
      rw [wv_is _ (by omega), wv_is _ (by omega), wv_is _ (by omega)] at hok
      have ht : twiceP ((B : Int) + (G : Int)) B C ac re S tot = (((sumF (pasW B G C S ac re tot) B G C (itemsL B G C) : Nat) : Int), ((sumF (secW B G C S ac re) B G C (itemsL B G C) : Nat) : Int), ((sumF (allW B G C S) B G C (itemsL B G C) : Nat) : Int), 0) := by
        unfold twiceP
        rw [hd, hb, show ((B : Int) + (G : Int) - (B : Int)).toNat = G by omega]; rfl
      rw [ht]
      exact hok
end Go.Proofs.Ytclcconllkfjiaa
