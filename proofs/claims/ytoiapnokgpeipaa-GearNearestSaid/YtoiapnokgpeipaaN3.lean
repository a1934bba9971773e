/- Down: a fraction rounded down. -/
import Derived.Test.YtoiapnokgpeipaaN2
namespace Go.Proofs.Ytoiapnokgpeipaa
set_option linter.unusedSimpArgs false
open Go.RowKit Go.Maps

theorem down_any (n d : Int) (w : World) (h0 : -9223372036854775808 < n) (h1 : n ≤ 9223372036854775807) (hd : 0 < d) (hd1 : d ≤ 9223372036854775807) :
    Calls Try.prog 31 #[.int .i64 n, .int .i64 d] w fun e w' => e = .returned (.int .i64 (n / d)) ∧ w = w' := by
  have hb := tdiv_bd n d h0 h1
  have e1 := Int.tmod_add_mul_tdiv n d
  have e2 : n.tdiv d * d = d * n.tdiv d := Int.mul_comm _ _
  have e7 : (n < 0 → n.tdiv d * d ≤ 0 ∧ n.tmod d ≤ 0) ∧ (0 ≤ n → 0 ≤ n.tdiv d * d ∧ 0 ≤ n.tmod d) := by
    refine ⟨fun h => ?_, fun h => ⟨Int.mul_nonneg (Int.tdiv_nonneg h (by omega)) (by omega), Int.tmod_nonneg d h⟩⟩
    have a1 := Int.neg_tdiv n d
    have a2 : 0 ≤ (-n).tdiv d := Int.tdiv_nonneg (by omega) (by omega)
    have a3 := Int.mul_nonneg a2 (show 0 ≤ d by omega)
    have a4 := Int.tmod_nonneg d (show 0 ≤ -n by omega)
    rw [a1, Int.neg_mul] at a3
    rw [Int.neg_tmod] at a4
    omega
  have e8 : -9223372036854775808 ≤ n.tdiv d * d ∧ n.tdiv d * d ≤ 9223372036854775807 := by
    rcases Int.lt_or_le n 0 with h | h
    · have := e7.1 h; omega
    · have := e7.2 h; omega
  have i0 : ¬ d = 0 := by omega
  have i1 : IntKind.i64.wrap (n.tdiv d) = n.tdiv d := IntWalk.i64_in _ (by omega)
  have i2 : IntKind.i64.wrap (n.tdiv d * d) = n.tdiv d * d := IntWalk.i64_in _ (by omega)
  obtain ⟨q, hq⟩ : ∃ q, q = n.tdiv d := ⟨_, rfl⟩
  obtain ⟨f, hf⟩ : ∃ f, f = n / d := ⟨_, rfl⟩
  have w0 : ∀ x : Int, -9223372036854775808 ≤ x → x ≤ 9223372036854775807 → wrap64 x = x := fun x h1 h2 => by unfold wrap64; omega
  have i5 : wrap64 (q * d) = q * d := w0 _ (by rw [hq]; omega) (by rw [hq]; omega)
  have i6 : wrap64 q = q := w0 _ (by rw [hq]; omega) (by rw [hq]; omega)
  by_cases hm : n.tmod d < 0
  · have g := Lib.hid (tdiv_down1 n d hd hm)
    have i3 : n < q * d := by rw [hq]; omega
    have hbl : n < 0 := by rcases Int.lt_or_le n 0 with h | h; exact h; have := e7.2 h; omega
    have i4 : wrap64 (q - 1) = q - 1 := w0 _ (by omega) (by omega)
    rw [← hq, ← hf] at g
    rw [← hf]
    clear hf w0 e1 e2 e7 e8 hb i1 i2 hm
    have hq' := hq.symm
    clear hq
    go_enter Try.func31, Try.ntmps31
    go_wp2
    go_ret
    exact ⟨ret_int (i4.trans g.out), rfl⟩
  · have g := Lib.hid (tdiv_down0 n d hd (by omega))
    have i3 : ¬ n < q * d := by rw [hq]; omega
    rw [← hq, ← hf] at g
    rw [← hf]
    clear hf w0 e1 e2 e7 e8 hb i1 i2 hm
    have hq' := hq.symm
    clear hq
    go_enter Try.func31, Try.ntmps31
    go_wp2
    go_ret
    exact ⟨ret_int g.out, rfl⟩
end Go.Proofs.Ytoiapnokgpeipaa
