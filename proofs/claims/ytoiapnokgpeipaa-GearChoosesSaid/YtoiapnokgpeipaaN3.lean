/- Down: a fraction rounded down. -/
import Derived.Test.YtoiapnokgpeipaaN2
namespace Go.Proofs.Ytoiapnokgpeipaa
set_option linter.unusedSimpArgs false
open Go.RowKit Go.Maps

theorem down_any (n d : Int) (w : World) (h0 : -9223372036854775808 < n) (h1 : n ≤ 9223372036854775807) (hd : 0 < d) (hd1 : d ≤ 9223372036854775807) :
    Calls Try.prog 31 #[.int .i64 n, .int .i64 d] w fun e w' => e = .returned (.int .i64 (n / d)) ∧ w = w' := by
  have hb := tdiv_bd n d h0 h1
  have e1 := Int.tmod_add_mul_tdiv n d
  have e2 : n.tdiv d * d = d * n.tdiv d := Int.mul_comm _ _
  have e7 : (n < 0 → n.tdiv d * d ≤ 0 ∧ n.tmod d ≤ 0) ∧ (0 ≤ n → 0 ≤ n.tdiv d * d ∧ 0 ≤ n.tmod d) := by
    refine ⟨fun h => ?_, fun h => ⟨Int.mul_nonneg (Int.tdiv_nonneg h (by omega)) (by omega), Int.tmod_nonneg d h⟩⟩
    have a1 := Int.neg_tdiv n d
    have a2 : 0 ≤ (-n).tdiv d := Int.tdiv_nonneg (by omega) (by omega)
    have a3 := Int.mul_nonneg a2 (show 0 ≤ d by omega)
    have a4 := Int.tmod_nonneg d (show 0 ≤ -n by omega)
    rw [a1, Int.neg_mul] at a3
    rw [Int.neg_tmod] at a4
    omega
  have e8 : -9223372036854775808 ≤ n.tdiv d * d ∧ n.tdiv d * d ≤ 9223372036854775807 := by
    rcases Int.lt_or_le n 0 with h | h
    · have := e7.1 h; omega
    · have := e7.2 h; omega
  have i0 : ¬ d = 0 := by omega
  have i1 : IntKind.i64.wrap (n.tdiv d) = n.tdiv d := IntWalk.i64_in _ (by omega)
  have i2 : IntKind.i64.wrap (n.tdiv d * d) = n.tdiv d * d := IntWalk.i64_in _ (by omega)
  obtain ⟨q, hq⟩ : ∃ q, q = n.tdiv d := ⟨_, rfl⟩
  obtain ⟨f, hf⟩ : ∃ f, f = n / d := ⟨_, rfl⟩
  have w0 : ∀ x : Int, -9223372036854775808 ≤ x → x ≤ 9223372036854775807 → wrap64 x = x := fun x h1 h2 => by unfold wrap64; omega
  have i5 : wrap64 (q * d) = q * d := w0 _ (by rw [hq]; omega) (by rw [hq]; omega)
  have i6 : wrap64 q = q := w0 _ (by rw [hq]; omega) (by rw [hq]; omega)
  by_cases hm : n.tmod d < 0
  · have g := Lib.hid (tdiv_down1 n d hd hm)
    have i3 : n < q * d := by rw [hq]; omega
    have hbl : n < 0 := by rcases Int.lt_or_le n 0 with h | h; exact h; have := e7.2 h; omega
    have i4 : wrap64 (q - 1) = q - 1 := w0 _ (by omega) (by omega)
    rw [← hq, ← hf] at g
    rw [← hf]
    clear hf w0 e1 e2 e7 e8 hb i1 i2 hm
    have hq' := hq.symm
    clear hq
    go_enter Try.func31, Try.ntmps31
    go_wp2
    go_ret
    exact ⟨ret_int (i4.trans g.out), rfl⟩
  · have g := Lib.hid (tdiv_down0 n d hd (by omega))
    have i3 : ¬ n < q * d := by rw [hq]; omega
    rw [← hq, ← hf] at g
    rw [← hf]
    clear hf w0 e1 e2 e7 e8 hb i1 i2 hm
    have hq' := hq.symm
    clear hq
    go_enter Try.func31, Try.ntmps31
    go_wp2
    go_ret
    exact ⟨ret_int g.out, rfl⟩
end Go.Proofs.Ytoiapnokgpeipaa

/- Excess, as the document's own function has it. -/
namespace Go.Proofs.Ytoiapnokgpeipaa
set_option linter.unusedSimpArgs false
open Go.RowKit Go.Maps

set_option maxRecDepth 100000 in
set_option maxHeartbeats 1600000 in
theorem excessRef_any (t r p o : Int) (same : Bool) (P : List (Int × Int)) (v : Value) (i : Int) (w : World) (hP : WheelsAt w v P) (ht : 1 ≤ t ∧ t ≤ 1000) (hr : 1 ≤ r ∧ r ≤ 1000) (ha : 1 ≤ prodW (drvs P) ∧ prodW (drvs P) ≤ 1000000) (hb : 1 ≤ prodW (drns P) ∧ prodW (drns P) ≤ 1000000) :
    Calls Try.prog 30 #[.agg #[.int .i64 t, .int .i64 r, .bool same, .int .i64 p, .int .i64 o], .agg #[v, .int .i64 i]] w fun e w' =>
      e = .returned (.tuple #[.int .i64 (prodW (drvs P) * t - prodW (drns P) * r), .int .i64 (prodW (drns P) * r)]) ∧ Below w.heap.size w w' := by
  have p1 := mul_bd (x := prodW (drvs P)) (y := t) (by omega) ha.2 (by omega) ht.2
  have p2 := mul_bd (x := prodW (drns P)) (y := r) (by omega) hb.2 (by omega) hr.2
  have hpr := fun W (h : WheelsAt W v P) => products_any P v i W h
  obtain ⟨pa, pc, rfl⟩ := hP.shape
  have HP := Lib.hid hP
  have HR := Lib.hid hpr
  clear hP hpr
  generalize prodW (drvs P) = a at *
  generalize prodW (drns P) = b at *
  obtain ⟨W1, hW1⟩ : ∃ W1, W1 = (w.alloc (.cells #[.int .i64 t, .int .i64 r, .bool same, .int .i64 p, .int .i64 o] 24)).alloc (.cells #[.slice pa P.length pc, .int .i64 i] 27) := ⟨_, rfl⟩
  have hb1 : Below w.heap.size w W1 := by rw [hW1]; exact ((Below.refl _ _).alloc (Nat.le_refl _) _).alloc (by simp) _
  have hG : W1.heap[w.heap.size]? = some (.cells #[.int .i64 t, .int .i64 r, .bool same, .int .i64 p, .int .i64 o] 24) := by rw [hW1, Below.heap_alloc _ _ _ (by simp)]; exact (MapKept.heap_alloc w _).1
  have hz1 : W1.heap.size = w.heap.size + 2 := by rw [hW1]; simp
  go_enter Try.func30, Try.ntmps30
  go_wp2_with fail
  rw [← hW1]
  clear hW1
  refine (HR.out W1 (HP.out.below hb1)).mono ?_
  rintro e w2 ⟨rfl, hb2⟩
  have hG2 := (hb2.block w.heap.size (by omega)).trans hG
  have hb3 : Below w.heap.size w w2 := hb1.trans (hb2.mono (by omega))
  obtain ⟨q0, q1⟩ : w2.cell? ⟨w.heap.size, 0, none⟩ = some (.int .i64 t) ∧ w2.cell? ⟨w.heap.size, 1, none⟩ = some (.int .i64 r) := by refine ⟨?_, ?_⟩ <;> simp [World.cell?, hG2]
  clear hG hG2 hb1 hb2 hz1
  go_wp2_with fail
  go_quiet (fail)
  go_wp2
  go_ret2
  exact ⟨rfl, below_drewN' hb3 _⟩
end Go.Proofs.Ytoiapnokgpeipaa
