/- Size: no call of package size changes the house, the sizes or what they hold: the copies that were made of taps, rules and sizes before the calls are equal to them afterwards (at most 16 taps, 14 rules, 18 sizes). -/
import Derived.Test.YtlcmedfjghcigaaS8
import Derived.Test.YtlcmedfjghcigaaE1
import Derived.Test.YtlcmedfjghcigaaE2
namespace Go.Proofs.Ytlcmedfjghcigaa
open Go.ChangeShapes Go.WideShapes Go.ChangeAt Go.RowKit

set_option maxRecDepth 100000 in
theorem owns_lifted (os : Os) (started : os.Started) (H : Type) (enc : TypeId × Value → H) :
    ReturnsInHanded {} Try.checked os 11 .any (Rows.sizeOwnsSpec.pre6 enc Try.prog Try.f11 Rows.sizeOwnsRow.domain false) (Rows.sizeOwnsSpec.post enc Try.prog Try.f11 false true false false) := by
  refine returnsInHanded_of_change (C := Try.checked) own_knob started (by kernel_rfl) Try.func11
    (ChangeSpec.witness6 (enc := enc) (C := Try.checked) false ⟨#[], #[.agg #[.int .i64 0, .int .i64 0, .slice none 0 0, .slice none 0 0], .slice none 0 0, .int .i64 0], []⟩ 8 (by kernel_rfl) (by kernel_rfl) (by kernel_rfl) (by kernel_rfl)) ?_
  intro W base args ds gs before hval0 hW hcnd _
  have hval : ∀ (j : Nat) t v, Try.f11.params[j]? = some t → args[j]? = some v → Value.okWide Try.prog W .any 0 t v := hval0
  have hW' := hW
  obtain ⟨p, q, hA, hV, rfl, _, _⟩ := hW'
  rw [Try.params11] at hA hval
  obtain ⟨v0, vs0, d0, ds0, p0, q0, hargs, rfl, rfl, h0, r0⟩ := trodAll_cons hA
  obtain ⟨v1, vs1, d1, ds1, p1, q1, rfl, rfl, rfl, h1, r1⟩ := trodAll_cons r0
  obtain ⟨v2, vs2, d2, ds2, p2, q2, rfl, rfl, rfl, h2, r2⟩ := trodAll_cons r1
  obtain ⟨rfl, rfl, rfl⟩ := trodAll_nil r2
  obtain rfl : args = #[v0, v1, v2] := by cases args; simp_all
  have hn0 := hs_nil (hval 0 25 v0 rfl rfl) h0
  obtain ⟨s0, x0, n0, y0, m0, rfl, hs0⟩ := hs_at (hval 0 25 v0 rfl rfl) h0
  have hn1 := szs_nil (hval 1 38 v1 rfl rfl) h1
  obtain ⟨l1, hl1⟩ := szs_at (hval 1 38 v1 rfl rfl) h1
  obtain ⟨a2, rfl, _⟩ := open_int Try.underlying3 (hval 2 3 v2 rfl rfl) h2
  refine (owns_law s0 x0 n0 y0 m0 l1 v1 a2 W hs0 hl1 (hn0 _ _ _ _ rfl).1 (hn0 _ _ _ _ rfl).2 hn1).mono fun e W' ⟨he, hb⟩ => ?_
  exact ⟨_, he, law_post hW rfl (by kernel_rfl) (by rw [Try.params11]; decide) (fun h => by rw [h]; rfl) hb⟩

theorem owns_holds : Rows.SizeOwnsSaid :=
  OpenClaim.holds_of_wide 11 Try.f11 rfl rfl rfl rfl rfl rfl rfl ⟨rfl, rfl, rfl, rfl, rfl⟩ rfl rfl rfl rfl rfl (by kernel_rfl) Try.func11 (by kernel_rfl)
    (of_decide_eq_true (by kernel_rfl)) (by unfold Func.isWrapper; first | (rw [if_pos (by decide +kernel)]; kernel_rfl) | (rw [if_neg (by decide +kernel)]; exact ⟨rfl, rfl⟩))
    (fun os started H enc _ => owns_lifted os started H enc)
#print axioms owns_holds
end Go.Proofs.Ytlcmedfjghcigaa
