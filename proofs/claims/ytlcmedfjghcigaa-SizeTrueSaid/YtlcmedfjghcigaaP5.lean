/- SizeTrue: with the size that Choose returns no taps that can be open together are starved, whatever they take, and the drip is heard; the greatest flow is within the span of Peak. -/
import Derived.Test.YtlcmedfjghcigaaS5
import Derived.Test.YtlcmedfjghcigaaE3
import Derived.Test.YtlcmedfjghcigaaE2
namespace Go.Proofs.Ytlcmedfjghcigaa
open Go.ChangeShapes Go.WideShapes Go.ChangeAt Go.RowKit

set_option maxRecDepth 100000 in
theorem true_lifted (os : Os) (started : os.Started) (H : Type) (enc : TypeId × Value → H) :
    ReturnsInHanded {} Try.checked os 6 .any (Rows.sizeTrueSpec.pre6 enc Try.prog Try.f6 Rows.sizeTrueRow.domain false) (Rows.sizeTrueSpec.post enc Try.prog Try.f6 false true false false) := by
  refine returnsInHanded_of_change (C := Try.checked) own_knob started (by kernel_rfl) Try.func6
    (ChangeSpec.witness6 (enc := enc) (C := Try.checked) false ⟨#[], #[.agg #[.int .i64 0, .int .i64 0, .slice none 0 0, .slice none 0 0], .slice none 0 0, .int .u16 0, .slice none 0 0], []⟩ 8 (by kernel_rfl) (by kernel_rfl) (by kernel_rfl) (by kernel_rfl)) ?_
  intro W base args ds gs before hval0 hW hcnd _
  have hval : ∀ (j : Nat) t v, Try.f6.params[j]? = some t → args[j]? = some v → Value.okWide Try.prog W .any 0 t v := hval0
  have hW' := hW
  obtain ⟨p, q, hA, hV, rfl, _, _⟩ := hW'
  rw [Try.params6] at hA hval
  obtain ⟨v0, vs0, d0, ds0, p0, q0, hargs, rfl, rfl, h0, r0⟩ := trodAll_cons hA
  obtain ⟨v1, vs1, d1, ds1, p1, q1, rfl, rfl, rfl, h1, r1⟩ := trodAll_cons r0
  obtain ⟨v2, vs2, d2, ds2, p2, q2, rfl, rfl, rfl, h2, r2⟩ := trodAll_cons r1
  obtain ⟨v3, vs3, d3, ds3, p3, q3, rfl, rfl, rfl, h3, r3⟩ := trodAll_cons r2
  obtain ⟨rfl, rfl, rfl⟩ := trodAll_nil r3
  obtain rfl : args = #[v0, v1, v2, v3] := by cases args; simp_all
  obtain ⟨s0, x0, n0, y0, m0, rfl, hs0⟩ := hs_at (hval 0 25 v0 rfl rfl) h0
  obtain ⟨l1, hl1⟩ := szs_at (hval 1 38 v1 rfl rfl) h1
  obtain ⟨a2, rfl, _, _, hk2⟩ := open_int Try.underlying47 (hval 2 47 v2 rfl rfl) h2
  have hb2 : 0 ≤ a2 ∧ a2 ≤ 65535 := by simpa [Lit.wf, IntKind.min, IntKind.max, IntKind.signed, IntKind.bits] using hk2
  obtain ⟨t2, rfl⟩ : ∃ t : Nat, a2 = t := ⟨a2.toNat, by omega⟩
  obtain ⟨k3, hk3⟩ := u16s_at (hval 3 48 v3 rfl rfl) h3
  refine (true_law s0 x0 n0 y0 m0 l1 v1 t2 (by omega) k3 v3 W hs0 hl1 hk3).mono fun e W' ⟨he, hb⟩ => ?_
  exact ⟨_, he, law_post hW rfl (by kernel_rfl) (by rw [Try.params6]; decide) (fun h => by rw [h]; rfl) hb⟩

theorem true_holds : Rows.SizeTrueSaid :=
  OpenClaim.holds_of_wide 6 Try.f6 rfl rfl rfl rfl rfl rfl rfl ⟨rfl, rfl, rfl, rfl, rfl⟩ rfl rfl rfl rfl rfl (by kernel_rfl) Try.func6 (by kernel_rfl)
    (of_decide_eq_true (by kernel_rfl)) (by unfold Func.isWrapper; first | (rw [if_pos (by decide +kernel)]; kernel_rfl) | (rw [if_neg (by decide +kernel)]; exact ⟨rfl, rfl⟩))
    (fun os started H enc _ => true_lifted os started H enc)
#print axioms true_holds
end Go.Proofs.Ytlcmedfjghcigaa
