/- SizeSmallest: no size before the one that Choose returns does both, and why there is none; Least is the least Full that starves no set. -/
import Derived.Test.YtlcmedfjghcigaaS2
import Derived.Test.YtlcmedfjghcigaaE2
namespace Go.Proofs.Ytlcmedfjghcigaa
open Go.ChangeShapes Go.WideShapes Go.ChangeAt Go.RowKit

set_option maxRecDepth 100000 in
theorem smallest_lifted (os : Os) (started : os.Started) (H : Type) (enc : TypeId × Value → H) :
    ReturnsInHanded {} Try.checked os 8 .any (Rows.sizeSmallestSpec.pre6 enc Try.prog Try.f8 Rows.sizeSmallestRow.domain false) (Rows.sizeSmallestSpec.post enc Try.prog Try.f8 false true false false) := by
  refine returnsInHanded_of_change (C := Try.checked) own_knob started (by kernel_rfl) Try.func8
    (ChangeSpec.witness6 (enc := enc) (C := Try.checked) false ⟨#[], #[.agg #[.int .i64 0, .int .i64 0, .slice none 0 0, .slice none 0 0], .slice none 0 0, .int .i64 0, .int .u8 0], []⟩ 8 (by kernel_rfl) (by kernel_rfl) (by kernel_rfl) (by kernel_rfl)) ?_
  intro W base args ds gs before hval0 hW hcnd _
  have hval : ∀ (j : Nat) t v, Try.f8.params[j]? = some t → args[j]? = some v → Value.okWide Try.prog W .any 0 t v := hval0
  have hW' := hW
  obtain ⟨p, q, hA, hV, rfl, _, _⟩ := hW'
  rw [Try.params8] at hA hval
  obtain ⟨v0, vs0, d0, ds0, p0, q0, hargs, rfl, rfl, h0, r0⟩ := trodAll_cons hA
  obtain ⟨v1, vs1, d1, ds1, p1, q1, rfl, rfl, rfl, h1, r1⟩ := trodAll_cons r0
  obtain ⟨v2, vs2, d2, ds2, p2, q2, rfl, rfl, rfl, h2, r2⟩ := trodAll_cons r1
  obtain ⟨v3, vs3, d3, ds3, p3, q3, rfl, rfl, rfl, h3, r3⟩ := trodAll_cons r2
  obtain ⟨rfl, rfl, rfl⟩ := trodAll_nil r3
  obtain rfl : args = #[v0, v1, v2, v3] := by cases args; simp_all
  obtain ⟨s0, x0, n0, y0, m0, rfl, hs0⟩ := hs_at (hval 0 25 v0 rfl rfl) h0
  obtain ⟨l1, hl1⟩ := szs_at (hval 1 38 v1 rfl rfl) h1
  obtain ⟨a2, rfl, _⟩ := open_int Try.underlying3 (hval 2 3 v2 rfl rfl) h2
  obtain ⟨a3, rfl, _, _, hk3⟩ := open_int Try.underlying5 (hval 3 5 v3 rfl rfl) h3
  have hb3 : 0 ≤ a3 ∧ a3 ≤ 255 := by simpa [Lit.wf, IntKind.min, IntKind.max, IntKind.signed, IntKind.bits] using hk3
  obtain ⟨t3, rfl⟩ : ∃ t : Nat, a3 = t := ⟨a3.toNat, by omega⟩
  refine (smallest_any s0 x0 n0 y0 m0 l1 v1 a2 t3 (by omega) W hs0 hl1).mono fun e W' ⟨he, hb⟩ => ?_
  exact ⟨_, he, law_post hW rfl (by kernel_rfl) (by rw [Try.params8]; decide) (fun h => by rw [h]; rfl) hb⟩

theorem smallest_holds : Rows.SizeSmallestSaid :=
  OpenClaim.holds_of_wide 8 Try.f8 rfl rfl rfl rfl rfl rfl rfl ⟨rfl, rfl, rfl, rfl, rfl⟩ rfl rfl rfl rfl rfl (by kernel_rfl) Try.func8 (by kernel_rfl)
    (of_decide_eq_true (by kernel_rfl)) (by unfold Func.isWrapper; first | (rw [if_pos (by decide +kernel)]; kernel_rfl) | (rw [if_neg (by decide +kernel)]; exact ⟨rfl, rfl⟩))
    (fun os started H enc _ => smallest_lifted os started H enc)
#print axioms smallest_holds
end Go.Proofs.Ytlcmedfjghcigaa
