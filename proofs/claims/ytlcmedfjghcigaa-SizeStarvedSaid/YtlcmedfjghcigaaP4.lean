/- SizeStarved: the set that Starved names can be open, and is starved, if its taps take as much as they can; no set with a lesser number is, and if it names none, none is. -/
import Derived.Test.YtlcmedfjghcigaaS4
import Derived.Test.YtlcmedfjghcigaaE2
namespace Go.Proofs.Ytlcmedfjghcigaa
open Go.ChangeShapes Go.WideShapes Go.ChangeAt Go.RowKit

set_option maxRecDepth 100000 in
theorem starved_lifted (os : Os) (started : os.Started) (H : Type) (enc : TypeId × Value → H) :
    ReturnsInHanded {} Try.checked os 7 .any (Rows.sizeStarvedSpec.pre6 enc Try.prog Try.f7 Rows.sizeStarvedRow.domain false) (Rows.sizeStarvedSpec.post enc Try.prog Try.f7 false true false false) := by
  refine returnsInHanded_of_change (C := Try.checked) own_knob started (by kernel_rfl) Try.func7
    (ChangeSpec.witness6 (enc := enc) (C := Try.checked) false ⟨#[], #[.agg #[.int .i64 0, .int .i64 0, .slice none 0 0, .slice none 0 0], .agg #[.int .i64 0, .int .i64 0, .int .i64 0, .int .i64 0], .int .u16 0], []⟩ 8 (by kernel_rfl) (by kernel_rfl) (by kernel_rfl) (by kernel_rfl)) ?_
  intro W base args ds gs before hval0 hW hcnd _
  have hval : ∀ (j : Nat) t v, Try.f7.params[j]? = some t → args[j]? = some v → Value.okWide Try.prog W .any 0 t v := hval0
  have hW' := hW
  obtain ⟨p, q, hA, hV, rfl, _, _⟩ := hW'
  rw [Try.params7] at hA hval
  obtain ⟨v0, vs0, d0, ds0, p0, q0, hargs, rfl, rfl, h0, r0⟩ := trodAll_cons hA
  obtain ⟨v1, vs1, d1, ds1, p1, q1, rfl, rfl, rfl, h1, r1⟩ := trodAll_cons r0
  obtain ⟨v2, vs2, d2, ds2, p2, q2, rfl, rfl, rfl, h2, r2⟩ := trodAll_cons r1
  obtain ⟨rfl, rfl, rfl⟩ := trodAll_nil r2
  obtain rfl : args = #[v0, v1, v2] := by cases args; simp_all
  obtain ⟨s0, x0, n0, y0, m0, rfl, hs0⟩ := hs_at (hval 0 25 v0 rfl rfl) h0
  obtain ⟨z1, rfl⟩ := sz_at (hval 1 27 v1 rfl rfl) h1
  obtain ⟨a2, rfl, _, _, hk2⟩ := open_int Try.underlying47 (hval 2 47 v2 rfl rfl) h2
  have hb2 : 0 ≤ a2 ∧ a2 ≤ 65535 := by simpa [Lit.wf, IntKind.min, IntKind.max, IntKind.signed, IntKind.bits] using hk2
  obtain ⟨t2, rfl⟩ : ∃ t : Nat, a2 = t := ⟨a2.toNat, by omega⟩
  refine (starved_law s0 x0 n0 y0 m0 z1 t2 (by omega) W hs0).mono fun e W' ⟨he, hb⟩ => ?_
  exact ⟨_, he, law_post hW rfl (by kernel_rfl) (by rw [Try.params7]; decide) (fun h => by rw [h]; rfl) hb⟩

theorem starved_holds : Rows.SizeStarvedSaid :=
  OpenClaim.holds_of_wide 7 Try.f7 rfl rfl rfl rfl rfl rfl rfl ⟨rfl, rfl, rfl, rfl, rfl⟩ rfl rfl rfl rfl rfl (by kernel_rfl) Try.func7 (by kernel_rfl)
    (of_decide_eq_true (by kernel_rfl)) (by unfold Func.isWrapper; first | (rw [if_pos (by decide +kernel)]; kernel_rfl) | (rw [if_neg (by decide +kernel)]; exact ⟨rfl, rfl⟩))
    (fun os started H enc _ => starved_lifted os started H enc)
#print axioms starved_holds
end Go.Proofs.Ytlcmedfjghcigaa
