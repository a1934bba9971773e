/- SoundWheres: Where answers the stretches that the document's definition gives place by place, for every line and all hearings (lines of at most 12 pipes, of 400 decimetres together if they are valid; at most 12 hearings). -/
import Derived.Test.YtdbjifpnbghbaaaL8
import Derived.Test.YtdbjifpnbghbaaaE1
import Derived.Test.YtdbjifpnbghbaaaE2
namespace Go.Proofs.Ytdbjifpnbghbaaa
open Go.ChangeShapes Go.WideShapes Go.ChangeAt Go.RowKit

set_option maxRecDepth 100000 in
theorem wheres_lifted (os : Os) (started : os.Started) (H : Type) (enc : TypeId × Value → H) :
    ReturnsInHanded {} Try.checked os 4 .any (Rows.soundWheresSpec.pre6 enc Try.prog Try.f4 Rows.soundWheresRow.domain false) (Rows.soundWheresSpec.post enc Try.prog Try.f4 false true false false) := by
  refine returnsInHanded_of_change (C := Try.checked) own_knob started (by kernel_rfl) Try.func4
    (ChangeSpec.witness6 (enc := enc) (C := Try.checked) false ⟨#[], #[.slice none 0 0, .slice none 0 0], []⟩ 8 (by kernel_rfl) (by kernel_rfl) (by kernel_rfl) (by kernel_rfl)) ?_
  intro W base args ds gs before hval0 hW hcnd _
  have hval : ∀ (j : Nat) t v, Try.f4.params[j]? = some t → args[j]? = some v → Value.okWide Try.prog W .any 0 t v := hval0
  have hW' := hW
  obtain ⟨p, q, hA, hV, rfl, _, _⟩ := hW'
  rw [Try.params4] at hA hval
  obtain ⟨v0, vs0, d0, ds0, p0, q0, hargs, rfl, rfl, h0, r0⟩ := trodAll_cons hA
  obtain ⟨v1, vs1, d1, ds1, p1, q1, rfl, rfl, rfl, h1, r1⟩ := trodAll_cons r0
  obtain ⟨rfl, rfl, rfl⟩ := trodAll_nil r1
  obtain rfl : args = #[v0, v1] := by cases args; simp_all
  obtain ⟨⟨l0, hl0⟩, hn0⟩ := pis_at (hval 0 22 v0 rfl rfl) h0
  obtain ⟨⟨l1, hl1⟩, hn1⟩ := hes_at (hval 1 37 v1 rfl rfl) h1
  refine (wheres_law l0 v0 l1 v1 W hl0 hl1).mono fun e W' ⟨he, hb⟩ => ?_
  exact ⟨_, he, law_post hW rfl (by kernel_rfl) (by rw [Try.params4]; decide) (fun h => by rw [h]; rfl) hb⟩

theorem wheres_holds : Rows.SoundWheresSaid :=
  OpenClaim.holds_of_wide 4 Try.f4 rfl rfl rfl rfl rfl rfl rfl ⟨rfl, rfl, rfl, rfl, rfl⟩ rfl rfl rfl rfl rfl (by kernel_rfl) Try.func4 (by kernel_rfl)
    (of_decide_eq_true (by kernel_rfl)) (by unfold Func.isWrapper; first | (rw [if_pos (by decide +kernel)]; kernel_rfl) | (rw [if_neg (by decide +kernel)]; exact ⟨rfl, rfl⟩))
    (fun os started H enc _ => wheres_lifted os started H enc)
#print axioms wheres_holds
end Go.Proofs.Ytdbjifpnbghbaaa
