/- Sound: no call of package sound changes the line, the hearings or what they hold, and what is returned is new: the copies that were made of pipes and hearings before the calls are equal to them afterwards, and what was written into the lists that were returned does not show in the lists that are returned later (at most 12 pipes of 2^30 decimetres together, if they are valid; at most 12 hearings). -/
import Derived.Test.YtdbjifpnbghbaaaL6
import Derived.Test.YtdbjifpnbghbaaaE1
import Derived.Test.YtdbjifpnbghbaaaE2
namespace Go.Proofs.Ytdbjifpnbghbaaa
open Go.ChangeShapes Go.WideShapes Go.ChangeAt Go.RowKit

set_option maxRecDepth 100000 in
theorem owns_lifted (os : Os) (started : os.Started) (H : Type) (enc : TypeId × Value → H) :
    ReturnsInHanded {} Try.checked os 10 .any (Rows.soundOwnsSpec.pre6 enc Try.prog Try.f10 Rows.soundOwnsRow.domain false) (Rows.soundOwnsSpec.post enc Try.prog Try.f10 false true false false) := by
  refine returnsInHanded_of_change (C := Try.checked) own_knob started (by kernel_rfl) Try.func10
    (ChangeSpec.witness6 (enc := enc) (C := Try.checked) false ⟨#[], #[.slice none 0 0, .slice none 0 0, .int .i64 0], []⟩ 8 (by kernel_rfl) (by kernel_rfl) (by kernel_rfl) (by kernel_rfl)) ?_
  intro W base args ds gs before hval0 hW hcnd _
  have hval : ∀ (j : Nat) t v, Try.f10.params[j]? = some t → args[j]? = some v → Value.okWide Try.prog W .any 0 t v := hval0
  have hW' := hW
  obtain ⟨p, q, hA, hV, rfl, _, _⟩ := hW'
  rw [Try.params10] at hA hval
  obtain ⟨v0, vs0, d0, ds0, p0, q0, hargs, rfl, rfl, h0, r0⟩ := trodAll_cons hA
  obtain ⟨v1, vs1, d1, ds1, p1, q1, rfl, rfl, rfl, h1, r1⟩ := trodAll_cons r0
  obtain ⟨v2, vs2, d2, ds2, p2, q2, rfl, rfl, rfl, h2, r2⟩ := trodAll_cons r1
  obtain ⟨rfl, rfl, rfl⟩ := trodAll_nil r2
  obtain rfl : args = #[v0, v1, v2] := by cases args; simp_all
  obtain ⟨⟨l0, hl0⟩, hn0⟩ := pis_at (hval 0 22 v0 rfl rfl) h0
  obtain ⟨⟨l1, hl1⟩, hn1⟩ := hes_at (hval 1 37 v1 rfl rfl) h1
  obtain ⟨a2, rfl, _⟩ := open_int Try.underlying3 (hval 2 3 v2 rfl rfl) h2
  refine (owns_law l0 v0 l1 v1 a2 W hl0 hl1 hn0 hn1).mono fun e W' ⟨he, hb⟩ => ?_
  exact ⟨_, he, law_post hW rfl (by kernel_rfl) (by rw [Try.params10]; decide) (fun h => by rw [h]; rfl) hb⟩

theorem owns_holds : Rows.SoundOwnsSaid :=
  OpenClaim.holds_of_wide 10 Try.f10 rfl rfl rfl rfl rfl rfl rfl ⟨rfl, rfl, rfl, rfl, rfl⟩ rfl rfl rfl rfl rfl (by kernel_rfl) Try.func10 (by kernel_rfl)
    (of_decide_eq_true (by kernel_rfl)) (by unfold Func.isWrapper; first | (rw [if_pos (by decide +kernel)]; kernel_rfl) | (rw [if_neg (by decide +kernel)]; exact ⟨rfl, rfl⟩))
    (fun os started H enc _ => owns_lifted os started H enc)
#print axioms owns_holds
end Go.Proofs.Ytdbjifpnbghbaaa
