/- SoundTrue: wherever the leak is and however fast sound truly runs in the pipes, the true lag lies within what Lag says, Tune leaves the true numbers within its spans and these within their Slow, and if what was heard is true, the leak is on a stretch that Where names (lines of at most 12 pipes, of 2^30 decimetres together if they are valid). -/
import Derived.Test.YtdbjifpnbghbaaaL9
import Derived.Test.YtdbjifpnbghbaaaE1
import Derived.Test.YtdbjifpnbghbaaaE4
import Derived.Test.YtdbjifpnbghbaaaE2
namespace Go.Proofs.Ytdbjifpnbghbaaa
open Go.ChangeShapes Go.WideShapes Go.ChangeAt Go.RowKit

set_option maxRecDepth 100000 in
theorem true_lifted (os : Os) (started : os.Started) (H : Type) (enc : TypeId × Value → H) :
    ReturnsInHanded {} Try.checked os 6 .any (Rows.soundTrueSpec.pre6 enc Try.prog Try.f6 Rows.soundTrueRow.domain false) (Rows.soundTrueSpec.post enc Try.prog Try.f6 false true false false) := by
  refine returnsInHanded_of_change (C := Try.checked) own_knob started (by kernel_rfl) Try.func6
    (ChangeSpec.witness6 (enc := enc) (C := Try.checked) false ⟨#[], #[.slice none 0 0, .slice none 0 0, .int .u32 0], []⟩ 8 (by kernel_rfl) (by kernel_rfl) (by kernel_rfl) (by kernel_rfl)) ?_
  intro W base args ds gs before hval0 hW hcnd _
  have hval : ∀ (j : Nat) t v, Try.f6.params[j]? = some t → args[j]? = some v → Value.okWide Try.prog W .any 0 t v := hval0
  have hW' := hW
  obtain ⟨p, q, hA, hV, rfl, _, _⟩ := hW'
  rw [Try.params6] at hA hval
  obtain ⟨v0, vs0, d0, ds0, p0, q0, hargs, rfl, rfl, h0, r0⟩ := trodAll_cons hA
  obtain ⟨v1, vs1, d1, ds1, p1, q1, rfl, rfl, rfl, h1, r1⟩ := trodAll_cons r0
  obtain ⟨v2, vs2, d2, ds2, p2, q2, rfl, rfl, rfl, h2, r2⟩ := trodAll_cons r1
  obtain ⟨rfl, rfl, rfl⟩ := trodAll_nil r2
  obtain rfl : args = #[v0, v1, v2] := by cases args; simp_all
  obtain ⟨⟨l0, hl0⟩, hn0⟩ := pis_at (hval 0 22 v0 rfl rfl) h0
  obtain ⟨k1, hk1⟩ := u16s_at (hval 1 50 v1 rfl rfl) h1
  obtain ⟨a2, rfl, _, _, hk2⟩ := open_int Try.underlying51 (hval 2 51 v2 rfl rfl) h2
  have hb2 : 0 ≤ a2 ∧ a2 ≤ 4294967295 := by simpa [Lit.wf, IntKind.min, IntKind.max, IntKind.signed, IntKind.bits] using hk2
  obtain ⟨t2, rfl⟩ : ∃ t : Nat, a2 = t := ⟨a2.toNat, by omega⟩
  refine (true_law l0 v0 k1 v1 t2 (by omega) W hl0 hk1).mono fun e W' ⟨he, hb⟩ => ?_
  exact ⟨_, he, law_post hW rfl (by kernel_rfl) (by rw [Try.params6]; decide) (fun h => by rw [h]; rfl) hb⟩

theorem true_holds : Rows.SoundTrueSaid :=
  OpenClaim.holds_of_wide 6 Try.f6 rfl rfl rfl rfl rfl rfl rfl ⟨rfl, rfl, rfl, rfl, rfl⟩ rfl rfl rfl rfl rfl (by kernel_rfl) Try.func6 (by kernel_rfl)
    (of_decide_eq_true (by kernel_rfl)) (by unfold Func.isWrapper; first | (rw [if_pos (by decide +kernel)]; kernel_rfl) | (rw [if_neg (by decide +kernel)]; exact ⟨rfl, rfl⟩))
    (fun os started H enc _ => true_lifted os started H enc)
#print axioms true_holds
end Go.Proofs.Ytdbjifpnbghbaaa
