/- What a list of ints of two bytes reads as. -/
import Derived.Test.YtdbjifpnbghbaaaE2
import Derived.Test.YtdbjifpnbghbaaaT1
namespace Go.Proofs.Ytdbjifpnbghbaaa
set_option linter.unusedSimpArgs false
set_option linter.unusedVariables false
open Go.ChangeShapes Go.WideShapes Go.ChangeAt Go.RowKit
section
variable {H : Type} {enc : TypeId × Value → H} {W : World}
set_option maxRecDepth 100000 in
theorem u16s_at {v : Value} {d : DataW H} {p : List MemPlace} (hok : Value.okWide Try.prog W .any 0 50 v) (h : DataW.Trod enc Try.prog W 0 (fun _ => true) true 50 v d p) : ∃ L, U16At W v L := by
  obtain ⟨a0, len0, cap0, rfl⟩ := okWide_slice Try.underlying50 hok
  obtain ⟨n, hn⟩ := h
  have c56 : Try.prog.cellsOf 56 = 1 := by kernel_rfl
  rcases Go.Deep.open_slice Try.underlying50 hn with ⟨hv, _⟩ | ⟨a, len, cap, m, q, D, Pl, hv, _, hlc, hcm, hm, _, hi⟩
  · have hv1 : [Value.slice a0 len0 cap0] = [.slice none 0 0] := hv
    have hv' := (List.cons.inj hv1).1
    rw [hv']
    exact ⟨[], by simp [maxLen], .inl ⟨rfl, _, _, rfl⟩⟩
  · have hv1 : [Value.slice a0 len0 cap0] = [.slice (some a) len cap] := hv
    have hv' := (List.cons.inj hv1).1
    rw [hv']
    rw [if_pos rfl] at hm
    subst hm
    rw [c56] at hi
    have hc : ∀ i, i < len → ∃ y : Nat, W.cell? (a.add i) = some (.int .u16 (y : Nat)) ∧ y < 65536 := by
      intro i hil
      obtain ⟨cs, hcs, htr⟩ := hi i (by omega)
      obtain ⟨y, rfl, _, hk⟩ := DataW.trod_int Try.underlying56 htr
      have hb : 0 ≤ y ∧ y ≤ 65535 := by simpa [Lit.wf, IntKind.min, IntKind.max, IntKind.signed, IntKind.bits] using hk
      obtain ⟨t, rfl⟩ : ∃ t : Nat, y = t := ⟨y.toNat, by omega⟩
      obtain ⟨_, _, hcc⟩ := World.cells?_some hcs
      have := hcc 0 (by omega)
      refine ⟨t, ?_, by omega⟩
      simpa [Addr.add] using this
    obtain ⟨S, hSl, hS⟩ := list_of 0 len hc
    by_cases hl0 : len = 0
    · subst hl0
      exact ⟨[], by simp [maxLen], .inl ⟨rfl, _, _, rfl⟩⟩
    · have h0 := (hS 0 (by omega)).1
      obtain ⟨b, off, rfl⟩ := spot_of h0 rfl
      have hblk : b < W.heap.size := by
        have := World.block_lt_of_cell? W _ h0
        simpa [Addr.add] using this
      refine ⟨S, by unfold maxLen at *; omega, .inr ⟨b, off, m, by rw [hSl], hblk, fun i hi => ?_⟩⟩
      have := hS i (by omega)
      rw [add_plain'] at this
      exact this
end
end Go.Proofs.Ytdbjifpnbghbaaa
