/- Sound: a hearing as an argument. -/
import Derived.Test.YtdbjifpnbghbaaaE2
namespace Go.Proofs.Ytdbjifpnbghbaaa
open Go.ChangeShapes Go.WideShapes Go.ChangeAt Go.RowKit

section
variable {H : Type} {enc : TypeId × Value → H} {W : World}
set_option maxRecDepth 100000 in
theorem he_at {v : Value} {d : DataW H} {p : List MemPlace} (hok : Value.okWide Try.prog W .any 0 26 v) (h : DataW.Trod enc Try.prog W 0 (fun _ => true) true 26 v d p) : ∃ z, v = heV z := by
  obtain ⟨cs, rfl, hsz⟩ := okWide_struct Try.underlying26 hok
  obtain ⟨n, hn⟩ := h
  obtain ⟨t, ht⟩ := he_read hn
  obtain ⟨l⟩ := cs
  have c26 : Try.prog.cellsOf 26 = 4 := by kernel_rfl
  have hl : l.length = 4 := by
    rw [c26] at hsz
    simpa using hsz
  refine ⟨t, ?_⟩
  match l, hl, ht with
  | [a0, a1, a2, a3], _, ht =>
    have e0 := ht 0 (by omega)
    have e1 := ht 1 (by omega)
    have e2 := ht 2 (by omega)
    have e3 := ht 3 (by omega)
    have f0 : a0 = _ := Option.some.inj e0
    have f1 : a1 = _ := Option.some.inj e1
    have f2 : a2 = _ := Option.some.inj e2
    have f3 : a3 = _ := Option.some.inj e3
    rw [f0, f1, f2, f3]
    rfl
end
end Go.Proofs.Ytdbjifpnbghbaaa
