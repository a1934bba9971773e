/- What a law's slice of bytes reads as. -/
import Derived.Test.YtoiapnokgpeipaaE7
import Derived.Test.YtoiapnokgpeipaaN1
namespace Go.Proofs.Ytoiapnokgpeipaa
open Go.ChangeShapes Go.WideShapes Go.ChangeAt Go.RowKit
variable {H : Type} {enc : TypeId × Value → H} {W : World}

set_option maxRecDepth 100000 in
theorem bytes_at {v : Value} {d : DataW H} {p : List MemPlace} (hok : Value.okWide Try.prog W .any 0 51 v) (h : DataW.Trod enc Try.prog W 0 (fun _ => true) true 51 v d p) : ∃ L, BytesAt W v L := by
  obtain ⟨a, len, cap, rfl⟩ := okWide_slice Try.underlying51 hok
  clear hok
  obtain ⟨n, hn⟩ := h
  replace hn : DataW.trod enc Try.prog W 0 (fun _ => true) true n 51 [.slice a len cap] = some (d, p) := by simpa [Value.cells] using hn
  generalize (Value.slice a len cap) = v at hn ⊢
  clear a len cap
  rcases Go.Deep.open_slice Try.underlying51 hn with ⟨hv, _⟩ | ⟨a, len, cap, m, k, D, Pl, hv, _, hlc, hcm, hm, _, hi⟩
  · simp only [List.cons.injEq, and_true] at hv
    exact ⟨[], by simp [maxLen], by simp, .inl ⟨rfl, _, _, hv⟩⟩
  · simp only [List.cons.injEq, and_true] at hv
    subst hv
    rw [if_pos rfl] at hm
    subst hm
    have hce : Try.prog.cellsOf 5 = 1 := by kernel_rfl
    rw [hce] at hi
    have hc : ∀ i, i < len → ∃ q : Nat, W.cell? (a.add (i * 1)) = some (.int .u8 q) ∧ q ≤ 255 := by
      intro i hil
      obtain ⟨cs, hcs, htr⟩ := hi i (by omega)
      obtain ⟨z, rfl, _, hwf⟩ := DataW.trod_int Try.underlying5 htr
      obtain ⟨_, _, hcc⟩ := World.cells?_some hcs
      have k0 := hcc 0 (by simp)
      have hz : 0 ≤ z ∧ z ≤ 255 := by
        simp only [Lit.wf, Bool.and_eq_true, decide_eq_true_eq] at hwf
        exact ⟨hwf.1, hwf.2⟩
      exact ⟨z.toNat, by simpa [Addr.add, Int.toNat_of_nonneg hz.1] using k0, by omega⟩
    obtain ⟨S, hSl, hS⟩ := list_of 0 len hc
    by_cases hl0 : len = 0
    · subst hl0
      exact ⟨[], by simp [maxLen], by simp, .inl ⟨rfl, _, _, rfl⟩⟩
    · obtain ⟨b, off, rfl⟩ := spot_of (hS 0 (by omega)).1 (by omega)
      have hblk : b < W.heap.size := World.block_lt_of_cell? W (Addr.add ⟨b, off, none⟩ (0 * 1)) (hS 0 (by omega)).1
      refine ⟨S, by unfold maxLen at *; omega, fun x hx => ?_, .inr ⟨b, off, m, by rw [hSl], by omega, hcm, hblk, fun i hi => ?_⟩⟩
      · obtain ⟨i, hi, rfl⟩ := List.getElem_of_mem hx
        have := (hS i (by omega)).2
        simpa [List.getD, hi] using this
      · have := (hS i (by omega)).1
        rw [Nat.mul_one, add_plain] at this
        exact this
end Go.Proofs.Ytoiapnokgpeipaa
