/- What the laws' arguments read as: a register, a row of ints. -/
import Derived.Test.YtmcndecmnfbggaaE1
import Derived.Test.YtmcndecmnfbggaaD2
import Derived.Deep.Slices
import Derived.ChangeSlices
namespace Go.Proofs.Ytmcndecmnfbggaa
open Go.ChangeShapes Go.WideShapes Go.ChangeAt Go.RowKit
section
variable {H : Type} {enc : TypeId × Value → H} {W : World}
theorem spot_of {a : Addr} {k : Nat} {v : Value} (h : W.cell? (a.add k) = some v) (hk : k = 0) : ∃ b off, a = ⟨b, off, none⟩ := by
  subst hk
  obtain ⟨b, off, spot⟩ := a
  have hs : spot = none := by simpa [Addr.add] using World.cell?_spot h
  exact ⟨b, off, by rw [hs]⟩
set_option maxRecDepth 100000 in
theorem one_field {cs : List Value} {f : Field} {k : Nat} {c : Value} (hk : cs[k]? = some c) (ho : f.offset = k) (hc : Try.prog.cellsOf f.type = 1) : (cs.drop f.offset).take (Try.prog.cellsOf f.type) = [c] := by
  rw [ho, hc]
  obtain ⟨hl, rfl⟩ := List.getElem?_eq_some_iff.1 hk
  rw [List.drop_eq_getElem_cons hl]; rfl
set_option maxRecDepth 100000 in
theorem reg_at {v : Value} {d : DataW H} {p : List MemPlace} (hok : Value.okWide Try.prog W .any 0 23 v) (h : DataW.Trod enc Try.prog W 0 (fun _ => true) true 23 v d p) :
    ∃ x y : Int, v = .agg #[.int .i64 x, .int .i64 y] := by
  obtain ⟨cs, rfl, hsz⟩ := okWide_struct Try.underlying23 hok
  have hc2 : Try.prog.cellsOf 23 = 2 := by kernel_rfl
  have c3 : Try.prog.cellsOf 3 = 1 := by kernel_rfl
  obtain ⟨n, hn⟩ := h
  obtain ⟨xs, m, _, _, _, hxl, hf⟩ := DataW.trod_struct Try.underlying23 hn
  have hx : xs.length = 2 := hxl
  obtain ⟨l⟩ := cs
  match l, hsz.trans hc2 with
  | [a0, a1], _ =>
    have g0 := hf 0 _ rfl
    have g1 := hf 1 _ rfl
    rw [one_field (c := a0) rfl rfl c3, List.getElem?_eq_getElem (by omega)] at g0
    rw [one_field (c := a1) rfl rfl c3, List.getElem?_eq_getElem (by omega)] at g1
    obtain ⟨t, ht, _⟩ := DataW.trod_int Try.underlying3 g0
    obtain ⟨r, hr, _⟩ := DataW.trod_int Try.underlying3 g1
    simp only [List.cons.injEq, and_true] at ht hr
    exact ⟨t, r, by rw [ht, hr]⟩
theorem add_plain (b off k : Nat) : (Addr.add ⟨b, off, none⟩ k) = ⟨b, off + k, none⟩ := by
  unfold Addr.add
  split
  · rename_i h; simp
  · rfl
set_option maxRecDepth 100000 in
theorem ints_at {v : Value} {d : DataW H} {p : List MemPlace} (hok : Value.okWide Try.prog W .any 0 24 v) (h : DataW.Trod enc Try.prog W 0 (fun _ => true) true 24 v d p) : ∃ l, IntsAt W v l := by
  obtain ⟨a0, len0, cap0, rfl⟩ := okWide_slice Try.underlying24 hok
  obtain ⟨n, hn⟩ := h
  rcases open_ints (cs := [.slice a0 len0 cap0]) Try.underlying24 Try.underlying3 (by kernel_rfl) (by simpa [Value.cells] using hn) with ⟨e, _⟩ | ⟨a, len, cap, zs, e, hb, hl, hm, hz, _, hc, _⟩
  · simp only [List.cons.injEq, and_true] at e
    exact ⟨[], by simp [maxLen], .inl ⟨rfl, _, _, e⟩⟩
  · simp only [List.cons.injEq, and_true] at e
    rw [e]
    simp only [if_true] at hz
    by_cases h0 : len = 0
    · subst h0
      exact ⟨[], by simp [maxLen], .inl ⟨rfl, _, _, rfl⟩⟩
    · have hc0 := hc 0 (by omega)
      obtain ⟨b, off, rfl⟩ := spot_of hc0 rfl
      have hlt : b < W.heap.size := World.block_lt_of_cell? W (Addr.add ⟨b, off, none⟩ 0) hc0
      have hlen : (zs.take len).length = len := by rw [List.length_take]; omega
      refine ⟨zs.take len, by rw [hlen]; omega, .inr ⟨b, off, cap, by rw [hlen], by rw [hlen]; exact hl, hm, hlt, fun i hi => ?_⟩⟩
      rw [hlen] at hi
      have := hc i (by omega)
      rw [add_plain] at this
      rw [show (zs.take len).getD i 0 = zs.getD i 0 by simp [List.getD, hi]]
      exact this
end
end Go.Proofs.Ytmcndecmnfbggaa
