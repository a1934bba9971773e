/- A slice that came in and is nil has no cells. -/
import Derived.Test.YtoiapnokgpeipaaE7
import Derived.Test.YtoiapnokgpeipaaO1
namespace Go.Proofs.Ytoiapnokgpeipaa
open Go.ChangeShapes Go.WideShapes Go.ChangeAt Go.RowKit
variable {H : Type} {enc : TypeId × Value → H} {W : World}

set_option maxRecDepth 100000 in
theorem nilOk_22 {v : Value} (hok : Value.okWide Try.prog W .any 0 22 v) : NilOk v := by
  intro n c e
  subst e
  simp only [Value.okWide, Try.underlying22, Cell.okWide, Cell.ok] at hok
  cases n <;> cases c <;> simp_all
set_option maxRecDepth 100000 in
theorem nilOk_trod {t e : TypeId} (ht : Try.prog.underlying t = some (.slice e)) {n : Nat} {v : Value} {x : DataW H × List MemPlace} (h : DataW.trod enc Try.prog W 0 (fun _ => true) true n t [v] = some x) : NilOk v := by
  rcases Go.Deep.open_slice ht h with ⟨hv, _⟩ | ⟨a, len, cap, m, k, D, Pl, hv, _⟩
  · simp only [List.cons.injEq, and_true] at hv
    intro m c e2; rw [hv] at e2; simp only [Value.slice.injEq] at e2; omega
  · simp only [List.cons.injEq, and_true] at hv
    intro m c e2; rw [hv] at e2; simp at e2
set_option maxRecDepth 100000 in
theorem train_read2 {v : Value} {d : DataW H} {p : List MemPlace} (hok : Value.okWide Try.prog W .any 0 27 v) (h : DataW.Trod enc Try.prog W 0 (fun _ => true) true 27 v d p) :
    ∃ (pv : Value) (i : Int) (P : List (Int × Int)), v = .agg #[pv, .int .i64 i] ∧ WheelsAt W pv P ∧ NilOk pv := by
  obtain ⟨cs, rfl, hsz⟩ := okWide_struct Try.underlying27 hok
  have hc2 : Try.prog.cellsOf 27 = 2 := by kernel_rfl
  have c3 : Try.prog.cellsOf 3 = 1 := by kernel_rfl
  have c25 : Try.prog.cellsOf 25 = 1 := by kernel_rfl
  obtain ⟨n, hn⟩ := h
  obtain ⟨xs, m, _, _, _, hxl, hf⟩ := DataW.trod_struct Try.underlying27 hn
  have hx : xs.length = 2 := hxl
  obtain ⟨l⟩ := cs
  match l, hsz.trans hc2 with
  | [a0, a1], _ =>
    have g0 := hf 0 _ rfl
    have g1 := hf 1 _ rfl
    rw [one_field (c := a0) rfl rfl c25, List.getElem?_eq_getElem (by omega)] at g0
    rw [one_field (c := a1) rfl rfl c3, List.getElem?_eq_getElem (by omega)] at g1
    obtain ⟨i, hi, _⟩ := DataW.trod_int Try.underlying3 g1
    simp only [List.cons.injEq, and_true] at hi
    obtain ⟨P, hP⟩ := pairs_at Try.underlying25 Try.underlying49 rfl rfl rfl rfl (by kernel_rfl) g0
    exact ⟨a0, i, P, by rw [hi], hP, nilOk_trod Try.underlying25 g0⟩
end Go.Proofs.Ytoiapnokgpeipaa
