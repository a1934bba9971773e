/- What the laws' arguments read as: a proof, a span; a nil slice has no cells. -/
import Derived.Test.YtcmfplfnpjknlaaE2
import Derived.Test.YtcmfplfnpjknlaaB30
namespace Go.Proofs.Ytcmfplfnpjknlaa
open Go.ChangeShapes Go.WideShapes Go.ChangeAt Go.RowKit
section
variable {H : Type} {enc : TypeId × Value → H} {W : World}
theorem nil_of {t e : TypeId} (ht : Try.prog.underlying t = some (.slice e)) {n : Nat} {v : Value} {x : DataW H × List MemPlace} (h : DataW.trod enc Try.prog W 0 (fun _ => true) true n t [v] = some x) : NilOk v := by
  intro n' c' e'
  rcases Go.Deep.open_slice ht h with ⟨hv, _⟩ | ⟨a, len, cap, m, q, D, Pl, hv, _⟩
  · simp only [List.cons.injEq, and_true] at hv
    rw [hv] at e'
    simp only [Value.slice.injEq, true_and] at e'
    exact ⟨e'.1.symm, e'.2.symm⟩
  · simp only [List.cons.injEq, and_true] at hv
    rw [hv] at e'
    simp at e'
set_option maxRecDepth 100000 in
theorem stk_nil {v : Value} {d : DataW H} {p : List MemPlace} (hok : Value.okWide Try.prog W .any 0 27 v) (h : DataW.Trod enc Try.prog W 0 (fun _ => true) true 27 v d p) : ∀ cv rv pv bv, v = .agg #[cv, rv, pv, bv] → NilOk pv := by
  obtain ⟨cs, rfl, hsz⟩ := okWide_struct Try.underlying27 hok
  have hc4 : Try.prog.cellsOf 27 = 4 := by kernel_rfl
  have c24 : Try.prog.cellsOf 24 = 1 := by kernel_rfl
  obtain ⟨n, hn⟩ := h
  obtain ⟨xs, m, _, _, _, hxl, hf⟩ := DataW.trod_struct Try.underlying27 hn
  have hx : xs.length = 4 := hxl
  obtain ⟨l⟩ := cs
  match l, hsz.trans hc4 with
  | [a0, a1, a2, a3], _ =>
    have g2 := hf 2 _ rfl
    rw [one_field (c := a2) rfl rfl c24, List.getElem?_eq_getElem (by omega)] at g2
    have hn2 := nil_of Try.underlying24 g2
    intro cv rv pv bv e
    simp only [Value.agg.injEq, Array.mk.injEq, List.cons.injEq, and_true] at e
    obtain ⟨_, _, rfl, _⟩ := e
    exact hn2
set_option maxRecDepth 100000 in
theorem proof_at {v : Value} {d : DataW H} {p : List MemPlace} (hok : Value.okWide Try.prog W .any 0 52 v) (h : DataW.Trod enc Try.prog W 0 (fun _ => true) true 52 v d p) : ∃ (p : Prf) (sv : Value), v = .agg #[.int .i64 p.cls, .int .i64 p.day, sv, .int .i64 p.failed] ∧ TabAt 1 numC W sv p.seals := by
  obtain ⟨cs, rfl, hsz⟩ := okWide_struct Try.underlying52 hok
  obtain ⟨n, hn⟩ := h
  obtain ⟨p, sv, e, hS⟩ := prf_read hn
  refine ⟨p, sv, ?_, hS⟩
  obtain ⟨l⟩ := cs
  have e2 : l = [.int .i64 p.cls, .int .i64 p.day, sv, .int .i64 p.failed] := e
  rw [e2]
set_option maxRecDepth 100000 in
theorem span_at {v : Value} {d : DataW H} {p : List MemPlace} (hok : Value.okWide Try.prog W .any 0 29 v) (h : DataW.Trod enc Try.prog W 0 (fun _ => true) true 29 v d p) : ∃ a b : Int, v = .agg #[.int .i64 a, .int .i64 b] := by
  obtain ⟨cs, rfl, hsz⟩ := okWide_struct Try.underlying29 hok
  have hc2 : Try.prog.cellsOf 29 = 2 := by kernel_rfl
  have c3 : Try.prog.cellsOf 3 = 1 := by kernel_rfl
  obtain ⟨n, hn⟩ := h
  obtain ⟨xs, m, _, _, _, hxl, hf⟩ := DataW.trod_struct Try.underlying29 hn
  have hx : xs.length = 2 := hxl
  obtain ⟨l⟩ := cs
  match l, hsz.trans hc2 with
  | [a0, a1], _ =>
    have g0 := hf 0 _ rfl
    have g1 := hf 1 _ rfl
    rw [one_field (c := a0) rfl rfl c3, List.getElem?_eq_getElem (by omega)] at g0
    rw [one_field (c := a1) rfl rfl c3, List.getElem?_eq_getElem (by omega)] at g1
    obtain ⟨a, ha, _⟩ := DataW.trod_int Try.underlying3 g0
    obtain ⟨b, hb, _⟩ := DataW.trod_int Try.underlying3 g1
    simp only [List.cons.injEq, and_true] at ha hb
    exact ⟨a, b, by rw [ha, hb]⟩
end
end Go.Proofs.Ytcmfplfnpjknlaa
