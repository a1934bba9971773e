/- What the laws' arguments read as: a stock, a gearing, a train, a number. -/
import Derived.Test.YtoiapnokgpeipaaE6
import Derived.Test.YtoiapnokgpeipaaA2
import Derived.Deep.Slices
namespace Go.Proofs.Ytoiapnokgpeipaa
open Go.ChangeShapes Go.WideShapes Go.ChangeAt Go.RowKit

theorem list_of {α : Type} (d : α) {Q : Nat → α → Prop} : ∀ n : Nat, (∀ i, i < n → ∃ x, Q i x) → ∃ l : List α, l.length = n ∧ ∀ i, i < n → Q i (l.getD i d)
  | 0, _ => ⟨[], rfl, fun i hi => by omega⟩
  | n + 1, h => by
    obtain ⟨l, hl, hq⟩ := list_of d n (fun i hi => h i (by omega))
    obtain ⟨x, hx⟩ := h n (by omega)
    refine ⟨l ++ [x], by simp [hl], fun i hi => ?_⟩
    by_cases e : i = n
    · subst e; simpa [List.getD, hl] using hx
    · have := hq i (by omega)
      simpa [List.getD, List.getElem?_append_left (show i < l.length by omega)] using this

section
variable {H : Type} {enc : TypeId × Value → H} {W : World}

theorem spot_of {a : Addr} {k : Nat} {v : Value} (h : W.cell? (a.add k) = some v) (hk : k = 0) : ∃ b off, a = ⟨b, off, none⟩ := by
  subst hk
  obtain ⟨b, off, spot⟩ := a
  have hs : spot = none := by simpa [Addr.add] using World.cell?_spot h
  exact ⟨b, off, by rw [hs]⟩

set_option maxRecDepth 100000 in
theorem two_ints {e : TypeId} {f0 f1 : Field} (he : Try.prog.underlying e = some (.struct #[f0, f1])) (h0 : f0.type = 3) (h1 : f1.type = 3) (o0 : f0.offset = 0) (o1 : f1.offset = 1) (hce : Try.prog.cellsOf e = 2) {n : Nat} {cs : List Value} {x : DataW H × List MemPlace}
    (h : DataW.trod enc Try.prog W 0 (fun _ => true) true n e cs = some x) : ∃ a b : Int, cs = [.int .i64 a, .int .i64 b] := by
  obtain ⟨xs, m, _, _, hl, hxl, hf⟩ := DataW.trod_struct he h
  have c3 : Try.prog.cellsOf 3 = 1 := by kernel_rfl
  rw [hce] at hl
  have hx2 : xs.length = 2 := hxl
  have g0 := hf 0 f0 rfl
  have g1 := hf 1 f1 rfl
  rw [h0, o0, c3, List.getElem?_eq_getElem (by omega)] at g0
  rw [h1, o1, c3, List.getElem?_eq_getElem (by omega)] at g1
  obtain ⟨a, ha, _⟩ := DataW.trod_int Try.underlying3 g0
  obtain ⟨b, hb, _⟩ := DataW.trod_int Try.underlying3 g1
  match cs, hl with
  | [u, v], _ =>
    simp at ha hb
    exact ⟨a, b, by rw [ha, hb]⟩

set_option maxRecDepth 100000 in
theorem pairs_at {t e : TypeId} {f0 f1 : Field} (ht : Try.prog.underlying t = some (.slice e)) (he : Try.prog.underlying e = some (.struct #[f0, f1])) (h0 : f0.type = 3) (h1 : f1.type = 3) (o0 : f0.offset = 0) (o1 : f1.offset = 1) (hce : Try.prog.cellsOf e = 2)
    {n : Nat} {v : Value} {x : DataW H × List MemPlace} (h : DataW.trod enc Try.prog W 0 (fun _ => true) true n t [v] = some x) : ∃ S, WheelsAt W v S := by
  rcases Go.Deep.open_slice ht h with ⟨hv, _⟩ | ⟨a, len, cap, m, k, D, Pl, hv, _, hlc, hcm, hm, _, hi⟩
  · simp only [List.cons.injEq, and_true] at hv
    exact ⟨[], by simp [maxLen], .inl ⟨rfl, _, _, hv⟩⟩
  · simp only [List.cons.injEq, and_true] at hv
    subst hv
    rw [if_pos rfl] at hm
    subst hm
    rw [hce] at hi
    have hc : ∀ i, i < len → ∃ q : Int × Int, W.cell? (a.add (i * 2)) = some (.int .i64 q.1) ∧ W.cell? ((a.add (i * 2)).add 1) = some (.int .i64 q.2) := by
      intro i hil
      obtain ⟨cs, hcs, htr⟩ := hi i (by omega)
      obtain ⟨q1, q2, rfl⟩ := two_ints he h0 h1 o0 o1 hce htr
      obtain ⟨_, _, hcc⟩ := World.cells?_some hcs
      have k0 := hcc 0 (by omega)
      have k1 := hcc 1 (by omega)
      exact ⟨(q1, q2), by simpa [Addr.add] using k0, by simpa using k1⟩
    obtain ⟨S, hSl, hS⟩ := list_of (0, 0) len hc
    by_cases hl0 : len = 0
    · subst hl0
      exact ⟨[], by simp [maxLen], .inl ⟨rfl, _, _, rfl⟩⟩
    · obtain ⟨b, off, rfl⟩ := spot_of (hS 0 (by omega)).1 (by omega)
      have hblk : b < W.heap.size := World.block_lt_of_cell? W (Addr.add ⟨b, off, none⟩ (0 * 2)) (hS 0 (by omega)).1
      refine ⟨S, by unfold maxLen at *; omega, .inr ⟨b, off, m, by rw [hSl], by omega, hcm, hblk, fun i hi => ?_⟩⟩
      have := hS i (by omega)
      rw [add_plain] at this
      rw [add_plain] at this
      exact this

set_option maxRecDepth 100000 in
theorem stock_at {v : Value} {d : DataW H} {p : List MemPlace} (hok : Value.okWide Try.prog W .any 0 22 v) (h : DataW.Trod enc Try.prog W 0 (fun _ => true) true 22 v d p) :
    (∃ S, WheelsAt W v S) ∧ ∀ b off n c, v = .slice (some ⟨b, off, none⟩) n c → b < W.heap.size := by
  obtain ⟨a, len, cap, rfl⟩ := okWide_slice Try.underlying22 hok
  obtain ⟨n, hn⟩ := h
  refine ⟨pairs_at Try.underlying22 Try.underlying58 rfl rfl rfl rfl (by kernel_rfl) (by simpa [Value.cells] using hn), ?_⟩
  intro b off n c e
  simp only [Value.slice.injEq] at e
  obtain ⟨rfl, rfl, rfl⟩ := e
  simp only [Value.okWide, Try.underlying22, Cell.okWide, Cell.ok, World.has] at hok
  obtain ⟨_, _, _, _, row, cells, hsh, _⟩ := hok
  unfold World.shape? at hsh
  cases hb : W.heap[b]? with
  | none => rw [hb] at hsh; cases hsh
  | some o => exact (Array.getElem?_eq_some_iff.1 hb).1

theorem one_field {cs : List Value} {f : Field} {k : Nat} {c : Value} (hk : cs[k]? = some c) (ho : f.offset = k) (hc : Try.prog.cellsOf f.type = 1) : (cs.drop f.offset).take (Try.prog.cellsOf f.type) = [c] := by
  rw [ho, hc]
  obtain ⟨hl, rfl⟩ := List.getElem?_eq_some_iff.1 hk
  rw [List.drop_eq_getElem_cons hl]; rfl

set_option maxRecDepth 100000 in
theorem gearing_at {v : Value} {d : DataW H} {p : List MemPlace} (hok : Value.okWide Try.prog W .any 0 24 v) (h : DataW.Trod enc Try.prog W 0 (fun _ => true) true 24 v d p) :
    ∃ (t r q o : Int) (same : Bool), v = .agg #[.int .i64 t, .int .i64 r, .bool same, .int .i64 q, .int .i64 o] := by
  obtain ⟨cs, rfl, hsz⟩ := okWide_struct Try.underlying24 hok
  have hc5 : Try.prog.cellsOf 24 = 5 := by kernel_rfl
  have c3 : Try.prog.cellsOf 3 = 1 := by kernel_rfl
  have c4 : Try.prog.cellsOf 4 = 1 := by kernel_rfl
  obtain ⟨n, hn⟩ := h
  obtain ⟨xs, m, _, _, _, hxl, hf⟩ := DataW.trod_struct Try.underlying24 hn
  have hx : xs.length = 5 := hxl
  obtain ⟨l⟩ := cs
  match l, hsz.trans hc5 with
  | [a0, a1, a2, a3, a4], _ =>
    have g0 := hf 0 _ rfl
    have g1 := hf 1 _ rfl
    have g2 := hf 2 _ rfl
    have g3 := hf 3 _ rfl
    have g4 := hf 4 _ rfl
    rw [one_field (c := a0) rfl rfl c3, List.getElem?_eq_getElem (by omega)] at g0
    rw [one_field (c := a1) rfl rfl c3, List.getElem?_eq_getElem (by omega)] at g1
    rw [one_field (c := a2) rfl rfl c4, List.getElem?_eq_getElem (by omega)] at g2
    rw [one_field (c := a3) rfl rfl c3, List.getElem?_eq_getElem (by omega)] at g3
    rw [one_field (c := a4) rfl rfl c3, List.getElem?_eq_getElem (by omega)] at g4
    obtain ⟨t, ht, _⟩ := DataW.trod_int Try.underlying3 g0
    obtain ⟨r, hr, _⟩ := DataW.trod_int Try.underlying3 g1
    obtain ⟨s, hs, _⟩ := DataW.trod_bool Try.underlying4 g2
    obtain ⟨q, hq, _⟩ := DataW.trod_int Try.underlying3 g3
    obtain ⟨o, ho, _⟩ := DataW.trod_int Try.underlying3 g4
    simp only [List.cons.injEq, and_true] at ht hr hs hq ho
    exact ⟨t, r, q, o, s, by rw [ht, hr, hs, hq, ho]⟩

set_option maxRecDepth 100000 in
theorem train_read {v : Value} {d : DataW H} {p : List MemPlace} (hok : Value.okWide Try.prog W .any 0 27 v) (h : DataW.Trod enc Try.prog W 0 (fun _ => true) true 27 v d p) :
    ∃ (pv : Value) (i : Int) (P : List (Int × Int)), v = .agg #[pv, .int .i64 i] ∧ WheelsAt W pv P := by
  obtain ⟨cs, rfl, hsz⟩ := okWide_struct Try.underlying27 hok
  have hc2 : Try.prog.cellsOf 27 = 2 := by kernel_rfl
  have c3 : Try.prog.cellsOf 3 = 1 := by kernel_rfl
  have c25 : Try.prog.cellsOf 25 = 1 := by kernel_rfl
  obtain ⟨n, hn⟩ := h
  obtain ⟨xs, m, _, _, _, hxl, hf⟩ := DataW.trod_struct Try.underlying27 hn
  have hx : xs.length = 2 := hxl
  obtain ⟨l⟩ := cs
  match l, hsz.trans hc2 with
  | [a0, a1], _ =>
    have g0 := hf 0 _ rfl
    have g1 := hf 1 _ rfl
    rw [one_field (c := a0) rfl rfl c25, List.getElem?_eq_getElem (by omega)] at g0
    rw [one_field (c := a1) rfl rfl c3, List.getElem?_eq_getElem (by omega)] at g1
    obtain ⟨i, hi, _⟩ := DataW.trod_int Try.underlying3 g1
    simp only [List.cons.injEq, and_true] at hi
    obtain ⟨P, hP⟩ := pairs_at Try.underlying25 Try.underlying49 rfl rfl rfl rfl (by kernel_rfl) g0
    exact ⟨a0, i, P, by rw [hi], hP⟩
end
end Go.Proofs.Ytoiapnokgpeipaa
