/- What the laws' arguments read as: a house, sizes, one size, ints of two bytes. -/
import Derived.Test.YtlcmedfjghcigaaE1
import Derived.Test.YtlcmedfjghcigaaA4
import Derived.Deep.Slices
namespace Go.Proofs.Ytlcmedfjghcigaa
set_option linter.unusedSimpArgs false
set_option linter.unusedVariables false
open Go.ChangeShapes Go.WideShapes Go.ChangeAt Go.RowKit

theorem list_of {α : Type} (d : α) {Q : Nat → α → Prop} : ∀ n : Nat, (∀ i, i < n → ∃ x, Q i x) → ∃ l : List α, l.length = n ∧ ∀ i, i < n → Q i (l.getD i d)
  | 0, _ => ⟨[], rfl, fun i hi => by omega⟩
  | n + 1, h => by
    obtain ⟨l, hl, hq⟩ := list_of d n (fun i hi => h i (by omega))
    obtain ⟨x, hx⟩ := h n (by omega)
    refine ⟨l ++ [x], by simp [hl], fun i hi => ?_⟩
    by_cases e : i = n
    · subst e; simpa [List.getD, hl] using hx
    · have := hq i (by omega)
      simpa [List.getD, List.getElem?_append_left (show i < l.length by omega)] using this

section
variable {H : Type} {enc : TypeId × Value → H} {W : World}

theorem spot_of {a : Addr} {k : Nat} {v : Value} (h : W.cell? (a.add k) = some v) (hk : k = 0) : ∃ b off, a = ⟨b, off, none⟩ := by
  subst hk
  obtain ⟨b, off, spot⟩ := a
  have hs : spot = none := by simpa [Addr.add] using World.cell?_spot h
  exact ⟨b, off, by rw [hs]⟩
theorem add_plain' (b off k : Nat) : Addr.add ⟨b, off, none⟩ k = ⟨b, off + k, none⟩ := by simp [Addr.add]

theorem tabs_at {α : Type} [Inhabited α] {k : Nat} (hk : 0 < k) (f : α → Nat → Int) {t e : TypeId} (ht : Try.prog.underlying t = some (.slice e)) (hce : Try.prog.cellsOf e = k)
    (hread : ∀ {n : Nat} {cs : List Value} {x : DataW H × List MemPlace}, DataW.trod enc Try.prog W 0 (fun _ => true) true n e cs = some x → ∃ a : α, ∀ j, j < k → cs[j]? = some (.int .i64 (f a j)))
    {n : Nat} {v : Value} {x : DataW H × List MemPlace} (h : DataW.trod enc Try.prog W 0 (fun _ => true) true n t [v] = some x) : ∃ S, TabAt k f W v S := by
  rcases Go.Deep.open_slice ht h with ⟨hv, _⟩ | ⟨a, len, cap, m, q, D, Pl, hv, _, hlc, hcm, hm, _, hi⟩
  · simp only [List.cons.injEq, and_true] at hv
    exact ⟨[], by simp [maxLen], .inl ⟨rfl, _, _, hv⟩⟩
  · simp only [List.cons.injEq, and_true] at hv
    subst hv
    rw [if_pos rfl] at hm
    subst hm
    rw [hce] at hi
    have hc : ∀ i, i < len → ∃ y : α, ∀ j, j < k → W.cell? ((a.add (i * k)).add j) = some (.int .i64 (f y j)) := by
      intro i hil
      obtain ⟨cs, hcs, htr⟩ := hi i (by omega)
      obtain ⟨y, hy⟩ := hread htr
      obtain ⟨_, _, hcc⟩ := World.cells?_some hcs
      exact ⟨y, fun j hj => (hcc j hj).trans (hy j hj)⟩
    obtain ⟨S, hSl, hS⟩ := list_of default len hc
    by_cases hl0 : len = 0
    · subst hl0
      exact ⟨[], by simp [maxLen], .inl ⟨rfl, _, _, rfl⟩⟩
    · have h0 := hS 0 (by omega) 0 hk
      have h00 : W.cell? (a.add 0) = some (.int .i64 (f (S.getD 0 default) 0)) := by simpa [Addr.add] using h0
      obtain ⟨b, off, rfl⟩ := spot_of h00 rfl
      have hblk : b < W.heap.size := World.block_lt_of_cell? W _ h00
      refine ⟨S, by unfold maxLen at *; omega, .inr ⟨b, off, m, by rw [hSl], by omega, hcm, hblk, fun i hi j hj => ?_⟩⟩
      have := hS i (by omega) j hj
      rw [add_plain', add_plain'] at this
      exact this

theorem one_field {cs : List Value} {f : Field} {k : Nat} {c : Value} (hk : cs[k]? = some c) (ho : f.offset = k) (hc : Try.prog.cellsOf f.type = 1) : (cs.drop f.offset).take (Try.prog.cellsOf f.type) = [c] := by
  rw [ho, hc]
  obtain ⟨hl, rfl⟩ := List.getElem?_eq_some_iff.1 hk
  rw [List.drop_eq_getElem_cons hl]; rfl

set_option maxRecDepth 100000 in
theorem four_read {T : TypeId} {fs : Array Field} (hT : Try.prog.underlying T = some (.struct fs)) (h4 : fs.size = 4) (hc4 : Try.prog.cellsOf T = 4) (hf : ∀ i, i < 4 → ∃ f, fs[i]? = some f ∧ f.type = 3 ∧ f.offset = i)
    {n : Nat} {cs : List Value} {x : DataW H × List MemPlace} (h : DataW.trod enc Try.prog W 0 (fun _ => true) true n T cs = some x) : ∃ a b c d : Int, cs = [.int .i64 a, .int .i64 b, .int .i64 c, .int .i64 d] := by
  obtain ⟨xs, m, _, _, hl, hxl, hg⟩ := DataW.trod_struct hT h
  have c3 : Try.prog.cellsOf 3 = 1 := by kernel_rfl
  rw [hc4] at hl
  rw [h4] at hxl
  obtain ⟨f0, e0, t0, o0⟩ := hf 0 (by omega)
  obtain ⟨f1, e1, t1, o1⟩ := hf 1 (by omega)
  obtain ⟨f2, e2, t2, o2⟩ := hf 2 (by omega)
  obtain ⟨f3, e3, t3, o3⟩ := hf 3 (by omega)
  match cs, hl with
  | [a0, a1, a2, a3], _ =>
    have g0 := hg 0 f0 e0
    have g1 := hg 1 f1 e1
    have g2 := hg 2 f2 e2
    have g3 := hg 3 f3 e3
    rw [one_field (c := a0) rfl o0 (by rw [t0]; exact c3), t0, List.getElem?_eq_getElem (by omega)] at g0
    rw [one_field (c := a1) rfl o1 (by rw [t1]; exact c3), t1, List.getElem?_eq_getElem (by omega)] at g1
    rw [one_field (c := a2) rfl o2 (by rw [t2]; exact c3), t2, List.getElem?_eq_getElem (by omega)] at g2
    rw [one_field (c := a3) rfl o3 (by rw [t3]; exact c3), t3, List.getElem?_eq_getElem (by omega)] at g3
    obtain ⟨a, ha, _⟩ := DataW.trod_int Try.underlying3 g0
    obtain ⟨b, hb, _⟩ := DataW.trod_int Try.underlying3 g1
    obtain ⟨c, hc, _⟩ := DataW.trod_int Try.underlying3 g2
    obtain ⟨d, hd, _⟩ := DataW.trod_int Try.underlying3 g3
    simp only [List.cons.injEq, and_true] at ha hb hc hd
    exact ⟨a, b, c, d, by rw [ha, hb, hc, hd]⟩


set_option maxRecDepth 100000 in
theorem two_read {T : TypeId} {fs : Array Field} (hT : Try.prog.underlying T = some (.struct fs)) (h4 : fs.size = 2) (hc4 : Try.prog.cellsOf T = 2) (hf : ∀ i, i < 2 → ∃ f, fs[i]? = some f ∧ f.type = 3 ∧ f.offset = i)
    {n : Nat} {cs : List Value} {x : DataW H × List MemPlace} (h : DataW.trod enc Try.prog W 0 (fun _ => true) true n T cs = some x) : ∃ a b : Int, cs = [.int .i64 a, .int .i64 b] := by
  obtain ⟨xs, m, _, _, hl, hxl, hg⟩ := DataW.trod_struct hT h
  have c3 : Try.prog.cellsOf 3 = 1 := by kernel_rfl
  rw [hc4] at hl
  rw [h4] at hxl
  obtain ⟨f0, e0, t0, o0⟩ := hf 0 (by omega)
  obtain ⟨f1, e1, t1, o1⟩ := hf 1 (by omega)
  match cs, hl with
  | [a0, a1], _ =>
    have g0 := hg 0 f0 e0
    have g1 := hg 1 f1 e1
    rw [one_field (c := a0) rfl o0 (by rw [t0]; exact c3), t0, List.getElem?_eq_getElem (by omega)] at g0
    rw [one_field (c := a1) rfl o1 (by rw [t1]; exact c3), t1, List.getElem?_eq_getElem (by omega)] at g1
    obtain ⟨a, ha, _⟩ := DataW.trod_int Try.underlying3 g0
    obtain ⟨b, hb, _⟩ := DataW.trod_int Try.underlying3 g1
    simp only [List.cons.injEq, and_true] at ha hb
    exact ⟨a, b, by rw [ha, hb]⟩

set_option maxRecDepth 100000 in
theorem tap_read {n : Nat} {cs : List Value} {x : DataW H × List MemPlace} (h : DataW.trod enc Try.prog W 0 (fun _ => true) true n 52 cs = some x) : ∃ t : Tp, ∀ j, j < 3 → cs[j]? = some (.int .i64 (tpC t j)) := by
  obtain ⟨xs, m, _, _, hl, hxl, hg⟩ := DataW.trod_struct Try.underlying52 h
  have c3 : Try.prog.cellsOf 3 = 1 := by kernel_rfl
  have c31 : Try.prog.cellsOf 31 = 2 := by kernel_rfl
  have c52 : Try.prog.cellsOf 52 = 3 := by kernel_rfl
  rw [c52] at hl
  have hx : xs.length = 2 := hxl
  match cs, hl with
  | [a0, a1, a2], _ =>
    have g0 : DataW.trod enc Try.prog W 0 (fun _ => true) true m 31 (List.take (Try.prog.cellsOf 31) (List.drop 0 [a0, a1, a2])) = xs[0]? := hg 0 _ rfl
    have g1 := hg 1 _ rfl
    rw [c31] at g0
    rw [one_field (c := a2) rfl rfl c3, List.getElem?_eq_getElem (by omega)] at g1
    rw [List.getElem?_eq_getElem (by omega)] at g0
    obtain ⟨a, b, e⟩ := two_read Try.underlying31 rfl c31 (fun i hi => by match i, hi with | 0, _ => exact ⟨_, rfl, rfl, rfl⟩ | 1, _ => exact ⟨_, rfl, rfl, rfl⟩) g0
    obtain ⟨d, hd, _⟩ := DataW.trod_int Try.underlying3 g1
    simp at e hd
    obtain ⟨rfl, rfl⟩ := e
    subst hd
    exact ⟨⟨(a, b), d⟩, fun j hj => by match j, hj with | 0, _ => rfl | 1, _ => rfl | 2, _ => rfl⟩

set_option maxRecDepth 100000 in
theorem rl_read {n : Nat} {cs : List Value} {x : DataW H × List MemPlace} (h : DataW.trod enc Try.prog W 0 (fun _ => true) true n 65 cs = some x) : ∃ t : Rl, ∀ j, j < 2 → cs[j]? = some (.int .i64 (rlC t j)) := by
  obtain ⟨a, b, rfl⟩ := two_read Try.underlying65 rfl (by kernel_rfl) (fun i hi => by match i, hi with | 0, _ => exact ⟨_, rfl, rfl, rfl⟩ | 1, _ => exact ⟨_, rfl, rfl, rfl⟩) h
  exact ⟨⟨a, b⟩, fun j hj => by match j, hj with | 0, _ => rfl | 1, _ => rfl⟩
set_option maxRecDepth 100000 in
theorem sz_cells {n : Nat} {cs : List Value} {x : DataW H × List MemPlace} (h : DataW.trod enc Try.prog W 0 (fun _ => true) true n 27 cs = some x) : ∃ a b c d : Int, cs = [.int .i64 a, .int .i64 b, .int .i64 c, .int .i64 d] :=
  four_read Try.underlying27 rfl (by kernel_rfl) (fun i hi => by match i, hi with | 0, _ => exact ⟨_, rfl, rfl, rfl⟩ | 1, _ => exact ⟨_, rfl, rfl, rfl⟩ | 2, _ => exact ⟨_, rfl, rfl, rfl⟩ | 3, _ => exact ⟨_, rfl, rfl, rfl⟩) h
theorem sz_read {n : Nat} {cs : List Value} {x : DataW H × List MemPlace} (h : DataW.trod enc Try.prog W 0 (fun _ => true) true n 27 cs = some x) : ∃ t : Sz, ∀ j, j < 4 → cs[j]? = some (.int .i64 (szC t j)) := by
  obtain ⟨a, b, c, d, rfl⟩ := sz_cells h
  exact ⟨⟨a, b, c, d⟩, fun j hj => by match j, hj with | 0, _ => rfl | 1, _ => rfl | 2, _ => rfl | 3, _ => rfl⟩

set_option maxRecDepth 100000 in
theorem hs_at {v : Value} {d : DataW H} {p : List MemPlace} (hok : Value.okWide Try.prog W .any 0 25 v) (h : DataW.Trod enc Try.prog W 0 (fun _ => true) true 25 v d p) : ∃ h a1 c1 a2 c2, v = hsV h a1 c1 a2 c2 ∧ HsAt W h a1 c1 a2 c2 := by
  obtain ⟨cs, rfl, hsz⟩ := okWide_struct Try.underlying25 hok
  have hc4 : Try.prog.cellsOf 25 = 4 := by kernel_rfl
  have c3 : Try.prog.cellsOf 3 = 1 := by kernel_rfl
  have c22 : Try.prog.cellsOf 22 = 1 := by kernel_rfl
  have c23 : Try.prog.cellsOf 23 = 1 := by kernel_rfl
  obtain ⟨n, hn⟩ := h
  obtain ⟨xs, m, _, _, _, hxl, hf⟩ := DataW.trod_struct Try.underlying25 hn
  have hx : xs.length = 4 := hxl
  obtain ⟨l⟩ := cs
  match l, hsz.trans hc4 with
  | [a0, a1, a2, a3], _ =>
    have g0 := hf 0 _ rfl
    have g1 := hf 1 _ rfl
    have g2 := hf 2 _ rfl
    have g3 := hf 3 _ rfl
    rw [one_field (c := a0) rfl rfl c3, List.getElem?_eq_getElem (by omega)] at g0
    rw [one_field (c := a1) rfl rfl c3, List.getElem?_eq_getElem (by omega)] at g1
    rw [one_field (c := a2) rfl rfl c22, List.getElem?_eq_getElem (by omega)] at g2
    rw [one_field (c := a3) rfl rfl c23, List.getElem?_eq_getElem (by omega)] at g3
    obtain ⟨x0, e0, _⟩ := DataW.trod_int Try.underlying3 g0
    obtain ⟨x1, e1, _⟩ := DataW.trod_int Try.underlying3 g1
    simp only [List.cons.injEq, and_true] at e0 e1
    obtain ⟨T, hT⟩ := tabs_at (k := 3) (by omega) tpC Try.underlying22 (by kernel_rfl) tap_read g2
    obtain ⟨R, hR⟩ := tabs_at (k := 2) (by omega) rlC Try.underlying23 (by kernel_rfl) rl_read g3
    obtain ⟨b1, k1, rfl⟩ := hT.shape
    obtain ⟨b2, k2, rfl⟩ := hR.shape
    subst e0 e1
    exact ⟨⟨x0, x1, T, R⟩, b1, k1, b2, k2, rfl, hT, hR⟩

set_option maxRecDepth 100000 in
theorem szs_at {v : Value} {d : DataW H} {p : List MemPlace} (hok : Value.okWide Try.prog W .any 0 38 v) (h : DataW.Trod enc Try.prog W 0 (fun _ => true) true 38 v d p) : ∃ L, TabAt 4 szC W v L := by
  obtain ⟨a, len, cap, rfl⟩ := okWide_slice Try.underlying38 hok
  obtain ⟨n, hn⟩ := h
  exact tabs_at (k := 4) (by omega) szC Try.underlying38 (by kernel_rfl) sz_read hn
set_option maxRecDepth 100000 in
theorem sz_at {v : Value} {d : DataW H} {p : List MemPlace} (hok : Value.okWide Try.prog W .any 0 27 v) (h : DataW.Trod enc Try.prog W 0 (fun _ => true) true 27 v d p) : ∃ z, v = szV z := by
  obtain ⟨cs, rfl, hsz⟩ := okWide_struct Try.underlying27 hok
  obtain ⟨n, hn⟩ := h
  obtain ⟨a, b, c, d, e⟩ := sz_cells hn
  obtain ⟨l⟩ := cs
  have e2 : l = [.int .i64 a, .int .i64 b, .int .i64 c, .int .i64 d] := e
  rw [e2]
  exact ⟨⟨a, b, c, d⟩, rfl⟩
end
end Go.Proofs.Ytlcmedfjghcigaa
