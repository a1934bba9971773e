/- What the laws' arguments read as: a line, hearings. -/
import Derived.Test.YtdbjifpnbghbaaaE1
import Derived.Test.YtdbjifpnbghbaaaA1
import Derived.Deep.Slices
namespace Go.Proofs.Ytdbjifpnbghbaaa
set_option linter.unusedSimpArgs false
set_option linter.unusedVariables false
open Go.ChangeShapes Go.WideShapes Go.ChangeAt Go.RowKit

theorem list_of {α : Type} (d : α) {Q : Nat → α → Prop} : ∀ n : Nat, (∀ i, i < n → ∃ x, Q i x) → ∃ l : List α, l.length = n ∧ ∀ i, i < n → Q i (l.getD i d)
  | 0, _ => ⟨[], rfl, fun i hi => by omega⟩
  | n + 1, h => by
    obtain ⟨l, hl, hq⟩ := list_of d n (fun i hi => h i (by omega))
    obtain ⟨x, hx⟩ := h n (by omega)
    refine ⟨l ++ [x], by simp [hl], fun i hi => ?_⟩
    by_cases e : i = n
    · subst e; simpa [List.getD, hl] using hx
    · have := hq i (by omega)
      simpa [List.getD, List.getElem?_append_left (show i < l.length by omega)] using this

/-- a slice that is nil has no cells -/
def NilOk (v : Value) : Prop := ∀ n c, v = .slice none n c → n = 0 ∧ c = 0
section
variable {H : Type} {enc : TypeId × Value → H} {W : World}

theorem spot_of {a : Addr} {k : Nat} {v : Value} (h : W.cell? (a.add k) = some v) (hk : k = 0) : ∃ b off, a = ⟨b, off, none⟩ := by
  subst hk
  obtain ⟨b, off, spot⟩ := a
  have hs : spot = none := by simpa [Addr.add] using World.cell?_spot h
  exact ⟨b, off, by rw [hs]⟩
theorem add_plain' (b off k : Nat) : Addr.add ⟨b, off, none⟩ k = ⟨b, off + k, none⟩ := by simp [Addr.add]

theorem tabs_at {α : Type} [Inhabited α] {k : Nat} (hk : 0 < k) (f : α → Nat → Int) {t e : TypeId} (ht : Try.prog.underlying t = some (.slice e)) (hce : Try.prog.cellsOf e = k)
    (hread : ∀ {n : Nat} {cs : List Value} {x : DataW H × List MemPlace}, DataW.trod enc Try.prog W 0 (fun _ => true) true n e cs = some x → ∃ a : α, ∀ j, j < k → cs[j]? = some (.int .i64 (f a j)))
    {n : Nat} {v : Value} {x : DataW H × List MemPlace} (h : DataW.trod enc Try.prog W 0 (fun _ => true) true n t [v] = some x) : ∃ S, TabAt k f W v S := by
  rcases Go.Deep.open_slice ht h with ⟨hv, _⟩ | ⟨a, len, cap, m, q, D, Pl, hv, _, hlc, hcm, hm, _, hi⟩
  · simp only [List.cons.injEq, and_true] at hv
    exact ⟨[], by simp [maxLen], .inl ⟨rfl, _, _, hv⟩⟩
  · simp only [List.cons.injEq, and_true] at hv
    subst hv
    rw [if_pos rfl] at hm
    subst hm
    rw [hce] at hi
    have hc : ∀ i, i < len → ∃ y : α, ∀ j, j < k → W.cell? ((a.add (i * k)).add j) = some (.int .i64 (f y j)) := by
      intro i hil
      obtain ⟨cs, hcs, htr⟩ := hi i (by omega)
      obtain ⟨y, hy⟩ := hread htr
      obtain ⟨_, _, hcc⟩ := World.cells?_some hcs
      exact ⟨y, fun j hj => (hcc j hj).trans (hy j hj)⟩
    obtain ⟨S, hSl, hS⟩ := list_of default len hc
    by_cases hl0 : len = 0
    · subst hl0
      exact ⟨[], by simp [maxLen], .inl ⟨rfl, _, _, rfl⟩⟩
    · have h0 := hS 0 (by omega) 0 hk
      have h00 : W.cell? (a.add 0) = some (.int .i64 (f (S.getD 0 default) 0)) := by simpa [Addr.add] using h0
      obtain ⟨b, off, rfl⟩ := spot_of h00 rfl
      have hblk : b < W.heap.size := World.block_lt_of_cell? W _ h00
      refine ⟨S, by unfold maxLen at *; omega, .inr ⟨b, off, m, by rw [hSl], by omega, hcm, hblk, fun i hi j hj => ?_⟩⟩
      have := hS i (by omega) j hj
      rw [add_plain', add_plain'] at this
      exact this

theorem one_field {cs : List Value} {f : Field} {k : Nat} {c : Value} (hk : cs[k]? = some c) (ho : f.offset = k) (hc : Try.prog.cellsOf f.type = 1) : (cs.drop f.offset).take (Try.prog.cellsOf f.type) = [c] := by
  rw [ho, hc]
  obtain ⟨hl, rfl⟩ := List.getElem?_eq_some_iff.1 hk
  rw [List.drop_eq_getElem_cons hl]; rfl

set_option maxRecDepth 100000 in
theorem two_read {T : TypeId} {fs : Array Field} (hT : Try.prog.underlying T = some (.struct fs)) (h4 : fs.size = 2) (hc4 : Try.prog.cellsOf T = 2) (hf : ∀ i, i < 2 → ∃ f, fs[i]? = some f ∧ f.type = 3 ∧ f.offset = i)
    {n : Nat} {cs : List Value} {x : DataW H × List MemPlace} (h : DataW.trod enc Try.prog W 0 (fun _ => true) true n T cs = some x) : ∃ a b : Int, cs = [.int .i64 a, .int .i64 b] := by
  obtain ⟨xs, m, _, _, hl, hxl, hg⟩ := DataW.trod_struct hT h
  have c3 : Try.prog.cellsOf 3 = 1 := by kernel_rfl
  rw [hc4] at hl
  rw [h4] at hxl
  obtain ⟨f0, e0, t0, o0⟩ := hf 0 (by omega)
  obtain ⟨f1, e1, t1, o1⟩ := hf 1 (by omega)
  match cs, hl with
  | [a0, a1], _ =>
    have g0 := hg 0 f0 e0
    have g1 := hg 1 f1 e1
    rw [one_field (c := a0) rfl o0 (by rw [t0]; exact c3), t0, List.getElem?_eq_getElem (by omega)] at g0
    rw [one_field (c := a1) rfl o1 (by rw [t1]; exact c3), t1, List.getElem?_eq_getElem (by omega)] at g1
    obtain ⟨a, ha, _⟩ := DataW.trod_int Try.underlying3 g0
    obtain ⟨b, hb, _⟩ := DataW.trod_int Try.underlying3 g1
    simp only [List.cons.injEq, and_true] at ha hb
    exact ⟨a, b, by rw [ha, hb]⟩

theorem nil_of {t e : TypeId} (ht : Try.prog.underlying t = some (.slice e)) {n : Nat} {v : Value} {x : DataW H × List MemPlace} (h : DataW.trod enc Try.prog W 0 (fun _ => true) true n t [v] = some x) : NilOk v := by
  intro n' c' e'
  rcases Go.Deep.open_slice ht h with ⟨hv, _⟩ | ⟨a, len, cap, m, q, D, Pl, hv, _⟩
  · simp only [List.cons.injEq, and_true] at hv
    rw [hv] at e'
    simp only [Value.slice.injEq, true_and] at e'
    exact ⟨e'.1.symm, e'.2.symm⟩
  · simp only [List.cons.injEq, and_true] at hv
    rw [hv] at e'
    simp at e'
set_option maxRecDepth 100000 in
theorem pi_read {n : Nat} {cs : List Value} {x : DataW H × List MemPlace} (h : DataW.trod enc Try.prog W 0 (fun _ => true) true n 59 cs = some x) : ∃ t : Pi, ∀ j, j < 3 → cs[j]? = some (.int .i64 (piC t j)) := by
  obtain ⟨xs, m, _, _, hl, hxl, hg⟩ := DataW.trod_struct Try.underlying59 h
  have c3 : Try.prog.cellsOf 3 = 1 := by kernel_rfl
  have c24 : Try.prog.cellsOf 24 = 2 := by kernel_rfl
  have c59 : Try.prog.cellsOf 59 = 3 := by kernel_rfl
  rw [c59] at hl
  have hx : xs.length = 2 := hxl
  match cs, hl with
  | [a0, a1, a2], _ =>
    have g0 := hg 0 _ rfl
    have g1 : DataW.trod enc Try.prog W 0 (fun _ => true) true m 24 (List.take (Try.prog.cellsOf 24) (List.drop 1 [a0, a1, a2])) = xs[1]? := hg 1 _ rfl
    rw [c24] at g1
    rw [one_field (c := a0) rfl rfl c3, List.getElem?_eq_getElem (by omega)] at g0
    rw [List.getElem?_eq_getElem (by omega)] at g1
    obtain ⟨a, b, e⟩ := two_read Try.underlying24 rfl c24 (fun i hi => by match i, hi with | 0, _ => exact ⟨_, rfl, rfl, rfl⟩ | 1, _ => exact ⟨_, rfl, rfl, rfl⟩) g1
    obtain ⟨d, hd, _⟩ := DataW.trod_int Try.underlying3 g0
    simp at e hd
    obtain ⟨rfl, rfl⟩ := e
    subst hd
    exact ⟨⟨d, a, b⟩, fun j hj => by match j, hj with | 0, _ => rfl | 1, _ => rfl | 2, _ => rfl⟩
set_option maxRecDepth 100000 in
theorem he_read {n : Nat} {cs : List Value} {x : DataW H × List MemPlace} (h : DataW.trod enc Try.prog W 0 (fun _ => true) true n 26 cs = some x) : ∃ t : He, ∀ j, j < 4 → cs[j]? = some (.int .i64 (heC t j)) := by
  obtain ⟨xs, m, _, _, hl, hxl, hg⟩ := DataW.trod_struct Try.underlying26 h
  have c3 : Try.prog.cellsOf 3 = 1 := by kernel_rfl
  have c24 : Try.prog.cellsOf 24 = 2 := by kernel_rfl
  have c26 : Try.prog.cellsOf 26 = 4 := by kernel_rfl
  rw [c26] at hl
  have hx : xs.length = 3 := hxl
  match cs, hl with
  | [a0, a1, a2, a3], _ =>
    have g0 := hg 0 _ rfl
    have g1 := hg 1 _ rfl
    have g2 : DataW.trod enc Try.prog W 0 (fun _ => true) true m 24 (List.take (Try.prog.cellsOf 24) (List.drop 2 [a0, a1, a2, a3])) = xs[2]? := hg 2 _ rfl
    rw [c24] at g2
    rw [one_field (c := a0) rfl rfl c3, List.getElem?_eq_getElem (by omega)] at g0
    rw [one_field (c := a1) rfl rfl c3, List.getElem?_eq_getElem (by omega)] at g1
    rw [List.getElem?_eq_getElem (by omega)] at g2
    obtain ⟨a, b, e⟩ := two_read Try.underlying24 rfl c24 (fun i hi => by match i, hi with | 0, _ => exact ⟨_, rfl, rfl, rfl⟩ | 1, _ => exact ⟨_, rfl, rfl, rfl⟩) g2
    obtain ⟨d, hd, _⟩ := DataW.trod_int Try.underlying3 g0
    obtain ⟨d', hd', _⟩ := DataW.trod_int Try.underlying3 g1
    simp at e hd hd'
    obtain ⟨rfl, rfl⟩ := e
    subst hd
    subst hd'
    exact ⟨⟨d, d', a, b⟩, fun j hj => by match j, hj with | 0, _ => rfl | 1, _ => rfl | 2, _ => rfl | 3, _ => rfl⟩
set_option maxRecDepth 100000 in
theorem pis_at {v : Value} {d : DataW H} {p : List MemPlace} (hok : Value.okWide Try.prog W .any 0 22 v) (h : DataW.Trod enc Try.prog W 0 (fun _ => true) true 22 v d p) : (∃ L, TabAt 3 piC W v L) ∧ NilOk v := by
  obtain ⟨a, len, cap, rfl⟩ := okWide_slice Try.underlying22 hok
  obtain ⟨n, hn⟩ := h
  exact ⟨tabs_at (k := 3) (by omega) piC Try.underlying22 (by kernel_rfl) pi_read hn, nil_of Try.underlying22 hn⟩
set_option maxRecDepth 100000 in
theorem hes_at {v : Value} {d : DataW H} {p : List MemPlace} (hok : Value.okWide Try.prog W .any 0 37 v) (h : DataW.Trod enc Try.prog W 0 (fun _ => true) true 37 v d p) : (∃ L, TabAt 4 heC W v L) ∧ NilOk v := by
  obtain ⟨a, len, cap, rfl⟩ := okWide_slice Try.underlying37 hok
  obtain ⟨n, hn⟩ := h
  exact ⟨tabs_at (k := 4) (by omega) heC Try.underlying37 (by kernel_rfl) he_read hn, nil_of Try.underlying37 hn⟩
end
end Go.Proofs.Ytdbjifpnbghbaaa
