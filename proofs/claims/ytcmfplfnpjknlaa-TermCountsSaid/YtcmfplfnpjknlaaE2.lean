/- What the laws' arguments read as: a stock, a proof. -/
import Derived.Test.YtcmfplfnpjknlaaE1
import Derived.Test.YtcmfplfnpjknlaaA28
import Derived.Deep.Slices
namespace Go.Proofs.Ytcmfplfnpjknlaa
open Go.ChangeShapes Go.WideShapes Go.ChangeAt Go.RowKit

theorem list_of {α : Type} (d : α) {Q : Nat → α → Prop} : ∀ n : Nat, (∀ i, i < n → ∃ x, Q i x) → ∃ l : List α, l.length = n ∧ ∀ i, i < n → Q i (l.getD i d)
  | 0, _ => ⟨[], rfl, fun i hi => by omega⟩
  | n + 1, h => by
    obtain ⟨l, hl, hq⟩ := list_of d n (fun i hi => h i (by omega))
    obtain ⟨x, hx⟩ := h n (by omega)
    refine ⟨l ++ [x], by simp [hl], fun i hi => ?_⟩
    by_cases e : i = n
    · subst e; simpa [List.getD, hl] using hx
    · have := hq i (by omega)
      simpa [List.getD, List.getElem?_append_left (show i < l.length by omega)] using this

section
variable {H : Type} {enc : TypeId × Value → H} {W : World}

theorem spot_of {a : Addr} {k : Nat} {v : Value} (h : W.cell? (a.add k) = some v) (hk : k = 0) : ∃ b off, a = ⟨b, off, none⟩ := by
  subst hk
  obtain ⟨b, off, spot⟩ := a
  have hs : spot = none := by simpa [Addr.add] using World.cell?_spot h
  exact ⟨b, off, by rw [hs]⟩
theorem add_plain' (b off k : Nat) : Addr.add ⟨b, off, none⟩ k = ⟨b, off + k, none⟩ := by simp [Addr.add]

theorem tabs_at {α : Type} [Inhabited α] {k : Nat} (hk : 0 < k) (f : α → Nat → Int) {t e : TypeId} (ht : Try.prog.underlying t = some (.slice e)) (hce : Try.prog.cellsOf e = k)
    (hread : ∀ {n : Nat} {cs : List Value} {x : DataW H × List MemPlace}, DataW.trod enc Try.prog W 0 (fun _ => true) true n e cs = some x → ∃ a : α, ∀ j, j < k → cs[j]? = some (.int .i64 (f a j)))
    {n : Nat} {v : Value} {x : DataW H × List MemPlace} (h : DataW.trod enc Try.prog W 0 (fun _ => true) true n t [v] = some x) : ∃ S, TabAt k f W v S := by
  rcases Go.Deep.open_slice ht h with ⟨hv, _⟩ | ⟨a, len, cap, m, q, D, Pl, hv, _, hlc, hcm, hm, _, hi⟩
  · simp only [List.cons.injEq, and_true] at hv
    exact ⟨[], by simp [maxLen], .inl ⟨rfl, _, _, hv⟩⟩
  · simp only [List.cons.injEq, and_true] at hv
    subst hv
    rw [if_pos rfl] at hm
    subst hm
    rw [hce] at hi
    have hc : ∀ i, i < len → ∃ y : α, ∀ j, j < k → W.cell? ((a.add (i * k)).add j) = some (.int .i64 (f y j)) := by
      intro i hil
      obtain ⟨cs, hcs, htr⟩ := hi i (by omega)
      obtain ⟨y, hy⟩ := hread htr
      obtain ⟨_, _, hcc⟩ := World.cells?_some hcs
      exact ⟨y, fun j hj => (hcc j hj).trans (hy j hj)⟩
    obtain ⟨S, hSl, hS⟩ := list_of default len hc
    by_cases hl0 : len = 0
    · subst hl0
      exact ⟨[], by simp [maxLen], .inl ⟨rfl, _, _, rfl⟩⟩
    · have h0 := hS 0 (by omega) 0 hk
      have h00 : W.cell? (a.add 0) = some (.int .i64 (f (S.getD 0 default) 0)) := by simpa [Addr.add] using h0
      obtain ⟨b, off, rfl⟩ := spot_of h00 rfl
      have hblk : b < W.heap.size := World.block_lt_of_cell? W _ h00
      refine ⟨S, by unfold maxLen at *; omega, .inr ⟨b, off, m, by rw [hSl], by omega, hcm, hblk, fun i hi j hj => ?_⟩⟩
      have := hS i (by omega) j hj
      rw [add_plain', add_plain'] at this
      exact this

theorem int_read {n : Nat} {cs : List Value} {x : DataW H × List MemPlace} (h : DataW.trod enc Try.prog W 0 (fun _ => true) true n 3 cs = some x) : ∃ a : Int, ∀ j, j < 1 → cs[j]? = some (.int .i64 (numC a j)) := by
  obtain ⟨a, rfl, _⟩ := DataW.trod_int Try.underlying3 h
  exact ⟨a, fun j hj => by obtain rfl : j = 0 := by omega
                           rfl⟩
theorem one_field {cs : List Value} {f : Field} {k : Nat} {c : Value} (hk : cs[k]? = some c) (ho : f.offset = k) (hc : Try.prog.cellsOf f.type = 1) : (cs.drop f.offset).take (Try.prog.cellsOf f.type) = [c] := by
  rw [ho, hc]
  obtain ⟨hl, rfl⟩ := List.getElem?_eq_some_iff.1 hk
  rw [List.drop_eq_getElem_cons hl]; rfl

set_option maxRecDepth 100000 in
theorem four_read {T : TypeId} {fs : Array Field} (hT : Try.prog.underlying T = some (.struct fs)) (h4 : fs.size = 4) (hc4 : Try.prog.cellsOf T = 4) (hf : ∀ i, i < 4 → ∃ f, fs[i]? = some f ∧ f.type = 3 ∧ f.offset = i)
    {n : Nat} {cs : List Value} {x : DataW H × List MemPlace} (h : DataW.trod enc Try.prog W 0 (fun _ => true) true n T cs = some x) : ∃ a b c d : Int, cs = [.int .i64 a, .int .i64 b, .int .i64 c, .int .i64 d] := by
  obtain ⟨xs, m, _, _, hl, hxl, hg⟩ := DataW.trod_struct hT h
  have c3 : Try.prog.cellsOf 3 = 1 := by kernel_rfl
  rw [hc4] at hl
  rw [h4] at hxl
  obtain ⟨f0, e0, t0, o0⟩ := hf 0 (by omega)
  obtain ⟨f1, e1, t1, o1⟩ := hf 1 (by omega)
  obtain ⟨f2, e2, t2, o2⟩ := hf 2 (by omega)
  obtain ⟨f3, e3, t3, o3⟩ := hf 3 (by omega)
  match cs, hl with
  | [a0, a1, a2, a3], _ =>
    have g0 := hg 0 f0 e0
    have g1 := hg 1 f1 e1
    have g2 := hg 2 f2 e2
    have g3 := hg 3 f3 e3
    rw [one_field (c := a0) rfl o0 (by rw [t0]; exact c3), t0, List.getElem?_eq_getElem (by omega)] at g0
    rw [one_field (c := a1) rfl o1 (by rw [t1]; exact c3), t1, List.getElem?_eq_getElem (by omega)] at g1
    rw [one_field (c := a2) rfl o2 (by rw [t2]; exact c3), t2, List.getElem?_eq_getElem (by omega)] at g2
    rw [one_field (c := a3) rfl o3 (by rw [t3]; exact c3), t3, List.getElem?_eq_getElem (by omega)] at g3
    obtain ⟨a, ha, _⟩ := DataW.trod_int Try.underlying3 g0
    obtain ⟨b, hb, _⟩ := DataW.trod_int Try.underlying3 g1
    obtain ⟨c, hc, _⟩ := DataW.trod_int Try.underlying3 g2
    obtain ⟨d, hd, _⟩ := DataW.trod_int Try.underlying3 g3
    simp only [List.cons.injEq, and_true] at ha hb hc hd
    exact ⟨a, b, c, d, by rw [ha, hb, hc, hd]⟩

set_option maxRecDepth 100000 in
theorem pair_read {n : Nat} {cs : List Value} {x : DataW H × List MemPlace} (h : DataW.trod enc Try.prog W 0 (fun _ => true) true n 43 cs = some x) : ∃ a : Int × Int, ∀ j, j < 2 → cs[j]? = some (.int .i64 (brkC a j)) := by
  obtain ⟨xs, m, _, _, hl, hxl, hg⟩ := DataW.trod_array Try.underlying43 h
  have c3 : Try.prog.cellsOf 3 = 1 := by kernel_rfl
  have c2 : Try.prog.cellsOf 43 = 2 := by kernel_rfl
  rw [c2] at hl
  match cs, hl with
  | [a0, a1], _ =>
    have g0 := hg 0 (by omega)
    have g1 := hg 1 (by omega)
    rw [c3, List.getElem?_eq_getElem (by omega)] at g0
    rw [c3, List.getElem?_eq_getElem (by omega)] at g1
    obtain ⟨a, ha, _⟩ := DataW.trod_int Try.underlying3 g0
    obtain ⟨b, hb, _⟩ := DataW.trod_int Try.underlying3 g1
    simp at ha hb
    subst ha hb
    refine ⟨(a, b), fun j hj => ?_⟩
    match j, hj with
    | 0, _ => rfl
    | 1, _ => rfl

set_option maxRecDepth 100000 in
theorem prf_read {n : Nat} {cs : List Value} {x : DataW H × List MemPlace} (h : DataW.trod enc Try.prog W 0 (fun _ => true) true n 52 cs = some x) : ∃ (p : Prf) (sv : Value), cs = [.int .i64 p.cls, .int .i64 p.day, sv, .int .i64 p.failed] ∧ TabAt 1 numC W sv p.seals := by
  obtain ⟨xs, m, _, _, hl, hxl, hg⟩ := DataW.trod_struct Try.underlying52 h
  have c3 : Try.prog.cellsOf 3 = 1 := by kernel_rfl
  have c32 : Try.prog.cellsOf 32 = 1 := by kernel_rfl
  have c4 : Try.prog.cellsOf 52 = 4 := by kernel_rfl
  rw [c4] at hl
  have hx : xs.length = 4 := hxl
  match cs, hl with
  | [a0, a1, a2, a3], _ =>
    have g0 := hg 0 _ rfl
    have g1 := hg 1 _ rfl
    have g2 := hg 2 _ rfl
    have g3 := hg 3 _ rfl
    rw [one_field (c := a0) rfl rfl c3, List.getElem?_eq_getElem (by omega)] at g0
    rw [one_field (c := a1) rfl rfl c3, List.getElem?_eq_getElem (by omega)] at g1
    rw [one_field (c := a2) rfl rfl c32, List.getElem?_eq_getElem (by omega)] at g2
    rw [one_field (c := a3) rfl rfl c3, List.getElem?_eq_getElem (by omega)] at g3
    obtain ⟨a, ha, _⟩ := DataW.trod_int Try.underlying3 g0
    obtain ⟨b, hb, _⟩ := DataW.trod_int Try.underlying3 g1
    obtain ⟨d, hd, _⟩ := DataW.trod_int Try.underlying3 g3
    simp only [List.cons.injEq, and_true] at ha hb hd
    obtain ⟨S, hS⟩ := tabs_at (by omega) numC Try.underlying32 c3 int_read g2
    exact ⟨⟨a, b, S, d⟩, a2, by rw [ha, hb, hd], hS⟩

set_option maxRecDepth 100000 in
theorem prfs_at {n : Nat} {v : Value} {x : DataW H × List MemPlace} (h : DataW.trod enc Try.prog W 0 (fun _ => true) true n 24 [v] = some x) : ∃ S, PrfAt W v S := by
  have c4 : Try.prog.cellsOf 52 = 4 := by kernel_rfl
  rcases Go.Deep.open_slice Try.underlying24 h with ⟨hv, _⟩ | ⟨a, len, cap, m, q, D, Pl, hv, _, hlc, hcm, hm, _, hi⟩
  · simp only [List.cons.injEq, and_true] at hv
    exact ⟨[], by simp [maxLen], .inl ⟨rfl, _, _, hv⟩⟩
  · simp only [List.cons.injEq, and_true] at hv
    subst hv
    rw [if_pos rfl] at hm
    subst hm
    rw [c4] at hi
    have hc : ∀ i, i < len → ∃ p : Prf, ∃ sv, W.cell? ((a.add (i * 4)).add 0) = some (.int .i64 p.cls) ∧ W.cell? ((a.add (i * 4)).add 1) = some (.int .i64 p.day) ∧ W.cell? ((a.add (i * 4)).add 2) = some sv ∧ W.cell? ((a.add (i * 4)).add 3) = some (.int .i64 p.failed) ∧ TabAt 1 numC W sv p.seals := by
      intro i hil
      obtain ⟨cs, hcs, htr⟩ := hi i (by omega)
      obtain ⟨p, sv, rfl, hS⟩ := prf_read htr
      obtain ⟨_, _, hcc⟩ := World.cells?_some hcs
      exact ⟨p, sv, hcc 0 (by omega), hcc 1 (by omega), hcc 2 (by omega), hcc 3 (by omega), hS⟩
    obtain ⟨S, hSl, hS⟩ := list_of default len hc
    by_cases hl0 : len = 0
    · subst hl0
      exact ⟨[], by simp [maxLen], .inl ⟨rfl, _, _, rfl⟩⟩
    · obtain ⟨sv0, h0, _⟩ := hS 0 (by omega)
      have h00 : W.cell? (a.add 0) = some (.int .i64 (S.getD 0 default).cls) := by simpa [Addr.add] using h0
      obtain ⟨b, off, rfl⟩ := spot_of h00 rfl
      have hblk : b < W.heap.size := World.block_lt_of_cell? W _ h00
      refine ⟨S, by unfold maxLen at *; omega, .inr ⟨b, off, m, by rw [hSl], by omega, hcm, hblk, fun i hi => ?_⟩⟩
      have := hS i (by omega)
      simp only [add_plain', Nat.add_zero] at this
      exact this

set_option maxRecDepth 100000 in
theorem stk_at {v : Value} {d : DataW H} {p : List MemPlace} (hok : Value.okWide Try.prog W .any 0 27 v) (h : DataW.Trod enc Try.prog W 0 (fun _ => true) true 27 v d p) : ∃ s, StkAt W v s := by
  obtain ⟨cs, rfl, hsz⟩ := okWide_struct Try.underlying27 hok
  have hc4 : Try.prog.cellsOf 27 = 4 := by kernel_rfl
  have c22 : Try.prog.cellsOf 22 = 1 := by kernel_rfl
  have c23 : Try.prog.cellsOf 23 = 1 := by kernel_rfl
  have c24 : Try.prog.cellsOf 24 = 1 := by kernel_rfl
  have c25 : Try.prog.cellsOf 25 = 1 := by kernel_rfl
  obtain ⟨n, hn⟩ := h
  obtain ⟨xs, m, _, _, _, hxl, hf⟩ := DataW.trod_struct Try.underlying27 hn
  have hx : xs.length = 4 := hxl
  obtain ⟨l⟩ := cs
  match l, hsz.trans hc4 with
  | [a0, a1, a2, a3], _ =>
    have g0 := hf 0 _ rfl
    have g1 := hf 1 _ rfl
    have g2 := hf 2 _ rfl
    have g3 := hf 3 _ rfl
    rw [one_field (c := a0) rfl rfl c22, List.getElem?_eq_getElem (by omega)] at g0
    rw [one_field (c := a1) rfl rfl c23, List.getElem?_eq_getElem (by omega)] at g1
    rw [one_field (c := a2) rfl rfl c24, List.getElem?_eq_getElem (by omega)] at g2
    rw [one_field (c := a3) rfl rfl c25, List.getElem?_eq_getElem (by omega)] at g3
    obtain ⟨C, hC⟩ := tabs_at (k := 4) (by omega) clsC Try.underlying22 (by kernel_rfl) (fun h => by
      obtain ⟨a, b, c, d, rfl⟩ := four_read Try.underlying50 rfl (by kernel_rfl) (fun i hi => by match i, hi with | 0, _ => exact ⟨_, rfl, rfl, rfl⟩ | 1, _ => exact ⟨_, rfl, rfl, rfl⟩ | 2, _ => exact ⟨_, rfl, rfl, rfl⟩ | 3, _ => exact ⟨_, rfl, rfl, rfl⟩) h
      exact ⟨(⟨a, b, c, d⟩ : Cls), fun j hj => by match j, hj with | 0, _ => rfl | 1, _ => rfl | 2, _ => rfl | 3, _ => rfl⟩) g0
    obtain ⟨R, hR⟩ := tabs_at (k := 4) (by omega) rowC Try.underlying23 (by kernel_rfl) (fun h => by
      obtain ⟨a, b, c, d, rfl⟩ := four_read Try.underlying42 rfl (by kernel_rfl) (fun i hi => by match i, hi with | 0, _ => exact ⟨_, rfl, rfl, rfl⟩ | 1, _ => exact ⟨_, rfl, rfl, rfl⟩ | 2, _ => exact ⟨_, rfl, rfl, rfl⟩ | 3, _ => exact ⟨_, rfl, rfl, rfl⟩) h
      exact ⟨(⟨a, b, c, d⟩ : Row), fun j hj => by match j, hj with | 0, _ => rfl | 1, _ => rfl | 2, _ => rfl | 3, _ => rfl⟩) g1
    obtain ⟨P, hP⟩ := prfs_at g2
    obtain ⟨B, hB⟩ := tabs_at (by omega) brkC Try.underlying25 (by kernel_rfl) pair_read g3
    exact ⟨⟨C, R, P, B⟩, a0, a1, a2, a3, rfl, hC, hR, hP, hB⟩
end
end Go.Proofs.Ytcmfplfnpjknlaa
