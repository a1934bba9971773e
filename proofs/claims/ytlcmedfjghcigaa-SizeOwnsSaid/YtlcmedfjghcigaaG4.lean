/- Size: rows that are copied by append. -/
import Derived.Test.YtlcmedfjghcigaaE2
import Derived.Test.YtlcmedfjghcigaaG0
import Derived.Laws.AppendOwnNone
import Derived.Maps.AppendAt
import Derived.Deep.Slices
namespace Go.Proofs.Ytlcmedfjghcigaa
set_option linter.unusedSimpArgs false
set_option linter.unusedVariables false
open Go.ChangeShapes Go.WideShapes Go.ChangeAt Go.RowKit Go.Maps

/-- a slice that is nil has no cells -/
def NilOk (v : Value) : Prop := ∀ n c, v = .slice none n c → n = 0 ∧ c = 0
section
variable {H : Type} {enc : TypeId × Value → H} {W : World}
theorem nil_of {t e : TypeId} (ht : Try.prog.underlying t = some (.slice e)) {n : Nat} {v : Value} {x : DataW H × List MemPlace} (h : DataW.trod enc Try.prog W 0 (fun _ => true) true n t [v] = some x) : NilOk v := by
  intro n' c' e'
  rcases Go.Deep.open_slice ht h with ⟨hv, _⟩ | ⟨a, len, cap, m, q, D, Pl, hv, _⟩
  · simp only [List.cons.injEq, and_true] at hv
    rw [hv] at e'
    simp only [Value.slice.injEq, true_and] at e'
    exact ⟨e'.1.symm, e'.2.symm⟩
  · simp only [List.cons.injEq, and_true] at hv
    rw [hv] at e'
    simp at e'
set_option maxRecDepth 100000 in
theorem szs_nil {v : Value} {d : DataW H} {p : List MemPlace} (hok : Value.okWide Try.prog W .any 0 38 v) (h : DataW.Trod enc Try.prog W 0 (fun _ => true) true 38 v d p) : NilOk v := by
  obtain ⟨a, len, cap, rfl⟩ := okWide_slice Try.underlying38 hok
  obtain ⟨n, hn⟩ := h
  exact nil_of Try.underlying38 hn
set_option maxRecDepth 100000 in
theorem hs_nil {v : Value} {d : DataW H} {p : List MemPlace} (hok : Value.okWide Try.prog W .any 0 25 v) (h : DataW.Trod enc Try.prog W 0 (fun _ => true) true 25 v d p) : ∀ x0 x1 tv rv, v = .agg #[x0, x1, tv, rv] → NilOk tv ∧ NilOk rv := by
  obtain ⟨cs, rfl, hsz⟩ := okWide_struct Try.underlying25 hok
  have hc4 : Try.prog.cellsOf 25 = 4 := by kernel_rfl
  have c22 : Try.prog.cellsOf 22 = 1 := by kernel_rfl
  have c23 : Try.prog.cellsOf 23 = 1 := by kernel_rfl
  obtain ⟨n, hn⟩ := h
  obtain ⟨xs, m, _, _, _, hxl, hf⟩ := DataW.trod_struct Try.underlying25 hn
  have hx : xs.length = 4 := hxl
  obtain ⟨l⟩ := cs
  match l, hsz.trans hc4 with
  | [a0, a1, a2, a3], _ =>
    have g2 := hf 2 _ rfl
    rw [one_field (c := a2) rfl rfl c22, List.getElem?_eq_getElem (by omega)] at g2
    have hn2 := nil_of Try.underlying22 g2
    have g3 := hf 3 _ rfl
    rw [one_field (c := a3) rfl rfl c23, List.getElem?_eq_getElem (by omega)] at g3
    have hn3 := nil_of Try.underlying23 g3
    intro x0 x1 tv rv e
    simp only [Value.agg.injEq, Array.mk.injEq, List.cons.injEq, and_true] at e
    obtain ⟨_, _, rfl, rfl⟩ := e
    exact ⟨hn2, hn3⟩
end
theorem own_apart {w : World} {b1 b2 : Nat} {e1 e2 : TypeId} {k1 k2 n1 n2 : Nat} {v1 v2 : Value} {x1 x2 : List Value} (h1 : w.ownsRow b1 e1 k1 v1 n1 x1) (h2 : w.ownsRow b2 e2 k2 v2 n2 x2) (he : e1 ≠ e2) : v1.ownBlock = none ∨ v1.ownBlock ≠ v2.ownBlock := by
  rcases h1.2 with ⟨rfl, _⟩ | ⟨g, cap, cur, rfl, _, hg, _⟩
  · exact .inl rfl
  · right
    rcases h2.2 with ⟨rfl, _⟩ | ⟨g', cap', cur', rfl, _, hg', _⟩
    · simp [Value.ownBlock]
    · simp only [Value.ownBlock, ne_eq, Option.some.injEq]
      intro e
      subst e
      rw [hg] at hg'
      simp at hg'
      exact he hg'.2
theorem flat_at {α : Type} [Inhabited α] {k : Nat} {f : α → Nat → Int} {L : List α} {w : World} {b off : Nat} (hk : 0 < k) (hc : ∀ i, i < L.length → ∀ j, j < k → w.cell? ⟨b, off + i * k + j, none⟩ = some (.int .i64 (f (L.getD i default) j))) :
    ∀ j u, (flatK k f L)[j]? = some u → w.cell? ((⟨b, off, none⟩ : Addr).add j) = some u := by
  intro j u hu
  have hj : j < L.length * k := by have := (List.getElem?_eq_some_iff.1 hu).1; rwa [flat_len] at this
  have h1 : j / k < L.length := Nat.div_lt_of_lt_mul (by rw [Nat.mul_comm]; exact hj)
  have h2 : j % k < k := Nat.mod_lt _ hk
  have h3 : j / k * k + j % k = j := Nat.div_add_mod' j k
  have h4 := hc _ h1 _ h2
  rw [Nat.add_assoc, h3] at h4
  have h5 := flat_get (f := f) h1 h2
  rw [h3, hu] at h5
  rw [Addr.add_lit, h4, h5]
/-- all elements of a list behind an empty row of the call's own -/
theorem wp_copyT {α : Type} [Inhabited α] {o : Oper} {a : Act} {w : World} {K : Act → World → Prop} {Q : Exit → Act → World → Prop} (s x : Operand) (t e : TypeId) (k bytes : Nat) (z : Value) (fc : α → Nat → Int) (ht : Try.prog.underlying t = some (.slice e)) (hinfo : (Try.prog.info? e).map (fun i => (i.zero, i.size, i.bytes)) = some (some z, k, bytes))
    (hzs : z.cells.size = k) (hk : 0 < k) (hby : bytes ≤ 64) (ho : o.op = .call { callee := .builtin .append, args := #[s, x], argTypes := #[t, t] })
    (base g : Nat) (hs : a.eval s = .slice (some ⟨g, 0, none⟩) 0 0) (hown : w.ownsRow base e k (.slice (some ⟨g, 0, none⟩) 0 0) 0 []) {v : Value} {L : List α} (hx : a.eval x = v) (hv : TabAt k fc w v L) (hn : NilOk v) (hl : L.length ≤ 1000) (hbase : base ≤ w.heap.size)
    (h : ∀ v' w', w'.ownsRow base e k v' L.length (flatK k fc L) → w.grownBy w' (some g) → K (a.put o.dst v') w') : o.wp Try.prog a w K Q := by
  obtain ⟨i0, hi, hz0, hz1, hz2⟩ := info_parts hinfo
  have hb : L.length * bytes ≤ 140737488355328 := by
    have : L.length * bytes ≤ 1000 * 64 := Nat.mul_le_mul hl hby
    omega
  have main : ∃ v' w', (Builtin.append_ #[t, t] o.type #[.slice (some ⟨g, 0, none⟩) 0 0, v]).run Try.prog w = .ok v' w' ∧ w'.ownsRow base e k v' L.length (flatK k fc L) ∧ w.grownBy w' (some g) := by
    obtain ⟨_, ⟨rfl, a', cap, rfl⟩ | ⟨b, off, cap, rfl, hlc, hcm, hbl, hc⟩⟩ := hv
    · cases a' with
      | none =>
        obtain ⟨_, rfl⟩ := hn 0 cap rfl
        exact ⟨_, _, run_append_owned_none (P := Try.prog) (w := w) base t o.type e i0 k ht hi _ 0 [] hown, hown, World.grownBy.refl _ _⟩
      | some ad =>
        obtain ⟨v', w', hr, h2, h3, _, h5⟩ := run_append_own_at (P := Try.prog) w base t o.type e i0 z k bytes ht hi hz0 hz1 hz2 hzs hk _ 0 [] hown ad 0 cap [] (by simp) (by simp) (by simp) (by unfold maxLen; omega) (by simp) hbase
        exact ⟨v', w', hr, h2, h3⟩
    · obtain ⟨v', w', hr, h2, h3, _, h5⟩ := run_append_own_at (P := Try.prog) w base t o.type e i0 z k bytes ht hi hz0 hz1 hz2 hzs hk _ 0 [] hown ⟨b, off, none⟩ L.length cap (flatK k fc L) (flat_len k fc L) (flat_at hk hc) flat_one (by unfold maxLen; omega) (by rw [Nat.zero_add]; exact hb) hbase
      exact ⟨v', w', hr, by simpa using h2, h3⟩
  obtain ⟨v', w', hr, h2, h3⟩ := main
  unfold Oper.wp execOp
  simp only [ho, resolve, invoke, builtin, Sem.run_bind, Sem.run_pure, Result.andThen_ok, List.map_toArray, List.map_cons, List.map_nil, hs, hx, hr]
  exact h v' w' h2 h3
end Go.Proofs.Ytlcmedfjghcigaa
