/- Size: rows that are copied by append. -/
import Derived.Test.YtdbjifpnbghbaaaE2
import Derived.Test.YtdbjifpnbghbaaaA18
import Derived.Laws.AppendOwnNone
import Derived.Maps.AppendAt
import Derived.Deep.Slices
namespace Go.Proofs.Ytdbjifpnbghbaaa
set_option linter.unusedSimpArgs false
set_option linter.unusedVariables false
open Go.ChangeShapes Go.WideShapes Go.ChangeAt Go.RowKit Go.Maps

theorem own_apart {w : World} {b1 b2 : Nat} {e1 e2 : TypeId} {k1 k2 n1 n2 : Nat} {v1 v2 : Value} {x1 x2 : List Value} (h1 : w.ownsRow b1 e1 k1 v1 n1 x1) (h2 : w.ownsRow b2 e2 k2 v2 n2 x2) (he : e1 ≠ e2) : v1.ownBlock = none ∨ v1.ownBlock ≠ v2.ownBlock := by
  rcases h1.2 with ⟨rfl, _⟩ | ⟨g, cap, cur, rfl, _, hg, _⟩
  · exact .inl rfl
  · right
    rcases h2.2 with ⟨rfl, _⟩ | ⟨g', cap', cur', rfl, _, hg', _⟩
    · simp [Value.ownBlock]
    · simp only [Value.ownBlock, ne_eq, Option.some.injEq]
      intro e
      subst e
      rw [hg] at hg'
      simp at hg'
      exact he hg'.2
theorem flat_at {α : Type} [Inhabited α] {k : Nat} {f : α → Nat → Int} {L : List α} {w : World} {b off : Nat} (hk : 0 < k) (hc : ∀ i, i < L.length → ∀ j, j < k → w.cell? ⟨b, off + i * k + j, none⟩ = some (.int .i64 (f (L.getD i default) j))) :
    ∀ j u, (flatK k f L)[j]? = some u → w.cell? ((⟨b, off, none⟩ : Addr).add j) = some u := by
  intro j u hu
  have hj : j < L.length * k := by have := (List.getElem?_eq_some_iff.1 hu).1; rwa [flat_len] at this
  have h1 : j / k < L.length := Nat.div_lt_of_lt_mul (by rw [Nat.mul_comm]; exact hj)
  have h2 : j % k < k := Nat.mod_lt _ hk
  have h3 : j / k * k + j % k = j := Nat.div_add_mod' j k
  have h4 := hc _ h1 _ h2
  rw [Nat.add_assoc, h3] at h4
  have h5 := flat_get (f := f) h1 h2
  rw [h3, hu] at h5
  rw [Addr.add_lit, h4, h5]
/-- all elements of a list behind an empty row of the call's own -/
theorem run_copyT {α : Type} [Inhabited α] {w : World} (t ty e : TypeId) (k bytes : Nat) (z : Value) (fc : α → Nat → Int) (ht : Try.prog.underlying t = some (.slice e)) (hinfo : (Try.prog.info? e).map (fun i => (i.zero, i.size, i.bytes)) = some (some z, k, bytes))
    (hzs : z.cells.size = k) (hk : 0 < k) (hby : bytes ≤ 64) (base g : Nat) (hown : w.ownsRow base e k (.slice (some ⟨g, 0, none⟩) 0 0) 0 []) {v : Value} {L : List α} (hv : TabAt k fc w v L) (hn : NilOk v) (hl : L.length ≤ 1000) (hbase : base ≤ w.heap.size) :
    ∃ v' w', (Builtin.append_ #[t, t] ty #[.slice (some ⟨g, 0, none⟩) 0 0, v]).run Try.prog w = .ok v' w' ∧ w'.ownsRow base e k v' L.length (flatK k fc L) ∧ w.grownBy w' (some g) := by
  obtain ⟨i0, hi, hz0, hz1, hz2⟩ := info_parts hinfo
  have hb : L.length * bytes ≤ 140737488355328 := by
    have : L.length * bytes ≤ 1000 * 64 := Nat.mul_le_mul hl hby
    omega
  obtain ⟨_, ⟨rfl, a', cap, rfl⟩ | ⟨b, off, cap, rfl, hlc, hcm, hbl, hc⟩⟩ := hv
  · cases a' with
    | none =>
      obtain ⟨_, rfl⟩ := hn 0 cap rfl
      exact ⟨_, _, run_append_owned_none (P := Try.prog) (w := w) base t ty e i0 k ht hi _ 0 [] hown, hown, World.grownBy.refl _ _⟩
    | some ad =>
      obtain ⟨v', w', hr, h2, h3, _, h5⟩ := run_append_own_at (P := Try.prog) w base t ty e i0 z k bytes ht hi hz0 hz1 hz2 hzs hk _ 0 [] hown ad 0 cap [] (by simp) (by simp) (by simp) (by unfold maxLen; omega) (by simp) hbase
      exact ⟨v', w', hr, h2, h3⟩
  · obtain ⟨v', w', hr, h2, h3, _, h5⟩ := run_append_own_at (P := Try.prog) w base t ty e i0 z k bytes ht hi hz0 hz1 hz2 hzs hk _ 0 [] hown ⟨b, off, none⟩ L.length cap (flatK k fc L) (flat_len k fc L) (flat_at hk hc) flat_one (by unfold maxLen; omega) (by rw [Nat.zero_add]; exact hb) hbase
    exact ⟨v', w', hr, by simpa using h2, h3⟩
theorem wpList_append_run {ops : Array Oper} {rest : List Oper} {o : Oper} {a : Act} {w : World} {Q : Exit → Act → World → Prop} (hgd : o.guard = none) (s x : Operand) (t : TypeId) (ho : o.op = .call { callee := .builtin .append, args := #[s, x], argTypes := #[t, t] }) {v u v' : Value} {w' : World}
    (hs : a.eval s = v) (hx : a.eval x = u) (hr : (Builtin.append_ #[t, t] o.type #[v, u]).run Try.prog w = .ok v' w') (h : wpList Try.prog ops Q rest (a.put o.dst v') w') : wpList Try.prog ops Q (o :: rest) a w :=
  wpList_plain hgd fun K hK => by
    unfold Oper.wp execOp
    simp only [ho, resolve, invoke, builtin, Sem.run_bind, Sem.run_pure, Result.andThen_ok, List.map_toArray, List.map_cons, List.map_nil, hs, hx, hr]
    exact hK _ _ h
theorem Try.info26 : (Try.prog.info? 26).map (fun i => (i.zero, i.size, i.bytes)) = some (some (.agg #[.int .i64 0, .int .i64 0, .int .i64 0, .int .i64 0]), 4, 32) := by kernel_rfl
end Go.Proofs.Ytdbjifpnbghbaaa
