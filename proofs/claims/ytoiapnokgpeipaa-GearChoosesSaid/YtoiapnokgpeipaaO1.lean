/- A copy of a slice of pairs, by append to an empty one; and what else GearOwns wants. -/
import Derived.Test.YtoiapnokgpeipaaS4
import Derived.Laws.AppendOwnNone
import Derived.Deep.AppendLies
namespace Go.Proofs.Ytoiapnokgpeipaa
set_option linter.unusedSimpArgs false
open Go.RowKit Go.Maps

theorem Try.info58 : (Try.prog.info? 58).map (fun i => (i.zero, i.size, i.bytes)) = some (some (.agg #[.int .i64 0, .int .i64 0]), 2, 16) := by kernel_rfl
/-- a slice that is nil has no cells -/
def NilOk (v : Value) : Prop := ∀ n c, v = .slice none n c → n = 0 ∧ c = 0
theorem usedP_at {w : World} {b off : Nat} {S : List (Int × Int)} (hc : ∀ i, i < S.length → w.cell? ⟨b, off + i * 2, none⟩ = some (.int .i64 (S.getD i (0, 0)).1) ∧ w.cell? ⟨b, off + i * 2 + 1, none⟩ = some (.int .i64 (S.getD i (0, 0)).2)) :
    ∀ j u, ((usedP S).map (Value.int .i64))[j]? = some u → w.cell? ((⟨b, off, none⟩ : Addr).add j) = some u := by
  intro j u h
  have hj : j < S.length * 2 := by have := (List.getElem?_eq_some_iff.1 h).1; rw [List.length_map, usedP_len] at this; exact this
  obtain ⟨e1, e2⟩ := usedP_getD S (j / 2) (by omega)
  obtain ⟨c1, c2⟩ := hc (j / 2) (by omega)
  rw [Addr.add_lit]
  have hu : u = .int .i64 ((usedP S).getD j 0) := by
    rw [List.getElem?_map] at h
    have hl : j < (usedP S).length := by rw [usedP_len]; exact hj
    rw [List.getElem?_eq_getElem hl] at h
    simp at h
    rw [← h]; simp [List.getD, hl]
  by_cases h2 : j % 2 = 0
  · have ej : j / 2 * 2 = j := by omega
    rw [ej] at e1 c1
    rw [hu, e1]; exact c1
  · have ej : j / 2 * 2 + 1 = j := by omega
    rw [Nat.add_assoc, ej] at c2
    rw [ej] at e2
    rw [hu, e2]; exact c2

theorem wp_copy {o : Oper} {a : Act} {w : World} {K : Act → World → Prop} {Q : Exit → Act → World → Prop} (s x : Operand) (t e : TypeId) (ho : o.op = .call { callee := .builtin .append, args := #[s, x], argTypes := #[t, t] })
    (ht : Try.prog.underlying t = some (.slice e)) (hinfo : (Try.prog.info? e).map (fun i => (i.zero, i.size, i.bytes)) = some (some (.agg #[.int .i64 0, .int .i64 0]), 2, 16))
    (base g : Nat) (hs : a.eval s = .slice (some ⟨g, 0, none⟩) 0 0) (hown : w.ownsRow base e 2 (.slice (some ⟨g, 0, none⟩) 0 0) 0 []) {v : Value} {S : List (Int × Int)} (hx : a.eval x = v) (hv : WheelsAt w v S) (hn : NilOk v) (hl : S.length ≤ 1000) (hbase : base ≤ w.heap.size)
    (h : ∀ v' w', w'.ownsRow base e 2 v' S.length ((usedP S).map (Value.int .i64)) → w.grownBy w' (some g) → (v'.ownBlock = some g ∨ v'.ownBlock = some w.heap.size) → K (a.put o.dst v') w') : o.wp Try.prog a w K Q := by
  obtain ⟨i0, hi, hz0, hz1, hz2⟩ := info_parts hinfo
  have main : ∃ v' w', (Builtin.append_ #[t, t] o.type #[.slice (some ⟨g, 0, none⟩) 0 0, v]).run Try.prog w = .ok v' w' ∧ w'.ownsRow base e 2 v' S.length ((usedP S).map (Value.int .i64)) ∧ w.grownBy w' (some g) ∧ (v'.ownBlock = some g ∨ v'.ownBlock = some w.heap.size) := by
    obtain ⟨_, ⟨rfl, a', cap, rfl⟩ | ⟨b, off, cap, rfl, hlc, hcm, hb, hc⟩⟩ := hv
    · cases a' with
      | none =>
        obtain ⟨_, rfl⟩ := hn 0 cap rfl
        exact ⟨_, _, run_append_owned_none (P := Try.prog) (w := w) base t o.type e i0 2 ht hi _ 0 [] hown, hown, World.grownBy.refl _ _, .inl rfl⟩
      | some ad =>
        obtain ⟨v', w', hr, h2, h3, _, h5⟩ := run_append_own_at (P := Try.prog) w base t o.type e i0 (.agg #[.int .i64 0, .int .i64 0]) 2 16 ht hi hz0 hz1 hz2 rfl (by decide) _ 0 [] hown ad 0 cap [] rfl (by simp) (by simp) (by unfold maxLen; omega) (by omega) hbase
        exact ⟨v', w', hr, h2, h3, h5⟩
    · obtain ⟨v', w', hr, h2, h3, _, h5⟩ := run_append_own_at (P := Try.prog) w base t o.type e i0 (.agg #[.int .i64 0, .int .i64 0]) 2 16 ht hi hz0 hz1 hz2 rfl (by decide) _ 0 [] hown ⟨b, off, none⟩ S.length cap ((usedP S).map (Value.int .i64)) (by rw [List.length_map, usedP_len]) (usedP_at hc) (ints_oneCell .i64 _) (by unfold maxLen; omega) (by omega) hbase
      exact ⟨v', w', hr, by simpa using h2, h3, h5⟩
  obtain ⟨v', w', hr, h2, h3, h5⟩ := main
  unfold Oper.wp execOp
  simp only [ho, resolve, invoke, builtin, Sem.run_bind, Sem.run_pure, Result.andThen_ok, List.map_toArray, List.map_cons, List.map_nil, hs, hx, hr]
  exact h v' w' h2 h3 h5
end Go.Proofs.Ytoiapnokgpeipaa
