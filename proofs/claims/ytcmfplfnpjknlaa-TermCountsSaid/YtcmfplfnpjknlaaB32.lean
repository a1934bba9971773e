/- Term: lists of ints that are put together by append. -/
import Derived.Test.YtcmfplfnpjknlaaB31
namespace Go.Proofs.Ytcmfplfnpjknlaa
set_option linter.unusedSimpArgs false
set_option linter.unusedVariables false
open Go.RowKit Go.Maps

theorem Try.info3' : (Try.prog.info? 3).map (fun i => (i.zero, i.size, i.bytes)) = some (some (.int .i64 0), 1, 8) := by kernel_rfl
def SrcI (w : World) (v : Value) (n : Nat) (F : List Value) : Prop := F.length = n ∧ (∀ u ∈ F, u.oneCell' = true) ∧ ((v = .slice none 0 0 ∧ n = 0) ∨ ∃ (ad : Addr) (c : Nat), v = .slice (some ad) n c ∧ (0 < n → ad.block < w.heap.size) ∧ ∀ j u, F[j]? = some u → w.cell? (ad.add j) = some u)
theorem SrcI.below {w w' : World} {v : Value} {n : Nat} {F : List Value} (h : SrcI w v n F) (hb : Below w.heap.size w w') : SrcI w' v n F := by
  refine ⟨h.1, h.2.1, ?_⟩
  rcases h.2.2 with h0 | ⟨ad, c, e, hs, hc⟩
  · exact .inl h0
  · refine .inr ⟨ad, c, e, fun hn => Nat.lt_of_lt_of_le (hs hn) hb.size, fun j u hu => ?_⟩
    have h1 := h.1
    have hj := (List.getElem?_eq_some_iff.1 hu).1
    exact (hb.cell (p := ad.add j) (by rw [show (ad.add j).block = ad.block by unfold Addr.add; split <;> rfl]; exact hs (by omega))).trans (hc j u hu)
theorem wp_manyI {o : Oper} {a : Act} {w : World} {K : Act → World → Prop} {Q : Exit → Act → World → Prop} (s x : Operand) (ho : o.op = .call { callee := .builtin .append, args := #[s, x], argTypes := #[32, 32] })
    (base : Nat) {v1 : Value} {n : Nat} {F : List Value} (hs : a.eval s = v1) (hown : w.ownsRow base 3 1 v1 n F) {v : Value} {m : Nat} {G : List Value} (hx : a.eval x = v) (hv : SrcI w v m G) (hl : n + m ≤ 1000) (hbase : base ≤ w.heap.size)
    (h : ∀ v' w', w'.ownsRow base 3 1 v' (n + m) (F ++ G) → w.grownBy w' v1.ownBlock → K (a.put o.dst v') w') : o.wp Try.prog a w K Q := by
  obtain ⟨i0, hi, hz0, hz1, hz2⟩ := info_parts Try.info3'
  have main : ∃ v' w', (Builtin.append_ #[32, 32] o.type #[v1, v]).run Try.prog w = .ok v' w' ∧ w'.ownsRow base 3 1 v' (n + m) (F ++ G) ∧ w.grownBy w' v1.ownBlock := by
    obtain ⟨hF, h1, ⟨rfl, rfl⟩ | ⟨ad, c, rfl, hsz, hc⟩⟩ := hv
    · have hG0 : G = [] := List.length_eq_zero_iff.1 (by simpa using hF)
      subst hG0
      exact ⟨_, _, run_append_owned_none (P := Try.prog) (w := w) base 32 o.type 3 i0 1 Try.underlying32 hi _ n F hown, by simpa using hown, World.grownBy.refl _ _⟩
    · obtain ⟨v', w', hr, h2, h3, _, h5⟩ := run_append_own_at (P := Try.prog) w base 32 o.type 3 i0 (.int .i64 0) 1 8 Try.underlying32 hi hz0 hz1 hz2 rfl (by decide) _ n F hown ad m c G (by omega) hc h1 (by unfold maxLen; omega) (by omega) hbase
      exact ⟨v', w', hr, h2, h3⟩
  obtain ⟨v', w', hr, h2, h3⟩ := main
  unfold Oper.wp execOp
  simp only [ho, resolve, invoke, builtin, Sem.run_bind, Sem.run_pure, Result.andThen_ok, List.map_toArray, List.map_cons, List.map_nil, hs, hx, hr]
  exact h v' w' h2 h3
def intV (l : List Int) : List Value := l.map (fun x => Value.int .i64 x)
theorem src_tab {w : World} {a : Option Addr} {c n : Nat} {L : List Int} (h : TabAt 1 numC w (.slice a n c) L) (hn : NilOk (.slice a n c)) (hl : L.length = n) {l m : Nat} (hlm : l + m ≤ n) {c' : Nat} {a' : Option Addr} (ha : (a = none → a' = none ∧ c' = 0) ∧ ∀ b off, a = some ⟨b, off, none⟩ → 0 < m → a' = some ⟨b, off + l, none⟩) (ha2 : a ≠ none → a' ≠ none) : SrcI w (.slice a' m c') m (intV ((L.drop l).take m)) := by
  refine ⟨by unfold intV; simp; omega, fun u hu => by unfold intV at hu; rw [List.mem_map] at hu; obtain ⟨x, _, rfl⟩ := hu; rfl, ?_⟩
  rcases h.2 with ⟨h0, a2, c2, e⟩ | ⟨b, off, cap, e, h1, h2, h3, h4⟩
  · have hn0 : n = 0 := by rw [← hl, h0]; rfl
    have hm0 : m = 0 := by omega
    subst hm0
    cases hax : a with
    | none => obtain ⟨rfl, rfl⟩ := ha.1 hax; exact .inl ⟨rfl, rfl⟩
    | some ad =>
      cases ha' : a' with
      | none => exact absurd ha' (ha2 (by rw [hax]; simp))
      | some ad' => exact .inr ⟨ad', c', rfl, fun h => absurd h (Nat.lt_irrefl 0), fun j u hu => by simp [intV] at hu⟩
  · simp only [Value.slice.injEq] at e
    obtain ⟨e1, e2, e3⟩ := e
    by_cases hm : 0 < m
    · have := ha.2 b off e1 hm
      rw [this]
      refine .inr ⟨⟨b, off + l, none⟩, c', rfl, fun _ => h3, fun j u hu => ?_⟩
      unfold intV at hu
      rw [List.getElem?_map, Option.map_eq_some_iff] at hu
      obtain ⟨x, hx, rfl⟩ := hu
      have hjm : j < m := by have := (List.getElem?_eq_some_iff.1 hx).1; simp at this; omega
      rw [List.getElem?_take_of_lt hjm, List.getElem?_drop] at hx
      have := h4 (l + j) (by omega) 0 (by omega)
      rw [Addr.add_lit]
      simp only [Nat.mul_one, Nat.add_zero, numC, List.getD, hx, Option.getD_some] at this
      rw [Nat.add_assoc]; exact this
    · have hm0 : m = 0 := by omega
      subst hm0
      cases ha' : a' with
      | none => exact absurd ha' (ha2 (by rw [e1]; simp))
      | some ad' => exact .inr ⟨ad', c', rfl, fun h => absurd h (Nat.lt_irrefl 0), fun j u hu => by simp [intV] at hu⟩
end Go.Proofs.Ytcmfplfnpjknlaa
