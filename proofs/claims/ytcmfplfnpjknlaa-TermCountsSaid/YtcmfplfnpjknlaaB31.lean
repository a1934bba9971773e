/- Term: rows that grow by one element. -/
import Derived.Test.YtcmfplfnpjknlaaB30
namespace Go.Proofs.Ytcmfplfnpjknlaa
set_option linter.unusedSimpArgs false
set_option linter.unusedVariables false
open Go.RowKit Go.Maps

theorem Try.info42 : (Try.prog.info? 42).map (fun i => (i.zero, i.size, i.bytes)) = some (some (.agg #[.int .i64 0, .int .i64 0, .int .i64 0, .int .i64 0]), 4, 32) := by kernel_rfl
theorem Try.info43 : (Try.prog.info? 43).map (fun i => (i.zero, i.size, i.bytes)) = some (some (.agg #[.int .i64 0, .int .i64 0]), 2, 16) := by kernel_rfl
def flatK {α : Type} (k : Nat) (f : α → Nat → Int) (L : List α) : List Value := L.flatMap (fun x => (List.range k).map (fun j => Value.int .i64 (f x j)))
theorem flat_len {α : Type} (k : Nat) (f : α → Nat → Int) (L : List α) : (flatK k f L).length = L.length * k := by
  unfold flatK
  induction L with
  | nil => simp
  | cons x l ih => rw [List.flatMap_cons, List.length_append, ih]; simp [Nat.add_mul]; omega
theorem flat_snoc {α : Type} (k : Nat) (f : α → Nat → Int) (L : List α) (x : α) : flatK k f (L ++ [x]) = flatK k f L ++ (List.range k).map (fun j => Value.int .i64 (f x j)) := by
  unfold flatK; simp
theorem flat_get {α : Type} [Inhabited α] {k : Nat} {f : α → Nat → Int} : ∀ {L : List α} {i j : Nat}, i < L.length → j < k → (flatK k f L)[i * k + j]? = some (.int .i64 (f (L.getD i default) j))
  | [], i, j, hi, _ => by simp at hi
  | x :: l, 0, j, _, hj => by
    unfold flatK
    rw [List.flatMap_cons, Nat.zero_mul, Nat.zero_add, List.getElem?_append_left (by simpa using hj)]
    simp [hj]
  | x :: l, i + 1, j, hi, hj => by
    have ih := flat_get (f := f) (L := l) (i := i) (j := j) (by simpa using hi) hj
    unfold flatK at *
    rw [List.flatMap_cons, List.getElem?_append_right (by simp [Nat.add_mul]; omega)]
    rw [show (i + 1) * k + j - ((List.range k).map (fun j => Value.int .i64 (f x j))).length = i * k + j by simp [Nat.add_mul]; omega, ih]
    rfl
theorem flat_one {α : Type} {k : Nat} {f : α → Nat → Int} {L : List α} : ∀ u ∈ flatK k f L, u.oneCell' = true := by
  intro u hu
  unfold flatK at hu
  rw [List.mem_flatMap] at hu
  obtain ⟨x, _, hx⟩ := hu
  rw [List.mem_map] at hx
  obtain ⟨j, _, rfl⟩ := hx
  rfl
theorem tab_of_own {α : Type} [Inhabited α] {k : Nat} {f : α → Nat → Int} {w : World} {base : Nat} {e : TypeId} {v : Value} {n : Nat} {L : List α} (h : w.ownsRow base e k v n (flatK k f L)) (hn : n = L.length) (hl : L.length ≤ maxLen) : TabAt k f w v L := by
  subst hn
  refine ⟨hl, ?_⟩
  have h' := h
  rcases h.2 with ⟨rfl, h0⟩ | ⟨g, cap, cur, rfl, hb, hg, hc, hm, hs, ht⟩
  · exact .inl ⟨List.length_eq_zero_iff.1 h0, none, 0, rfl⟩
  · refine .inr ⟨g, 0, cap, rfl, hc, hm, (Array.getElem?_eq_some_iff.1 hg).1, fun i hi j hj => ?_⟩
    have hce : ∀ j u, (flatK k f L)[j]? = some u → w.cell? ((⟨g, 0, none⟩ : Addr).add j) = some u := h'.cells (g := g) rfl
    have := hce _ _ (flat_get (f := f) hi hj)
    rwa [Addr.add_lit, ← Nat.add_assoc] at this
theorem wp_oneE {o : Oper} {a : Act} {w : World} {K : Act → World → Prop} {Q : Exit → Act → World → Prop} (s x : Operand) (t e : TypeId) (k bytes : Nat) (z : Value) (ht : Try.prog.underlying t = some (.slice e)) (hinfo : (Try.prog.info? e).map (fun i => (i.zero, i.size, i.bytes)) = some (some z, k, bytes))
    (hzs : z.cells.size = k) (hk : 0 < k) (hby : bytes ≤ 64) (ho : o.op = .call { callee := .builtin .append, args := #[s, x], argTypes := #[t, t] })
    (base q : Nat) {v : Value} {n : Nat} {F : List Value} (hs : a.eval s = v) (hown : w.ownsRow base e k v n F) (vals : List Value) (hvl : vals.length = k) (hx : a.eval x = .slice (some ⟨q, 0, none⟩) 1 1) (hq : w.heap[q]? = some (.cells vals.toArray e (0, 0))) (h1 : ∀ u ∈ vals, u.oneCell' = true) (hl : n ≤ 1000) (hbase : base ≤ w.heap.size)
    (h : ∀ g cp w', w'.ownsRow base e k (.slice (some ⟨g, 0, none⟩) (n + 1) cp) (n + 1) (F ++ vals) → base ≤ g → w.grownBy w' v.ownBlock → K (a.put o.dst (.slice (some ⟨g, 0, none⟩) (n + 1) cp)) w') : o.wp Try.prog a w K Q := by
  obtain ⟨i0, hi, hz0, hz1, hz2⟩ := info_parts hinfo
  have hb : (n + 1) * bytes ≤ 140737488355328 := by
    have : (n + 1) * bytes ≤ 1001 * 64 := Nat.mul_le_mul (by omega) hby
    omega
  exact wp_append_own (P := Try.prog) w s x t ho base e i0 z k bytes ht hi hz0 hz1 hz2 hzs hk v n F hs hown ⟨q, 0, none⟩ 1 1 vals hx (by rw [hvl, Nat.one_mul]) (fun j u hj => by
    rw [Addr.add_lit, Nat.zero_add]
    simp [World.cell?, hq, hj]) h1 (by unfold maxLen; omega) hb hbase (fun v' w' ha hb _ => by
    have ha' := ha
    rcases ha.2 with ⟨_, h0⟩ | ⟨g, cap, cur, rfl, hbg, _⟩
    · omega
    · exact h g cap w' ha' hbg hb)
end Go.Proofs.Ytcmfplfnpjknlaa
