/- Term: proofs that are copied by append, and one more. -/
import Derived.Test.YtcmfplfnpjknlaaA28
import Derived.Laws.AppendOwnNone
import Derived.Maps.AppendAt
namespace Go.Proofs.Ytcmfplfnpjknlaa
set_option linter.unusedSimpArgs false
set_option linter.unusedVariables false
open Go.RowKit Go.Maps

theorem Try.info52 : (Try.prog.info? 52).map (fun i => (i.zero, i.size, i.bytes)) = some (some (.agg #[.int .i64 0, .int .i64 0, .slice none 0 0, .int .i64 0]), 4, 48) := by kernel_rfl
/-- a slice that is nil has no cells -/
def NilOk (v : Value) : Prop := ∀ n c, v = .slice none n c → n = 0 ∧ c = 0
def PrfVals (w : World) (F : List Value) (ps : List Prf) : Prop := F.length = ps.length * 4 ∧ ∀ i, i < ps.length → ∃ sv, F[i * 4]? = some (.int .i64 (ps.getD i default).cls) ∧ F[i * 4 + 1]? = some (.int .i64 (ps.getD i default).day) ∧ F[i * 4 + 2]? = some sv ∧ F[i * 4 + 3]? = some (.int .i64 (ps.getD i default).failed) ∧ TabAt 1 numC w sv (ps.getD i default).seals
theorem PrfVals.below {w w' : World} {F : List Value} {ps : List Prf} (h : PrfVals w F ps) (hb : Below w.heap.size w w') : PrfVals w' F ps :=
  ⟨h.1, fun i hi => by obtain ⟨sv, a, b, c, d, e⟩ := h.2 i hi; exact ⟨sv, a, b, c, d, e.below hb⟩⟩
theorem tab_oneCell {w : World} {sv : Value} {L : List Int} (h : TabAt 1 numC w sv L) : sv.oneCell' = true := by
  obtain ⟨a, c, rfl⟩ := h.shape
  rfl
theorem PrfVals.one {w : World} {F : List Value} {ps : List Prf} (h : PrfVals w F ps) : ∀ u ∈ F, u.oneCell' = true := by
  intro u hu
  obtain ⟨j, hj, rfl⟩ := List.getElem_of_mem hu
  have hj2 : j / 4 < ps.length := by have := h.1; omega
  obtain ⟨sv, a, b, c, d, e⟩ := h.2 (j / 4) hj2
  have hj3 : F[j]? = some F[j] := List.getElem?_eq_getElem hj
  rcases (by omega : j % 4 = 0 ∨ j % 4 = 1 ∨ j % 4 = 2 ∨ j % 4 = 3) with h4 | h4 | h4 | h4
  · rw [show j / 4 * 4 = j by omega, hj3] at a; rw [Option.some.inj a]; rfl
  · rw [show j / 4 * 4 + 1 = j by omega, hj3] at b; rw [Option.some.inj b]; rfl
  · rw [show j / 4 * 4 + 2 = j by omega, hj3] at c
    have hc := Option.some.inj c
    rw [hc]; exact tab_oneCell e
  · rw [show j / 4 * 4 + 3 = j by omega, hj3] at d; rw [Option.some.inj d]; rfl
theorem PrfVals.snoc {w : World} {F : List Value} {ps : List Prf} {p : Prf} {sv : Value} (h : PrfVals w F ps) (hs : TabAt 1 numC w sv p.seals) : PrfVals w (F ++ [.int .i64 p.cls, .int .i64 p.day, sv, .int .i64 p.failed]) (ps ++ [p]) := by
  refine ⟨by simp [h.1]; omega, fun i hi => ?_⟩
  by_cases hl : i < ps.length
  · obtain ⟨sv', a, b, c, d, e⟩ := h.2 i hl
    have hg : (ps ++ [p]).getD i default = ps.getD i default := by simp [List.getD, List.getElem?_append_left hl]
    have hF := h.1
    refine ⟨sv', ?_, ?_, ?_, ?_, by rw [hg]; exact e⟩
    · rw [hg, List.getElem?_append_left (by omega)]; exact a
    · rw [hg, List.getElem?_append_left (by omega)]; exact b
    · rw [List.getElem?_append_left (by omega)]; exact c
    · rw [hg, List.getElem?_append_left (by omega)]; exact d
  · have hi2 : i = ps.length := by simp at hi; omega
    have hg : (ps ++ [p]).getD i default = p := by simp [List.getD, hi2]
    have hF := h.1
    refine ⟨sv, ?_, ?_, ?_, ?_, by rw [hg]; exact hs⟩
    · rw [hg, List.getElem?_append_right (by omega), show i * 4 - F.length = 0 by omega]; rfl
    · rw [hg, List.getElem?_append_right (by omega), show i * 4 + 1 - F.length = 1 by omega]; rfl
    · rw [List.getElem?_append_right (by omega), show i * 4 + 2 - F.length = 2 by omega]; rfl
    · rw [hg, List.getElem?_append_right (by omega), show i * 4 + 3 - F.length = 3 by omega]; rfl
theorem prf_of_own {w : World} {base : Nat} {v : Value} {ps : List Prf} {F : List Value} {n : Nat} (h : w.ownsRow base 52 4 v n F) (hn : n = ps.length) (hv : PrfVals w F ps) (hl : ps.length ≤ maxLen) : PrfAt w v ps := by
  subst hn
  refine ⟨hl, ?_⟩
  have h' := h
  rcases h.2 with ⟨rfl, h0⟩ | ⟨g, cap, cur, rfl, hb, hg, hc, hm, hs, ht⟩
  · exact .inl ⟨List.length_eq_zero_iff.1 h0, none, 0, rfl⟩
  · refine .inr ⟨g, 0, cap, rfl, hc, hm, (Array.getElem?_eq_some_iff.1 hg).1, fun i hi => ?_⟩
    have hce : ∀ j u, F[j]? = some u → w.cell? ((⟨g, 0, none⟩ : Addr).add j) = some u := h'.cells (g := g) rfl
    obtain ⟨sv, a, b, c, d, e⟩ := hv.2 i hi
    refine ⟨sv, ?_, ?_, ?_, ?_, e⟩
    · have := hce _ _ a; rwa [Addr.add_lit] at this
    · have := hce _ _ b; rwa [Addr.add_lit, ← Nat.add_assoc] at this
    · have := hce _ _ c; rwa [Addr.add_lit, ← Nat.add_assoc] at this
    · have := hce _ _ d; rwa [Addr.add_lit, ← Nat.add_assoc] at this
/-- what append copies -/
def SrcAt (w : World) (v : Value) (n : Nat) (F : List Value) : Prop := F.length = n * 4 ∧ ((v = .slice none 0 0 ∧ n = 0) ∨ ∃ (ad : Addr) (c : Nat), v = .slice (some ad) n c ∧ (0 < n → ad.block < w.heap.size) ∧ ∀ j u, F[j]? = some u → w.cell? (ad.add j) = some u)
theorem SrcAt.below {w w' : World} {v : Value} {n : Nat} {F : List Value} (h : SrcAt w v n F) (hb : Below w.heap.size w w') : SrcAt w' v n F := by
  refine ⟨h.1, ?_⟩
  rcases h.2 with h | ⟨ad, c, e, hs, hc⟩
  · exact .inl h
  · refine .inr ⟨ad, c, e, fun hn => Nat.lt_of_lt_of_le (hs hn) hb.size, fun j u hu => ?_⟩
    have h1 := h.1
    have hj := (List.getElem?_eq_some_iff.1 hu).1
    exact (hb.cell (p := ad.add j) (by rw [show (ad.add j).block = ad.block by unfold Addr.add; split <;> rfl]; exact hs (by omega))).trans (hc j u hu)
def cellsL (w : World) (b off n : Nat) : List Value := (List.range n).map (fun j => (w.cell? ⟨b, off + j, none⟩).getD (.int .i64 0))
theorem cellsL_get {w : World} {b off n j : Nat} {u : Value} (hj : j < n) (h : w.cell? ⟨b, off + j, none⟩ = some u) : (cellsL w b off n)[j]? = some u := by
  unfold cellsL
  rw [List.getElem?_map, List.getElem?_range hj]
  simp [h]
theorem vals_of {w : World} {v : Value} {ps : List Prf} (h : PrfAt w v ps) (hn : NilOk v) : ∃ F, PrfVals w F ps ∧ SrcAt w v ps.length F := by
  obtain ⟨_, ⟨rfl, a, c, rfl⟩ | ⟨b, off, cap, rfl, h1, h2, h3, h4⟩⟩ := h
  · refine ⟨[], ⟨rfl, fun i hi => by simp at hi⟩, rfl, ?_⟩
    cases a with
    | none => obtain ⟨_, rfl⟩ := hn 0 c rfl; exact .inl ⟨rfl, rfl⟩
    | some ad => exact .inr ⟨ad, c, rfl, fun h => absurd h (Nat.lt_irrefl 0), fun j u hu => by simp at hu⟩
  · refine ⟨cellsL w b off (ps.length * 4), ⟨by simp [cellsL], fun i hi => ?_⟩, by simp [cellsL], .inr ⟨⟨b, off, none⟩, cap, rfl, fun _ => h3, fun j u hu => ?_⟩⟩
    · obtain ⟨sv, c0, c1, c2, c3, c4⟩ := h4 i hi
      exact ⟨sv, cellsL_get (by omega) c0, cellsL_get (by omega) (by rw [← Nat.add_assoc]; exact c1), cellsL_get (by omega) (by rw [← Nat.add_assoc]; exact c2), cellsL_get (by omega) (by rw [← Nat.add_assoc]; exact c3), c4⟩
    · have hj : j < ps.length * 4 := by have := (List.getElem?_eq_some_iff.1 hu).1; simpa [cellsL] using this
      obtain ⟨sv, c0, c1, c2, c3, c4⟩ := h4 (j / 4) (by omega)
      have hc : ∃ u', w.cell? ⟨b, off + j, none⟩ = some u' := by
        rcases (by omega : j % 4 = 0 ∨ j % 4 = 1 ∨ j % 4 = 2 ∨ j % 4 = 3) with h4 | h4 | h4 | h4
        · exact ⟨_, by rw [show off + j = off + j / 4 * 4 by omega]; exact c0⟩
        · exact ⟨_, by rw [show off + j = off + j / 4 * 4 + 1 by omega]; exact c1⟩
        · exact ⟨_, by rw [show off + j = off + j / 4 * 4 + 2 by omega]; exact c2⟩
        · exact ⟨_, by rw [show off + j = off + j / 4 * 4 + 3 by omega]; exact c3⟩
      obtain ⟨u', hu'⟩ := hc
      rw [cellsL_get hj hu'] at hu
      rw [Addr.add_lit, hu', hu]
theorem wp_copyP {o : Oper} {a : Act} {w : World} {K : Act → World → Prop} {Q : Exit → Act → World → Prop} (s x : Operand) (ho : o.op = .call { callee := .builtin .append, args := #[s, x], argTypes := #[24, 24] })
    (base g : Nat) (hs : a.eval s = .slice (some ⟨g, 0, none⟩) 0 0) (hown : w.ownsRow base 52 4 (.slice (some ⟨g, 0, none⟩) 0 0) 0 []) {v : Value} {n : Nat} {F : List Value} (hx : a.eval x = v) (hv : SrcAt w v n F) (h1 : ∀ u ∈ F, u.oneCell' = true) (hl : n ≤ 1000) (hbase : base ≤ w.heap.size)
    (h : ∀ v' w', w'.ownsRow base 52 4 v' n F → w.grownBy w' (some g) → (v'.ownBlock = some g ∨ v'.ownBlock = some w.heap.size) → K (a.put o.dst v') w') : o.wp Try.prog a w K Q := by
  obtain ⟨i0, hi, hz0, hz1, hz2⟩ := info_parts Try.info52
  have main : ∃ v' w', (Builtin.append_ #[24, 24] o.type #[.slice (some ⟨g, 0, none⟩) 0 0, v]).run Try.prog w = .ok v' w' ∧ w'.ownsRow base 52 4 v' n F ∧ w.grownBy w' (some g) ∧ (v'.ownBlock = some g ∨ v'.ownBlock = some w.heap.size) := by
    obtain ⟨hF, ⟨rfl, rfl⟩ | ⟨ad, c, rfl, hsz, hc⟩⟩ := hv
    · have hF0 : F = [] := List.length_eq_zero_iff.1 (by simpa using hF)
      subst hF0
      exact ⟨_, _, run_append_owned_none (P := Try.prog) (w := w) base 24 o.type 52 i0 4 Try.underlying24 hi _ 0 [] hown, hown, World.grownBy.refl _ _, .inl rfl⟩
    · obtain ⟨v', w', hr, h2, h3, _, h5⟩ := run_append_own_at (P := Try.prog) w base 24 o.type 52 i0 (.agg #[.int .i64 0, .int .i64 0, .slice none 0 0, .int .i64 0]) 4 48 Try.underlying24 hi hz0 hz1 hz2 rfl (by decide) _ 0 [] hown ad n c F hF hc h1 (by unfold maxLen; omega) (by omega) hbase
      exact ⟨v', w', hr, by simpa using h2, h3, h5⟩
  obtain ⟨v', w', hr, h2, h3, h5⟩ := main
  unfold Oper.wp execOp
  simp only [ho, resolve, invoke, builtin, Sem.run_bind, Sem.run_pure, Result.andThen_ok, List.map_toArray, List.map_cons, List.map_nil, hs, hx, hr]
  exact h v' w' h2 h3 h5
theorem wp_moreP {o : Oper} {a : Act} {w : World} {K : Act → World → Prop} {Q : Exit → Act → World → Prop} (s x : Operand) (ho : o.op = .call { callee := .builtin .append, args := #[s, x], argTypes := #[24, 24] })
    (base q : Nat) {v : Value} {n : Nat} {F : List Value} (hs : a.eval s = v) (hown : w.ownsRow base 52 4 v n F) {x0 x1 x2 x3 : Value} (hx : a.eval x = .slice (some ⟨q, 0, none⟩) 1 1) (hq : w.heap[q]? = some (.cells #[x0, x1, x2, x3] 52 (0, 0))) (h1 : ∀ u ∈ [x0, x1, x2, x3], u.oneCell' = true) (hl : n ≤ 1000) (hbase : base ≤ w.heap.size)
    (h : ∀ g cp w', w'.ownsRow base 52 4 (.slice (some ⟨g, 0, none⟩) (n + 1) cp) (n + 1) (F ++ [x0, x1, x2, x3]) → base ≤ g → w.grownBy w' v.ownBlock → K (a.put o.dst (.slice (some ⟨g, 0, none⟩) (n + 1) cp)) w') : o.wp Try.prog a w K Q := by
  obtain ⟨i0, hi, hz0, hz1, hz2⟩ := info_parts Try.info52
  obtain ⟨c0, c1, c2, c3⟩ := four_cells hq
  exact wp_append_own (P := Try.prog) w s x 24 ho base 52 i0 (.agg #[.int .i64 0, .int .i64 0, .slice none 0 0, .int .i64 0]) 4 48 Try.underlying24 hi hz0 hz1 hz2 rfl (by decide) v n F hs hown ⟨q, 0, none⟩ 1 1 [x0, x1, x2, x3] hx rfl (fun j u hj => by
    rw [Addr.add_lit]
    match j, hj with
    | 0, hj => simp at hj; rw [← hj]; exact c0
    | 1, hj => simp at hj; rw [← hj]; exact c1
    | 2, hj => simp at hj; rw [← hj]; exact c2
    | 3, hj => simp at hj; rw [← hj]; exact c3) h1 (by unfold maxLen; omega) (by omega) hbase (fun v' w' ha hb _ => by
    have ha' := ha
    rcases ha.2 with ⟨_, h0⟩ | ⟨g, cap, cur, rfl, hbg, _⟩
    · omega
    · exact h g cap w' ha' hbg hb)
end Go.Proofs.Ytcmfplfnpjknlaa
