/- Sound: the walk of SoundEnds. -/
import Derived.Test.YtdbjifpnbghbaaaM6
namespace Go.Proofs.Ytdbjifpnbghbaaa
set_option linter.unusedSimpArgs false
set_option linter.unusedVariables false
open Go.RowKit Go.Maps Go.BigFrame Go.ChangeShapes Go.WideShapes Go.ChangeAt

theorem where_one (l : List Pi) (h : He) : whereF l [h] = if lineOk l then (if hearOk l h then (if strUp l (spanF l [h]) l.length = [] then ([], 4) else (strUp l (spanF l [h]) l.length, 0)) else ([], 2)) else ([], 1) := by
  have hw : whereF l [h] = if lineOk l then (if [h].length ≤ 8 then (if [h].all (hearOk l) then
    (if strUp l (spanF l [h]) l.length = [] then ([], 4) else (strUp l (spanF l [h]) l.length, 0)) else ([], 2)) else ([], 3)) else ([], 1) := rfl
  rw [hw, if_pos (show [h].length ≤ 8 by simp), List.all_cons, List.all_nil, Bool.and_true]
/-- two rows of ints are not one -/
def Apart (v1 v2 : Value) : Prop := ∀ g, v1.ownBlock = some g → v2.ownBlock = some g → False
theorem run_int {w : World} (base q : Nat) {v : Value} {n : Nat} {F : List Value} (hown : w.ownsRow base 3 1 v n F) (a : Int) (hq : w.heap[q]? = some (.cells #[.int .i64 a] 3 (0, 0))) (hl : n ≤ 1000) (hbase : base ≤ w.heap.size) :
    ∃ g cp w', (Builtin.append_ #[54, 54] 54 #[v, .slice (some ⟨q, 0, none⟩) 1 1]).run Try.prog w = .ok (.slice (some ⟨g, 0, none⟩) (n + 1) cp) w' ∧ w'.ownsRow base 3 1 (.slice (some ⟨g, 0, none⟩) (n + 1) cp) (n + 1) (F ++ [.int .i64 a]) ∧ w.grownBy w' v.ownBlock ∧ (v.ownBlock = some g ∨ g = w.heap.size) := by
  obtain ⟨i0, hi, hz0, hz1, hz2⟩ := info_parts Try.info3
  obtain ⟨v', w', hr, ha, hg, _, hloc⟩ := run_append_own_at (P := Try.prog) (w := w) base 54 54 3 i0 (.int .i64 0) 1 8 und54 hi hz0 hz1 hz2 rfl (by decide) v n F hown ⟨q, 0, none⟩ 1 1 [.int .i64 a] rfl (fun j u hj => by
    rw [Addr.add_lit, Nat.zero_add]
    have h0 := (List.getElem?_eq_some_iff.1 hj).1
    have hj0 : j = 0 := by simpa using h0
    subst hj0
    simp at hj
    subst hj
    simp [World.cell?, hq]) (ints_oneCell .i64 [a]) (by unfold maxLen; omega) (by omega) hbase
  have ha' := ha
  rcases ha.2 with ⟨_, h0⟩ | ⟨g, cap, cur, rfl, hbg, _⟩
  · omega
  · refine ⟨g, cap, w', hr, ha', hg, ?_⟩
    rcases hloc with h | h
    · exact .inl h.symm
    · exact .inr (Option.some.inj h)
theorem two_rows (W : World) (base : Nat) {v1 v2 : Value} {n : Nat} {F1 F2 : List Value} (h1 : W.ownsRow base 3 1 v1 n F1) (h2 : W.ownsRow base 3 1 v2 n F2) (hap : Apart v1 v2) (a b : Int) (hl : n ≤ 1000) (hbase : base ≤ W.heap.size) :
    ∃ g1 c1 Wb g2 c2 Wd, (Builtin.append_ #[54, 54] 54 #[v1, .slice (some ⟨W.heap.size, 0, none⟩) 1 1]).run Try.prog (W.alloc (.cells #[.int .i64 a] 3)) = .ok (.slice (some ⟨g1, 0, none⟩) (n + 1) c1) Wb ∧
      (Builtin.append_ #[54, 54] 54 #[v2, .slice (some ⟨Wb.heap.size, 0, none⟩) 1 1]).run Try.prog (Wb.alloc (.cells #[.int .i64 b] 3)) = .ok (.slice (some ⟨g2, 0, none⟩) (n + 1) c2) Wd ∧
      Wd.ownsRow base 3 1 (.slice (some ⟨g1, 0, none⟩) (n + 1) c1) (n + 1) (F1 ++ [.int .i64 a]) ∧ Wd.ownsRow base 3 1 (.slice (some ⟨g2, 0, none⟩) (n + 1) c2) (n + 1) (F2 ++ [.int .i64 b]) ∧
      Apart (.slice (some ⟨g1, 0, none⟩) (n + 1) c1) (.slice (some ⟨g2, 0, none⟩) (n + 1) c2) ∧ Below base W Wd := by
  obtain ⟨WA, hWA⟩ : ∃ X, X = W.alloc (.cells #[.int .i64 a] 3) := ⟨_, rfl⟩
  have hbA : Below W.heap.size W WA := by rw [hWA]; exact (Below.refl _ _).alloc (Nat.le_refl _) _
  have hqA : WA.heap[W.heap.size]? = some (.cells #[.int .i64 a] 3 (0, 0)) := by rw [hWA]; exact alloc_heap W _
  have hsA : WA.heap.size = W.heap.size + 1 := by rw [hWA]; simp
  obtain ⟨g1, c1, Wb, r1, o1, gr1, loc1⟩ := run_int base W.heap.size (row_below h1 hbA) a hqA hl (Nat.le_trans hbase hbA.size)
  have hap2 : v2.ownBlock = none ∨ v2.ownBlock ≠ v1.ownBlock := by
    cases e : v2.ownBlock with
    | none => exact .inl rfl
    | some g => exact .inr (fun e2 => hap g e2.symm e)
  have h2b := (row_below h2 hbA).kept gr1 hap2
  obtain ⟨WC, hWC⟩ : ∃ X, X = Wb.alloc (.cells #[.int .i64 b] 3) := ⟨_, rfl⟩
  have hbC : Below Wb.heap.size Wb WC := by rw [hWC]; exact (Below.refl _ _).alloc (Nat.le_refl _) _
  have hqC : WC.heap[Wb.heap.size]? = some (.cells #[.int .i64 b] 3 (0, 0)) := by rw [hWC]; exact alloc_heap Wb _
  have hsb : WA.heap.size ≤ Wb.heap.size := gr1.size
  obtain ⟨g2, c2, Wd, r2, o2, gr2, loc2⟩ := run_int base Wb.heap.size (row_below h2b hbC) b hqC hl (by have := hbA.size; have := hbC.size; omega)
  have hg1b : g1 < Wb.heap.size := (o1.lt g1 rfl).2
  have hap3 : ∀ g, v2.ownBlock = some g → g1 ≠ g := fun g e e2 => by
    subst e2
    rcases loc1 with h | h
    · exact hap g1 h e
    · have := (h2.lt g1 e).2
      omega
  have hap4 : (Value.slice (some ⟨g1, 0, none⟩) (n + 1) c1).ownBlock = none ∨ (Value.slice (some ⟨g1, 0, none⟩) (n + 1) c1).ownBlock ≠ v2.ownBlock := .inr (fun e => hap3 g1 e.symm rfl)
  refine ⟨g1, c1, Wb, g2, c2, Wd, by rw [← hWA]; exact r1, by rw [← hWC]; exact r2, (row_below o1 hbC).kept gr2 hap4, o2, ?_, ?_⟩
  · intro g e1 e2
    have e1' : g1 = g := Option.some.inj e1
    have e2' : g2 = g := Option.some.inj e2
    rcases loc2 with h | h
    · exact hap3 g2 h (by rw [e1', e2'])
    · have := hbC.size
      omega
  · have hB1 : Below base W Wb := (hbA.mono hbase).grown gr1 (Nat.le_trans hbase hbA.size) (fun t ht => (h1.lt t ht).1)
    have hbb : base ≤ Wb.heap.size := Nat.le_trans hbase hB1.size
    exact (hB1.trans (hbC.mono hbb)).grown gr2 (Nat.le_trans hbb hbC.size) (fun t ht => (h2.lt t ht).1)
end Go.Proofs.Ytdbjifpnbghbaaa
