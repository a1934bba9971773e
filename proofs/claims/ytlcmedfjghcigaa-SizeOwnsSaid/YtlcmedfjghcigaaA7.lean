/- Size: the loads of all sets, in a map. -/
import Derived.Test.YtlcmedfjghcigaaA6
namespace Go.Proofs.Ytlcmedfjghcigaa
set_option linter.unusedSimpArgs false
set_option linter.unusedVariables false
open Go.RowKit Go.Shelf Go.Maps
attribute [local go_sem] Oper.semAt_some

def anyElem (v : Value) : Option (DataW Value × List MemPlace) := some (.held v, [])
theorem key_law : Keyed Try.prog 74 := int_keyed Try.underlying74
theorem zero101 (w : World) : (zeroValue 101).run Try.prog w = .ok (.agg #[.int .i64 0, .int .i64 0, .int .i64 0]) w := by kernel_rfl
/-- block M is the map of the loads of some sets -/
def MapAt (w : World) (M : Nat) (ts : List Tp) (L : List Nat) : Prop := ∃ D : DataW Value, w.ownsMap Try.prog 74 anyElem M L.length D ∧ IsMap D ∧ ∀ s ∈ L, ∀ zd, D.atKey (.int .i64 (s : Nat)) zd = .held (ldV (loadF ts s))
theorem MapAt.below {w w' : World} {M : Nat} {ts : List Tp} {L : List Nat} (h : MapAt w M ts L) (hb : Below w.heap.size w w') : MapAt w' M ts L := by
  obtain ⟨D, h1, h2⟩ := h
  have hlt := h1.lt
  obtain ⟨es, c, e1, e2⟩ := h1
  exact ⟨D, ⟨es, c, (hb.block M hlt).trans e1, e2⟩, h2⟩
theorem MapAt.kept {w w' : World} {M : Nat} {ts : List Tp} {L : List Nat} {row : Option Nat} (h : MapAt w M ts L) (hg : w.grownBy w' row) (hne : some M ≠ row) : MapAt w' M ts L := by
  obtain ⟨D, h1, h2⟩ := h; exact ⟨D, h1.kept hg hne, h2⟩
theorem MapAt.lt {w : World} {M : Nat} {ts : List Tp} {L : List Nat} (h : MapAt w M ts L) : M < w.heap.size := by
  obtain ⟨D, h1, _⟩ := h; exact h1.lt
theorem MapAt.heap {w : World} {M : Nat} {ts : List Tp} {L : List Nat} (h : MapAt w M ts L) : ∃ es c, w.heap[M]? = some (.map es c) := by
  obtain ⟨D, ⟨es, c, e1, e2⟩, _⟩ := h; exact ⟨es, c, e1⟩
theorem mapAt_made (w : World) (ts : List Tp) : MapAt (w.alloc (.map #[] 0)) w.heap.size ts [] :=
  ⟨_, World.ownsMap_made w _ _ _, ⟨[], rfl⟩, fun s h => by cases h⟩
set_option maxRecDepth 100000 in
theorem MapAt.store {w : World} {M : Nat} {ts : List Tp} {L : List Nat} (h : MapAt w M ts L) {x : Nat} (hx : x < 1048576) (hn : L.length ≤ 1048576) :
    ∃ w', (Instr.mapUpdate 70 (.map (some M)) (.int .i64 (x : Nat)) (ldV (loadF ts x))).run Try.prog w = .ok () w' ∧ MapAt w' M ts (L ++ [x]) ∧ w.grownBy w' (some M) := by
  obtain ⟨D, ho, h3, h2⟩ := h
  obtain ⟨w', hr, ho', hg⟩ := ho.update key_law Try.underlying70 (by unfold maxLen; omega) (keyOf_int_mk Try.underlying74 (a := (x : Nat)) (WalkArith.wf_i64 (by omega))) (show anyElem (ldV (loadF ts x)) = some (.held (ldV (loadF ts x)), []) from rfl)
  refine ⟨w', hr, ⟨_, by simpa using ho', ho'.isMap, fun y hy zd => ?_⟩, hg⟩
  by_cases e : y = x
  · rw [e]; exact atKey_put_same h3 (show WideAt.IsKeyLit (.int .i64 (x : Nat)) from trivial) _ _
  · rw [atKey_put_other (fun e' => e (by simp only [Lit.int.injEq, true_and] at e'; omega))]
    rcases List.mem_append.1 hy with h | h
    · exact h2 y h zd
    · simp at h; exact absurd h e
set_option maxRecDepth 100000 in
theorem MapAt.look {w : World} {M : Nat} {ts : List Tp} {L : List Nat} (h : MapAt w M ts L) {x : Nat} (hx : x < 1048576) (hm : x ∈ L) :
    (Instr.lookup 70 (.map (some M)) (.int .i64 (x : Nat)) false).run Try.prog w = .ok (ldV (loadF ts x)) w := by
  obtain ⟨D, ho, h3, h2⟩ := h
  obtain ⟨v, ps, hrun, hv⟩ := ho.lookup key_law Try.underlying70 (zero101 w) (show anyElem _ = some (.held _, []) from rfl) (keyOf_int_mk Try.underlying74 (a := (x : Nat)) (WalkArith.wf_i64 (by omega)))
  rw [h2 x hm] at hv
  simp only [anyElem, Option.some.injEq, Prod.mk.injEq, DataW.held.injEq] at hv
  rw [hrun, hv.1]
set_option maxRecDepth 100000 in
theorem least_any (M : Nat) (ts : List Tp) (L : List Nat) (x : Nat) (hx : x < 1048576) (hm : x ∈ L) (w : World) (h : MapAt w M ts L) : Calls Try.prog 38 #[.int .i64 (x : Nat), .map (some M)] w fun e w' => e = .returned (.int .i64 (loadF ts x).f.1) ∧ w = w' := by
  have hl := h.look hx hm
  clear h hm
  obtain ⟨⟨⟨l0, l1⟩, ln⟩, hx2⟩ : ∃ y : Ld, loadF ts x = y := ⟨_, rfl⟩
  rw [hx2] at hl ⊢
  simp only [ldV] at hl
  have hf : ∀ (X : World), (Instr.field 101 (.agg #[.int .i64 l0, .int .i64 l1, .int .i64 ln]) 0).run Try.prog X = .ok (.agg #[.int .i64 l0, .int .i64 l1]) X := fun X => by kernel_rfl
  have hf2 : ∀ (X : World), (Instr.field 31 (.agg #[.int .i64 l0, .int .i64 l1]) 0).run Try.prog X = .ok (.int .i64 l0) X := fun X => by kernel_rfl
  clear hx2
  go_enter Try.func38, Try.ntmps38
  go_wp2
  go_ret
  exact ⟨rfl, rfl⟩
set_option maxRecDepth 100000 in
theorem most_any (M : Nat) (ts : List Tp) (L : List Nat) (x : Nat) (hx : x < 1048576) (hm : x ∈ L) (w : World) (h : MapAt w M ts L) : Calls Try.prog 39 #[.int .i64 (x : Nat), .map (some M)] w fun e w' => e = .returned (.int .i64 (loadF ts x).f.2) ∧ w = w' := by
  have hl := h.look hx hm
  clear h hm
  obtain ⟨⟨⟨l0, l1⟩, ln⟩, hx2⟩ : ∃ y : Ld, loadF ts x = y := ⟨_, rfl⟩
  rw [hx2] at hl ⊢
  simp only [ldV] at hl
  have hf : ∀ (X : World), (Instr.field 101 (.agg #[.int .i64 l0, .int .i64 l1, .int .i64 ln]) 0).run Try.prog X = .ok (.agg #[.int .i64 l0, .int .i64 l1]) X := fun X => by kernel_rfl
  have hf2 : ∀ (X : World), (Instr.field 31 (.agg #[.int .i64 l0, .int .i64 l1]) 1).run Try.prog X = .ok (.int .i64 l1) X := fun X => by kernel_rfl
  clear hx2
  go_enter Try.func39, Try.ntmps39
  go_wp2
  go_ret
  exact ⟨rfl, rfl⟩
set_option maxRecDepth 100000 in
theorem need_any (M : Nat) (ts : List Tp) (L : List Nat) (x : Nat) (hx : x < 1048576) (hm : x ∈ L) (w : World) (h : MapAt w M ts L) : Calls Try.prog 58 #[.int .i64 (x : Nat), .map (some M)] w fun e w' => e = .returned (.int .i64 (loadF ts x).n) ∧ w = w' := by
  have hl := h.look hx hm
  clear h hm
  obtain ⟨⟨⟨l0, l1⟩, ln⟩, hx2⟩ : ∃ y : Ld, loadF ts x = y := ⟨_, rfl⟩
  rw [hx2] at hl ⊢
  simp only [ldV] at hl
  have hf : ∀ (X : World), (Instr.field 101 (.agg #[.int .i64 l0, .int .i64 l1, .int .i64 ln]) 1).run Try.prog X = .ok (.int .i64 ln) X := fun X => by kernel_rfl
  clear hx2
  go_enter Try.func58, Try.ntmps58
  go_wp2
  go_ret
  exact ⟨rfl, rfl⟩
end Go.Proofs.Ytlcmedfjghcigaa
