/- A range over a function that stands in no round: where the iterator begins. -/
import Derived.Test.YtmcndecmnfbggaaD19
namespace Go.Proofs.Ytmcndecmnfbggaa
set_option linter.unusedSimpArgs false
open Go.RowKit Go.Shelf
attribute [local go_sem] Oper.semAt_some

def mark (D : Nat) : Deferred := { target := .collected D, args := #[] }
def recL (fn : FuncId) (tmps : Array Value) (ps : Array Tmp) (assign body : Code) (D : Nat) (st : LoopState) : Loop := { state := st, pending := none, fn, tmps, params := ps, assign, body, defers := D }
theorem range_begin {g : Operand} {ps : Array Tmp} {assign body : Code} {Q : Exit → Act → World → Prop} {tmps : Array Value} {df : List Deferred} {w : World} {gf : Nat} {lb : Array Value} (hg : (Act.mk tmps df).eval g = .func (.func gf) #[] lb)
    (eg : ∀ args w, (callFunc gf args).run Try.prog w = .ok (.enter gf args) w)
    (h : ∀ fn D W3 rec, rec = recL fn tmps ps assign body D → D = w.heap.size → Below w.heap.size w W3 → W3.heap.size = D + 1 + 1 → W3.heap[D + 1]? = some (.loop (rec .ready)) → W3.heap[D]? = some (.deferred (some [])) → CallsIn Fence.wide 8 Try.prog gf (#[.func (.yield (D + 1)) #[] #[]] ++ lb) W3 (rangePost Fence.wide 9 Try.prog (D + 1) Q ⟨tmps, mark D :: df⟩)) :
    (Code.rangeFunc g ps assign body).wpIn Fence.wide 9 Try.prog Q ⟨tmps, df⟩ w := by
  refine wpIn_rangeFunc ?_
  intro fn hfn
  obtain ⟨W1, hW1⟩ : ∃ W1, W1 = (w.alloc (.deferred (some []))).alloc (.loop (recL fn tmps ps assign body w.heap.size .ready)) := ⟨_, rfl⟩
  have hh := h fn w.heap.size W1 _ rfl rfl (by rw [hW1]; exact ((Below.refl _ _).alloc (Nat.le_refl _) _).alloc (by simp) _) (by rw [hW1]; simp)
    (by rw [hW1]; have := World.alloc_heap_new (w.alloc (.deferred (some []))) (.loop (recL fn tmps ps assign body w.heap.size .ready)); rwa [World.size_alloc] at this)
    (by rw [hW1]; exact (Below.heap_alloc _ _ _ (by simp)).trans (World.alloc_heap_new w _))
  refine ⟨w.heap.size + 1, [mark w.heap.size], W1, { target := .fn (.func gf) lb, args := #[.func (.yield (w.heap.size + 1)) #[] #[]] }, W1, gf, #[.func (.yield (w.heap.size + 1)) #[] #[]] ++ lb, W1, ?_, ?_, ?_, ?_, fun _ => by decide, ?_⟩
  · rw [hW1]; exact run_enterLoop_outer _ _ _ _ _
  · simp only [resolve, hg]
    simp [go_sem]
  · intro f' hf'; trivial
  · simp [invoke, go_sem, eg]
  · exact hh
/-- one round: the assignment, the body, the record ready again -/
theorem round_of {fn : FuncId} {tmps : Array Value} {p : Tmp} {v : Value} {assign body : Code} {D l : Nat} {W : World} {R : Ending → World → Prop} (hl : W.heap[l]? = some (.loop (recL fn tmps #[p] assign body D .ready)))
    (h : assign.wpIn (Fence.wide.inRound l) 8 Try.prog (Exit.then (fun a₁ w₁ => ∃ w₂, (Instr.beginRound l).run Try.prog w₁ = .ok () w₂ ∧ body.wpIn (Fence.wide.inRound l) 8 Try.prog (roundPost Try.prog l R) a₁ w₂) (fun _ _ _ => False))
      { tmps := tmps.setIfInBounds p v, defers := [] } W) : YieldAt Fence.wide 8 Try.prog l #[v] W R :=
  ⟨fn, tmps.setIfInBounds p v, assign, body, by simpa [recL] using run_yield (P := Try.prog) (args := #[v]) hl rfl, roundIn_of_wpIn trivial h⟩
/-- a round of an outer loop, called in a round of an inner one -/
theorem round_in {l l' m : Nat} {fn : FuncId} {tmps : Array Value} {assign body : Code} {W : World} {R : Ending → World → Prop} (h : RoundIn Fence.wide 8 Try.prog l fn tmps assign body W R) : RoundIn (Fence.wide.inRound l') m Try.prog l fn tmps assign body W R :=
  ⟨trivial, fun c cs _ => h.2 c cs (fun d hd => by cases hd)⟩
theorem begin_of {rec : LoopState → Loop} {fn : FuncId} {tmps : Array Value} {ps : Array Tmp} {assign body : Code} {D l : Nat} {X : World} (hrec : rec = recL fn tmps ps assign body D) (hl : X.heap[l]? = some (.loop (rec .ready))) : (Instr.beginRound l).run Try.prog X = .ok () (X.putObj l (.loop (rec .busy))) := by
  rw [hrec] at hl ⊢; exact run_beginRound hl rfl
theorem end_of {rec : LoopState → Loop} {fn : FuncId} {tmps : Array Value} {ps : Array Tmp} {assign body : Code} {D l : Nat} {X : World} (hrec : rec = recL fn tmps ps assign body D) (hl : X.heap[l]? = some (.loop (rec .busy))) : (Instr.endRound l none).run Try.prog X = .ok (.bool true) (X.putObj l (.loop (rec .ready))) := by
  rw [hrec] at hl ⊢; exact run_endRound none hl
theorem endLoop_of {rec : LoopState → Loop} {fn : FuncId} {tmps : Array Value} {ps : Array Tmp} {assign body : Code} {D l : Nat} {X : World} (hrec : rec = recL fn tmps ps assign body D) (hl : X.heap[l]? = some (.loop (rec .ready))) : (Instr.endLoop l).run Try.prog X = .ok none (X.putObj l (.loop (rec .exhausted))) := by
  rw [hrec] at hl ⊢; exact run_endLoop hl (by simp [recL])
theorem Keep.put {n0 B l : Nat} {W0 A : World} (h : Keep n0 B W0 A) (h1 : W0.heap.size ≤ l) (hW : n0 ≤ W0.heap.size) (hn : n0 ≤ l) (o : Obj) : Keep n0 B W0 (A.putObj l o) := by
  have hg := grownBy_putObj' A l o
  refine ⟨h.1.grown hg (Nat.le_trans hW h.2.1) (fun q e => by cases e; exact hn), Nat.le_trans h.2.1 hg.size, fun k ob hk hc hn' => ?_⟩
  have h5 := (Array.getElem?_eq_some_iff.1 hk).1
  exact (hg.block k (Array.getElem?_eq_some_iff.1 (h.2.2 k ob hk hc hn')).1 (fun e => by cases e; omega)).trans (h.2.2 k ob hk hc hn')
theorem Keep.turn {n0 B l : Nat} {A : World} {ob : Obj} (hl : A.heap[l]? = some ob) (hc : ob.isCells = false) (hB : l < B) (hn : n0 ≤ l) (hn0 : n0 ≤ A.heap.size) (o : Obj) : Keep n0 B A (A.putObj l o) := by
  have hg := grownBy_putObj' A l o
  refine ⟨(Below.refl n0 A).grown hg hn0 (fun q e => by cases e; exact hn), hg.size, fun k ob' hk hc' hn' => ?_⟩
  refine (hg.block k (Array.getElem?_eq_some_iff.1 hk).1 (fun e => ?_)).trans hk
  cases e
  rw [hl] at hk
  cases hk
  have := hn' hc
  omega
end Go.Proofs.Ytmcndecmnfbggaa
