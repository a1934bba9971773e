/- Sound: a range over a function whose iterator ranges over another one: every round goes through. -/
import Derived.Test.YtdbjifpnbghbaaaA5
namespace Go.Proofs.Ytdbjifpnbghbaaa
set_option linter.unusedSimpArgs false
set_option linter.unusedVariables false
open Go.RowKit Go.Shelf
attribute [local go_sem] Oper.semAt_some

/-- an iterator that may lay loops of its own: what the caller holds abides the turn of blocks that are no cells and were laid since the call -/
def SeqAll {α : Type} (gf : Nat) (lb : Array Value) (encs : α → Array Value) (E : Nat → Prop) (S : List α → Prop) (N : Nat) (w : World) : Prop :=
  ∀ (q : Nat) (J : List α → World → Prop) (W : World), Below w.heap.size w W → OwnFrom W.heap.size J →
    (∀ pre x W1, J pre W1 → pre.length < N → YieldAt Fence.wide 7 Try.prog q (encs x) W1 fun e W' => e = .returned (.bool true) ∧ J (pre ++ [x]) W' ∧ KeepE E W1 W' ∧ KeepsFrom W.heap.size W1 W') → J [] W →
    CallsIn Fence.wide 8 Try.prog gf (#[.func (.yield q) #[] #[]] ++ lb) W fun e W' => (∃ v, e = .returned v) ∧ ∃ xs, S xs ∧ J xs W'
theorem keeps_weak {B B' : Nat} {X Y : World} (h : KeepsFrom B X Y) (hB : B ≤ B') : KeepsFrom B' X Y := ⟨h.size, fun k o hk ho hc => h.same k o (by omega) ho hc⟩
theorem keeps_put {B l : Nat} (X : World) (o : Obj) (h : l < B) : KeepsFrom B X (X.putObj l o) :=
  ⟨(grownBy_putObj' X l o).size, fun k o' hk ho hc => ((grownBy_putObj' X l o).block k (Array.getElem?_eq_some_iff.1 ho).1 (fun e => by cases e; omega)).trans ho⟩
def markD (D : Nat) : Deferred := { target := .collected D, args := #[] }
def recD (fn : FuncId) (tmps : Array Value) (ps : Array Tmp) (assign body : Code) (D : Nat) (st : LoopState) : Loop := { state := st, pending := none, fn, tmps, params := ps, assign, body, defers := D }
/-- a round of an outer loop, called in a round of an inner one -/
theorem round_in {l l' m k : Nat} {fn : FuncId} {tmps : Array Value} {assign body : Code} {W : World} {R : Ending → World → Prop} (h : RoundIn Fence.wide k Try.prog l fn tmps assign body W R) : RoundIn (Fence.wide.inRound l') m Try.prog l fn tmps assign body W R :=
  ⟨trivial, fun c cs _ => h.2 c cs (fun d hd => by cases hd)⟩
theorem wpIn_range_all {α : Type} {g : Operand} {ps : Array Tmp} {assign body : Code} {Q : Exit → Act → World → Prop} {tmps : Array Value} {df : List Deferred} {w : World} {gf : Nat} {lb : Array Value} (hg : (Act.mk tmps df).eval g = .func (.func gf) #[] lb)
    (eg : ∀ args w, (callFunc gf args).run Try.prog w = .ok (.enter gf args) w) {encs : α → Array Value} {E : Nat → Prop} {S : List α → Prop} {N : Nat} (hseq : SeqAll gf lb encs E S N w) (hps : ∀ x, (encs x).size = ps.size)
    (I : List α → World → Prop) (hI : OwnFrom w.heap.size I) (h0 : I [] w) (Ax : α → Act → World → Prop) (hAx : ∀ x a', OwnFrom w.heap.size (fun (_ : Unit) W => Ax x a' W))
    (hassign : ∀ (l : Nat) (pre : List α) (x : α) (W : World) (K : Act → World → Prop), I pre W → (∀ a' W', KeepsFrom w.heap.size W W' → KeepE E W W' → I pre W' → Ax x a' W' → K a' W') →
      assign.wpIn (Fence.wide.inRound l) 7 Try.prog (Exit.then K (fun _ _ _ => False)) { tmps := (ps.zip (encs x)).foldl (fun t (p, v) => t.setIfInBounds p v) tmps, defers := [] } W)
    (hbody : ∀ (l : Nat) (pre : List α) (x : α) (a' : Act) (W : World), w.heap.size ≤ l → I pre W → Ax x a' W → pre.length < N → body.wpIn (Fence.wide.inRound l) 7 Try.prog (fun e _ W3 => e = .normal ∧ KeepsFrom w.heap.size W W3 ∧ KeepE E W W3 ∧ I (pre ++ [x]) W3) a' W)
    (hdone : ∀ (D : Nat) (xs : List α) (W : World), w.heap.size ≤ D → S xs → I xs W → W.heap[D]? = some (.deferred (some [])) → Q .normal ⟨tmps, markD D :: df⟩ W) :
    (Code.rangeFunc g ps assign body).wpIn Fence.wide 9 Try.prog Q ⟨tmps, df⟩ w := by
  refine wpIn_rangeFunc ?_
  intro fn hfn
  obtain ⟨D, hD⟩ : ∃ D, w.heap.size = D := ⟨_, rfl⟩
  obtain ⟨rec, hrec⟩ : ∃ rec : LoopState → Loop, rec = recD fn tmps ps assign body D := ⟨_, rfl⟩
  obtain ⟨W1, hW1⟩ : ∃ W1, W1 = (w.alloc (.deferred (some []))).alloc (.loop (rec .ready)) := ⟨_, rfl⟩
  have hbW : Below w.heap.size w W1 := by rw [hW1]; exact ((Below.refl _ _).alloc (Nat.le_refl _) _).alloc (by simp) _
  have hsz : W1.heap.size = D + 1 + 1 := by rw [hW1]; simp [hD]
  have hl1 : W1.heap[D + 1]? = some (.loop (rec .ready)) := by
    rw [hW1, ← hD]; have := World.alloc_heap_new (w.alloc (.deferred (some []))) (.loop (rec .ready)); rwa [World.size_alloc] at this
  have hd1 : W1.heap[D]? = some (.deferred (some [])) := by rw [hW1, ← hD]; exact (Below.heap_alloc _ _ _ (by simp)).trans (World.alloc_heap_new w _)
  have hI1 : I [] W1 := by rw [hW1]; exact hI.alloc _ (hI.alloc _ h0)
  rw [hD] at hI hAx hassign hbody hdone
  refine ⟨D + 1, [markD D], W1, { target := .fn (.func gf) lb, args := #[.func (.yield (D + 1)) #[] #[]] }, W1, gf, #[.func (.yield (D + 1)) #[] #[]] ++ lb, W1, ?_, ?_, ?_, ?_, fun _ => by decide, ?_⟩
  · rw [hW1, hrec, ← hD]; exact run_enterLoop_outer _ _ _ _ _
  · simp only [resolve, hg]
    simp [go_sem]
  · intro f' hf'; trivial
  · simp [invoke, go_sem, eg]
  · refine (hseq (D + 1) (fun pre W => I pre W ∧ W.heap[D + 1]? = some (.loop (rec .ready)) ∧ W.heap[D]? = some (.deferred (some []))) W1 hbW ?_ ?_ ⟨hI1, hl1, hd1⟩).mono ?_
    · rintro s A B row ⟨hs1, hs2, hs3⟩ hg' hr
      refine ⟨hI s A B row hs1 hg' (fun r e => by obtain ⟨x, y⟩ := hr r e; exact ⟨by omega, y⟩), ?_, ?_⟩
      · exact (hg'.block _ (Array.getElem?_eq_some_iff.1 hs2).1 (fun e => by have := (hr _ e.symm).1; omega)).trans hs2
      · exact (hg'.block _ (Array.getElem?_eq_some_iff.1 hs3).1 (fun e => by have := (hr _ e.symm).1; omega)).trans hs3
    · rintro pre x W ⟨hi, hl, hk⟩ hlen
      have hy := run_yield (P := Try.prog) (args := encs x) hl (by rw [hrec]; exact hps x)
      rw [hrec] at hy
      refine ⟨fn, _, assign, body, hy, roundIn_of_wpIn trivial (hassign _ pre x W _ hi ?_)⟩
      clear hy
      intro a' Wa hkf hke hia hax
      have hla := hkf.same _ _ (by omega) hl rfl
      have hka := hkf.same _ _ (Nat.le_refl _) hk rfl
      have hlt : D + 1 < Wa.heap.size := (Array.getElem?_eq_some_iff.1 hla).1
      have hbr : (Instr.beginRound (D + 1)).run Try.prog Wa = .ok () (Wa.putObj (D + 1) (.loop (rec .busy))) := by
        have hla' := hla
        rw [hrec] at hla' ⊢
        exact run_beginRound hla' rfl
      refine ⟨_, hbr, ?_⟩
      have hl2 : (Wa.putObj (D + 1) (.loop (rec .busy))).heap[D + 1]? = some (.loop (rec .busy)) := World.putObj_heap_same hlt
      have hk2 : (Wa.putObj (D + 1) (.loop (rec .busy))).heap[D]? = some (.deferred (some [])) := (World.putObj_heap_other (by omega)).trans hka
      have hw2 : KeepE E Wa (Wa.putObj (D + 1) (.loop (rec .busy))) := .of_grown (grownBy_putObj' _ _ _) (fun r e => by cases e; exact .inr (fun o ho => by rw [hla] at ho; cases ho; rfl))
      refine wpIn_mono (hbody (D + 1) pre x a' _ (by omega) (hI.putObj _ hia (by omega) hla rfl) ((hAx x a').putObj (s := ()) _ hax (by omega) hla rfl) hlen) ?_
      rintro e a3 W3 ⟨rfl, hk3, hke3, hi3⟩
      have hl3 := hk3.same _ _ (by omega) hl2 rfl
      have hk4 := hk3.same _ _ (Nat.le_refl _) hk2 rfl
      have hlt3 : D + 1 < W3.heap.size := (Array.getElem?_eq_some_iff.1 hl3).1
      have her : (Instr.endRound (D + 1) none).run Try.prog W3 = .ok (.bool true) (W3.putObj (D + 1) (.loop (rec .ready))) := by
        have hl3' := hl3
        rw [hrec] at hl3' ⊢
        exact run_endRound none hl3'
      refine ⟨_, _, her, rfl, ⟨hI.putObj _ hi3 (by omega) hl3 rfl, World.putObj_heap_same hlt3, (World.putObj_heap_other (by omega)).trans hk4⟩, ?_⟩
      refine ⟨?_, by rw [hsz]; exact (keeps_weak hkf (by omega)).trans ((keeps_put _ _ (by omega)).trans ((keeps_weak hk3 (by omega)).trans (keeps_put _ _ (by omega))))⟩
      exact hke.trans (hw2.trans (hke3.trans (.of_grown (grownBy_putObj' _ _ _) (fun r e => by cases e; exact .inr (fun o ho => by rw [hl3] at ho; cases ho; rfl)))))
    · rintro e W2 ⟨⟨v, rfl⟩, xs, hS, hi, hl, hk⟩
      have hel : (Instr.endLoop (D + 1)).run Try.prog W2 = .ok none (W2.putObj (D + 1) (.loop (rec .exhausted))) := by
        have hl' := hl
        rw [hrec] at hl' ⊢
        exact run_endLoop hl' (by simp [recD])
      exact ⟨none, _, hel, hdone D xs _ (Nat.le_refl _) hS (hI.putObj _ hi (by omega) hl rfl) ((World.putObj_heap_other (by omega)).trans hk)⟩
end Go.Proofs.Ytdbjifpnbghbaaa
