/- Term: what enterProofs keeps and turns. -/
import Derived.Test.YtcmfplfnpjknlaaA13
import Derived.Test.YtcmfplfnpjknlaaG2
import Derived.Test.YtcmfplfnpjknlaaG3
namespace Go.Proofs.Ytcmfplfnpjknlaa
set_option linter.unusedSimpArgs false
set_option linter.unusedVariables false
open Go.RowKit Go.Shelf

/-- all but some blocks are as they were -/
structure OnlyE (E : Nat → Prop) (X Y : World) : Prop where
  os : Y.os = X.os
  tape : Y.tape = X.tape
  output : Y.output = X.output
  size : X.heap.size ≤ Y.heap.size
  block : ∀ k, k < X.heap.size → ¬ E k → Y.heap[k]? = X.heap[k]?
theorem OnlyE.refl (E : Nat → Prop) (X : World) : OnlyE E X X := ⟨rfl, rfl, rfl, Nat.le_refl _, fun _ _ _ => rfl⟩
theorem OnlyE.trans {E : Nat → Prop} {X Y Z : World} (h : OnlyE E X Y) (k : OnlyE E Y Z) : OnlyE E X Z :=
  ⟨k.os.trans h.os, k.tape.trans h.tape, k.output.trans h.output, Nat.le_trans h.size k.size, fun i hi he => (k.block i (Nat.lt_of_lt_of_le hi h.size) he).trans (h.block i hi he)⟩
theorem OnlyE.of_grown {E : Nat → Prop} {X Y : World} {row : Option Nat} (hg : X.grownBy Y row) (hr : ∀ r, row = some r → E r) : OnlyE E X Y :=
  ⟨hg.os, hg.tape, hg.output, hg.size, fun k hk he => hg.block k hk (fun e => he (hr k e.symm))⟩
theorem OnlyE.of_below {E : Nat → Prop} {X Y : World} (h : Below X.heap.size X Y) : OnlyE E X Y := .of_grown (grown_of_below h) (fun _ e => by cases e)
theorem OnlyE.alloc {E : Nat → Prop} {X Y : World} (h : OnlyE E X Y) (o : Obj) : OnlyE E X (Y.alloc o) := h.trans (.of_grown (World.grownBy_alloc Y o none) (fun _ e => by cases e))
theorem OnlyE.set {E : Nat → Prop} {X Y : World} (h : OnlyE E X Y) {b o : Nat} (hb : E b) (v : Value) : OnlyE E X (Y.setCell ⟨b, o, none⟩ v) := h.trans (.of_grown (setCell_grown Y ⟨b, o, none⟩ v) (fun _ e => by cases e; exact hb))
theorem OnlyE.drew {E : Nat → Prop} {X Y : World} (h : OnlyE E X Y) : OnlyE E X Y.drew := ⟨h.os, h.tape, h.output, h.size, h.block⟩
/-- what others may turn lies behind X -/
theorem OnlyE.far {E : Nat → Prop} {X Y Z : World} {row : Option Nat} (h : OnlyE E X Y) (hg : Y.grownBy Z row) (hr : ∀ r, row = some r → X.heap.size ≤ r) : OnlyE E X Z :=
  ⟨hg.os.trans h.os, hg.tape.trans h.tape, hg.output.trans h.output, Nat.le_trans h.size hg.size, fun k hk he => (hg.block k (Nat.lt_of_lt_of_le hk h.size) (fun e => by have := hr k e.symm; omega)).trans (h.block k hk he)⟩
theorem OnlyE.keep {E : Nat → Prop} {X Y : World} (h : OnlyE E X Y) : KeepE E X Y := ⟨h.size, fun k o he ho _ => (h.block k (Array.getElem?_eq_some_iff.1 ho).1 he).trans ho⟩
theorem OnlyE.from {E : Nat → Prop} {X Y : World} (h : OnlyE E X Y) {n : Nat} (hE : ∀ k, E k → k < n) : KeepsFrom n X Y := ⟨h.size, fun k o hk ho _ => (h.block k (Array.getElem?_eq_some_iff.1 ho).1 (fun e => by have := hE k e; omega)).trans ho⟩
theorem OnlyE.below {E : Nat → Prop} {X Y : World} (h : OnlyE E X Y) {n : Nat} (hn : n ≤ X.heap.size) (hE : ∀ k, E k → n ≤ k) : Below n X Y :=
  ⟨h.os, h.tape, h.output, h.size, fun k hk => h.block k (by omega) (fun e => by have := hE k e; omega)⟩
theorem OnlyE.get {E : Nat → Prop} {X Y : World} (h : OnlyE E X Y) {k : Nat} {o : Obj} (ho : X.heap[k]? = some o) (he : ¬ E k) : Y.heap[k]? = some o := (h.block k (Array.getElem?_eq_some_iff.1 ho).1 he).trans ho
/-- a block of cells lies as it lay where only others are turned -/
theorem cells_kept {X Y : World} {row : Option Nat} {B n : Nat} {cs : Array Value} {t : TypeId} (h : X.heap[B]? = some (.cells cs t (0, 0))) (hg : X.grownBy Y row) (hr : ∀ r, row = some r → n ≤ r ∧ ∃ o : Obj, X.heap[r]? = some o ∧ o.isCells = false) : Y.heap[B]? = some (.cells cs t (0, 0)) :=
  (hg.block B (Array.getElem?_eq_some_iff.1 h).1 (fun e => by obtain ⟨_, o, ho, hc⟩ := hr B e.symm; rw [h] at ho; cases ho; cases hc)).trans h
theorem grownBy_putObj' (X : World) (b : Nat) (o : Obj) : X.grownBy (X.putObj b o) (some b) :=
  ⟨rfl, rfl, rfl, by simp [World.putObj], fun k hk hne => World.putObj_heap_other (fun e => hne (by rw [e]))⟩
section
variable {B : Nat} {cv rv pv bv : Value} {R M : Nat} {w w' : World} {G : Value} {ps : List Nat} {L : List (Row × (Int × Int))} {bs : List (Int × Int)}
/-- the records are as they were where only others are turned -/
theorem RecAt.own {n : Nat} {row : Option Nat} (h : RecAt B cv rv pv bv R M w G ps L bs) (hg : w.grownBy w' row) (hr : ∀ r, row = some r → n ≤ r ∧ ∃ o : Obj, w.heap[r]? = some o ∧ o.isCells = false) (hM : M < n) : RecAt B cv rv pv bv R M w' G ps L bs := by
  refine ⟨cells_kept h.box hg hr, ?_, h.len, fun i hi => cells_kept (h.seen i hi) hg hr, h.few, h.map.kept hg (fun e => by have := (hr M e.symm).1; omega), h.hR, h.hM, h.ge, h.nd⟩
  refine ⟨h.row.1, ?_⟩
  rcases h.row.2 with h2 | ⟨g, cap, cur, e, h2, h3, h4⟩
  · exact .inl h2
  · exact .inr ⟨g, cap, cur, e, h2, cells_kept h3 hg hr, h4⟩
theorem RecAt.ptr (h : RecAt B cv rv pv bv R M w G ps L bs) {i : Nat} (hi : i < L.length) : ps.getD i 0 ∈ ps := by
  have : i < ps.length := by rw [h.len]; exact hi
  simp [List.getD, this]
/-- a row's term is turned -/
theorem rec_set {k : Nat} {t : Int × Int} (h : RecAt B cv rv pv bv R M w G ps L bs) (hk : k < L.length) (hs : SeenAt w' (ps.getD k 0) (L.getD k default).1 t) (hg : w.grownBy w' (some (ps.getD k 0))) : RecAt B cv rv pv bv R M w' G ps (L.set k ((L.getD k default).1, t)) bs := by
  have hsk := h.seen k hk
  have hne : ∀ (b : Nat) (cs : Array Value) (T : TypeId), T ≠ 78 → w.heap[b]? = some (.cells cs T (0, 0)) → w'.heap[b]? = some (.cells cs T (0, 0)) := fun b cs T hT hb =>
    (hg.block b (Array.getElem?_eq_some_iff.1 hb).1 (fun e => by
      simp only [Option.some.injEq] at e
      unfold SeenAt at hsk
      rw [← e, hb] at hsk
      simp at hsk
      exact hT hsk.2)).trans hb
  refine ⟨hne _ _ _ (by decide) h.box, ?_, by rw [List.length_set]; exact h.len, fun i hi => ?_, by rw [List.length_set]; exact h.few, ?_, h.hR, h.hM, h.ge, h.nd⟩
  · rw [List.length_set]
    exact h.row.kept hg (.inr (own_ne h.row hsk (by decide)))
  · rw [List.length_set] at hi
    by_cases e : i = k
    · subst e
      simpa [List.getD, hi] using hs
    · have hi2 : i < ps.length := by rw [h.len]; exact hi
      have hk2 : k < ps.length := by rw [h.len]; exact hk
      have hs1 := h.seen i hi
      have hpp : ps.getD k 0 ≠ ps.getD i 0 := by
        simp only [List.getD, List.getElem?_eq_getElem hk2, List.getElem?_eq_getElem hi2, Option.getD_some]
        intro e2
        exact e ((List.getElem_inj h.nd).1 e2).symm
      have h2 : (L.set k ((L.getD k default).1, t)).getD i default = L.getD i default := by
        simp [List.getD, List.getElem?_set_ne (Ne.symm e)]
      rw [h2]
      exact (hg.block _ (Array.getElem?_eq_some_iff.1 hs1).1 (fun e => hpp (by simpa using e.symm))).trans hs1
  · obtain ⟨es, c, em⟩ := h.map.heap
    refine h.map.kept hg (fun e => ?_)
    simp only [Option.some.injEq] at e
    unfold SeenAt at hsk
    rw [← e, em] at hsk
    simp at hsk
end
/-- the rows with some terms -/
def rowsT (s : Stk) (ts : List (Int × Int)) : List (Row × (Int × Int)) := s.rs.zip ts
theorem rowsT_len {s : Stk} {ts : List (Int × Int)} (h : ts.length = s.rs.length) : (rowsT s ts).length = s.rs.length := by simp [rowsT, h]
theorem rowsT_get {s : Stk} {ts : List (Int × Int)} (h : ts.length = s.rs.length) {i : Nat} (hi : i < s.rs.length) : (rowsT s ts).getD i default = (s.rs[i]!, ts[i]!) := by
  have hi2 : i < ts.length := by omega
  rw [getElem!_pos s.rs i hi, getElem!_pos ts i hi2]
  have hl : i < (s.rs.zip ts).length := by simp; omega
  unfold rowsT
  rw [List.getD, List.getElem?_eq_getElem hl]
  simp
theorem rowsT_fst {s : Stk} {ts : List (Int × Int)} (h : ts.length = s.rs.length) : (rowsT s ts).map (·.1) = s.rs := by
  unfold rowsT; rw [List.map_fst_zip (by omega)]
theorem rowsT_snd {s : Stk} {ts : List (Int × Int)} (h : ts.length = s.rs.length) : (rowsT s ts).map (·.2) = ts := by
  unfold rowsT; rw [List.map_snd_zip (by omega)]
theorem afterF_len {s : Stk} {ts : List (Int × Int)} (h : ts.length = s.rs.length) (p : Prf) : (afterF s ts p).length = s.rs.length := by simp [afterF, h]
theorem afterF_get {s : Stk} {ts : List (Int × Int)} (h : ts.length = s.rs.length) (p : Prf) {i : Nat} (hi : i < s.rs.length) : (afterF s ts p)[i]! = stepF s.cs[p.cls.toNat]! p s.rs[i]! ts[i]! := by
  have hi2 : i < ts.length := by omega
  rw [getElem!_pos _ i (by rw [afterF_len h]; exact hi), getElem!_pos s.rs i hi, getElem!_pos ts i hi2]
  simp [afterF]
/-- the first k terms are new -/
def mixT (s : Stk) (ts : List (Int × Int)) (p : Prf) (k : Nat) : List (Int × Int) := (afterF s ts p).take k ++ ts.drop k
theorem mixT_len {s : Stk} {ts : List (Int × Int)} (h : ts.length = s.rs.length) (p : Prf) {k : Nat} (hk : k ≤ s.rs.length) : (mixT s ts p k).length = s.rs.length := by
  simp [mixT, afterF_len h, h]; omega
theorem mixT_zero (s : Stk) (ts : List (Int × Int)) (p : Prf) : mixT s ts p 0 = ts := by simp [mixT]
theorem mixT_all {s : Stk} {ts : List (Int × Int)} (h : ts.length = s.rs.length) (p : Prf) : mixT s ts p s.rs.length = afterF s ts p := by
  unfold mixT
  rw [List.take_of_length_le (by rw [afterF_len h]; exact Nat.le_refl _), List.drop_eq_nil_of_le (by omega), List.append_nil]
theorem mixT_get {s : Stk} {ts : List (Int × Int)} (h : ts.length = s.rs.length) (p : Prf) {k : Nat} (hk : k < s.rs.length) : (mixT s ts p k)[k]! = ts[k]! := by
  have hk2 : k < ts.length := by omega
  rw [getElem!_pos _ k (by rw [mixT_len h p (by omega)]; exact hk), getElem!_pos ts k hk2]
  unfold mixT
  rw [List.getElem_append_right (by simp [afterF_len h]; omega)]
  simp [afterF_len h, Nat.min_eq_left (by omega : k ≤ s.rs.length)]
theorem mixT_step {s : Stk} {ts : List (Int × Int)} (h : ts.length = s.rs.length) (p : Prf) {k : Nat} (hk : k < s.rs.length) : mixT s ts p (k + 1) = (mixT s ts p k).set k (afterF s ts p)[k]! := by
  have hl : k < (afterF s ts p).length := by rw [afterF_len h]; exact hk
  unfold mixT
  rw [List.take_succ_eq_append_getElem hl, List.set_append_right _ _ (by simp; omega), List.length_take, Nat.min_eq_left (by omega), Nat.sub_self, List.append_assoc]
  congr 1
  rw [List.drop_eq_getElem_cons (by omega : k < ts.length), List.set_cons_zero, getElem!_pos _ k hl]
  rfl
theorem rowsT_set {s : Stk} {ts : List (Int × Int)} (h : ts.length = s.rs.length) {k : Nat} (hk : k < s.rs.length) (t : Int × Int) : (rowsT s ts).set k (s.rs[k]!, t) = rowsT s (ts.set k t) := by
  unfold rowsT
  apply List.ext_getElem
  · simp
  · intro i h1 h2
    simp only [List.length_set, List.length_zip] at h1
    rw [List.getElem_set]
    split
    · rename_i e; subst e
      rw [getElem!_pos s.rs k hk]
      simp
    · rename_i e
      simp [List.getElem_zip, List.getElem_set, e]
end Go.Proofs.Ytcmfplfnpjknlaa
