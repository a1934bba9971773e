/- Size: laws of memory that every text here uses. -/
import Derived.Test.YtdbjifpnbghbaaaA1
import Derived.Test.YtdbjifpnbghbaaaG3
import Derived.Test.YtdbjifpnbghbaaaG1
import Derived.RangeFuncNested
import Derived.RangeFuncBound
import Derived.RangeFuncCalls
import Derived.RangeFuncLeaves
import Derived.RangeFuncFrom
import Derived.RangeFuncBox
import Derived.Shelf.Abstract
import Derived.Shelf.RegionOpen
import Derived.OwnWalkIn
import Derived.TacticsInMore
import Derived.LoopNIn
import Derived.LoopIn
import Derived.OrdersIn
import Derived.OrdersHeld
import Derived.Maps.OwnSet
import Derived.Maps.RangeWalk
import Derived.Maps.OwnIn
namespace Go.Proofs.Ytdbjifpnbghbaaa
set_option linter.unusedSimpArgs false
set_option linter.unusedVariables false
open Go.RowKit Go.Shelf Go.Maps
attribute [local go_sem] Oper.semAt_some

/-- blocks made one after the other -/
def al (w : World) (os : List Obj) : World := os.foldl World.alloc w
theorem al_size (w : World) (os : List Obj) : (al w os).heap.size = w.heap.size + os.length := by
  unfold al
  induction os generalizing w with
  | nil => rfl
  | cons o os ih => rw [List.foldl_cons, ih]; simp; omega
theorem al_below (w : World) (os : List Obj) {n : Nat} (hn : n ≤ w.heap.size) : Below n w (al w os) := by
  unfold al
  induction os generalizing w with
  | nil => exact Below.refl _ _
  | cons o os ih => rw [List.foldl_cons]; exact ((Below.refl _ _).alloc hn o).trans (ih (w.alloc o) (by simp; omega))
theorem al_get (w : World) : ∀ (os : List Obj) (i : Nat) (o : Obj), os[i]? = some o → (al w os).heap[w.heap.size + i]? = some o
  | [], i, o, h => by simp at h
  | p :: os, 0, o, h => by
    simp at h; subst h
    show (al (w.alloc p) os).heap[w.heap.size]? = some p
    exact ((al_below (w.alloc p) os (Nat.le_refl _)).block w.heap.size (by simp)).trans (alloc_heap w p)
  | p :: os, i + 1, o, h => by
    have := al_get (w.alloc p) os i o (by simpa using h)
    rw [show (w.alloc p).heap.size + i = w.heap.size + (i + 1) by simp; omega] at this
    exact this
theorem set_other (W : World) (q o a : Nat) (v : Value) (h : a ≠ q) : (W.setCell ⟨q, o, none⟩ v).heap[a]? = W.heap[a]? := Below.heap_setCell _ _ _ _ (by simpa using h)
theorem info_parts {e : TypeId} {z : Value} {size bytes : Nat} (h : (Try.prog.info? e).map (fun i => (i.zero, i.size, i.bytes)) = some (some z, size, bytes)) : ∃ i, Try.prog.info? e = some i ∧ i.zero = some z ∧ i.size = size ∧ i.bytes = bytes := by
  rw [Option.map_eq_some_iff] at h
  obtain ⟨i, hi, he⟩ := h
  simp only [Prod.mk.injEq] at he
  exact ⟨i, hi, he.1, he.2.1, he.2.2⟩
theorem row_below {base e size n : Nat} {w w' : World} {v : Value} {xs : List Value} (h : w.ownsRow base e size v n xs) (hb : Below w.heap.size w w') : w'.ownsRow base e size v n xs := by
  refine ⟨h.1, ?_⟩
  rcases h.2 with h | ⟨g, cap, cur, e1, h1, h2, h3⟩
  · exact .inl h
  · exact .inr ⟨g, cap, cur, e1, h1, (hb.block g (Array.getElem?_eq_some_iff.1 h2).1).trans h2, h3⟩
def flatK {α : Type} (k : Nat) (f : α → Nat → Int) (L : List α) : List Value := L.flatMap (fun x => (List.range k).map (fun j => Value.int .i64 (f x j)))
theorem flat_len {α : Type} (k : Nat) (f : α → Nat → Int) (L : List α) : (flatK k f L).length = L.length * k := by
  unfold flatK
  induction L with
  | nil => simp
  | cons x l ih => rw [List.flatMap_cons, List.length_append, ih]; simp [Nat.add_mul]; omega
theorem flat_snoc {α : Type} (k : Nat) (f : α → Nat → Int) (L : List α) (x : α) : flatK k f (L ++ [x]) = flatK k f L ++ (List.range k).map (fun j => Value.int .i64 (f x j)) := by
  unfold flatK; simp
theorem flat_get {α : Type} [Inhabited α] {k : Nat} {f : α → Nat → Int} : ∀ {L : List α} {i j : Nat}, i < L.length → j < k → (flatK k f L)[i * k + j]? = some (.int .i64 (f (L.getD i default) j))
  | [], i, j, hi, _ => by simp at hi
  | x :: l, 0, j, _, hj => by
    unfold flatK
    rw [List.flatMap_cons, Nat.zero_mul, Nat.zero_add, List.getElem?_append_left (by simpa using hj)]
    simp [hj]
  | x :: l, i + 1, j, hi, hj => by
    have ih := flat_get (f := f) (L := l) (i := i) (j := j) (by simpa using hi) hj
    unfold flatK at *
    rw [List.flatMap_cons, List.getElem?_append_right (by simp [Nat.add_mul]; omega)]
    rw [show (i + 1) * k + j - ((List.range k).map (fun j => Value.int .i64 (f x j))).length = i * k + j by simp [Nat.add_mul]; omega, ih]
    rfl
theorem flat_one {α : Type} {k : Nat} {f : α → Nat → Int} {L : List α} : ∀ u ∈ flatK k f L, u.oneCell' = true := by
  intro u hu
  unfold flatK at hu
  rw [List.mem_flatMap] at hu
  obtain ⟨x, _, hx⟩ := hu
  rw [List.mem_map] at hx
  obtain ⟨j, _, rfl⟩ := hx
  rfl
theorem tab_of_own {α : Type} [Inhabited α] {k : Nat} {f : α → Nat → Int} {w : World} {base : Nat} {e : TypeId} {v : Value} {n : Nat} {L : List α} (h : w.ownsRow base e k v n (flatK k f L)) (hn : n = L.length) (hl : L.length ≤ maxLen) : TabAt k f w v L := by
  subst hn
  refine ⟨hl, ?_⟩
  have h' := h
  rcases h.2 with ⟨rfl, h0⟩ | ⟨g, cap, cur, rfl, hb, hg, hc, hm, hs, ht⟩
  · exact .inl ⟨List.length_eq_zero_iff.1 h0, none, 0, rfl⟩
  · refine .inr ⟨g, 0, cap, rfl, hc, hm, (Array.getElem?_eq_some_iff.1 hg).1, fun i hi j hj => ?_⟩
    have hce : ∀ j u, (flatK k f L)[j]? = some u → w.cell? ((⟨g, 0, none⟩ : Addr).add j) = some u := h'.cells (g := g) rfl
    have := hce _ _ (flat_get (f := f) hi hj)
    rwa [Addr.add_lit, ← Nat.add_assoc] at this
/-- what a round keeps: all cells but those of some blocks -/
structure KeepE (E : Nat → Prop) (W W' : World) : Prop where
  size : W.heap.size ≤ W'.heap.size
  same : ∀ k o, ¬ E k → W.heap[k]? = some o → o.isCells = true → W'.heap[k]? = some o
theorem KeepE.refl (E : Nat → Prop) (W : World) : KeepE E W W := ⟨Nat.le_refl _, fun _ _ _ h _ => h⟩
theorem KeepE.trans {E : Nat → Prop} {X Y Z : World} (h : KeepE E X Y) (k : KeepE E Y Z) : KeepE E X Z := ⟨Nat.le_trans h.size k.size, fun i o hi ho hc => k.same i o hi (h.same i o hi ho hc) hc⟩
theorem KeepE.of_grown {E : Nat → Prop} {X Y : World} {row : Option Nat} (hg : X.grownBy Y row) (hr : ∀ r, row = some r → E r ∨ ∀ o, X.heap[r]? = some o → o.isCells = false) : KeepE E X Y :=
  ⟨hg.size, fun k o hk ho hc => (hg.block k (Array.getElem?_eq_some_iff.1 ho).1 (fun e => by
    rcases hr k e.symm with h | h
    · exact hk h
    · rw [h o ho] at hc; cases hc)).trans ho⟩
theorem KeepE.of_below {E : Nat → Prop} {X Y : World} (h : Below X.heap.size X Y) : KeepE E X Y := ⟨h.size, fun k o _ ho _ => (h.block k (Array.getElem?_eq_some_iff.1 ho).1).trans ho⟩
theorem KeepE.alloc {E : Nat → Prop} {X Y : World} (h : KeepE E X Y) (o : Obj) : KeepE E X (Y.alloc o) := h.trans (.of_grown (World.grownBy_alloc Y o none) (fun _ e => by cases e))
theorem KeepE.drew {E : Nat → Prop} {X Y : World} (h : KeepE E X Y) : KeepE E X Y.drew := ⟨h.size, h.same⟩
theorem KeepE.block {E : Nat → Prop} {X Y : World} (h : KeepE E X Y) {b : Nat} {cs : Array Value} {t : TypeId} {f : Nat × Nat} (hb : X.heap[b]? = some (.cells cs t f)) (h1 : ¬ E b) : Y.heap[b]? = some (.cells cs t f) := h.same b _ h1 hb rfl
theorem KeepE.cell {E : Nat → Prop} {X Y : World} (h : KeepE E X Y) {b o : Nat} {v : Value} (hv : X.cell? ⟨b, o, none⟩ = some v) (h1 : ¬ E b) : Y.cell? ⟨b, o, none⟩ = some v := by
  unfold World.cell? at hv ⊢
  cases hX : X.heap[b]? with
  | none => simp [hX] at hv
  | some ob =>
    cases ob <;> simp [hX] at hv
    rw [h.same b _ h1 hX rfl]; simpa using hv
theorem grown_of_below {X Y : World} (hb : Below X.heap.size X Y) : X.grownBy Y none := ⟨hb.os, hb.tape, hb.output, hb.size, fun k hk _ => hb.block k hk⟩
theorem abides_below {β : Type} {B : Nat} {J : β → World → Prop} (hJ : AbidesFrom B J) {s : β} {W W' : World} (h : J s W) (hb : Below W.heap.size W W') : J s W' := hJ s W W' none h (grown_of_below hb) (fun _ e => by cases e)
def clN (n x : Nat) : Nat := min x (n - 1)
theorem clN_same {n x : Nat} (h : x < n) : clN n x = x := by unfold clN; omega
theorem clN_lt {n : Nat} (x : Nat) (h : 0 < n) : clN n x < n := by unfold clN; omega
def encP (n x : Nat) : Array Value := #[.int .i64 (clN n x : Nat)]
theorem setCell_grown (X : World) (a : Addr) (v : Value) : X.grownBy (X.setCell a v) (some a.block) :=
  ⟨rfl, rfl, rfl, by simp [World.setCell], fun k hk hne => Below.heap_setCell X a v k (fun e => hne (by rw [e]))⟩
/-- all but some blocks are as they were -/
structure OnlyE (E : Nat → Prop) (X Y : World) : Prop where
  os : Y.os = X.os
  tape : Y.tape = X.tape
  output : Y.output = X.output
  size : X.heap.size ≤ Y.heap.size
  block : ∀ k, k < X.heap.size → ¬ E k → Y.heap[k]? = X.heap[k]?
theorem OnlyE.refl (E : Nat → Prop) (X : World) : OnlyE E X X := ⟨rfl, rfl, rfl, Nat.le_refl _, fun _ _ _ => rfl⟩
theorem OnlyE.trans {E : Nat → Prop} {X Y Z : World} (h : OnlyE E X Y) (k : OnlyE E Y Z) : OnlyE E X Z :=
  ⟨k.os.trans h.os, k.tape.trans h.tape, k.output.trans h.output, Nat.le_trans h.size k.size, fun i hi he => (k.block i (Nat.lt_of_lt_of_le hi h.size) he).trans (h.block i hi he)⟩
theorem OnlyE.of_grown {E : Nat → Prop} {X Y : World} {row : Option Nat} (hg : X.grownBy Y row) (hr : ∀ r, row = some r → E r) : OnlyE E X Y :=
  ⟨hg.os, hg.tape, hg.output, hg.size, fun k hk he => hg.block k hk (fun e => he (hr k e.symm))⟩
theorem OnlyE.of_below {E : Nat → Prop} {X Y : World} (h : Below X.heap.size X Y) : OnlyE E X Y := .of_grown (grown_of_below h) (fun _ e => by cases e)
theorem OnlyE.alloc {E : Nat → Prop} {X Y : World} (h : OnlyE E X Y) (o : Obj) : OnlyE E X (Y.alloc o) := h.trans (.of_grown (World.grownBy_alloc Y o none) (fun _ e => by cases e))
theorem OnlyE.set {E : Nat → Prop} {X Y : World} (h : OnlyE E X Y) {b o : Nat} (hb : E b) (v : Value) : OnlyE E X (Y.setCell ⟨b, o, none⟩ v) := h.trans (.of_grown (setCell_grown Y ⟨b, o, none⟩ v) (fun _ e => by cases e; exact hb))
theorem OnlyE.drew {E : Nat → Prop} {X Y : World} (h : OnlyE E X Y) : OnlyE E X Y.drew := ⟨h.os, h.tape, h.output, h.size, h.block⟩
/-- what others may turn lies behind X -/
theorem OnlyE.far {E : Nat → Prop} {X Y Z : World} {row : Option Nat} (h : OnlyE E X Y) (hg : Y.grownBy Z row) (hr : ∀ r, row = some r → X.heap.size ≤ r) : OnlyE E X Z :=
  ⟨hg.os.trans h.os, hg.tape.trans h.tape, hg.output.trans h.output, Nat.le_trans h.size hg.size, fun k hk he => (hg.block k (Nat.lt_of_lt_of_le hk h.size) (fun e => by have := hr k e.symm; omega)).trans (h.block k hk he)⟩
theorem OnlyE.keep {E : Nat → Prop} {X Y : World} (h : OnlyE E X Y) : KeepE E X Y := ⟨h.size, fun k o he ho _ => (h.block k (Array.getElem?_eq_some_iff.1 ho).1 he).trans ho⟩
theorem OnlyE.from {E : Nat → Prop} {X Y : World} (h : OnlyE E X Y) {n : Nat} (hE : ∀ k, E k → k < n) : KeepsFrom n X Y := ⟨h.size, fun k o hk ho _ => (h.block k (Array.getElem?_eq_some_iff.1 ho).1 (fun e => by have := hE k e; omega)).trans ho⟩
theorem OnlyE.below {E : Nat → Prop} {X Y : World} (h : OnlyE E X Y) {n : Nat} (hn : n ≤ X.heap.size) (hE : ∀ k, E k → n ≤ k) : Below n X Y :=
  ⟨h.os, h.tape, h.output, h.size, fun k hk => h.block k (by omega) (fun e => by have := hE k e; omega)⟩
theorem OnlyE.get {E : Nat → Prop} {X Y : World} (h : OnlyE E X Y) {k : Nat} {o : Obj} (ho : X.heap[k]? = some o) (he : ¬ E k) : Y.heap[k]? = some o := (h.block k (Array.getElem?_eq_some_iff.1 ho).1 he).trans ho
/-- a block of cells lies as it lay where only others are turned -/
theorem cells_kept {X Y : World} {row : Option Nat} {B n : Nat} {cs : Array Value} {t : TypeId} (h : X.heap[B]? = some (.cells cs t (0, 0))) (hg : X.grownBy Y row) (hr : ∀ r, row = some r → n ≤ r ∧ ∃ o : Obj, X.heap[r]? = some o ∧ o.isCells = false) : Y.heap[B]? = some (.cells cs t (0, 0)) :=
  (hg.block B (Array.getElem?_eq_some_iff.1 h).1 (fun e => by obtain ⟨_, o, ho, hc⟩ := hr B e.symm; rw [h] at ho; cases ho; cases hc)).trans h
theorem grownBy_putObj' (X : World) (b : Nat) (o : Obj) : X.grownBy (X.putObj b o) (some b) :=
  ⟨rfl, rfl, rfl, by simp [World.putObj], fun k hk hne => World.putObj_heap_other (fun e => hne (by rw [e]))⟩
theorem frozen_of {w : World} {b o : Nat} {cs : Array Value} {t : TypeId} (h : w.heap[b]? = some (.cells cs t (0, 0))) : w.frozen? ⟨b, o, none⟩ = false := by
  simp [World.frozen?, h]
theorem set_one {X : World} {b : Nat} {u : Value} {t : TypeId} (h : X.heap[b]? = some (.cells #[u] t (0, 0))) (v : Value) : (X.setCell ⟨b, 0, none⟩ v).heap[b]? = some (.cells #[v] t (0, 0)) := by
  obtain ⟨hlt, hk⟩ := Array.getElem?_eq_some_iff.1 h
  show (X.heap.modify b _)[b]? = _
  rw [Array.getElem?_eq_getElem (by rw [Array.size_modify]; exact hlt), Array.getElem_modify_self, hk]
  rfl
theorem wp_oneE {o : Oper} {a : Act} {w : World} {K : Act → World → Prop} {Q : Exit → Act → World → Prop} (s x : Operand) (t e : TypeId) (k bytes : Nat) (z : Value) (ht : Try.prog.underlying t = some (.slice e)) (hinfo : (Try.prog.info? e).map (fun i => (i.zero, i.size, i.bytes)) = some (some z, k, bytes))
    (hzs : z.cells.size = k) (hk : 0 < k) (hby : bytes ≤ 64) (ho : o.op = .call { callee := .builtin .append, args := #[s, x], argTypes := #[t, t] })
    (base q : Nat) {v : Value} {n : Nat} {F : List Value} (hs : a.eval s = v) (hown : w.ownsRow base e k v n F) (vals : List Value) (hvl : vals.length = k) (hx : a.eval x = .slice (some ⟨q, 0, none⟩) 1 1) (hq : w.heap[q]? = some (.cells vals.toArray e (0, 0))) (h1 : ∀ u ∈ vals, u.oneCell' = true) (hl : n ≤ 1000) (hbase : base ≤ w.heap.size)
    (h : ∀ g cp w', w'.ownsRow base e k (.slice (some ⟨g, 0, none⟩) (n + 1) cp) (n + 1) (F ++ vals) → base ≤ g → w.grownBy w' v.ownBlock → K (a.put o.dst (.slice (some ⟨g, 0, none⟩) (n + 1) cp)) w') : o.wp Try.prog a w K Q := by
  obtain ⟨i0, hi, hz0, hz1, hz2⟩ := info_parts hinfo
  have hb : (n + 1) * bytes ≤ 140737488355328 := by
    have : (n + 1) * bytes ≤ 1001 * 64 := Nat.mul_le_mul (by omega) hby
    omega
  exact wp_append_own (P := Try.prog) w s x t ho base e i0 z k bytes ht hi hz0 hz1 hz2 hzs hk v n F hs hown ⟨q, 0, none⟩ 1 1 vals hx (by rw [hvl, Nat.one_mul]) (fun j u hj => by
    rw [Addr.add_lit, Nat.zero_add]
    simp [World.cell?, hq, hj]) h1 (by unfold maxLen; omega) hb hbase (fun v' w' ha hb _ => by
    have ha' := ha
    rcases ha.2 with ⟨_, h0⟩ | ⟨g, cap, cur, rfl, hbg, _⟩
    · omega
    · exact h g cap w' ha' hbg hb)
theorem wpIn_region_last_round {ops : Array Oper} {Q : Exit → Act → World → Prop} {l n : Nat} (S : World → Prop) (m : Nat) {id : Nat} {a : Act} {w : World} (hm : Try.prog.follows .mixedOrders = true) (hd : noDefer ops = true) (hQ : ¬ LetsOut Q) (hS : S w.drew)
    (h : S w.drew → wpLast Try.prog .any ops Q S m ops.size (Array.replicate ops.size false) a w.drew) : (Code.region id ops true).wpIn (Fence.wide.inRound l) n Try.prog Q a w :=
  wpIn_region_any hm (wpAny_round (noDefer_spec hd) hQ _ _ _ _ (wpLast.any _ _ _ _ (h hS)))
theorem own_far {X Y : World} {base : Nat} {e : TypeId} {k n : Nat} {v : Value} {xs : List Value} {row : Option Nat} (h : X.ownsRow base e k v n xs) (hg : X.grownBy Y row) (hr : ∀ r, row = some r → ∃ o : Obj, X.heap[r]? = some o ∧ o.isCells = false) : Y.ownsRow base e k v n xs := by
  refine ⟨h.1, ?_⟩
  rcases h.2 with h | ⟨g, cap, cur, e1, h1, h2, h3⟩
  · exact .inl h
  · exact .inr ⟨g, cap, cur, e1, h1, (hg.block g (Array.getElem?_eq_some_iff.1 h2).1 (fun e => by obtain ⟨o, ho, hc⟩ := hr g e.symm; rw [h2] at ho; cases ho; cases hc)).trans h2, h3⟩
theorem cell_same {X Y : World} {b o : Nat} (h : Y.heap[b]? = X.heap[b]?) : Y.cell? ⟨b, o, none⟩ = X.cell? ⟨b, o, none⟩ := by unfold World.cell?; rw [h]
theorem keeps_grown {X Y : World} {row : Option Nat} {n : Nat} (hg : X.grownBy Y row) (hr : ∀ r o, row = some r → X.heap[r]? = some o → o.isCells = true) : KeepsFrom n X Y :=
  ⟨hg.size, fun k o _ ho hc => (hg.block k (Array.getElem?_eq_some_iff.1 ho).1 (fun e => by have := hr k o e.symm ho; rw [hc] at this; cases this)).trans ho⟩
theorem own_cells {X : World} {base : Nat} {e : TypeId} {k n : Nat} {v : Value} {xs : List Value} (h : X.ownsRow base e k v n xs) : ∀ r o, v.ownBlock = some r → X.heap[r]? = some o → o.isCells = true := by
  intro r o hr ho
  rcases h.2 with ⟨rfl, _⟩ | ⟨g, cap, cur, rfl, _, hg, _⟩
  · cases hr
  · have e1 : g = r := Option.some.inj hr
    subst e1; rw [hg] at ho; cases ho; rfl
theorem below_drewn {n : Nat} {w w' : World} (h : Below n w w') : ∀ q, Below n w (w'.drewN q) := fun q => ⟨h.os, h.tape, h.output, h.size, h.block⟩
theorem tab_of_block {α : Type} [Inhabited α] {k : Nat} {f : α → Nat → Int} {L : List α} {w : World} {g : Nat} {t : TypeId} (h : w.heap[g]? = some (.cells (flatK k f L).toArray t (0, 0))) (hl : L.length ≤ 1000) : TabAt k f w (.slice (some ⟨g, 0, none⟩) L.length L.length) L := by
  refine ⟨by unfold maxLen; omega, .inr ⟨g, 0, L.length, rfl, Nat.le_refl _, by unfold maxLen; omega, (Array.getElem?_eq_some_iff.1 h).1, fun i hi j hj => ?_⟩⟩
  have := flat_get (f := f) hi hj
  simp [World.cell?, h, this]
end Go.Proofs.Ytdbjifpnbghbaaa
