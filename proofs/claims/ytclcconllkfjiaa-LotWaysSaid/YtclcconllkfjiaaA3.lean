/- The iterator of samples: for every loop body that keeps what it reads. -/
import Derived.Test.YtclcconllkfjiaaA2
import Derived.Test.YtclcconllkfjiaaG1
import Derived.RangeFuncNested
import Derived.RangeFuncBound
import Derived.RangeFuncCalls
import Derived.RangeFuncLeaves
import Derived.RangeFuncFrom
import Derived.RangeFuncBox
import Derived.Shelf.Abstract
import Derived.Shelf.RegionOpen
import Derived.OwnWalkIn
import Derived.TacticsInMore
import Derived.LoopNIn
import Derived.LoopIn
import Derived.OrdersIn
import Derived.OrdersHeld
namespace Go.Proofs.Ytclcconllkfjiaa
set_option linter.unusedSimpArgs false
set_option linter.unusedVariables false
open Go.RowKit Go.Shelf
attribute [local go_sem] Oper.semAt_some

/-- what a round keeps: all cells but those of some blocks -/
structure KeepE (E : Nat → Prop) (W W' : World) : Prop where
  size : W.heap.size ≤ W'.heap.size
  same : ∀ k o, ¬ E k → W.heap[k]? = some o → o.isCells = true → W'.heap[k]? = some o
theorem KeepE.refl (E : Nat → Prop) (W : World) : KeepE E W W := ⟨Nat.le_refl _, fun _ _ _ h _ => h⟩
theorem KeepE.trans {E : Nat → Prop} {X Y Z : World} (h : KeepE E X Y) (k : KeepE E Y Z) : KeepE E X Z := ⟨Nat.le_trans h.size k.size, fun i o hi ho hc => k.same i o hi (h.same i o hi ho hc) hc⟩
theorem KeepE.of_grown {E : Nat → Prop} {X Y : World} {row : Option Nat} (hg : X.grownBy Y row) (hr : ∀ r, row = some r → E r ∨ ∀ o, X.heap[r]? = some o → o.isCells = false) : KeepE E X Y :=
  ⟨hg.size, fun k o hk ho hc => (hg.block k (Array.getElem?_eq_some_iff.1 ho).1 (fun e => by
    rcases hr k e.symm with h | h
    · exact hk h
    · rw [h o ho] at hc; cases hc)).trans ho⟩
theorem KeepE.of_below {E : Nat → Prop} {X Y : World} (h : Below X.heap.size X Y) : KeepE E X Y := ⟨h.size, fun k o _ ho _ => (h.block k (Array.getElem?_eq_some_iff.1 ho).1).trans ho⟩
theorem KeepE.alloc {E : Nat → Prop} {X Y : World} (h : KeepE E X Y) (o : Obj) : KeepE E X (Y.alloc o) := h.trans (.of_grown (World.grownBy_alloc Y o none) (fun _ e => by cases e))
theorem KeepE.drew {E : Nat → Prop} {X Y : World} (h : KeepE E X Y) : KeepE E X Y.drew := ⟨h.size, h.same⟩
theorem KeepE.block {E : Nat → Prop} {X Y : World} (h : KeepE E X Y) {b : Nat} {cs : Array Value} {t : TypeId} {f : Nat × Nat} (hb : X.heap[b]? = some (.cells cs t f)) (h1 : ¬ E b) : Y.heap[b]? = some (.cells cs t f) := h.same b _ h1 hb rfl
theorem KeepE.cell {E : Nat → Prop} {X Y : World} (h : KeepE E X Y) {b o : Nat} {v : Value} (hv : X.cell? ⟨b, o, none⟩ = some v) (h1 : ¬ E b) : Y.cell? ⟨b, o, none⟩ = some v := by
  unfold World.cell? at hv ⊢
  cases hX : X.heap[b]? with
  | none => simp [hX] at hv
  | some ob =>
    cases ob <;> simp [hX] at hv
    rw [h.same b _ h1 hX rfl]; simpa using hv
theorem grown_of_below {X Y : World} (hb : Below X.heap.size X Y) : X.grownBy Y none := ⟨hb.os, hb.tape, hb.output, hb.size, fun k hk _ => hb.block k hk⟩
theorem abides_below {β : Type} {B : Nat} {J : β → World → Prop} (hJ : AbidesFrom B J) {s : β} {W W' : World} (h : J s W) (hb : Below W.heap.size W W') : J s W' := hJ s W W' none h (grown_of_below hb) (fun _ e => by cases e)

/-- the numbers of bad ones that a sample can have, rising -/
def itemsL (b g c : Nat) : List Nat := (List.range (min c b + 1 - (c - g))).map fun i => c - g + i
theorem itemsL_len (b g c : Nat) : (itemsL b g c).length = min c b + 1 - (c - g) := by simp [itemsL]
theorem itemsL_take (b g c i : Nat) (h : i < min c b + 1 - (c - g)) : (itemsL b g c).take (i + 1) = (itemsL b g c).take i ++ [c - g + i] := by
  rw [List.take_succ_eq_append_getElem (by rw [itemsL_len]; exact h)]
  simp [itemsL]
def waysN (b g c x : Nat) : Nat := ch b x * ch g (c - x)
/-- a number that a sample can have -/
def cl (b g c x : Nat) : Nat := max (c - g) (min x (min c b))
theorem cl_in {b g c : Nat} (x : Nat) (h : c ≤ b + g) : c - g ≤ cl b g c x ∧ cl b g c x ≤ c ∧ cl b g c x ≤ b ∧ c ≤ cl b g c x + g := by unfold cl; omega
theorem cl_eq {b g c x : Nat} (h1 : c - g ≤ x) (h2 : x ≤ min c b) : cl b g c x = x := by unfold cl; omega
def encX (b g c x : Nat) : Array Value := #[mets (x : Nat) ((c : Nat) - (x : Nat) : Int), .int .i64 (waysN b g c x : Nat)]

/-- what the iterator reads -/
structure SMem (b g c Bc Bo Bt T : Nat) (W : World) : Prop where
  c : W.heap[Bc]? = some (.cells #[.int .i64 (c : Nat)] 3 (0, 0))
  o : W.heap[Bo]? = some (.cells #[.int .i64 (b : Nat), .int .i64 (g : Nat)] 61 (0, 0))
  t : W.heap[Bt]? = some (.cells #[.pointer (some ⟨T, 0, none⟩)] 57 (0, 0))
  tri : TriAt W T
theorem SMem.keep {b g c Bc Bo Bt T : Nat} {E : Nat → Prop} {W W' : World} (h : SMem b g c Bc Bo Bt T W) (k : KeepE E W W') (h1 : ¬ E Bc) (h2 : ¬ E Bo) (h3 : ¬ E Bt) (h4 : ¬ E T) : SMem b g c Bc Bo Bt T W' :=
  ⟨k.block h.c h1, k.block h.o h2, k.block h.t h3, k.block h.tri h4⟩
theorem one_cell {X : World} {b : Nat} {v : Value} {t : TypeId} (h : X.heap[b]? = some (.cells #[v] t (0, 0))) : X.cell? ⟨b, 0, none⟩ = some v := by simp [World.cell?, h]
theorem two_cells {X : World} {b : Nat} {u v : Value} {t : TypeId} (h : X.heap[b]? = some (.cells #[u, v] t (0, 0))) : X.cell? ⟨b, 0, none⟩ = some u ∧ X.cell? ⟨b, 1, none⟩ = some v := by simp [World.cell?, h]

set_option maxRecDepth 100000 in
set_option maxHeartbeats 3200000 in
theorem iter_in (n : Nat) (hn : 1 ≤ n) (l b g c Bc Bo Bt T : Nat) (E : Nat → Prop) (hc : c ≤ b + g) (hs : b + g ≤ 50) (J Jx : List Nat → World → Prop)
    (e1 : ¬ E Bc) (e2 : ¬ E Bo) (e3 : ¬ E Bt) (e4 : ¬ E T)
    (W : World) (hM : SMem b g c Bc Bo Bt T W) (hE : ∀ k, E k → k < W.heap.size) (hJ : AbidesFrom W.heap.size J)
    (hY : ∀ pre x W1, J pre W1 → pre.length < min c b + 1 - (c - g) → YieldAt Fence.wide (n - 1) Try.prog l (encX b g c (cl b g c x)) W1 fun e W' =>
      (e = .returned (.bool true) ∧ J (pre ++ [x]) W' ∧ KeepE E W1 W') ∨ (e = .returned (.bool false) ∧ Jx (pre ++ [x]) W'))
    (h0 : J [] W) :
    CallsIn Fence.wide n Try.prog 55 #[.func (.yield l) #[] #[], .pointer (some ⟨Bc, 0, none⟩), .pointer (some ⟨Bo, 0, none⟩), .pointer (some ⟨Bt, 0, none⟩)] W fun e W' => (∃ v, e = .returned v) ∧
      ((∃ ys, ys = itemsL b g c ∧ J ys W') ∨ (∃ pre, pre <+: itemsL b g c ∧ Jx pre W')) := by
  obtain ⟨lo, hlo⟩ : ∃ lo, lo = c - g := ⟨_, rfl⟩
  obtain ⟨hi, hhi⟩ : ∃ hi, hi = min c b := ⟨_, rfl⟩
  have Hlo := Lib.hid hlo
  have Hhi := Lib.hid hhi
  have hmax : (if g < c then (c : Int) - (g : Int) else 0) = (lo : Int) := by split <;> omega
  have hmin : (if b < c then (b : Int) else (c : Int)) = (hi : Int) := by rw [hhi]; split <;> omega
  clear hlo hhi
  have c0 := one_cell hM.c
  obtain ⟨o0, o1⟩ := two_cells hM.o
  refine callsIn_of_wp Try.func55 rfl trivial ?_ rfl
  simp only [Try.ntmps55, List.size_toArray, List.length_cons, List.length_nil, Nat.reduceAdd, Nat.reduceSub, Array.replicate_succ, Array.replicate_zero, List.push_toArray, List.append_toArray, List.nil_append, List.cons_append]
  gi_wp2
  have HY := Lib.hid hY
  have HM := Lib.hid hM
  have HE := Lib.hid hE
  clear hY hM hE c0 o0 o1 hmax
  gi_loopw [5] (fun i wr => ∃ k : Nat, k ≤ hi + 1 - lo ∧ i = .int .i64 ((lo + k : Nat) : Int) ∧ KeepE E W wr ∧ J ((itemsL b g c).take k) wr) (fun i _ => hi + 1 - (intOf i).toNat)
  case atStart => exact ⟨0, by omega, by simp, KeepE.refl _ _, by simpa using h0⟩
  case round =>
    obtain ⟨k, hk, rfl, hK, hJk⟩ := hrel
    have hMr := HM.out.keep hK e1 e2 e3 e4
    have c0 := one_cell hMr.c
    have t0 := one_cell hMr.t
    obtain ⟨o0, o1⟩ := two_cells hMr.o
    obtain ⟨x, hx⟩ : ∃ x, x = lo + k := ⟨_, rfl⟩
    rw [← hx]
    have hlohi : lo ≤ hi := by have := Hlo.out; have := Hhi.out; omega
    have Hx := Lib.hid hx
    clear hx
    by_cases hlt : x ≤ hi
    · have hxc : x ≤ c ∧ x ≤ b := by have := Hhi.out; omega
      have hxg : c ≤ x + g := by have := Hlo.out; have := Hx.out; omega
      gi_wp2
      refine ⟨trivial, callsIn_wide.2 ((lotWith_any _ _ _ (by omega) (by omega)).mono ?_)⟩
      rintro e w1 ⟨rfl, hb1⟩
      unfold mets
      have hJ1 := abides_below hJ hJk hb1
      have hK1 := hK.trans (KeepE.of_below (E := E) hb1)
      gi_wp2
      obtain ⟨w2, hw2⟩ : ∃ Z, Z = w1.alloc (.cells #[.int .i64 (x : Nat), .int .i64 ((c : Int) - (x : Int))] 61) := ⟨_, rfl⟩
      have hb2 : Below w1.heap.size w1 w2 := by rw [hw2]; exact (Below.refl _ _).alloc (Nat.le_refl _) _
      have g2 : w2.heap[w1.heap.size]? = some (.cells #[.int .i64 (x : Nat), .int .i64 ((c : Int) - (x : Int))] 61 (0, 0)) := by rw [hw2]; exact alloc_heap _ _
      rw [← hw2]
      clear hw2
      have hJ2 := abides_below hJ hJ1 (hb2.drew)
      have hK2 := (hK1.trans (KeepE.of_below (E := E) hb2)).drew
      have hM2 := HM.out.keep hK2 e1 e2 e3 e4
      obtain ⟨D, hD⟩ : ∃ D, D = w1.heap.size := ⟨_, rfl⟩
      have hDs : ¬ D < W.heap.size := by have := hK1.size; omega
      have hED : ¬ E D := fun h => hDs (HE.out D h)
      rw [← hD] at g2
      obtain ⟨A, hA⟩ : ∃ A, ch b x = A := ⟨_, rfl⟩
      obtain ⟨B, hB⟩ : ∃ B, ch g (c - x) = B := ⟨_, rfl⟩
      obtain ⟨M, hM⟩ : ∃ M, waysN b g c x = M := ⟨_, rfl⟩
      have hAB : A * B = M := by rw [← hA, ← hB, ← hM]; rfl
      have hMb : M ≤ 1125899906842624 := by rw [← hM]; have h1 := exT_le b g c x; rw [exT, if_pos (by omega)] at h1; exact Nat.le_trans h1 (ch_bd _ _ hs)
      have hABi : (A : Int) * (B : Int) = (M : Int) := by rw [← hAB]; simp
      have w5 : IntKind.i64.wrap ((A : Int) * (B : Int)) = (M : Int) := by rw [hABi]; exact IntWalk.i64_in _ (by omega)
      have w6 : wrap64 ((A : Int) * (B : Int)) = (M : Int) := by rw [hABi]; exact IntWalk.wrap64_in _ (by omega)
      have hxlo : (itemsL b g c).take (k + 1) = (itemsL b g c).take k ++ [x] := by rw [itemsL_take b g c k (by have := Hlo.out; have := Hhi.out; have := Hx.out; omega), Hx.out, Hlo.out]
      have hpl : ((itemsL b g c).take k).length < min c b + 1 - (c - g) := by rw [List.length_take, itemsL_len]; have := Hlo.out; have := Hhi.out; have := Hx.out; omega
      have hR := HY.out _ x w2.drew hJ2 hpl
      obtain ⟨fn, tmps, assign, body, hy', hR⟩ := hR
      rw [← hxlo] at hR
      have hcl : cl b g c x = x := cl_eq (by have := Hlo.out; have := Hx.out; omega) (by have := Hhi.out; omega)
      rw [hcl] at hy'
      unfold encX mets at hy'
      rw [hM] at hy'
      have Hy := Lib.hid hy'
      have Hr := Lib.hid hR
      have hb50 : b ≤ 50 := by omega
      have hg50 : g ≤ 50 := by omega
      have hx50 : x ≤ 50 := by omega
      have hcx50 : c - x ≤ 50 := by omega
      have z1 : (b : Int) < 51 := by omega
      have z2 : (g : Int) < 51 := by omega
      have z3 : (x : Int) < 51 := by omega
      have z4 : (0 : Int) ≤ (c : Int) - (x : Int) := by omega
      have z5 : (c : Int) - (x : Int) < 51 := by omega
      have z6 : ((c : Int) - (x : Int)).toNat = c - x := by omega
      have HL := Lib.hid hxlo
      have HD := Lib.hid hD
      clear c0 t0 o0 o1 hcl hy' hR hpl hxlo hM hAB hABi
      rw [← HD.out]
      clear hD
      refine region_lastIn (fun w' => w'.heap[Bc]? = some (.cells #[.int .i64 (c : Nat)] 3 (0, 0)) ∧ w'.heap[Bo]? = some (.cells #[.int .i64 (b : Nat), .int .i64 (g : Nat)] 61 (0, 0)) ∧ w'.heap[Bt]? = some (.cells #[.pointer (some ⟨T, 0, none⟩)] 57 (0, 0)) ∧ TriAt w' T ∧ w'.heap[D]? = some (.cells #[.int .i64 (x : Nat), .int .i64 ((c : Int) - (x : Int))] 61 (0, 0))) [21, 22] (by as_aux_lemma => kernel_rfl) ⟨hM2.c, hM2.o, hM2.t, hM2.tri, g2⟩ (fun hHeld => ?_)
      refine lastIn_take (i := 0) (oi := _) (v := ?_) rfl (by as_aux_lemma => kernel_rfl) (by as_aux_lemma => kernel_rfl) (by as_aux_lemma => kernel_rfl) (by as_aux_lemma => kernel_rfl) (by as_aux_lemma => kernel_rfl) (fun _ _ _ h => h) (Or.inl ⟨by rfl, ?_⟩) hHeld ?_
      rotate_left
      · intro w1 hSw
        obtain ⟨s1, s2, s3, s4, s5⟩ := hSw
        have d1 := one_cell s1
        have d3 := one_cell s3
        obtain ⟨d4, d5⟩ := two_cells s2
        obtain ⟨d6, d7⟩ := two_cells s5
        have d8 := s4.cell b x hb50 hx50
        have d9 := s4.cell g (c - x) hg50 hcx50
        rw [hA] at d8
        rw [hB] at d9
        go_simp; with_reducible rfl
      simp only [List.getElem_toArray, List.getElem_cons_succ, List.getElem_cons_zero, Act.put, List.setIfInBounds_toArray, List.set_cons_zero, List.set_cons_succ]
      refine lastIn_take (i := 1) (oi := _) (v := ?_) rfl (by as_aux_lemma => kernel_rfl) (by as_aux_lemma => kernel_rfl) (by as_aux_lemma => kernel_rfl) (by as_aux_lemma => kernel_rfl) (by as_aux_lemma => kernel_rfl) (fun _ _ _ h => h) (Or.inl ⟨by rfl, ?_⟩) hHeld ?_
      rotate_left
      · intro w1 hSw
        obtain ⟨s1, s2, s3, s4, s5⟩ := hSw
        have d1 := one_cell s1
        have d3 := one_cell s3
        obtain ⟨d4, d5⟩ := two_cells s2
        obtain ⟨d6, d7⟩ := two_cells s5
        have d8 := s4.cell b x hb50 hx50
        have d9 := s4.cell g (c - x) hg50 hcx50
        rw [hA] at d8
        rw [hB] at d9
        go_simp; with_reducible rfl
      simp only [List.getElem_toArray, List.getElem_cons_succ, List.getElem_cons_zero, Act.put, List.setIfInBounds_toArray, List.set_cons_zero, List.set_cons_succ]
      refine lastIn_take (i := 2) (oi := _) (v := ?_) rfl (by as_aux_lemma => kernel_rfl) (by as_aux_lemma => kernel_rfl) (by as_aux_lemma => kernel_rfl) (by as_aux_lemma => kernel_rfl) (by as_aux_lemma => kernel_rfl) (fun _ _ _ h => h) (Or.inl ⟨by rfl, ?_⟩) hHeld ?_
      rotate_left
      · intro w1 hSw
        obtain ⟨s1, s2, s3, s4, s5⟩ := hSw
        have d1 := one_cell s1
        have d3 := one_cell s3
        obtain ⟨d4, d5⟩ := two_cells s2
        obtain ⟨d6, d7⟩ := two_cells s5
        have d8 := s4.cell b x hb50 hx50
        have d9 := s4.cell g (c - x) hg50 hcx50
        rw [hA] at d8
        rw [hB] at d9
        go_simp; with_reducible rfl
      simp only [List.getElem_toArray, List.getElem_cons_succ, List.getElem_cons_zero, Act.put, List.setIfInBounds_toArray, List.set_cons_zero, List.set_cons_succ]
      refine lastIn_take (i := 3) (oi := _) (v := ?_) rfl (by as_aux_lemma => kernel_rfl) (by as_aux_lemma => kernel_rfl) (by as_aux_lemma => kernel_rfl) (by as_aux_lemma => kernel_rfl) (by as_aux_lemma => kernel_rfl) (fun _ _ _ h => h) (Or.inl ⟨by rfl, ?_⟩) hHeld ?_
      rotate_left
      · intro w1 hSw
        obtain ⟨s1, s2, s3, s4, s5⟩ := hSw
        have d1 := one_cell s1
        have d3 := one_cell s3
        obtain ⟨d4, d5⟩ := two_cells s2
        obtain ⟨d6, d7⟩ := two_cells s5
        have d8 := s4.cell b x hb50 hx50
        have d9 := s4.cell g (c - x) hg50 hcx50
        rw [hA] at d8
        rw [hB] at d9
        go_simp; with_reducible rfl
      simp only [List.getElem_toArray, List.getElem_cons_succ, List.getElem_cons_zero, Act.put, List.setIfInBounds_toArray, List.set_cons_zero, List.set_cons_succ]
      refine lastIn_take (i := 4) (oi := _) (v := ?_) rfl (by as_aux_lemma => kernel_rfl) (by as_aux_lemma => kernel_rfl) (by as_aux_lemma => kernel_rfl) (by as_aux_lemma => kernel_rfl) (by as_aux_lemma => kernel_rfl) (fun _ _ _ h => h) (Or.inl ⟨by rfl, ?_⟩) hHeld ?_
      rotate_left
      · intro w1 hSw
        obtain ⟨s1, s2, s3, s4, s5⟩ := hSw
        have d1 := one_cell s1
        have d3 := one_cell s3
        obtain ⟨d4, d5⟩ := two_cells s2
        obtain ⟨d6, d7⟩ := two_cells s5
        have d8 := s4.cell b x hb50 hx50
        have d9 := s4.cell g (c - x) hg50 hcx50
        rw [hA] at d8
        rw [hB] at d9
        go_simp; with_reducible rfl
      simp only [List.getElem_toArray, List.getElem_cons_succ, List.getElem_cons_zero, Act.put, List.setIfInBounds_toArray, List.set_cons_zero, List.set_cons_succ]
      refine lastIn_take (i := 5) (oi := _) (v := ?_) rfl (by as_aux_lemma => kernel_rfl) (by as_aux_lemma => kernel_rfl) (by as_aux_lemma => kernel_rfl) (by as_aux_lemma => kernel_rfl) (by as_aux_lemma => kernel_rfl) (fun _ _ _ h => h) (Or.inl ⟨by rfl, ?_⟩) hHeld ?_
      rotate_left
      · intro w1 hSw
        obtain ⟨s1, s2, s3, s4, s5⟩ := hSw
        have d1 := one_cell s1
        have d3 := one_cell s3
        obtain ⟨d4, d5⟩ := two_cells s2
        obtain ⟨d6, d7⟩ := two_cells s5
        have d8 := s4.cell b x hb50 hx50
        have d9 := s4.cell g (c - x) hg50 hcx50
        rw [hA] at d8
        rw [hB] at d9
        go_simp; with_reducible rfl
      simp only [List.getElem_toArray, List.getElem_cons_succ, List.getElem_cons_zero, Act.put, List.setIfInBounds_toArray, List.set_cons_zero, List.set_cons_succ]
      refine lastIn_take (i := 6) (oi := _) (v := ?_) rfl (by as_aux_lemma => kernel_rfl) (by as_aux_lemma => kernel_rfl) (by as_aux_lemma => kernel_rfl) (by as_aux_lemma => kernel_rfl) (by as_aux_lemma => kernel_rfl) (fun _ _ _ h => h) (Or.inl ⟨by rfl, ?_⟩) hHeld ?_
      rotate_left
      · intro w1 hSw
        obtain ⟨s1, s2, s3, s4, s5⟩ := hSw
        have d1 := one_cell s1
        have d3 := one_cell s3
        obtain ⟨d4, d5⟩ := two_cells s2
        obtain ⟨d6, d7⟩ := two_cells s5
        have d8 := s4.cell b x hb50 hx50
        have d9 := s4.cell g (c - x) hg50 hcx50
        rw [hA] at d8
        rw [hB] at d9
        go_simp; with_reducible rfl
      simp only [List.getElem_toArray, List.getElem_cons_succ, List.getElem_cons_zero, Act.put, List.setIfInBounds_toArray, List.set_cons_zero, List.set_cons_succ]
      refine lastIn_take (i := 7) (oi := _) (v := ?_) rfl (by as_aux_lemma => kernel_rfl) (by as_aux_lemma => kernel_rfl) (by as_aux_lemma => kernel_rfl) (by as_aux_lemma => kernel_rfl) (by as_aux_lemma => kernel_rfl) (fun _ _ _ h => h) (Or.inl ⟨by rfl, ?_⟩) hHeld ?_
      rotate_left
      · intro w1 hSw
        obtain ⟨s1, s2, s3, s4, s5⟩ := hSw
        have d1 := one_cell s1
        have d3 := one_cell s3
        obtain ⟨d4, d5⟩ := two_cells s2
        obtain ⟨d6, d7⟩ := two_cells s5
        have d8 := s4.cell b x hb50 hx50
        have d9 := s4.cell g (c - x) hg50 hcx50
        rw [hA] at d8
        rw [hB] at d9
        go_simp; with_reducible rfl
      simp only [List.getElem_toArray, List.getElem_cons_succ, List.getElem_cons_zero, Act.put, List.setIfInBounds_toArray, List.set_cons_zero, List.set_cons_succ]
      refine lastIn_take (i := 8) (oi := _) (v := ?_) rfl (by as_aux_lemma => kernel_rfl) (by as_aux_lemma => kernel_rfl) (by as_aux_lemma => kernel_rfl) (by as_aux_lemma => kernel_rfl) (by as_aux_lemma => kernel_rfl) (fun _ _ _ h => h) (Or.inl ⟨by rfl, ?_⟩) hHeld ?_
      rotate_left
      · intro w1 hSw
        obtain ⟨s1, s2, s3, s4, s5⟩ := hSw
        have d1 := one_cell s1
        have d3 := one_cell s3
        obtain ⟨d4, d5⟩ := two_cells s2
        obtain ⟨d6, d7⟩ := two_cells s5
        have d8 := s4.cell b x hb50 hx50
        have d9 := s4.cell g (c - x) hg50 hcx50
        rw [hA] at d8
        rw [hB] at d9
        go_simp; with_reducible rfl
      simp only [List.getElem_toArray, List.getElem_cons_succ, List.getElem_cons_zero, Act.put, List.setIfInBounds_toArray, List.set_cons_zero, List.set_cons_succ]
      refine lastIn_take (i := 9) (oi := _) (v := ?_) rfl (by as_aux_lemma => kernel_rfl) (by as_aux_lemma => kernel_rfl) (by as_aux_lemma => kernel_rfl) (by as_aux_lemma => kernel_rfl) (by as_aux_lemma => kernel_rfl) (fun _ _ _ h => h) (Or.inl ⟨by rfl, ?_⟩) hHeld ?_
      rotate_left
      · intro w1 hSw
        obtain ⟨s1, s2, s3, s4, s5⟩ := hSw
        have d1 := one_cell s1
        have d3 := one_cell s3
        obtain ⟨d4, d5⟩ := two_cells s2
        obtain ⟨d6, d7⟩ := two_cells s5
        have d8 := s4.cell b x hb50 hx50
        have d9 := s4.cell g (c - x) hg50 hcx50
        rw [hA] at d8
        rw [hB] at d9
        go_simp; with_reducible rfl
      simp only [List.getElem_toArray, List.getElem_cons_succ, List.getElem_cons_zero, Act.put, List.setIfInBounds_toArray, List.set_cons_zero, List.set_cons_succ]
      refine lastIn_take (i := 10) (oi := _) (v := ?_) rfl (by as_aux_lemma => kernel_rfl) (by as_aux_lemma => kernel_rfl) (by as_aux_lemma => kernel_rfl) (by as_aux_lemma => kernel_rfl) (by as_aux_lemma => kernel_rfl) (fun _ _ _ h => h) (Or.inl ⟨by rfl, ?_⟩) hHeld ?_
      rotate_left
      · intro w1 hSw
        obtain ⟨s1, s2, s3, s4, s5⟩ := hSw
        have d1 := one_cell s1
        have d3 := one_cell s3
        obtain ⟨d4, d5⟩ := two_cells s2
        obtain ⟨d6, d7⟩ := two_cells s5
        have d8 := s4.cell b x hb50 hx50
        have d9 := s4.cell g (c - x) hg50 hcx50
        rw [hA] at d8
        rw [hB] at d9
        go_simp; with_reducible rfl
      simp only [List.getElem_toArray, List.getElem_cons_succ, List.getElem_cons_zero, Act.put, List.setIfInBounds_toArray, List.set_cons_zero, List.set_cons_succ]
      refine lastIn_take (i := 11) (oi := _) (v := ?_) rfl (by as_aux_lemma => kernel_rfl) (by as_aux_lemma => kernel_rfl) (by as_aux_lemma => kernel_rfl) (by as_aux_lemma => kernel_rfl) (by as_aux_lemma => kernel_rfl) (fun _ _ _ h => h) (Or.inl ⟨by rfl, ?_⟩) hHeld ?_
      rotate_left
      · intro w1 hSw
        obtain ⟨s1, s2, s3, s4, s5⟩ := hSw
        have d1 := one_cell s1
        have d3 := one_cell s3
        obtain ⟨d4, d5⟩ := two_cells s2
        obtain ⟨d6, d7⟩ := two_cells s5
        have d8 := s4.cell b x hb50 hx50
        have d9 := s4.cell g (c - x) hg50 hcx50
        rw [hA] at d8
        rw [hB] at d9
        go_simp; with_reducible rfl
      simp only [List.getElem_toArray, List.getElem_cons_succ, List.getElem_cons_zero, Act.put, List.setIfInBounds_toArray, List.set_cons_zero, List.set_cons_succ]
      refine lastIn_take (i := 12) (oi := _) (v := ?_) rfl (by as_aux_lemma => kernel_rfl) (by as_aux_lemma => kernel_rfl) (by as_aux_lemma => kernel_rfl) (by as_aux_lemma => kernel_rfl) (by as_aux_lemma => kernel_rfl) (fun _ _ _ h => h) (Or.inl ⟨by rfl, ?_⟩) hHeld ?_
      rotate_left
      · intro w1 hSw
        obtain ⟨s1, s2, s3, s4, s5⟩ := hSw
        have d1 := one_cell s1
        have d3 := one_cell s3
        obtain ⟨d4, d5⟩ := two_cells s2
        obtain ⟨d6, d7⟩ := two_cells s5
        have d8 := s4.cell b x hb50 hx50
        have d9 := s4.cell g (c - x) hg50 hcx50
        rw [hA] at d8
        rw [hB] at d9
        go_simp; with_reducible rfl
      simp only [List.getElem_toArray, List.getElem_cons_succ, List.getElem_cons_zero, Act.put, List.setIfInBounds_toArray, List.set_cons_zero, List.set_cons_succ]
      refine lastIn_take (i := 13) (oi := _) (v := ?_) rfl (by as_aux_lemma => kernel_rfl) (by as_aux_lemma => kernel_rfl) (by as_aux_lemma => kernel_rfl) (by as_aux_lemma => kernel_rfl) (by as_aux_lemma => kernel_rfl) (fun _ _ _ h => h) (Or.inl ⟨by rfl, ?_⟩) hHeld ?_
      rotate_left
      · intro w1 hSw
        obtain ⟨s1, s2, s3, s4, s5⟩ := hSw
        have d1 := one_cell s1
        have d3 := one_cell s3
        obtain ⟨d4, d5⟩ := two_cells s2
        obtain ⟨d6, d7⟩ := two_cells s5
        have d8 := s4.cell b x hb50 hx50
        have d9 := s4.cell g (c - x) hg50 hcx50
        rw [hA] at d8
        rw [hB] at d9
        go_simp; with_reducible rfl
      simp only [List.getElem_toArray, List.getElem_cons_succ, List.getElem_cons_zero, Act.put, List.setIfInBounds_toArray, List.set_cons_zero, List.set_cons_succ]
      refine lastIn_take (i := 14) (oi := _) (v := ?_) rfl (by as_aux_lemma => kernel_rfl) (by as_aux_lemma => kernel_rfl) (by as_aux_lemma => kernel_rfl) (by as_aux_lemma => kernel_rfl) (by as_aux_lemma => kernel_rfl) (fun _ _ _ h => h) (Or.inl ⟨by rfl, ?_⟩) hHeld ?_
      rotate_left
      · intro w1 hSw
        obtain ⟨s1, s2, s3, s4, s5⟩ := hSw
        have d1 := one_cell s1
        have d3 := one_cell s3
        obtain ⟨d4, d5⟩ := two_cells s2
        obtain ⟨d6, d7⟩ := two_cells s5
        have d8 := s4.cell b x hb50 hx50
        have d9 := s4.cell g (c - x) hg50 hcx50
        rw [hA] at d8
        rw [hB] at d9
        go_simp; with_reducible rfl
      simp only [List.getElem_toArray, List.getElem_cons_succ, List.getElem_cons_zero, Act.put, List.setIfInBounds_toArray, List.set_cons_zero, List.set_cons_succ]
      refine lastIn_take (i := 15) (oi := _) (v := ?_) rfl (by as_aux_lemma => kernel_rfl) (by as_aux_lemma => kernel_rfl) (by as_aux_lemma => kernel_rfl) (by as_aux_lemma => kernel_rfl) (by as_aux_lemma => kernel_rfl) (fun _ _ _ h => h) (Or.inl ⟨by rfl, ?_⟩) hHeld ?_
      rotate_left
      · intro w1 hSw
        obtain ⟨s1, s2, s3, s4, s5⟩ := hSw
        have d1 := one_cell s1
        have d3 := one_cell s3
        obtain ⟨d4, d5⟩ := two_cells s2
        obtain ⟨d6, d7⟩ := two_cells s5
        have d8 := s4.cell b x hb50 hx50
        have d9 := s4.cell g (c - x) hg50 hcx50
        rw [hA] at d8
        rw [hB] at d9
        go_simp; with_reducible rfl
      simp only [List.getElem_toArray, List.getElem_cons_succ, List.getElem_cons_zero, Act.put, List.setIfInBounds_toArray, List.set_cons_zero, List.set_cons_succ]
      refine lastIn_take (i := 16) (oi := _) (v := ?_) rfl (by as_aux_lemma => kernel_rfl) (by as_aux_lemma => kernel_rfl) (by as_aux_lemma => kernel_rfl) (by as_aux_lemma => kernel_rfl) (by as_aux_lemma => kernel_rfl) (fun _ _ _ h => h) (Or.inl ⟨by rfl, ?_⟩) hHeld ?_
      rotate_left
      · intro w1 hSw
        obtain ⟨s1, s2, s3, s4, s5⟩ := hSw
        have d1 := one_cell s1
        have d3 := one_cell s3
        obtain ⟨d4, d5⟩ := two_cells s2
        obtain ⟨d6, d7⟩ := two_cells s5
        have d8 := s4.cell b x hb50 hx50
        have d9 := s4.cell g (c - x) hg50 hcx50
        rw [hA] at d8
        rw [hB] at d9
        go_simp; with_reducible rfl
      simp only [List.getElem_toArray, List.getElem_cons_succ, List.getElem_cons_zero, Act.put, List.setIfInBounds_toArray, List.set_cons_zero, List.set_cons_succ]
      refine lastIn_take (i := 17) (oi := _) (v := ?_) rfl (by as_aux_lemma => kernel_rfl) (by as_aux_lemma => kernel_rfl) (by as_aux_lemma => kernel_rfl) (by as_aux_lemma => kernel_rfl) (by as_aux_lemma => kernel_rfl) (fun _ _ _ h => h) (Or.inl ⟨by rfl, ?_⟩) hHeld ?_
      rotate_left
      · intro w1 hSw
        obtain ⟨s1, s2, s3, s4, s5⟩ := hSw
        have d1 := one_cell s1
        have d3 := one_cell s3
        obtain ⟨d4, d5⟩ := two_cells s2
        obtain ⟨d6, d7⟩ := two_cells s5
        have d8 := s4.cell b x hb50 hx50
        have d9 := s4.cell g (c - x) hg50 hcx50
        rw [hA] at d8
        rw [hB] at d9
        go_simp; with_reducible rfl
      simp only [List.getElem_toArray, List.getElem_cons_succ, List.getElem_cons_zero, Act.put, List.setIfInBounds_toArray, List.set_cons_zero, List.set_cons_succ]
      refine lastIn_take (i := 18) (oi := _) (v := ?_) rfl (by as_aux_lemma => kernel_rfl) (by as_aux_lemma => kernel_rfl) (by as_aux_lemma => kernel_rfl) (by as_aux_lemma => kernel_rfl) (by as_aux_lemma => kernel_rfl) (fun _ _ _ h => h) (Or.inl ⟨by rfl, ?_⟩) hHeld ?_
      rotate_left
      · intro w1 hSw
        obtain ⟨s1, s2, s3, s4, s5⟩ := hSw
        have d1 := one_cell s1
        have d3 := one_cell s3
        obtain ⟨d4, d5⟩ := two_cells s2
        obtain ⟨d6, d7⟩ := two_cells s5
        have d8 := s4.cell b x hb50 hx50
        have d9 := s4.cell g (c - x) hg50 hcx50
        rw [hA] at d8
        rw [hB] at d9
        go_simp; with_reducible rfl
      simp only [List.getElem_toArray, List.getElem_cons_succ, List.getElem_cons_zero, Act.put, List.setIfInBounds_toArray, List.set_cons_zero, List.set_cons_succ]
      refine lastIn_take (i := 19) (oi := _) (v := ?_) rfl (by as_aux_lemma => kernel_rfl) (by as_aux_lemma => kernel_rfl) (by as_aux_lemma => kernel_rfl) (by as_aux_lemma => kernel_rfl) (by as_aux_lemma => kernel_rfl) (fun _ _ _ h => h) (Or.inl ⟨by rfl, ?_⟩) hHeld ?_
      rotate_left
      · intro w1 hSw
        obtain ⟨s1, s2, s3, s4, s5⟩ := hSw
        have d1 := one_cell s1
        have d3 := one_cell s3
        obtain ⟨d4, d5⟩ := two_cells s2
        obtain ⟨d6, d7⟩ := two_cells s5
        have d8 := s4.cell b x hb50 hx50
        have d9 := s4.cell g (c - x) hg50 hcx50
        rw [hA] at d8
        rw [hB] at d9
        go_simp; with_reducible rfl
      simp only [List.getElem_toArray, List.getElem_cons_succ, List.getElem_cons_zero, Act.put, List.setIfInBounds_toArray, List.set_cons_zero, List.set_cons_succ]
      refine lastIn_take (i := 20) (oi := _) (v := ?_) rfl (by as_aux_lemma => kernel_rfl) (by as_aux_lemma => kernel_rfl) (by as_aux_lemma => kernel_rfl) (by as_aux_lemma => kernel_rfl) (by as_aux_lemma => kernel_rfl) (fun _ _ _ h => h) (Or.inl ⟨by rfl, ?_⟩) hHeld ?_
      rotate_left
      · intro w1 hSw
        obtain ⟨s1, s2, s3, s4, s5⟩ := hSw
        have d1 := one_cell s1
        have d3 := one_cell s3
        obtain ⟨d4, d5⟩ := two_cells s2
        obtain ⟨d6, d7⟩ := two_cells s5
        have d8 := s4.cell b x hb50 hx50
        have d9 := s4.cell g (c - x) hg50 hcx50
        rw [hA] at d8
        rw [hB] at d9
        go_simp; with_reducible rfl
      simp only [List.getElem_toArray, List.getElem_cons_succ, List.getElem_cons_zero, Act.put, List.setIfInBounds_toArray, List.set_cons_zero, List.set_cons_succ]
      clear hHeld
      have hy := Hy.out
      refine lastIn_ready (rs := [21]) (by as_aux_lemma => kernel_rfl) (by simp) ?_
      intro i hi; obtain rfl := List.mem_singleton.1 hi; clear hi
      refine wpOpIn_step rfl (fun K3 hK3 => ?_)
      have HK3 := Lib.hid hK3
      clear hK3
      rw [if_pos (by rfl)]
      simp only [Oper.wpIn, Oper.semAt_none]; go_simp
      refine Hr.out.mono ?_
      rintro e W3 (⟨rfl, hJ3, hk3⟩ | ⟨rfl, hJx3⟩)
      ·
        refine HK3.out _ _ ⟨fun h => absurd (by decide) h, fun _ => ?_⟩
        clear HK3 K3
        try simp only [List.getElem_toArray, List.getElem_cons_succ, List.getElem_cons_zero, Act.put, List.setIfInBounds_toArray, List.set_cons_zero, List.set_cons_succ]
        refine lastIn_ready (rs := [22]) (by as_aux_lemma => kernel_rfl) (by simp) ?_
        intro i hi; obtain rfl := List.mem_singleton.1 hi; clear hi
        refine wpOpIn_step rfl (fun K3 hK3 => ?_)
        have HK3 := Lib.hid hK3
        clear hK3
        rw [if_pos (by rfl)]
        simp only [Oper.wpIn, Oper.semAt_none]; go_simp
        refine HK3.out _ _ ⟨fun h => absurd (by decide) h, fun _ => ?_⟩
        clear HK3 K3
        try simp only [List.getElem_toArray, List.getElem_cons_succ, List.getElem_cons_zero, Act.put, List.setIfInBounds_toArray, List.set_cons_zero, List.set_cons_succ]
        refine lastIn_done (by as_aux_lemma => kernel_rfl) ?_ _
        gi_wp2
        go_roundw
        case rel => exact ⟨k + 1, by have := Hhi.out; have := Hx.out; omega, by rw [show lo + (k + 1) = x + 1 by have := Hx.out; omega]; go_num, hK2.trans hk3, hJ3⟩
        case measure => simp [intOf]; have := Hx.out; omega
      ·
        refine HK3.out _ _ ⟨fun h => absurd (by decide) h, fun _ => ?_⟩
        clear HK3 K3
        try simp only [List.getElem_toArray, List.getElem_cons_succ, List.getElem_cons_zero, Act.put, List.setIfInBounds_toArray, List.set_cons_zero, List.set_cons_succ]
        refine lastIn_ready (rs := [22]) (by as_aux_lemma => kernel_rfl) (by simp) ?_
        intro i hi; obtain rfl := List.mem_singleton.1 hi; clear hi
        refine wpOpIn_step rfl (fun K3 hK3 => ?_)
        have HK3 := Lib.hid hK3
        clear hK3
        rw [if_pos (by rfl)]
        simp only [Oper.wpIn, Oper.semAt_none]; go_simp
        refine HK3.out _ _ ⟨fun h => absurd (by decide) h, fun _ => ?_⟩
        clear HK3 K3
        try simp only [List.getElem_toArray, List.getElem_cons_succ, List.getElem_cons_zero, Act.put, List.setIfInBounds_toArray, List.set_cons_zero, List.set_cons_succ]
        refine lastIn_done (by as_aux_lemma => kernel_rfl) ?_ _
        gi_wp2
        refine bodyPost_ret (results_none rfl _ _ _) rfl ?_
        exact ⟨⟨_, rfl⟩, .inr ⟨_, List.take_prefix _ _, hJx3⟩⟩
    · have hxl : x = hi + 1 := by have := Hx.out; omega
      have hJf : J (itemsL b g c) wr := by
        rw [List.take_of_length_le (by rw [itemsL_len]; have := Hlo.out; have := Hhi.out; have := Hx.out; omega)] at hJk
        exact hJk
      gi_wp2
      go_end0
      exact ⟨⟨_, rfl⟩, .inl ⟨_, rfl, hJf⟩⟩

theorem samples_any (T : Nat) (b g c : Nat) (w : World) :
    Calls Try.prog 46 #[.pointer (some ⟨T, 0, none⟩), mets (b : Nat) (g : Nat), .int .i64 (c : Nat)] w fun e w' => e = .returned (.func (.func 55) #[] #[.pointer (some ⟨w.heap.size + 1 + 1, 0, none⟩), .pointer (some ⟨w.heap.size + 1, 0, none⟩), .pointer (some ⟨w.heap.size, 0, none⟩)]) ∧
      w' = ((w.alloc (.cells #[.pointer (some ⟨T, 0, none⟩)] 57)).alloc (.cells #[.int .i64 (b : Nat), .int .i64 (g : Nat)] 61)).alloc (.cells #[.int .i64 (c : Nat)] 3) := by
  unfold mets
  go_enter Try.func46, Try.ntmps46
  go_wp2
  go_ret
  exact ⟨rfl, rfl⟩
theorem samples_mem {b g c T : Nat} {w : World} (h : TriAt w T) : SMem b g c (w.heap.size + 1 + 1) (w.heap.size + 1) w.heap.size T (((w.alloc (.cells #[.pointer (some ⟨T, 0, none⟩)] 57)).alloc (.cells #[.int .i64 (b : Nat), .int .i64 (g : Nat)] 61)).alloc (.cells #[.int .i64 (c : Nat)] 3)) := by
  have hT := h.lt
  refine ⟨?_, ?_, ?_, ?_⟩
  · have := alloc_heap ((w.alloc (.cells #[.pointer (some ⟨T, 0, none⟩)] 57)).alloc (.cells #[.int .i64 (b : Nat), .int .i64 (g : Nat)] 61)) (.cells #[.int .i64 (c : Nat)] 3)
    simpa using this
  · rw [Below.heap_alloc _ _ _ (by simp)]
    have := alloc_heap (w.alloc (.cells #[.pointer (some ⟨T, 0, none⟩)] 57)) (.cells #[.int .i64 (b : Nat), .int .i64 (g : Nat)] 61)
    simpa using this
  · rw [Below.heap_alloc _ _ _ (by simp; omega), Below.heap_alloc _ _ _ (by simp)]
    exact alloc_heap w _
  · exact (Below.heap_alloc _ _ _ (by simp; omega)).trans ((Below.heap_alloc _ _ _ (by simp; omega)).trans ((Below.heap_alloc _ _ _ hT).trans h))
theorem samples_stops (n : Nat) (hn : 1 ≤ n) (b g c Bc Bo Bt T : Nat) (E : Nat → Prop) (hc : c ≤ b + g) (hs : b + g ≤ 50) (e1 : ¬ E Bc) (e2 : ¬ E Bo) (e3 : ¬ E Bt) (e4 : ¬ E T) (w : World) (hM : SMem b g c Bc Bo Bt T w) (hE : ∀ k, E k → k < w.heap.size) :
    SeqStopsK Fence.wide n Try.prog 55 #[.pointer (some ⟨Bc, 0, none⟩), .pointer (some ⟨Bo, 0, none⟩), .pointer (some ⟨Bt, 0, none⟩)] (fun x => encX b g c (cl b g c x)) (KeepE E) (fun xs => xs = itemsL b g c) (fun pre => pre <+: itemsL b g c) (min c b + 1 - (c - g)) w := by
  intro l J Jx W hb hJ _ hY h0
  have hM' : SMem b g c Bc Bo Bt T W := ⟨(hb.block _ (Array.getElem?_eq_some_iff.1 hM.c).1).trans hM.c, (hb.block _ (Array.getElem?_eq_some_iff.1 hM.o).1).trans hM.o, (hb.block _ (Array.getElem?_eq_some_iff.1 hM.t).1).trans hM.t, (hb.block _ hM.tri.lt).trans hM.tri⟩
  exact iter_in n hn l b g c Bc Bo Bt T E hc hs J Jx e1 e2 e3 e4 W hM' (fun k hk => Nat.lt_of_lt_of_le (hE k hk) hb.size) hJ hY h0
end Go.Proofs.Ytclcconllkfjiaa
