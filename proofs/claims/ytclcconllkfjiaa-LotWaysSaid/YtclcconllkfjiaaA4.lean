/- Contract: tested: on how many samples a lot passes. -/
import Derived.Test.YtclcconllkfjiaaM2
namespace Go.Proofs.Ytclcconllkfjiaa
set_option linter.unusedSimpArgs false
set_option linter.unusedVariables false
open Go.RowKit Go.Shelf
attribute [local go_sem] Oper.semAt_some

def planV (c a : Int) : Value := .agg #[.int .i64 c, .int .i64 a]
theorem wrap_wrap (x y : Int) : IntKind.i64.wrap (IntKind.i64.wrap x + y) = IntKind.i64.wrap (x + y) := by
  rw [IntKind.wrap_i64, IntKind.wrap_i64, IntKind.wrap_i64]; omega
theorem wrap64_wrap (x y : Int) : wrap64 (wrap64 x + y) = wrap64 (x + y) := by unfold wrap64; omega
theorem wrap64_is (x : Int) : wrap64 x = IntKind.i64.wrap x := by rw [IntKind.wrap_i64]; unfold wrap64; omega
/-- all but some blocks are as they were -/
structure OnlyE (E : Nat → Prop) (X Y : World) : Prop where
  os : Y.os = X.os
  tape : Y.tape = X.tape
  output : Y.output = X.output
  size : X.heap.size ≤ Y.heap.size
  block : ∀ k, k < X.heap.size → ¬ E k → Y.heap[k]? = X.heap[k]?
theorem OnlyE.refl (E : Nat → Prop) (X : World) : OnlyE E X X := ⟨rfl, rfl, rfl, Nat.le_refl _, fun _ _ _ => rfl⟩
theorem OnlyE.trans {E : Nat → Prop} {X Y Z : World} (h : OnlyE E X Y) (k : OnlyE E Y Z) : OnlyE E X Z :=
  ⟨k.os.trans h.os, k.tape.trans h.tape, k.output.trans h.output, Nat.le_trans h.size k.size, fun i hi he => (k.block i (Nat.lt_of_lt_of_le hi h.size) he).trans (h.block i hi he)⟩
theorem OnlyE.of_grown {E : Nat → Prop} {X Y : World} {row : Option Nat} (hg : X.grownBy Y row) (hr : ∀ r, row = some r → E r) : OnlyE E X Y :=
  ⟨hg.os, hg.tape, hg.output, hg.size, fun k hk he => hg.block k hk (fun e => he (hr k e.symm))⟩
theorem OnlyE.of_below {E : Nat → Prop} {X Y : World} (h : Below X.heap.size X Y) : OnlyE E X Y := .of_grown (grown_of_below h) (fun _ e => by cases e)
theorem OnlyE.alloc {E : Nat → Prop} {X Y : World} (h : OnlyE E X Y) (o : Obj) : OnlyE E X (Y.alloc o) := h.trans (.of_grown (World.grownBy_alloc Y o none) (fun _ e => by cases e))
theorem OnlyE.set {E : Nat → Prop} {X Y : World} (h : OnlyE E X Y) {b : Nat} (hb : E b) (v : Value) : OnlyE E X (Y.setCell ⟨b, 0, none⟩ v) := h.trans (.of_grown (grownBy_setCell' Y b v) (fun _ e => by cases e; exact hb))
theorem OnlyE.drew {E : Nat → Prop} {X Y : World} (h : OnlyE E X Y) : OnlyE E X Y.drew := ⟨h.os, h.tape, h.output, h.size, h.block⟩
/-- what others may turn lies behind X -/
theorem OnlyE.far {E : Nat → Prop} {X Y Z : World} {row : Option Nat} (h : OnlyE E X Y) (hg : Y.grownBy Z row) (hr : ∀ r, row = some r → X.heap.size ≤ r) : OnlyE E X Z :=
  ⟨hg.os.trans h.os, hg.tape.trans h.tape, hg.output.trans h.output, Nat.le_trans h.size hg.size, fun k hk he => (hg.block k (Nat.lt_of_lt_of_le hk h.size) (fun e => by have := hr k e.symm; omega)).trans (h.block k hk he)⟩
theorem OnlyE.keep {E : Nat → Prop} {X Y : World} (h : OnlyE E X Y) : KeepE E X Y := ⟨h.size, fun k o he ho _ => (h.block k (Array.getElem?_eq_some_iff.1 ho).1 he).trans ho⟩
theorem OnlyE.from {E : Nat → Prop} {X Y : World} (h : OnlyE E X Y) {n : Nat} (hE : ∀ k, E k → k < n) : KeepsFrom n X Y := ⟨h.size, fun k o hk ho _ => (h.block k (Array.getElem?_eq_some_iff.1 ho).1 (fun e => by have := hE k e; omega)).trans ho⟩
theorem OnlyE.below {E : Nat → Prop} {X Y : World} (h : OnlyE E X Y) {n : Nat} (hn : n ≤ X.heap.size) (hE : ∀ k, E k → n ≤ k) : Below n X Y :=
  ⟨h.os, h.tape, h.output, h.size, fun k hk => h.block k (by omega) (fun e => by have := hE k e; omega)⟩
theorem OnlyE.get {E : Nat → Prop} {X Y : World} (h : OnlyE E X Y) {k : Nat} {o : Obj} (ho : X.heap[k]? = some o) (he : ¬ E k) : Y.heap[k]? = some o := (h.block k (Array.getElem?_eq_some_iff.1 ho).1 he).trans ho
/-- a block of cells lies as it lay where only others are turned -/
theorem cells_kept {X Y : World} {row : Option Nat} {B n : Nat} {cs : Array Value} {t : TypeId} (h : X.heap[B]? = some (.cells cs t (0, 0))) (hg : X.grownBy Y row) (hr : ∀ r, row = some r → n ≤ r ∧ ∃ o : Obj, X.heap[r]? = some o ∧ o.isCells = false) : Y.heap[B]? = some (.cells cs t (0, 0)) :=
  (hg.block B (Array.getElem?_eq_some_iff.1 h).1 (fun e => by obtain ⟨_, o, ho, hc⟩ := hr B e.symm; rw [h] at ho; cases ho; cases hc)).trans h
theorem set_one {X : World} {b : Nat} {u : Value} {t : TypeId} (h : X.heap[b]? = some (.cells #[u] t (0, 0))) (v : Value) : (X.setCell ⟨b, 0, none⟩ v).heap[b]? = some (.cells #[v] t (0, 0)) := by
  obtain ⟨hlt, hk⟩ := Array.getElem?_eq_some_iff.1 h
  show (X.heap.modify b _)[b]? = _
  rw [Array.getElem?_eq_getElem (by rw [Array.size_modify]; exact hlt), Array.getElem_modify_self, hk]
  rfl

def testedAct (T b g c : Nat) (a : Int) (H Bx : Nat) (x : Nat) : Act :=
  { tmps := #[.pointer (some ⟨T, 0, none⟩), .agg #[.int .i64 (b : Nat), .int .i64 (g : Nat)], .agg #[.int .i64 (c : Nat), .int .i64 a], undef, .pointer (some ⟨H, 0, none⟩), .pointer (some ⟨H + 1, 0, none⟩), .pointer (some ⟨H + 1 + 1, 0, none⟩), .int .i64 0,
      .pointer (some ⟨Bx, 0, none⟩), .int .i64 (waysN b g c x : Nat), .pointer (some ⟨T, 0, none⟩), .agg #[.int .i64 (b : Nat), .int .i64 (g : Nat)], .pointer (some ⟨H + 1, 0, none⟩), .int .i64 (c : Nat),
      .func (.func 55) #[] #[.pointer (some ⟨H + 3 + 1 + 1, 0, none⟩), .pointer (some ⟨H + 3 + 1, 0, none⟩), .pointer (some ⟨H + 3, 0, none⟩)],
      mets (x : Nat) ((c : Nat) - (x : Nat) : Int), .int .i64 (waysN b g c x : Nat), undef, undef, undef, undef, undef, undef, undef, undef, undef, undef, undef, undef, undef, undef, undef, undef, undef, undef], defers := [] }

set_option maxRecDepth 100000 in
set_option maxHeartbeats 3200000 in
theorem tested_any (T b g c : Nat) (a : Int) (w : World) (hT : TriAt w T) (hc : c ≤ b + g) (hs : b + g ≤ 50) :
    Calls Try.prog 25 #[.pointer (some ⟨T, 0, none⟩), mets (b : Nat) (g : Nat), planV (c : Nat) a] w fun e w' => e = .returned (.tuple #[.int .i64 (passN b g c a : Nat), .int .i64 (ch (b + g) c : Nat)]) ∧ Below w.heap.size w w' := by
  have hTl := hT.lt
  obtain ⟨W0, hW0⟩ : ∃ X, X = ((w.alloc (.cells #[.int .i64 (b : Nat), .int .i64 (g : Nat)] 61)).alloc (.cells #[.int .i64 (c : Nat), .int .i64 a] 23)).alloc (.cells #[.int .i64 0] 3) := ⟨_, rfl⟩
  have hb0 : Below w.heap.size w W0 := by rw [hW0]; exact (((Below.refl _ _).alloc (Nat.le_refl _) _).alloc (by simp) _).alloc (by simp; omega) _
  unfold planV mets
  refine (callsIn_wide (n := 9)).1 ?_
  refine callsIn_of_wp_marks Try.func25 rfl trivial ?_ rfl
  simp only [Try.ntmps25, List.size_toArray, List.length_cons, List.length_nil, Nat.reduceAdd, Nat.reduceSub, Array.replicate_succ, Array.replicate_zero, List.push_toArray, List.append_toArray, List.nil_append, List.cons_append]
  gi_wp2
  rw [← hW0]
  have hz0 : W0.heap.size = w.heap.size + 3 := by rw [hW0]; simp
  have hT0 : TriAt W0 T := hT.below hb0 hTl
  obtain ⟨H, hH⟩ : ∃ H, H = w.heap.size := ⟨_, rfl⟩
  have k1 : W0.heap[H]? = some (.cells #[.int .i64 (b : Nat), .int .i64 (g : Nat)] 61 (0, 0)) := by
    rw [hW0, hH, Below.heap_alloc _ _ _ (by simp; omega), Below.heap_alloc _ _ _ (by simp)]; exact alloc_heap w _
  have k2 : W0.heap[H + 1]? = some (.cells #[.int .i64 (c : Nat), .int .i64 a] 23 (0, 0)) := by
    rw [hW0, hH, Below.heap_alloc _ _ _ (by simp)]
    have := alloc_heap (w.alloc (.cells #[.int .i64 (b : Nat), .int .i64 (g : Nat)] 61)) (.cells #[.int .i64 (c : Nat), .int .i64 a] 23)
    simpa using this
  have k3 : W0.heap[H + 1 + 1]? = some (.cells #[.int .i64 0] 3 (0, 0)) := by
    rw [hW0, hH]
    have := alloc_heap ((w.alloc (.cells #[.int .i64 (b : Nat), .int .i64 (g : Nat)] 61)).alloc (.cells #[.int .i64 (c : Nat), .int .i64 a] 23)) (.cells #[.int .i64 0] 3)
    simpa using this
  rw [← hH] at hz0 ⊢
  have HH := Lib.hid hH
  clear hW0 hH
  have hsm := samples_any T b g c W0
  unfold mets at hsm
  refine ⟨trivial, callsIn_wide.2 (hsm.mono ?_)⟩
  rintro e W1 ⟨rfl, rfl⟩
  clear hsm
  have hM := samples_mem (b := b) (g := g) (c := c) hT0
  obtain ⟨W1, hW1⟩ : ∃ X, X = ((W0.alloc (.cells #[.pointer (some ⟨T, 0, none⟩)] 57)).alloc (.cells #[.int .i64 (b : Nat), .int .i64 (g : Nat)] 61)).alloc (.cells #[.int .i64 (c : Nat)] 3) := ⟨_, rfl⟩
  have hb1 : Below W0.heap.size W0 W1 := by rw [hW1]; exact (((Below.refl _ _).alloc (Nat.le_refl _) _).alloc (by simp) _).alloc (by simp; omega) _
  have hz1 : W1.heap.size = H + 6 := by rw [hW1]; simp [hz0]
  rw [← hW1] at hM ⊢
  clear hW1
  rw [hz0] at hM ⊢
  gi_wp2
  have hO1 : OnlyE (· = H + 1 + 1) W0 W1 := .of_below hb1
  refine wpIn_rangeFunc_ownH rfl (by omega) (gf := 55) (lb := #[.pointer (some ⟨H + 3 + 1 + 1, 0, none⟩), .pointer (some ⟨H + 3 + 1, 0, none⟩), .pointer (some ⟨H + 3, 0, none⟩)]) rfl trivial (enters_of Try.func55 (by kernel_rfl) rfl)
    (samples_stops 8 (by omega) b g c (H + 3 + 1 + 1) (H + 3 + 1) (H + 3) T (· = H + 1 + 1) hc hs (by omega) (by omega) (by omega) (by have := HH.out; omega) W1 hM (by intro k hk; omega))
    KeepE.trans (fun W l o o' _ hl hc _ => KeepE.of_grown (grownBy_putObj' W l o') (fun q e => by cases e; exact .inr (fun o2 h2 => by rw [hl] at h2; cases h2; exact hc))) (Below.refl _ _) (fun _ => rfl)
    (fun pre W => W.heap[H + 1 + 1]? = some (.cells #[.int .i64 (wrap64 (sumF (waysN b g c) b g c pre : Nat))] 3 (0, 0)) ∧ OnlyE (· = H + 1 + 1) W1 W ∧ ∀ y ∈ pre, (cl b g c y : Int) ≤ a)
    (fun cc pre W => cc = .exit 0 ∧ OnlyE (· = H + 1 + 1) W1 W ∧ ∃ pre' x, pre = pre' ++ [x] ∧ W.heap[H + 1 + 1]? = some (.cells #[.int .i64 (wrap64 (sumF (waysN b g c) b g c pre' : Nat))] 3 (0, 0)) ∧ (∀ y ∈ pre', (cl b g c y : Int) ≤ a) ∧ ¬ (cl b g c x : Int) ≤ a)
    (fun pre X Y row hs hg hr => ⟨cells_kept hs.1 hg hr, hs.2.1.far hg (fun q e => (hr q e).1), hs.2.2⟩)
    (fun cc pre X Y row hs hg hr => by
      obtain ⟨h1, h2, pre', x, h3, h4, h5⟩ := hs
      exact ⟨h1, h2.far hg (fun q e => (hr q e).1), pre', x, h3, cells_kept h4 hg hr, h5⟩)
    ⟨?_, OnlyE.refl _ _, fun y hy => by cases hy⟩
    (fun x a' W => ∃ Bx, W1.heap.size ≤ Bx ∧ W.heap[Bx]? = some (.cells #[.int .i64 (cl b g c x : Nat), .int .i64 ((c : Int) - (cl b g c x : Nat))] 61 (0, 0)) ∧ a' = testedAct T b g c a H Bx (cl b g c x))
    (fun x a' _ X Y row hs hg hr => by
      obtain ⟨Bx, h1, h2, h3⟩ := hs
      exact ⟨Bx, h1, cells_kept h2 hg hr, h3⟩)
    ?assign ?body ?done ?stop
  · have := (hb1.block _ (by omega)).trans k3
    simpa [sumF_nil, wrap64] using this
  case assign =>
    rintro l pre x W K ⟨i1, i2, i3⟩ hK
    unfold encX mets
    gi_wp2
    have hs3 := i2.size
    refine hK _ _ ((KeepsOthers.alloc _ _).from _) ((KeepE.refl _ _).alloc _) ⟨(Below.heap_alloc _ _ _ (Array.getElem?_eq_some_iff.1 i1).1).trans i1, i2.alloc _, i3⟩ ⟨W.heap.size, hs3, alloc_heap _ _, ?_⟩
    unfold testedAct mets
    rfl
  case body =>
    rintro l pre x a' W hl ⟨rr, hrr⟩ ⟨i1, i2, i3⟩ ⟨Bx, hBx, hX, rfl⟩ _hlt
    have hci := cl_in (b := b) (g := g) x hc
    have hsn := sumF_snoc (waysN b g c) b g c pre x
    have hwl := ways_le b g c (cl b g c x) hs
    have y2 : W.heap[H + 1]? = some (.cells #[.int .i64 (c : Nat), .int .i64 a] 23 (0, 0)) := (i2.get (hO1.get k2 (by omega)) (by omega))
    obtain ⟨X, hXe⟩ : ∃ X, cl b g c x = X := ⟨_, rfl⟩
    rw [hXe] at hX hci hsn hwl ⊢
    obtain ⟨M, hM⟩ : ∃ M, waysN b g c X = M := ⟨_, rfl⟩
    obtain ⟨S, hS⟩ : ∃ S, sumF (waysN b g c) b g c pre = S := ⟨_, rfl⟩
    unfold testedAct mets
    rw [hM] at hsn hwl ⊢
    rw [hS] at i1 hsn
    obtain ⟨V, hV⟩ : ∃ V, wrap64 (S : Int) = V := ⟨_, rfl⟩
    rw [hV] at i1
    have c1 := one_cell i1
    obtain ⟨c2, c3⟩ := two_cells y2
    obtain ⟨c4, c5⟩ := two_cells hX
    have f1 : W.frozen? ⟨H + 1 + 1, 0, none⟩ = false := frozen_of i1
    have hset := set_one i1 (.int .i64 (wrap64 ((S : Int) + (M : Int))))
    have hw : wrap64 (V + (M : Int)) = wrap64 ((S : Int) + (M : Int)) := by rw [← hV, wrap64_wrap]
    have hw2 : IntKind.i64.wrap (V + (M : Int)) = wrap64 ((S : Int) + (M : Int)) := by rw [← hV, wrap64_is, wrap_wrap, wrap64_is]
    have HSET := Lib.hid hset
    have HSN := Lib.hid hsn
    have HX := Lib.hid hXe
    have I2 := Lib.hid i2
    have I3 := Lib.hid i3
    have HS := Lib.hid hS
    have HV := Lib.hid hV
    clear hset hsn hXe hX hM hS hV i2 i3
    by_cases hle : (X : Int) ≤ a
    · have hgt : ¬ a < (X : Int) := by omega
      gi_wp2
      have hO : OnlyE (· = H + 1 + 1) W (W.setCell ⟨H + 1 + 1, 0, none⟩ (.int .i64 (wrap64 ((S : Int) + (M : Int))))) := OnlyE.set (E := (· = H + 1 + 1)) (OnlyE.refl _ _) (b := H + 1 + 1) rfl _
      exact ⟨hO.from (by intro k hk; omega), hO.keep, by rw [HSN.out]; simpa using HSET.out, I2.out.trans hO, fun y hy => by
        rcases List.mem_append.1 hy with hy | hy
        · exact I3.out y hy
        · rw [List.mem_singleton.1 hy, HX.out]; exact hle⟩
    · have hgt : a < (X : Int) := by omega
      have Hle := Lib.hid hle
      clear hle
      gi_wp2
      exact ⟨KeepsFrom.refl _ _, rfl, I2.out, pre, x, rfl, by rw [HS.out, HV.out]; exact i1, I3.out, by rw [HX.out]; exact Hle.out⟩
  case' done =>
    rintro D xs W hD rfl ⟨i1, i2, i3⟩ hK
    have hp := pass_done b g c a hc i3
  case' stop =>
    rintro D cc pre W hD hpre ⟨rfl, i2, pre', x, rfl, i1, i3, i4⟩ hK
    have hp := pass_stop b g c a hc hpre i3 i4
    clear hpre i4
  all_goals
    clear i3
    rw [hp] at i1
    clear hp
    have hpl := passN_le b g c a
    have hcb := ch_bd (b + g) c hs
    obtain ⟨S, hS⟩ : ∃ S, passN b g c a = S := ⟨_, rfl⟩
    rw [hS] at i1 hpl
    have HS := Lib.hid hS
    have HT := Lib.hid (show T < H by have := HH.out; omega)
    have hw : wrap64 (S : Int) = (S : Int) := IntWalk.wrap64_in _ (by omega)
    rw [hw] at i1
    have y1 := i2.get (hO1.get k1 (by omega)) (by omega)
    have y2 := i2.get (hO1.get k2 (by omega)) (by omega)
    have yT : TriAt W T := i2.get ((hb1.block _ hT0.lt).trans hT0) (by have := HH.out; omega)
    have hDl := (Array.getElem?_eq_some_iff.1 hK).1
    have hHl := (Array.getElem?_eq_some_iff.1 i1).1
    have hbw : Below H w W := by have := (hb0.trans ((hb1.mono hb0.size).trans ((i2.below (n := w.heap.size) (by have := HH.out; omega) (by intro k hk; have := HH.out; omega))))); rw [HH.out]; exact this
    clear hw hS k1 k2 k3 hb0 hT hTl hM hT0 hb1 hO1 i2 hz0
    gi_wp2
    have hb50 : b + g ≤ 50 := hs
    have z1 : (b : Int) + (g : Int) < 51 := by omega
    have z2 : (c : Int) < 51 := by omega
    have z3 : ((b : Int) + (g : Int)).toNat = b + g := by omega
    have z4 : (0 : Int) ≤ (b : Int) + (g : Int) := by omega
    refine wpIn_mono (Q := fun e a' w' => e = .normal ∧ (∃ u25 u26 u27 u28 u29 u30 u31 u32 u33 u34 : Value, a' = ⟨#[.pointer (some ⟨T, 0, none⟩), .agg #[.int .i64 (b : Nat), .int .i64 (g : Nat)], .agg #[.int .i64 (c : Nat), .int .i64 a], undef, .pointer (some ⟨H, 0, none⟩), .pointer (some ⟨H + 1, 0, none⟩), .pointer (some ⟨H + 1 + 1, 0, none⟩), .int .i64 (ch (b + g) c : Nat), undef, undef, .pointer (some ⟨T, 0, none⟩), .agg #[.int .i64 (b : Nat), .int .i64 (g : Nat)], .pointer (some ⟨H + 1, 0, none⟩), .int .i64 (c : Nat), .func (.func 55) #[] #[.pointer (some ⟨H + 3 + 1 + 1, 0, none⟩), .pointer (some ⟨H + 3 + 1, 0, none⟩), .pointer (some ⟨H + 3, 0, none⟩)], undef, undef, undef, undef, undef, undef, undef, undef, undef, undef, u25, u26, u27, u28, u29, u30, u31, u32, u33, u34], [{ target := .collected D, args := #[] }]⟩) ∧ w'.heap[H]? = some (.cells #[.int .i64 (b : Nat), .int .i64 (g : Nat)] 61 (0, 0)) ∧ w'.heap[H + 1]? = some (.cells #[.int .i64 (c : Nat), .int .i64 a] 23 (0, 0)) ∧ w'.heap[H + 1 + 1]? = some (.cells #[.int .i64 (S : Nat)] 3 (0, 0)) ∧ TriAt w' T ∧ w'.heap[D]? = some (.deferred (some [])) ∧ Below H w w') ?_ ?_
    rotate_left
    · rintro e a3 W3 ⟨rfl, ⟨u25, u26, u27, u28, u29, u30, u31, u32, u33, u34, rfl⟩, s1, s2, s3, s4, s5, s6⟩
      have c3 := one_cell s3
      gi_wp2
      refine ⟨by simp, .inl ⟨_, _, rfl, run_takeDeferred s5, ?_⟩⟩
      have hg := grownBy_putObj' W3 D (.deferred none)
      have s3' : (W3.putObj D (.deferred none)).heap[H + 1 + 1]? = some (.cells #[.int .i64 (S : Nat)] 3 (0, 0)) := (World.putObj_heap_other (by omega)).trans s3
      have c3' := one_cell s3'
      refine ⟨.tuple #[.int .i64 (S : Nat), .int .i64 (ch (b + g) c : Nat)], ?_, ?_, ?_⟩
      · simp [results, Try.results25, go_sem, c3']
      · rw [HS.out]
      · rw [← HH.out]; exact s6.grown hg (by have := (Array.getElem?_eq_some_iff.1 s1).1; omega) (fun q e => by cases e; omega)
    refine region_lastIn (fun w' => w'.heap[H]? = some (.cells #[.int .i64 (b : Nat), .int .i64 (g : Nat)] 61 (0, 0)) ∧ w'.heap[H + 1]? = some (.cells #[.int .i64 (c : Nat), .int .i64 a] 23 (0, 0)) ∧ w'.heap[H + 1 + 1]? = some (.cells #[.int .i64 (S : Nat)] 3 (0, 0)) ∧ TriAt w' T ∧ w'.heap[D]? = some (.deferred (some [])) ∧ Below H w w') [] (by as_aux_lemma => kernel_rfl) ⟨y1, y2, i1, yT, hK, hbw.drew⟩ (fun hHeld => ?_)
    refine lastIn_take (i := 0) (oi := _) (v := ?_) rfl (by as_aux_lemma => kernel_rfl) (by as_aux_lemma => kernel_rfl) (by as_aux_lemma => kernel_rfl) (by as_aux_lemma => kernel_rfl) (by as_aux_lemma => kernel_rfl) (fun _ _ _ h => by cases h.1) (Or.inl ⟨by rfl, ?_⟩) hHeld ?_
    rotate_left
    · intro w1 hSw
      obtain ⟨s1, s2, s3, s4, s5, s6⟩ := hSw
      obtain ⟨d1, d2⟩ := two_cells s1
      obtain ⟨d3, d4⟩ := two_cells s2
      have d5 := one_cell s3
      have d6 := s4.cell (b + g) c hs (by omega)
      go_simp; with_reducible rfl
    simp only [List.getElem_toArray, List.getElem_cons_succ, List.getElem_cons_zero, Act.put, List.setIfInBounds_toArray, List.set_cons_zero, List.set_cons_succ]
    refine lastIn_take (i := 1) (oi := _) (v := ?_) rfl (by as_aux_lemma => kernel_rfl) (by as_aux_lemma => kernel_rfl) (by as_aux_lemma => kernel_rfl) (by as_aux_lemma => kernel_rfl) (by as_aux_lemma => kernel_rfl) (fun _ _ _ h => by cases h.1) (Or.inl ⟨by rfl, ?_⟩) hHeld ?_
    rotate_left
    · intro w1 hSw
      obtain ⟨s1, s2, s3, s4, s5, s6⟩ := hSw
      obtain ⟨d1, d2⟩ := two_cells s1
      obtain ⟨d3, d4⟩ := two_cells s2
      have d5 := one_cell s3
      have d6 := s4.cell (b + g) c hs (by omega)
      go_simp; with_reducible rfl
    simp only [List.getElem_toArray, List.getElem_cons_succ, List.getElem_cons_zero, Act.put, List.setIfInBounds_toArray, List.set_cons_zero, List.set_cons_succ]
    refine lastIn_take (i := 2) (oi := _) (v := ?_) rfl (by as_aux_lemma => kernel_rfl) (by as_aux_lemma => kernel_rfl) (by as_aux_lemma => kernel_rfl) (by as_aux_lemma => kernel_rfl) (by as_aux_lemma => kernel_rfl) (fun _ _ _ h => by cases h.1) (Or.inl ⟨by rfl, ?_⟩) hHeld ?_
    rotate_left
    · intro w1 hSw
      obtain ⟨s1, s2, s3, s4, s5, s6⟩ := hSw
      obtain ⟨d1, d2⟩ := two_cells s1
      obtain ⟨d3, d4⟩ := two_cells s2
      have d5 := one_cell s3
      have d6 := s4.cell (b + g) c hs (by omega)
      go_simp; with_reducible rfl
    simp only [List.getElem_toArray, List.getElem_cons_succ, List.getElem_cons_zero, Act.put, List.setIfInBounds_toArray, List.set_cons_zero, List.set_cons_succ]
    refine lastIn_take (i := 4) (oi := _) (v := ?_) rfl (by as_aux_lemma => kernel_rfl) (by as_aux_lemma => kernel_rfl) (by as_aux_lemma => kernel_rfl) (by as_aux_lemma => kernel_rfl) (by as_aux_lemma => kernel_rfl) (fun _ _ _ h => by cases h.1) (Or.inl ⟨by rfl, ?_⟩) hHeld ?_
    rotate_left
    · intro w1 hSw
      obtain ⟨s1, s2, s3, s4, s5, s6⟩ := hSw
      obtain ⟨d1, d2⟩ := two_cells s1
      obtain ⟨d3, d4⟩ := two_cells s2
      have d5 := one_cell s3
      have d6 := s4.cell (b + g) c hs (by omega)
      go_simp; with_reducible rfl
    simp only [List.getElem_toArray, List.getElem_cons_succ, List.getElem_cons_zero, Act.put, List.setIfInBounds_toArray, List.set_cons_zero, List.set_cons_succ]
    refine lastIn_take (i := 5) (oi := _) (v := ?_) rfl (by as_aux_lemma => kernel_rfl) (by as_aux_lemma => kernel_rfl) (by as_aux_lemma => kernel_rfl) (by as_aux_lemma => kernel_rfl) (by as_aux_lemma => kernel_rfl) (fun _ _ _ h => by cases h.1) (Or.inl ⟨by rfl, ?_⟩) hHeld ?_
    rotate_left
    · intro w1 hSw
      obtain ⟨s1, s2, s3, s4, s5, s6⟩ := hSw
      obtain ⟨d1, d2⟩ := two_cells s1
      obtain ⟨d3, d4⟩ := two_cells s2
      have d5 := one_cell s3
      have d6 := s4.cell (b + g) c hs (by omega)
      go_simp; with_reducible rfl
    simp only [List.getElem_toArray, List.getElem_cons_succ, List.getElem_cons_zero, Act.put, List.setIfInBounds_toArray, List.set_cons_zero, List.set_cons_succ]
    refine lastIn_take (i := 6) (oi := _) (v := ?_) rfl (by as_aux_lemma => kernel_rfl) (by as_aux_lemma => kernel_rfl) (by as_aux_lemma => kernel_rfl) (by as_aux_lemma => kernel_rfl) (by as_aux_lemma => kernel_rfl) (fun _ _ _ h => by cases h.1) (Or.inl ⟨by rfl, ?_⟩) hHeld ?_
    rotate_left
    · intro w1 hSw
      obtain ⟨s1, s2, s3, s4, s5, s6⟩ := hSw
      obtain ⟨d1, d2⟩ := two_cells s1
      obtain ⟨d3, d4⟩ := two_cells s2
      have d5 := one_cell s3
      have d6 := s4.cell (b + g) c hs (by omega)
      go_simp; with_reducible rfl
    simp only [List.getElem_toArray, List.getElem_cons_succ, List.getElem_cons_zero, Act.put, List.setIfInBounds_toArray, List.set_cons_zero, List.set_cons_succ]
    refine lastIn_ready (rs := [3]) (by as_aux_lemma => kernel_rfl) (by simp) ?_
    intro i hi; obtain rfl := List.mem_singleton.1 hi; clear hi
    refine wpOpIn_step rfl (fun K3 hK3 => ?_)
    have HK3 := Lib.hid hK3
    clear hK3
    rw [if_pos (by rfl)]
    simp only [Oper.wpIn, Oper.semAt_none]; go_simp
    obtain ⟨s1, s2, s3, s4, s5, s6⟩ := hHeld
    have hcn := count_any (b : Nat) (g : Nat) W.drew (by omega) (by omega)
    unfold mets at hcn
    refine ⟨trivial, callsIn_wide.2 (hcn.mono ?_)⟩
    rintro e w5 ⟨rfl, hb5⟩
    have hH5 : w5.heap[H]? = some (.cells #[.int .i64 (b : Nat), .int .i64 (g : Nat)] 61 (0, 0)) ∧ w5.heap[H + 1]? = some (.cells #[.int .i64 (c : Nat), .int .i64 a] 23 (0, 0)) ∧ w5.heap[H + 1 + 1]? = some (.cells #[.int .i64 (S : Nat)] 3 (0, 0)) ∧ TriAt w5 T ∧ w5.heap[D]? = some (.deferred (some [])) ∧ Below H w w5 := ⟨(hb5.block _ (Array.getElem?_eq_some_iff.1 s1).1).trans s1, (hb5.block _ (Array.getElem?_eq_some_iff.1 s2).1).trans s2, (hb5.block _ (Array.getElem?_eq_some_iff.1 s3).1).trans s3, (hb5.block _ (Array.getElem?_eq_some_iff.1 s4).1).trans s4, (hb5.block _ (Array.getElem?_eq_some_iff.1 s5).1).trans s5, s6.trans (hb5.mono (by show H ≤ W.heap.size; omega))⟩
    clear s1 s2 s3 s4 s5 s6 hcn
    refine HK3.out _ _ ⟨fun _ => hH5, fun _ => ?_⟩
    clear HK3 K3
    try simp only [List.getElem_toArray, List.getElem_cons_succ, List.getElem_cons_zero, Act.put, List.setIfInBounds_toArray, List.set_cons_zero, List.set_cons_succ]
    refine lastIn_take (i := 7) (oi := _) (v := ?_) rfl (by as_aux_lemma => kernel_rfl) (by as_aux_lemma => kernel_rfl) (by as_aux_lemma => kernel_rfl) (by as_aux_lemma => kernel_rfl) (by as_aux_lemma => kernel_rfl) (fun _ _ _ h => by cases h.1) (Or.inl ⟨by rfl, ?_⟩) hH5 ?_
    rotate_left
    · intro w1 hSw
      obtain ⟨s1, s2, s3, s4, s5, s6⟩ := hSw
      obtain ⟨d1, d2⟩ := two_cells s1
      obtain ⟨d3, d4⟩ := two_cells s2
      have d5 := one_cell s3
      have d6 := s4.cell (b + g) c hs (by omega)
      go_simp; with_reducible rfl
    simp only [List.getElem_toArray, List.getElem_cons_succ, List.getElem_cons_zero, Act.put, List.setIfInBounds_toArray, List.set_cons_zero, List.set_cons_succ]
    refine lastIn_take (i := 8) (oi := _) (v := ?_) rfl (by as_aux_lemma => kernel_rfl) (by as_aux_lemma => kernel_rfl) (by as_aux_lemma => kernel_rfl) (by as_aux_lemma => kernel_rfl) (by as_aux_lemma => kernel_rfl) (fun _ _ _ h => by cases h.1) (Or.inl ⟨by rfl, ?_⟩) hH5 ?_
    rotate_left
    · intro w1 hSw
      obtain ⟨s1, s2, s3, s4, s5, s6⟩ := hSw
      obtain ⟨d1, d2⟩ := two_cells s1
      obtain ⟨d3, d4⟩ := two_cells s2
      have d5 := one_cell s3
      have d6 := s4.cell (b + g) c hs (by omega)
      go_simp; with_reducible rfl
    simp only [List.getElem_toArray, List.getElem_cons_succ, List.getElem_cons_zero, Act.put, List.setIfInBounds_toArray, List.set_cons_zero, List.set_cons_succ]
    refine lastIn_take (i := 9) (oi := _) (v := ?_) rfl (by as_aux_lemma => kernel_rfl) (by as_aux_lemma => kernel_rfl) (by as_aux_lemma => kernel_rfl) (by as_aux_lemma => kernel_rfl) (by as_aux_lemma => kernel_rfl) (fun _ _ _ h => by cases h.1) (Or.inl ⟨by rfl, ?_⟩) hH5 ?_
    rotate_left
    · intro w1 hSw
      obtain ⟨s1, s2, s3, s4, s5, s6⟩ := hSw
      obtain ⟨d1, d2⟩ := two_cells s1
      obtain ⟨d3, d4⟩ := two_cells s2
      have d5 := one_cell s3
      have d6 := s4.cell (b + g) c hs (by omega)
      go_simp; with_reducible rfl
    simp only [List.getElem_toArray, List.getElem_cons_succ, List.getElem_cons_zero, Act.put, List.setIfInBounds_toArray, List.set_cons_zero, List.set_cons_succ]
    obtain ⟨s1, s2, s3, s4, s5, s6⟩ := hH5
    have d5 := one_cell s3
    have f5 : w5.frozen? ⟨H + 1 + 1, 0, none⟩ = false := frozen_of s3
    have n3 : H + 1 + 1 ≠ T := by have := HT.out; omega
    have n4 : D ≠ H + 1 + 1 := by omega
    have hset := set_one s3 (.int .i64 (S : Nat))
    have hH6 : (w5.setCell ⟨H + 1 + 1, 0, none⟩ (.int .i64 (S : Nat))).heap[H]? = some (.cells #[.int .i64 (b : Nat), .int .i64 (g : Nat)] 61 (0, 0)) ∧ (w5.setCell ⟨H + 1 + 1, 0, none⟩ (.int .i64 (S : Nat))).heap[H + 1]? = some (.cells #[.int .i64 (c : Nat), .int .i64 a] 23 (0, 0)) ∧ (w5.setCell ⟨H + 1 + 1, 0, none⟩ (.int .i64 (S : Nat))).heap[H + 1 + 1]? = some (.cells #[.int .i64 (S : Nat)] 3 (0, 0)) ∧ TriAt (w5.setCell ⟨H + 1 + 1, 0, none⟩ (.int .i64 (S : Nat))) T ∧ (w5.setCell ⟨H + 1 + 1, 0, none⟩ (.int .i64 (S : Nat))).heap[D]? = some (.deferred (some [])) ∧ Below H w (w5.setCell ⟨H + 1 + 1, 0, none⟩ (.int .i64 (S : Nat))) := by
      exact ⟨(Below.heap_setCell _ _ _ _ (by show H ≠ H + 1 + 1; omega)).trans s1, (Below.heap_setCell _ _ _ _ (by show H + 1 ≠ H + 1 + 1; omega)).trans s2, hset, (Below.heap_setCell _ _ _ _ (fun e => n3 e.symm)).trans s4, (Below.heap_setCell _ _ _ _ n4).trans s5, s6.setCell (p := ⟨H + 1 + 1, 0, none⟩) (by show H ≤ H + 1 + 1; omega) _⟩
    clear s1 s2 s3 s4 s5 s6 hset
    refine lastIn_ready (rs := [10]) (by as_aux_lemma => kernel_rfl) (by simp) ?_
    intro i hi; obtain rfl := List.mem_singleton.1 hi; clear hi
    refine wpOpIn_step rfl (fun K3 hK3 => ?_)
    have HK3 := Lib.hid hK3
    clear hK3
    rw [if_pos (by rfl)]
    simp only [Oper.wpIn, Oper.semAt_none]; go_simp
    refine HK3.out _ _ ⟨fun _ => hH6, fun _ => ?_⟩
    clear HK3 K3
    try simp only [List.getElem_toArray, List.getElem_cons_succ, List.getElem_cons_zero, Act.put, List.setIfInBounds_toArray, List.set_cons_zero, List.set_cons_succ]
    refine lastIn_ready (rs := [11]) (by as_aux_lemma => kernel_rfl) (by simp) ?_
    intro i hi; obtain rfl := List.mem_singleton.1 hi; clear hi
    refine wpOpIn_step rfl (fun K3 hK3 => ?_)
    have HK3 := Lib.hid hK3
    clear hK3
    rw [if_pos (by rfl)]
    simp only [Oper.wpIn, Oper.semAt_none]; go_simp
    refine HK3.out _ _ ⟨fun _ => hH6, fun _ => ?_⟩
    clear HK3 K3
    try simp only [List.getElem_toArray, List.getElem_cons_succ, List.getElem_cons_zero, Act.put, List.setIfInBounds_toArray, List.set_cons_zero, List.set_cons_succ]
    refine lastIn_done (by as_aux_lemma => kernel_rfl) ?_ _
    refine ⟨rfl, ⟨_, _, _, _, _, _, _, _, _, _, rfl⟩, hH6⟩
end Go.Proofs.Ytclcconllkfjiaa
