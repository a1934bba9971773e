/- What an iterator's rounds keep; the iterator of totals, its end. -/
import Derived.Test.YtmcndecmnfbggaaD18
import Derived.RangeFuncNested
import Derived.RangeFuncBound
import Derived.RangeFuncCalls
import Derived.RangeFuncLeaves
import Derived.Shelf.Abstract
import Derived.Shelf.RegionOpen
import Derived.OwnWalkIn
import Derived.TacticsInMore
import Derived.LoopNIn
import Derived.LoopIn
import Derived.Outline
namespace Go.Proofs.Ytmcndecmnfbggaa
set_option linter.unusedSimpArgs false
open Go.RowKit Go.Shelf
attribute [local go_sem] Oper.semAt_some

/-- what a round may turn beyond n0: rows of spans and their boxes, and what is no cells below B -/
def Keep (n0 B : Nat) (W W' : World) : Prop := Below n0 W W' ∧ W.heap.size ≤ W'.heap.size ∧ ∀ k o, W.heap[k]? = some o → (∀ cs t f, o = .cells cs t f → t ≠ 35 ∧ t ≠ 45) → (o.isCells = false → B ≤ k) → W'.heap[k]? = some o
theorem Keep.refl (n0 B : Nat) (W : World) : Keep n0 B W W := ⟨Below.refl _ _, Nat.le_refl _, fun _ _ h _ _ => h⟩
theorem Keep.trans {n0 B : Nat} {X Y Z : World} (h : Keep n0 B X Y) (k : Keep n0 B Y Z) : Keep n0 B X Z :=
  ⟨h.1.trans k.1, Nat.le_trans h.2.1 k.2.1, fun i o hi hc hn => k.2.2 i o (h.2.2 i o hi hc hn) hc hn⟩
theorem Keep.of_below {n0 B : Nat} {X Y : World} (h : Below X.heap.size X Y) (hn : n0 ≤ X.heap.size) : Keep n0 B X Y :=
  ⟨h.mono hn, h.size, fun i _ hi _ _ => (h.block i (Array.getElem?_eq_some_iff.1 hi).1).trans hi⟩
theorem Keep.weak {n0 B B' : Nat} {X Y : World} (h : Keep n0 B X Y) (hB : B ≤ B') : Keep n0 B' X Y :=
  ⟨h.1, h.2.1, fun i o hi hc hn => h.2.2 i o hi hc (fun e => Nat.le_trans hB (hn e))⟩
theorem Keep.cells {n0 B : Nat} {X Y : World} (h : Keep n0 B X Y) {k : Nat} {cs : Array Value} {t : TypeId} {f : Nat × Nat} (hk : X.heap[k]? = some (.cells cs t f)) (h1 : t ≠ 35) (h2 : t ≠ 45) : Y.heap[k]? = some (.cells cs t f) :=
  h.2.2 k _ hk (fun cs' t' f' e => by cases e; exact ⟨h1, h2⟩) (fun e => by cases e)
theorem own_below {β : Type} {B : Nat} {J : β → World → Prop} (hJ : OwnFrom B J) {s : β} {W W' : World} (h : J s W) (hb : Below W.heap.size W W') : J s W' :=
  hJ s W W' none h ⟨hb.os, hb.tape, hb.output, hb.size, fun k hk _ => hb.block k hk⟩ (fun r e => by cases e)

def encSp (x : Int × Int) : Value := .agg #[.int .i64 x.1, .int .i64 x.2]
/-- a state when so many digits are known -/
def StOk (s : St) (j : Nat) : Prop := s.drum = j ∧ s.size = 1000 * tenP j ∧ 0 ≤ s.digits ∧ s.digits ≤ s.size ∧ 0 ≤ s.lo ∧ s.lo ≤ s.hi ∧ s.hi ≤ 999
theorem st0_ok : StOk st0 0 := by unfold StOk st0 tenP; simp
theorem withS_ok {w f d : Int} (hw : 0 ≤ w ∧ w ≤ 999) (hd : 0 ≤ d ∧ d ≤ 9) {s s' : St} {j : Nat} (h : StOk s j) (hs : withS w s d f = some s') : StOk s' (j + 1) := by
  obtain ⟨h1, h2, h3, h4, h5, h6, h7⟩ := h
  have hn := near_spec w ((if s.moves then s.lo else 0) + d * 1000) ((if s.moves then s.hi else 0) + d * 1000) f hw (by split <;> omega)
  unfold withS at hs
  have hp := tenP_pos j
  have m0 : 0 ≤ d * s.size := Int.mul_nonneg hd.1 (by omega)
  have m1 : d * s.size ≤ 9 * s.size := Int.mul_le_mul_of_nonneg_right hd.2 (by omega)
  cases hnp : nearP w ((if s.moves then s.lo else 0) + d * 1000) ((if s.moves then s.hi else 0) + d * 1000) f with
  | none => rw [hnp] at hs; cases hs
  | some ab =>
    obtain ⟨a, b'⟩ := ab
    rw [hnp] at hn hs
    simp only [] at hn hs
    obtain ⟨n1, n2, n3, n4⟩ := hn
    simp only [Option.some.injEq] at hs
    subst hs
    unfold StOk
    have e : tenP (j + 1) = 10 * tenP j := rfl
    rw [e]
    simp only []
    refine ⟨by omega, by omega, by omega, by omega, ?_, ?_, ?_⟩
    · cases hm : s.moves <;> rw [hm] at n2 n3 <;> simp only [if_true, Bool.false_eq_true, if_false] at n2 n3 ⊢ <;> omega
    · cases hm : s.moves <;> simp only [if_true, Bool.false_eq_true, if_false] <;> omega
    · cases hm : s.moves <;> rw [hm] at n2 n3 <;> simp only [if_true, Bool.false_eq_true, if_false] at n2 n3 ⊢ <;> omega

/-- what the iterator reads -/
structure Mem (figs : List Int) (wi : Int) (fb off fc Bw n0 Rb Sb : Nat) (s : St) (W : World) : Prop where
  r : W.heap[Rb]? = some (.cells #[.slice (some ⟨fb, off, none⟩) figs.length fc, .func (.func 56) #[] #[.pointer (some ⟨Bw, 0, none⟩)]] 71 (0, 0))
  s : W.heap[Sb]? = some (.cells #[.int .i64 s.drum, .int .i64 s.size, .int .i64 s.digits, .int .i64 s.lo, .int .i64 s.hi, .bool s.moves] 88 (0, 0))
  f : ∀ i, i < figs.length → W.cell? ⟨fb, off + i, none⟩ = some (.int .i64 (figs.getD i 0))
  b : W.cell? ⟨Bw, 0, none⟩ = some (.int .i64 wi)
  fb : fb < n0
  bb : Bw < n0
theorem Mem.keep {figs : List Int} {wi : Int} {fb off fc Bw n0 Rb Sb B : Nat} {s : St} {W W' : World} (h : Mem figs wi fb off fc Bw n0 Rb Sb s W) (k : Keep n0 B W W') : Mem figs wi fb off fc Bw n0 Rb Sb s W' :=
  ⟨k.cells h.r (by decide) (by decide), k.cells h.s (by decide) (by decide), fun i hi => (k.1.cell (p := ⟨fb, off + i, none⟩) h.fb).trans (h.f i hi), (k.1.cell (p := ⟨Bw, 0, none⟩) h.bb).trans h.b, h.fb, h.bb⟩

set_option maxRecDepth 100000 in
set_option maxHeartbeats 3200000 in
theorem iter_nil (figs : List Int) (wi : Int) (fb off fc Bw n0 Rb Sb l B N : Nat) (s : St) (hlen : figs.length ≤ 6) (hs : StOk s figs.length) (J : List (Int × Int) → World → Prop) (pre : List (Int × Int)) (W : World)
    (hn : n0 ≤ B) (hB : B ≤ W.heap.size) (hJ : OwnFrom B J)
    (hY : ∀ pre x W1, J pre W1 → pre.length < N → YieldAt Fence.wide 8 Try.prog l #[encSp x] W1 fun e W' => e = .returned (.bool true) ∧ J (pre ++ [x]) W' ∧ Keep n0 B W1 W')
    (hM : Mem figs wi fb off fc Bw n0 Rb Sb s W) (hN : pre.length + 1 ≤ N) (h0 : J pre W) :
    CallsIn Fence.wide 9 Try.prog 64 #[.func (.yield l) #[] #[], .pointer (some ⟨Sb, 0, none⟩), .pointer (some ⟨Rb, 0, none⟩)] W fun e W' => (∃ v, e = .returned v) ∧ J (pre ++ [(s.lo + s.digits, s.hi + s.digits)]) W' ∧ Keep n0 B W W' := by
  obtain ⟨dr, sz, dg, lo, hi, mv⟩ := s
  obtain ⟨h1, h2, h3, h4, h5, h6, h7⟩ := hs
  simp only [] at h1 h2 h3 h4 h5 h6 h7 ⊢
  have htp := tenP_bd figs.length hlen
  have hM' := hM
  obtain ⟨gr, gs, gf, gb, l1, l2⟩ := hM'
  obtain ⟨W0, hW0⟩ : ∃ X, X = W.alloc (.cells #[.func (.yield l) #[] #[]] 95) := ⟨_, rfl⟩
  have hb0 : Below W.heap.size W W0 := by rw [hW0]; exact (Below.refl _ _).alloc (Nat.le_refl _) _
  have gy : W0.heap[W.heap.size]? = some (.cells #[.func (.yield l) #[] #[]] 95 (0, 0)) := by rw [hW0]; exact (MapKept.heap_alloc W _).1
  have gr0 := (hb0.block Rb (Array.getElem?_eq_some_iff.1 gr).1).trans gr
  have gs0 := (hb0.block Sb (Array.getElem?_eq_some_iff.1 gs).1).trans gs
  simp only [] at gs0
  obtain ⟨r0, r1⟩ := two_cells gr0
  obtain ⟨q0, q1, q2, q3, q4, q5⟩ := six_cells gs0
  have y0 : W0.cell? ⟨W.heap.size, 0, none⟩ = some (.func (.yield l) #[] #[]) := by simp [World.cell?, gy]
  subst h1
  refine callsIn_of_wp_marks Try.func64 rfl trivial ?_ rfl
  simp only [Try.ntmps64, List.size_toArray, List.length_cons, List.length_nil, Nat.reduceAdd, Nat.reduceSub, Array.replicate_succ, Array.replicate_zero, List.push_toArray, List.append_toArray, List.nil_append, List.cons_append]
  gi_wp2
  rw [← hW0]
  clear hW0
  refine wpIn_wide.2 ?_
  go_step3
  go_wp2_with fail
  refine (wpIn_wide (n := 9)).1 ?_
  refine wpIn_mono (Q := fun e a' w' => e = .normal ∧ a'.defers = [] ∧ J (pre ++ [(lo + dg, hi + dg)]) w' ∧ Keep n0 B W w') ?_ ?_
  rotate_left
  · intro e a3 W3 hp
    obtain ⟨rfl, hd, hJ3, hk3⟩ := hp
    obtain ⟨tm, df⟩ := a3
    simp only [] at hd
    subst hd
    go_wp2
    rw [Exit.noGoto_ret]
    exact ⟨_, results_none rfl _ _ _, ⟨_, rfl⟩, hJ3, hk3⟩
  refine wpIn_region_any (by kernel_rfl) ?_
  refine wpAnyIn_take (i := 1) (oi := _) (v := ?_) rfl rfl (by kernel_rfl) (by kernel_rfl) (by kernel_rfl) (fun _ _ _ h => by cases h.1) ⟨Or.inl ⟨by rfl, ?_⟩, ?_⟩ ?_
  rotate_left
  · intro w1
    go_simp; with_reducible rfl
  · intro w1
    rfl
  simp only [List.getElem_toArray, List.getElem_cons_succ, List.getElem_cons_zero, Act.put, List.setIfInBounds_toArray, List.set_cons_zero, List.set_cons_succ]
  refine wpAnyIn_take (i := 3) (oi := _) (v := ?_) rfl rfl (by kernel_rfl) (by kernel_rfl) (by kernel_rfl) (fun _ _ _ h => by cases h.1) ⟨Or.inl ⟨by rfl, ?_⟩, ?_⟩ ?_
  rotate_left
  · intro w1
    go_simp; with_reducible rfl
  · intro w1
    rfl
  simp only [List.getElem_toArray, List.getElem_cons_succ, List.getElem_cons_zero, Act.put, List.setIfInBounds_toArray, List.set_cons_zero, List.set_cons_succ]
  refine wpAnyIn_all (rs := [0, 2, 4]) (by kernel_rfl) (by simp) ?_
  intro i hi
  rcases (by simpa using hi : i = 0 ∨ i = 2 ∨ i = 4) with rfl | rfl | rfl <;> clear hi
  ·
    refine wpOpIn_step rfl (fun K3 hK3 => ?_)
    have HK3 := Lib.hid hK3
    clear hK3
    rw [if_pos (by rfl)]
    simp only [Oper.wpIn, Oper.semAt_none]; go_simp
    refine HK3.out _ _ ?_
    clear HK3 K3
    try simp only [List.getElem_toArray, List.getElem_cons_succ, List.getElem_cons_zero, Act.put, List.setIfInBounds_toArray, List.set_cons_zero, List.set_cons_succ]
    refine wpAnyIn_all (rs := [2, 4]) (by kernel_rfl) (by simp) ?_
    intro i hi
    rcases (by simpa using hi : i = 2 ∨ i = 4) with rfl | rfl <;> clear hi
    ·
      refine wpOpIn_step rfl (fun K3 hK3 => ?_)
      have HK3 := Lib.hid hK3
      clear hK3
      rw [if_pos (by rfl)]
      simp only [Oper.wpIn, Oper.semAt_none]; go_simp
      refine HK3.out _ _ ?_
      clear HK3 K3
      try simp only [List.getElem_toArray, List.getElem_cons_succ, List.getElem_cons_zero, Act.put, List.setIfInBounds_toArray, List.set_cons_zero, List.set_cons_succ]
      refine wpAnyIn_all (rs := [4]) (by kernel_rfl) (by simp) ?_
      intro i hi; obtain rfl := List.mem_singleton.1 hi; clear hi
      refine wpOpIn_step rfl (fun K3 hK3 => ?_)
      have HK3 := Lib.hid hK3
      clear hK3
      rw [if_pos (by rfl)]
      simp only [Oper.wpIn, Oper.semAt_none]; go_simp
      refine HK3.out _ _ ?_
      clear HK3 K3
      try simp only [List.getElem_toArray, List.getElem_cons_succ, List.getElem_cons_zero, Act.put, List.setIfInBounds_toArray, List.set_cons_zero, List.set_cons_succ]
      refine wpAnyIn_all (rs := [5]) (by kernel_rfl) (by simp) ?_
      intro i hi; obtain rfl := List.mem_singleton.1 hi; clear hi
      refine wpOpIn_step rfl (fun K3 hK3 => ?_)
      have HK3 := Lib.hid hK3
      clear hK3
      rw [if_pos (by rfl)]
      simp only [Oper.wpIn, Oper.semAt_none]; go_simp
      refine ⟨trivial, (callsIn_wide (n := 8)).2 ((shift_any lo hi dg _ (by omega) (by omega) (by omega)).mono ?_)⟩
      rintro e w1 ⟨rfl, hy1⟩
      have gy1 := (hy1.block _ (Array.getElem?_eq_some_iff.1 gy).1).trans gy
      have y1 : w1.cell? ⟨W.heap.size, 0, none⟩ = some (.func (.yield l) #[] #[]) := by simp [World.cell?, gy1]
      have hbw1 : Below W.heap.size W w1 := (hb0.trans (show Below W.heap.size W0 W0.drew from below_drewN' (Below.refl _ _) 1)).trans (hy1.mono hb0.size)
      refine HK3.out _ _ ?_
      clear HK3 K3
      try simp only [List.getElem_toArray, List.getElem_cons_succ, List.getElem_cons_zero, Act.put, List.setIfInBounds_toArray, List.set_cons_zero, List.set_cons_succ]
      refine wpAnyIn_all (rs := [6]) (by kernel_rfl) (by simp) ?_
      intro i hi; obtain rfl := List.mem_singleton.1 hi; clear hi
      refine wpOpIn_step rfl (fun K3 hK3 => ?_)
      have HK3 := Lib.hid hK3
      clear hK3
      rw [if_pos (by rfl)]
      obtain ⟨fn, tmps, assign, body, hy, hR⟩ := hY pre (lo + dg, hi + dg) w1 (own_below hJ h0 hbw1) (by omega)
      unfold encSp at hy
      simp only [Oper.wpIn, Oper.semAt_none]; go_simp
      refine hR.mono ?_
      rintro e W3 ⟨rfl, hJ3, hk3⟩
      refine HK3.out _ _ ?_
      clear HK3 K3
      try simp only [List.getElem_toArray, List.getElem_cons_succ, List.getElem_cons_zero, Act.put, List.setIfInBounds_toArray, List.set_cons_zero, List.set_cons_succ]
      refine wpAnyIn_done (by kernel_rfl) ?_ _
      exact ⟨rfl, rfl, hJ3, (Keep.of_below hbw1 (by omega)).trans hk3⟩
    ·
      refine wpOpIn_step rfl (fun K3 hK3 => ?_)
      have HK3 := Lib.hid hK3
      clear hK3
      rw [if_pos (by rfl)]
      simp only [Oper.wpIn, Oper.semAt_none]; go_simp
      refine HK3.out _ _ ?_
      clear HK3 K3
      try simp only [List.getElem_toArray, List.getElem_cons_succ, List.getElem_cons_zero, Act.put, List.setIfInBounds_toArray, List.set_cons_zero, List.set_cons_succ]
      refine wpAnyIn_all (rs := [2]) (by kernel_rfl) (by simp) ?_
      intro i hi; obtain rfl := List.mem_singleton.1 hi; clear hi
      refine wpOpIn_step rfl (fun K3 hK3 => ?_)
      have HK3 := Lib.hid hK3
      clear hK3
      rw [if_pos (by rfl)]
      simp only [Oper.wpIn, Oper.semAt_none]; go_simp
      refine HK3.out _ _ ?_
      clear HK3 K3
      try simp only [List.getElem_toArray, List.getElem_cons_succ, List.getElem_cons_zero, Act.put, List.setIfInBounds_toArray, List.set_cons_zero, List.set_cons_succ]
      refine wpAnyIn_all (rs := [5]) (by kernel_rfl) (by simp) ?_
      intro i hi; obtain rfl := List.mem_singleton.1 hi; clear hi
      refine wpOpIn_step rfl (fun K3 hK3 => ?_)
      have HK3 := Lib.hid hK3
      clear hK3
      rw [if_pos (by rfl)]
      simp only [Oper.wpIn, Oper.semAt_none]; go_simp
      refine ⟨trivial, (callsIn_wide (n := 8)).2 ((shift_any lo hi dg _ (by omega) (by omega) (by omega)).mono ?_)⟩
      rintro e w1 ⟨rfl, hy1⟩
      have gy1 := (hy1.block _ (Array.getElem?_eq_some_iff.1 gy).1).trans gy
      have y1 : w1.cell? ⟨W.heap.size, 0, none⟩ = some (.func (.yield l) #[] #[]) := by simp [World.cell?, gy1]
      have hbw1 : Below W.heap.size W w1 := (hb0.trans (show Below W.heap.size W0 W0.drew from below_drewN' (Below.refl _ _) 1)).trans (hy1.mono hb0.size)
      refine HK3.out _ _ ?_
      clear HK3 K3
      try simp only [List.getElem_toArray, List.getElem_cons_succ, List.getElem_cons_zero, Act.put, List.setIfInBounds_toArray, List.set_cons_zero, List.set_cons_succ]
      refine wpAnyIn_all (rs := [6]) (by kernel_rfl) (by simp) ?_
      intro i hi; obtain rfl := List.mem_singleton.1 hi; clear hi
      refine wpOpIn_step rfl (fun K3 hK3 => ?_)
      have HK3 := Lib.hid hK3
      clear hK3
      rw [if_pos (by rfl)]
      obtain ⟨fn, tmps, assign, body, hy, hR⟩ := hY pre (lo + dg, hi + dg) w1 (own_below hJ h0 hbw1) (by omega)
      unfold encSp at hy
      simp only [Oper.wpIn, Oper.semAt_none]; go_simp
      refine hR.mono ?_
      rintro e W3 ⟨rfl, hJ3, hk3⟩
      refine HK3.out _ _ ?_
      clear HK3 K3
      try simp only [List.getElem_toArray, List.getElem_cons_succ, List.getElem_cons_zero, Act.put, List.setIfInBounds_toArray, List.set_cons_zero, List.set_cons_succ]
      refine wpAnyIn_done (by kernel_rfl) ?_ _
      exact ⟨rfl, rfl, hJ3, (Keep.of_below hbw1 (by omega)).trans hk3⟩
  ·
    refine wpOpIn_step rfl (fun K3 hK3 => ?_)
    have HK3 := Lib.hid hK3
    clear hK3
    rw [if_pos (by rfl)]
    simp only [Oper.wpIn, Oper.semAt_none]; go_simp
    refine HK3.out _ _ ?_
    clear HK3 K3
    try simp only [List.getElem_toArray, List.getElem_cons_succ, List.getElem_cons_zero, Act.put, List.setIfInBounds_toArray, List.set_cons_zero, List.set_cons_succ]
    refine wpAnyIn_all (rs := [0, 4]) (by kernel_rfl) (by simp) ?_
    intro i hi
    rcases (by simpa using hi : i = 0 ∨ i = 4) with rfl | rfl <;> clear hi
    ·
      refine wpOpIn_step rfl (fun K3 hK3 => ?_)
      have HK3 := Lib.hid hK3
      clear hK3
      rw [if_pos (by rfl)]
      simp only [Oper.wpIn, Oper.semAt_none]; go_simp
      refine HK3.out _ _ ?_
      clear HK3 K3
      try simp only [List.getElem_toArray, List.getElem_cons_succ, List.getElem_cons_zero, Act.put, List.setIfInBounds_toArray, List.set_cons_zero, List.set_cons_succ]
      refine wpAnyIn_all (rs := [4]) (by kernel_rfl) (by simp) ?_
      intro i hi; obtain rfl := List.mem_singleton.1 hi; clear hi
      refine wpOpIn_step rfl (fun K3 hK3 => ?_)
      have HK3 := Lib.hid hK3
      clear hK3
      rw [if_pos (by rfl)]
      simp only [Oper.wpIn, Oper.semAt_none]; go_simp
      refine HK3.out _ _ ?_
      clear HK3 K3
      try simp only [List.getElem_toArray, List.getElem_cons_succ, List.getElem_cons_zero, Act.put, List.setIfInBounds_toArray, List.set_cons_zero, List.set_cons_succ]
      refine wpAnyIn_all (rs := [5]) (by kernel_rfl) (by simp) ?_
      intro i hi; obtain rfl := List.mem_singleton.1 hi; clear hi
      refine wpOpIn_step rfl (fun K3 hK3 => ?_)
      have HK3 := Lib.hid hK3
      clear hK3
      rw [if_pos (by rfl)]
      simp only [Oper.wpIn, Oper.semAt_none]; go_simp
      refine ⟨trivial, (callsIn_wide (n := 8)).2 ((shift_any lo hi dg _ (by omega) (by omega) (by omega)).mono ?_)⟩
      rintro e w1 ⟨rfl, hy1⟩
      have gy1 := (hy1.block _ (Array.getElem?_eq_some_iff.1 gy).1).trans gy
      have y1 : w1.cell? ⟨W.heap.size, 0, none⟩ = some (.func (.yield l) #[] #[]) := by simp [World.cell?, gy1]
      have hbw1 : Below W.heap.size W w1 := (hb0.trans (show Below W.heap.size W0 W0.drew from below_drewN' (Below.refl _ _) 1)).trans (hy1.mono hb0.size)
      refine HK3.out _ _ ?_
      clear HK3 K3
      try simp only [List.getElem_toArray, List.getElem_cons_succ, List.getElem_cons_zero, Act.put, List.setIfInBounds_toArray, List.set_cons_zero, List.set_cons_succ]
      refine wpAnyIn_all (rs := [6]) (by kernel_rfl) (by simp) ?_
      intro i hi; obtain rfl := List.mem_singleton.1 hi; clear hi
      refine wpOpIn_step rfl (fun K3 hK3 => ?_)
      have HK3 := Lib.hid hK3
      clear hK3
      rw [if_pos (by rfl)]
      obtain ⟨fn, tmps, assign, body, hy, hR⟩ := hY pre (lo + dg, hi + dg) w1 (own_below hJ h0 hbw1) (by omega)
      unfold encSp at hy
      simp only [Oper.wpIn, Oper.semAt_none]; go_simp
      refine hR.mono ?_
      rintro e W3 ⟨rfl, hJ3, hk3⟩
      refine HK3.out _ _ ?_
      clear HK3 K3
      try simp only [List.getElem_toArray, List.getElem_cons_succ, List.getElem_cons_zero, Act.put, List.setIfInBounds_toArray, List.set_cons_zero, List.set_cons_succ]
      refine wpAnyIn_done (by kernel_rfl) ?_ _
      exact ⟨rfl, rfl, hJ3, (Keep.of_below hbw1 (by omega)).trans hk3⟩
    ·
      refine wpOpIn_step rfl (fun K3 hK3 => ?_)
      have HK3 := Lib.hid hK3
      clear hK3
      rw [if_pos (by rfl)]
      simp only [Oper.wpIn, Oper.semAt_none]; go_simp
      refine HK3.out _ _ ?_
      clear HK3 K3
      try simp only [List.getElem_toArray, List.getElem_cons_succ, List.getElem_cons_zero, Act.put, List.setIfInBounds_toArray, List.set_cons_zero, List.set_cons_succ]
      refine wpAnyIn_all (rs := [0, 5]) (by kernel_rfl) (by simp) ?_
      intro i hi
      rcases (by simpa using hi : i = 0 ∨ i = 5) with rfl | rfl <;> clear hi
      ·
        refine wpOpIn_step rfl (fun K3 hK3 => ?_)
        have HK3 := Lib.hid hK3
        clear hK3
        rw [if_pos (by rfl)]
        simp only [Oper.wpIn, Oper.semAt_none]; go_simp
        refine HK3.out _ _ ?_
        clear HK3 K3
        try simp only [List.getElem_toArray, List.getElem_cons_succ, List.getElem_cons_zero, Act.put, List.setIfInBounds_toArray, List.set_cons_zero, List.set_cons_succ]
        refine wpAnyIn_all (rs := [5]) (by kernel_rfl) (by simp) ?_
        intro i hi; obtain rfl := List.mem_singleton.1 hi; clear hi
        refine wpOpIn_step rfl (fun K3 hK3 => ?_)
        have HK3 := Lib.hid hK3
        clear hK3
        rw [if_pos (by rfl)]
        simp only [Oper.wpIn, Oper.semAt_none]; go_simp
        refine ⟨trivial, (callsIn_wide (n := 8)).2 ((shift_any lo hi dg _ (by omega) (by omega) (by omega)).mono ?_)⟩
        rintro e w1 ⟨rfl, hy1⟩
        have gy1 := (hy1.block _ (Array.getElem?_eq_some_iff.1 gy).1).trans gy
        have y1 : w1.cell? ⟨W.heap.size, 0, none⟩ = some (.func (.yield l) #[] #[]) := by simp [World.cell?, gy1]
        have hbw1 : Below W.heap.size W w1 := (hb0.trans (show Below W.heap.size W0 W0.drew from below_drewN' (Below.refl _ _) 1)).trans (hy1.mono hb0.size)
        refine HK3.out _ _ ?_
        clear HK3 K3
        try simp only [List.getElem_toArray, List.getElem_cons_succ, List.getElem_cons_zero, Act.put, List.setIfInBounds_toArray, List.set_cons_zero, List.set_cons_succ]
        refine wpAnyIn_all (rs := [6]) (by kernel_rfl) (by simp) ?_
        intro i hi; obtain rfl := List.mem_singleton.1 hi; clear hi
        refine wpOpIn_step rfl (fun K3 hK3 => ?_)
        have HK3 := Lib.hid hK3
        clear hK3
        rw [if_pos (by rfl)]
        obtain ⟨fn, tmps, assign, body, hy, hR⟩ := hY pre (lo + dg, hi + dg) w1 (own_below hJ h0 hbw1) (by omega)
        unfold encSp at hy
        simp only [Oper.wpIn, Oper.semAt_none]; go_simp
        refine hR.mono ?_
        rintro e W3 ⟨rfl, hJ3, hk3⟩
        refine HK3.out _ _ ?_
        clear HK3 K3
        try simp only [List.getElem_toArray, List.getElem_cons_succ, List.getElem_cons_zero, Act.put, List.setIfInBounds_toArray, List.set_cons_zero, List.set_cons_succ]
        refine wpAnyIn_done (by kernel_rfl) ?_ _
        exact ⟨rfl, rfl, hJ3, (Keep.of_below hbw1 (by omega)).trans hk3⟩
      ·
        refine wpOpIn_step rfl (fun K3 hK3 => ?_)
        have HK3 := Lib.hid hK3
        clear hK3
        rw [if_pos (by rfl)]
        simp only [Oper.wpIn, Oper.semAt_none]; go_simp
        refine ⟨trivial, (callsIn_wide (n := 8)).2 ((shift_any lo hi dg _ (by omega) (by omega) (by omega)).mono ?_)⟩
        rintro e w1 ⟨rfl, hy1⟩
        have gy1 := (hy1.block _ (Array.getElem?_eq_some_iff.1 gy).1).trans gy
        have y1 : w1.cell? ⟨W.heap.size, 0, none⟩ = some (.func (.yield l) #[] #[]) := by simp [World.cell?, gy1]
        have hbw1 : Below W.heap.size W w1 := (hb0.trans (show Below W.heap.size W0 W0.drew from below_drewN' (Below.refl _ _) 1)).trans (hy1.mono hb0.size)
        refine HK3.out _ _ ?_
        clear HK3 K3
        try simp only [List.getElem_toArray, List.getElem_cons_succ, List.getElem_cons_zero, Act.put, List.setIfInBounds_toArray, List.set_cons_zero, List.set_cons_succ]
        refine wpAnyIn_all (rs := [0]) (by kernel_rfl) (by simp) ?_
        intro i hi; obtain rfl := List.mem_singleton.1 hi; clear hi
        refine wpOpIn_step rfl (fun K3 hK3 => ?_)
        have HK3 := Lib.hid hK3
        clear hK3
        rw [if_pos (by rfl)]
        simp only [Oper.wpIn, Oper.semAt_none]; go_simp
        refine HK3.out _ _ ?_
        clear HK3 K3
        try simp only [List.getElem_toArray, List.getElem_cons_succ, List.getElem_cons_zero, Act.put, List.setIfInBounds_toArray, List.set_cons_zero, List.set_cons_succ]
        refine wpAnyIn_all (rs := [6]) (by kernel_rfl) (by simp) ?_
        intro i hi; obtain rfl := List.mem_singleton.1 hi; clear hi
        refine wpOpIn_step rfl (fun K3 hK3 => ?_)
        have HK3 := Lib.hid hK3
        clear hK3
        rw [if_pos (by rfl)]
        obtain ⟨fn, tmps, assign, body, hy, hR⟩ := hY pre (lo + dg, hi + dg) w1 (own_below hJ h0 hbw1) (by omega)
        unfold encSp at hy
        simp only [Oper.wpIn, Oper.semAt_none]; go_simp
        refine hR.mono ?_
        rintro e W3 ⟨rfl, hJ3, hk3⟩
        refine HK3.out _ _ ?_
        clear HK3 K3
        try simp only [List.getElem_toArray, List.getElem_cons_succ, List.getElem_cons_zero, Act.put, List.setIfInBounds_toArray, List.set_cons_zero, List.set_cons_succ]
        refine wpAnyIn_done (by kernel_rfl) ?_ _
        exact ⟨rfl, rfl, hJ3, (Keep.of_below hbw1 (by omega)).trans hk3⟩
  ·
    refine wpOpIn_step rfl (fun K3 hK3 => ?_)
    have HK3 := Lib.hid hK3
    clear hK3
    rw [if_pos (by rfl)]
    simp only [Oper.wpIn, Oper.semAt_none]; go_simp
    refine HK3.out _ _ ?_
    clear HK3 K3
    try simp only [List.getElem_toArray, List.getElem_cons_succ, List.getElem_cons_zero, Act.put, List.setIfInBounds_toArray, List.set_cons_zero, List.set_cons_succ]
    refine wpAnyIn_all (rs := [0, 2]) (by kernel_rfl) (by simp) ?_
    intro i hi
    rcases (by simpa using hi : i = 0 ∨ i = 2) with rfl | rfl <;> clear hi
    ·
      refine wpOpIn_step rfl (fun K3 hK3 => ?_)
      have HK3 := Lib.hid hK3
      clear hK3
      rw [if_pos (by rfl)]
      simp only [Oper.wpIn, Oper.semAt_none]; go_simp
      refine HK3.out _ _ ?_
      clear HK3 K3
      try simp only [List.getElem_toArray, List.getElem_cons_succ, List.getElem_cons_zero, Act.put, List.setIfInBounds_toArray, List.set_cons_zero, List.set_cons_succ]
      refine wpAnyIn_all (rs := [2]) (by kernel_rfl) (by simp) ?_
      intro i hi; obtain rfl := List.mem_singleton.1 hi; clear hi
      refine wpOpIn_step rfl (fun K3 hK3 => ?_)
      have HK3 := Lib.hid hK3
      clear hK3
      rw [if_pos (by rfl)]
      simp only [Oper.wpIn, Oper.semAt_none]; go_simp
      refine HK3.out _ _ ?_
      clear HK3 K3
      try simp only [List.getElem_toArray, List.getElem_cons_succ, List.getElem_cons_zero, Act.put, List.setIfInBounds_toArray, List.set_cons_zero, List.set_cons_succ]
      refine wpAnyIn_all (rs := [5]) (by kernel_rfl) (by simp) ?_
      intro i hi; obtain rfl := List.mem_singleton.1 hi; clear hi
      refine wpOpIn_step rfl (fun K3 hK3 => ?_)
      have HK3 := Lib.hid hK3
      clear hK3
      rw [if_pos (by rfl)]
      simp only [Oper.wpIn, Oper.semAt_none]; go_simp
      refine ⟨trivial, (callsIn_wide (n := 8)).2 ((shift_any lo hi dg _ (by omega) (by omega) (by omega)).mono ?_)⟩
      rintro e w1 ⟨rfl, hy1⟩
      have gy1 := (hy1.block _ (Array.getElem?_eq_some_iff.1 gy).1).trans gy
      have y1 : w1.cell? ⟨W.heap.size, 0, none⟩ = some (.func (.yield l) #[] #[]) := by simp [World.cell?, gy1]
      have hbw1 : Below W.heap.size W w1 := (hb0.trans (show Below W.heap.size W0 W0.drew from below_drewN' (Below.refl _ _) 1)).trans (hy1.mono hb0.size)
      refine HK3.out _ _ ?_
      clear HK3 K3
      try simp only [List.getElem_toArray, List.getElem_cons_succ, List.getElem_cons_zero, Act.put, List.setIfInBounds_toArray, List.set_cons_zero, List.set_cons_succ]
      refine wpAnyIn_all (rs := [6]) (by kernel_rfl) (by simp) ?_
      intro i hi; obtain rfl := List.mem_singleton.1 hi; clear hi
      refine wpOpIn_step rfl (fun K3 hK3 => ?_)
      have HK3 := Lib.hid hK3
      clear hK3
      rw [if_pos (by rfl)]
      obtain ⟨fn, tmps, assign, body, hy, hR⟩ := hY pre (lo + dg, hi + dg) w1 (own_below hJ h0 hbw1) (by omega)
      unfold encSp at hy
      simp only [Oper.wpIn, Oper.semAt_none]; go_simp
      refine hR.mono ?_
      rintro e W3 ⟨rfl, hJ3, hk3⟩
      refine HK3.out _ _ ?_
      clear HK3 K3
      try simp only [List.getElem_toArray, List.getElem_cons_succ, List.getElem_cons_zero, Act.put, List.setIfInBounds_toArray, List.set_cons_zero, List.set_cons_succ]
      refine wpAnyIn_done (by kernel_rfl) ?_ _
      exact ⟨rfl, rfl, hJ3, (Keep.of_below hbw1 (by omega)).trans hk3⟩
    ·
      refine wpOpIn_step rfl (fun K3 hK3 => ?_)
      have HK3 := Lib.hid hK3
      clear hK3
      rw [if_pos (by rfl)]
      simp only [Oper.wpIn, Oper.semAt_none]; go_simp
      refine HK3.out _ _ ?_
      clear HK3 K3
      try simp only [List.getElem_toArray, List.getElem_cons_succ, List.getElem_cons_zero, Act.put, List.setIfInBounds_toArray, List.set_cons_zero, List.set_cons_succ]
      refine wpAnyIn_all (rs := [0, 5]) (by kernel_rfl) (by simp) ?_
      intro i hi
      rcases (by simpa using hi : i = 0 ∨ i = 5) with rfl | rfl <;> clear hi
      ·
        refine wpOpIn_step rfl (fun K3 hK3 => ?_)
        have HK3 := Lib.hid hK3
        clear hK3
        rw [if_pos (by rfl)]
        simp only [Oper.wpIn, Oper.semAt_none]; go_simp
        refine HK3.out _ _ ?_
        clear HK3 K3
        try simp only [List.getElem_toArray, List.getElem_cons_succ, List.getElem_cons_zero, Act.put, List.setIfInBounds_toArray, List.set_cons_zero, List.set_cons_succ]
        refine wpAnyIn_all (rs := [5]) (by kernel_rfl) (by simp) ?_
        intro i hi; obtain rfl := List.mem_singleton.1 hi; clear hi
        refine wpOpIn_step rfl (fun K3 hK3 => ?_)
        have HK3 := Lib.hid hK3
        clear hK3
        rw [if_pos (by rfl)]
        simp only [Oper.wpIn, Oper.semAt_none]; go_simp
        refine ⟨trivial, (callsIn_wide (n := 8)).2 ((shift_any lo hi dg _ (by omega) (by omega) (by omega)).mono ?_)⟩
        rintro e w1 ⟨rfl, hy1⟩
        have gy1 := (hy1.block _ (Array.getElem?_eq_some_iff.1 gy).1).trans gy
        have y1 : w1.cell? ⟨W.heap.size, 0, none⟩ = some (.func (.yield l) #[] #[]) := by simp [World.cell?, gy1]
        have hbw1 : Below W.heap.size W w1 := (hb0.trans (show Below W.heap.size W0 W0.drew from below_drewN' (Below.refl _ _) 1)).trans (hy1.mono hb0.size)
        refine HK3.out _ _ ?_
        clear HK3 K3
        try simp only [List.getElem_toArray, List.getElem_cons_succ, List.getElem_cons_zero, Act.put, List.setIfInBounds_toArray, List.set_cons_zero, List.set_cons_succ]
        refine wpAnyIn_all (rs := [6]) (by kernel_rfl) (by simp) ?_
        intro i hi; obtain rfl := List.mem_singleton.1 hi; clear hi
        refine wpOpIn_step rfl (fun K3 hK3 => ?_)
        have HK3 := Lib.hid hK3
        clear hK3
        rw [if_pos (by rfl)]
        obtain ⟨fn, tmps, assign, body, hy, hR⟩ := hY pre (lo + dg, hi + dg) w1 (own_below hJ h0 hbw1) (by omega)
        unfold encSp at hy
        simp only [Oper.wpIn, Oper.semAt_none]; go_simp
        refine hR.mono ?_
        rintro e W3 ⟨rfl, hJ3, hk3⟩
        refine HK3.out _ _ ?_
        clear HK3 K3
        try simp only [List.getElem_toArray, List.getElem_cons_succ, List.getElem_cons_zero, Act.put, List.setIfInBounds_toArray, List.set_cons_zero, List.set_cons_succ]
        refine wpAnyIn_done (by kernel_rfl) ?_ _
        exact ⟨rfl, rfl, hJ3, (Keep.of_below hbw1 (by omega)).trans hk3⟩
      ·
        refine wpOpIn_step rfl (fun K3 hK3 => ?_)
        have HK3 := Lib.hid hK3
        clear hK3
        rw [if_pos (by rfl)]
        simp only [Oper.wpIn, Oper.semAt_none]; go_simp
        refine ⟨trivial, (callsIn_wide (n := 8)).2 ((shift_any lo hi dg _ (by omega) (by omega) (by omega)).mono ?_)⟩
        rintro e w1 ⟨rfl, hy1⟩
        have gy1 := (hy1.block _ (Array.getElem?_eq_some_iff.1 gy).1).trans gy
        have y1 : w1.cell? ⟨W.heap.size, 0, none⟩ = some (.func (.yield l) #[] #[]) := by simp [World.cell?, gy1]
        have hbw1 : Below W.heap.size W w1 := (hb0.trans (show Below W.heap.size W0 W0.drew from below_drewN' (Below.refl _ _) 1)).trans (hy1.mono hb0.size)
        refine HK3.out _ _ ?_
        clear HK3 K3
        try simp only [List.getElem_toArray, List.getElem_cons_succ, List.getElem_cons_zero, Act.put, List.setIfInBounds_toArray, List.set_cons_zero, List.set_cons_succ]
        refine wpAnyIn_all (rs := [0]) (by kernel_rfl) (by simp) ?_
        intro i hi; obtain rfl := List.mem_singleton.1 hi; clear hi
        refine wpOpIn_step rfl (fun K3 hK3 => ?_)
        have HK3 := Lib.hid hK3
        clear hK3
        rw [if_pos (by rfl)]
        simp only [Oper.wpIn, Oper.semAt_none]; go_simp
        refine HK3.out _ _ ?_
        clear HK3 K3
        try simp only [List.getElem_toArray, List.getElem_cons_succ, List.getElem_cons_zero, Act.put, List.setIfInBounds_toArray, List.set_cons_zero, List.set_cons_succ]
        refine wpAnyIn_all (rs := [6]) (by kernel_rfl) (by simp) ?_
        intro i hi; obtain rfl := List.mem_singleton.1 hi; clear hi
        refine wpOpIn_step rfl (fun K3 hK3 => ?_)
        have HK3 := Lib.hid hK3
        clear hK3
        rw [if_pos (by rfl)]
        obtain ⟨fn, tmps, assign, body, hy, hR⟩ := hY pre (lo + dg, hi + dg) w1 (own_below hJ h0 hbw1) (by omega)
        unfold encSp at hy
        simp only [Oper.wpIn, Oper.semAt_none]; go_simp
        refine hR.mono ?_
        rintro e W3 ⟨rfl, hJ3, hk3⟩
        refine HK3.out _ _ ?_
        clear HK3 K3
        try simp only [List.getElem_toArray, List.getElem_cons_succ, List.getElem_cons_zero, Act.put, List.setIfInBounds_toArray, List.set_cons_zero, List.set_cons_succ]
        refine wpAnyIn_done (by kernel_rfl) ?_ _
        exact ⟨rfl, rfl, hJ3, (Keep.of_below hbw1 (by omega)).trans hk3⟩
end Go.Proofs.Ytmcndecmnfbggaa
