/- Contract: choose: the first plan that keeps both risks. -/
import Derived.Test.YtclcconllkfjiaaA9
import Derived.Test.YtclcconllkfjiaaA5
import Derived.Test.YtclcconllkfjiaaG2
import Derived.Deep.RegionHeld3
namespace Go.Proofs.Ytclcconllkfjiaa
set_option linter.unusedSimpArgs false
set_option linter.unusedVariables false
open Go.RowKit Go.Shelf
attribute [local go_sem] Oper.semAt_some

def lotV (s g b m u : Int) : Value := .agg #[.int .i64 s, .int .i64 g, .int .i64 b, .int .i64 m, .int .i64 u]
theorem makerOf_any (s g b m u : Int) (w : World) : Calls Try.prog 42 #[lotV s g b m u] w fun e w' => e = .returned (.agg #[.int .i64 g, .int .i64 m]) ∧ Below w.heap.size w w' := by
  unfold lotV
  go_enter Try.func42, Try.ntmps42
  go_wp2
  exact bodyPost_ret (v := .agg #[.int .i64 g, .int .i64 m]) (by simp [results, Try.results42, go_sem]) rfl ⟨rfl, ((Below.refl _ _).alloc (Nat.le_refl _) _).alloc (by simp) _⟩
theorem buyerOf_any (s g b m u : Int) (w : World) : Calls Try.prog 43 #[lotV s g b m u] w fun e w' => e = .returned (.agg #[.int .i64 b, .int .i64 u]) ∧ Below w.heap.size w w' := by
  unfold lotV
  go_enter Try.func43, Try.ntmps43
  go_wp2
  exact bodyPost_ret (v := .agg #[.int .i64 b, .int .i64 u]) (by simp [results, Try.results43, go_sem]) rfl ⟨rfl, ((Below.refl _ _).alloc (Nat.le_refl _) _).alloc (by simp) _⟩
theorem two_put {X : World} {Q : Nat} {x y : Value} {t : TypeId} (h : X.heap[Q]? = some (.cells #[x, y] t (0, 0))) (a b : Value) : ((X.setCell ⟨Q, 0, none⟩ a).setCell ⟨Q, 1, none⟩ b).heap[Q]? = some (.cells #[a, b] t (0, 0)) := by
  obtain ⟨hlt, hk⟩ := Array.getElem?_eq_some_iff.1 h
  have e1 : (X.setCell ⟨Q, 0, none⟩ a).heap[Q]? = some (.cells #[a, y] t (0, 0)) := by
    show (X.heap.modify Q _)[Q]? = _
    rw [Array.getElem?_eq_getElem (by rw [Array.size_modify]; exact hlt), Array.getElem_modify_self, hk]; rfl
  obtain ⟨hlt2, hk2⟩ := Array.getElem?_eq_some_iff.1 e1
  show ((X.setCell ⟨Q, 0, none⟩ a).heap.modify Q _)[Q]? = _
  rw [Array.getElem?_eq_getElem (by rw [Array.size_modify]; exact hlt2), Array.getElem_modify_self, hk2]; rfl
theorem two_other {X : World} {Q k : Nat} (hk : k ≠ Q) (a b : Value) : ((X.setCell ⟨Q, 0, none⟩ a).setCell ⟨Q, 1, none⟩ b).heap[k]? = X.heap[k]? := (Below.heap_setCell _ _ _ _ hk).trans (Below.heap_setCell _ _ _ _ hk)
theorem below_two {n Q : Nat} {W X : World} (h : Below n W X) (hQ : n ≤ Q) (a b : Value) : Below n W ((X.setCell ⟨Q, 0, none⟩ a).setCell ⟨Q, 1, none⟩ b) := (h.setCell (p := ⟨Q, 0, none⟩) hQ a).setCell (p := ⟨Q, 1, none⟩) hQ b

/-- the risks of a lot -/
def risksL (g b m u : Int) : List Rk := [⟨true, g, m⟩, ⟨false, b, u⟩]
/-- a plan that keeps both risks with each number of bad ones -/
def goodP (n : Nat) (L : List Rk) (x : Nat × Nat) : Bool := (firstP (failF n (min x.1 n) (x.2 : Nat) L) (n + 1)).isNone
def chooseP (n : Nat) (L : List Rk) : Nat × Nat := ((plansL n).find? (goodP n L)).getD (n, n)
theorem OnlyE.setAt {E : Nat → Prop} {X Y : World} (h : OnlyE E X Y) {b : Nat} (o : Nat) (hb : E b) (v : Value) : OnlyE E X (Y.setCell ⟨b, o, none⟩ v) :=
  h.trans ⟨rfl, rfl, rfl, (KeepsWalks.setCell Y _ v).size, fun k _ hk => Below.heap_setCell _ _ _ k (fun e => hk (by rw [show k = b from e]; exact hb))⟩
theorem find_first {α : Type} {f : α → Bool} {pre : List α} {x : α} {l : List α} (h : pre ++ [x] <+: l) (h1 : ∀ y ∈ pre, f y = false) (h2 : f x = true) : l.find? f = some x := by
  obtain ⟨r, rfl⟩ := h
  rw [List.append_assoc, List.find?_append, List.find?_eq_none.2 (fun y hy => by rw [h1 y hy]; simp)]
  simp [h2]
theorem sm_whole (b g : Nat) : ∀ m, sm b g (b + g) m = if b < m then 1 else 0
  | 0 => rfl
  | m + 1 => by
    rw [sm_succ, sm_whole b g m]
    by_cases e : m = b
    · subst e
      rw [if_neg (by omega), if_pos (by omega), exT, if_pos (by omega), show m + g - m = g by omega, ch_self, ch_self]
    · by_cases h : b < m
      · rw [if_pos h, if_pos (by omega), exT_big b g (b + g) m (by omega)]
      · rw [if_neg h, if_neg (by omega), exT_big b g (b + g) m (by omega)]
theorem pass_whole (b g : Nat) (a : Int) : passN b g (b + g) a = if (b : Int) ≤ a then 1 else 0 := by
  unfold passN
  rw [sm_whole]
  by_cases h : (b : Int) ≤ a
  · rw [if_pos (by omega), if_pos h]
  · rw [if_neg (by omega), if_neg h]
/-- who tests all meters, and accepts Good, runs no risk -/
theorem good_full {n : Nat} {g b m u : Int} (h1 : 0 ≤ g) (h2 : g < b) (h3 : b ≤ n) (hm : 0 ≤ m ∧ m ≤ 1000) (hu : 0 ≤ u ∧ u ≤ 1000) : goodP n (risksL g b m u) (n, g.toNat) = true := by
  unfold goodP
  rw [show firstP (failF n (min (n, g.toNat).1 n) ((n, g.toNat).2 : Nat) (risksL g b m u)) (n + 1) = none from firstP_none.2 fun k hk => ?_]
  · rfl
  simp only []
  rw [show min n n = n by omega, show ((g.toNat : Nat) : Int) = g by omega]
  have hp := pass_whole k (n - k) g
  rw [show k + (n - k) = n by omega] at hp
  have hmk : (1000 - m) * ((1 : Nat) : Int) = 1000 - m := by simp
  have hbu : u * ((1 : Nat) : Int) = u := by simp
  have e1 : Rk.kept ⟨true, g, m⟩ (k : Nat) (passN k (n - k) n g) (ch n n) = true := by
    show (decide (g < (k : Nat)) || decide ((1000 - m) * ((ch n n : Nat) : Int) ≤ 1000 * ((passN k (n - k) n g : Nat) : Int))) = true
    rw [hp, ch_self, hmk]
    by_cases h : (k : Int) ≤ g
    · rw [if_pos h, decide_eq_true (show 1000 - m ≤ 1000 * ((1 : Nat) : Int) by omega), Bool.or_true]
    · rw [decide_eq_true (show g < (k : Nat) by omega)]; rfl
  have e2 : Rk.kept ⟨false, b, u⟩ (k : Nat) (passN k (n - k) n g) (ch n n) = true := by
    show (decide (((k : Nat) : Int) < b) || decide (1000 * ((passN k (n - k) n g : Nat) : Int) ≤ u * ((ch n n : Nat) : Int))) = true
    rw [hp, ch_self, hbu]
    by_cases h : (k : Int) ≤ g
    · rw [decide_eq_true (show ((k : Nat) : Int) < b by omega)]; rfl
    · rw [if_neg h, decide_eq_true (show 1000 * ((0 : Nat) : Int) ≤ u by omega), Bool.or_true]
  unfold failF bearsB risksL
  simp [e1, e2]
theorem plansL_mem {n a : Nat} (h : a ≤ n) : (n, a) ∈ plansL n := by
  unfold plansL plansUp
  simp only [List.range_zero, List.map_nil, List.append_nil, List.mem_flatMap, List.mem_range, List.mem_map]
  exact ⟨n, by omega, a, by omega, rfl⟩
/-- the last plan that came is the first good one, and lies in block C -/
def ChoseAt (n : Nat) (L : List Rk) (C : Nat) (pre : List (Nat × Nat)) (W : World) : Prop := ∃ pre' x, pre = pre' ++ [x] ∧ (∀ y ∈ pre', goodP n L y = false) ∧ goodP n L x = true ∧ W.heap[C]? = some (.cells #[.int .i64 (min x.1 n : Nat), .int .i64 (x.2 : Nat)] 23 (0, 0))
set_option maxRecDepth 100000 in
set_option maxHeartbeats 6400000 in
theorem choose_any (T n : Nat) (g b m u : Int) (w : World) (hT : TriAt w T) (hn : n ≤ 50) (hg1 : 0 ≤ g) (hg2 : g < b) (hg3 : b ≤ (n : Nat)) (hm : 0 ≤ m ∧ m ≤ 1000) (hu : 0 ≤ u ∧ u ≤ 1000) :
    Calls Try.prog 44 #[.pointer (some ⟨T, 0, none⟩), lotV (n : Nat) g b m u] w fun e w' => e = .returned (planV ((chooseP n (risksL g b m u)).1 : Nat) ((chooseP n (risksL g b m u)).2 : Nat)) ∧ Below w.heap.size w w' := by
  obtain ⟨W0, hW0⟩ : ∃ X, X = (((w.alloc (.cells #[.pointer (some ⟨T, 0, none⟩)] 57)).alloc (.cells #[.int .i64 (n : Nat), .int .i64 g, .int .i64 b, .int .i64 m, .int .i64 u] 40)).alloc (.cells #[.int .i64 0, .int .i64 0] 23)) := ⟨_, rfl⟩
  have hb0 : Below w.heap.size w W0 := by rw [hW0]; exact ((((Below.refl _ _).alloc (Nat.le_refl _) _).alloc (by simp <;> omega) _).alloc (by simp <;> omega) _)
  obtain ⟨H, hH⟩ : ∃ H, H = w.heap.size := ⟨_, rfl⟩
  have k0 : W0.heap[H]? = some (.cells #[.pointer (some ⟨T, 0, none⟩)] 57) := by
    rw [hW0, hH, Below.heap_alloc _ _ _ (by simp <;> omega), Below.heap_alloc _ _ _ (by simp <;> omega)]
    have := alloc_heap w (.cells #[.pointer (some ⟨T, 0, none⟩)] 57)
    simpa using this
  have k1 : W0.heap[H + 1]? = some (.cells #[.int .i64 (n : Nat), .int .i64 g, .int .i64 b, .int .i64 m, .int .i64 u] 40) := by
    rw [hW0, hH, Below.heap_alloc _ _ _ (by simp <;> omega)]
    have := alloc_heap (w.alloc (.cells #[.pointer (some ⟨T, 0, none⟩)] 57)) (.cells #[.int .i64 (n : Nat), .int .i64 g, .int .i64 b, .int .i64 m, .int .i64 u] 40)
    simpa using this
  have k2 : W0.heap[H + 1 + 1]? = some (.cells #[.int .i64 0, .int .i64 0] 23) := by
    rw [hW0, hH]
    have := alloc_heap ((w.alloc (.cells #[.pointer (some ⟨T, 0, none⟩)] 57)).alloc (.cells #[.int .i64 (n : Nat), .int .i64 g, .int .i64 b, .int .i64 m, .int .i64 u] 40)) (.cells #[.int .i64 0, .int .i64 0] 23)
    simpa using this
  have hz0 : W0.heap.size = H + 3 := by rw [hW0, hH]; simp
  have hT0 : TriAt W0 T := hT.below hb0 hT.lt
  have hmk := fun W => makerOf_any (n : Nat) g b m u W
  have hbk := fun W => buyerOf_any (n : Nat) g b m u W
  unfold lotV at hmk hbk ⊢
  refine (callsIn_wide (n := 9)).1 ?_
  refine callsIn_of_wp_marks Try.func44 rfl trivial ?_ rfl
  simp only [Try.ntmps44, List.size_toArray, List.length_cons, List.length_nil, Nat.reduceAdd, Nat.reduceSub, Array.replicate_succ, Array.replicate_zero, List.push_toArray, List.append_toArray, List.nil_append, List.cons_append]
  gi_wp2
  rw [← hW0, ← hH]
  have HH := Lib.hid hH
  clear hW0 hH
  refine wpIn_wide.2 ?_
  go_step3
  go_wp2_with fail
  refine (wpIn_wide (n := 9)).1 ?_
  refine wpIn_mono (Q := fun e a' w' => e = .normal ∧ ∃ (B5 B6 : Nat) (u9 u10 u11 u12 : Value), a' = ⟨#[.pointer (some ⟨T, 0, none⟩), .agg #[.int .i64 (n : Nat), .int .i64 g, .int .i64 b, .int .i64 m, .int .i64 u], .pointer (some ⟨H, 0, none⟩), .pointer (some ⟨H + 1, 0, none⟩), .pointer (some ⟨H + 1 + 1, 0, none⟩), .pointer (some ⟨B5, 0, none⟩), .pointer (some ⟨B6, 0, none⟩), undef, undef, u9, u10, u11, u12, undef, undef, undef, undef, undef, undef, undef, undef, undef, undef, undef, undef, undef, undef, undef, undef, undef, undef, undef, undef, undef, undef, undef, undef, undef], []⟩ ∧ Below W0.heap.size W0 w' ∧ w'.heap[B5]? = some (.cells #[.int .i64 g, .int .i64 m] 78 (0, 0)) ∧ w'.heap[B6]? = some (.cells #[.int .i64 b, .int .i64 u] 81 (0, 0)) ∧ W0.heap.size ≤ B5 ∧ W0.heap.size ≤ B6) ?_ ?_
  rotate_left
  · rintro e a3 W1 ⟨rfl, B5, B6, u9, u10, u11, u12, rfl, hb1, g5, g6, l5, l6⟩
    have kb0 := fun (k : Nat) (o : Obj) (h : W0.heap[k]? = some o) => (hb1.block k (Array.getElem?_eq_some_iff.1 h).1).trans h
    have k0 := kb0 _ _ k0
    have k1 := kb0 _ _ k1
    have k2 := kb0 _ _ k2
    have hT1 : TriAt W1 T := hT0.below hb1 hT0.lt
    have z1 := hb1.size
    clear kb0 hmk hbk
    obtain ⟨W2, hW2⟩ : ∃ X, X = W1.alloc (.cells #[.int .i64 0, .int .i64 0] 23) := ⟨_, rfl⟩
    obtain ⟨C, hC⟩ : ∃ C, C = W1.heap.size := ⟨_, rfl⟩
    have hb2 : Below W1.heap.size W1 W2 := by rw [hW2]; exact (Below.refl _ _).alloc (Nat.le_refl _) _
    have g7 : W2.heap[C]? = some (.cells #[.int .i64 0, .int .i64 0] 23 (0, 0)) := by rw [hW2, hC]; exact alloc_heap _ _
    have kb0 := fun (k : Nat) (o : Obj) (h : W1.heap[k]? = some o) => (hb2.block k (Array.getElem?_eq_some_iff.1 h).1).trans h
    have k0 := kb0 _ _ k0
    have k1 := kb0 _ _ k1
    have k2 := kb0 _ _ k2
    have g5 := kb0 _ _ g5
    have g6 := kb0 _ _ g6
    have hT2 : TriAt W2 T := hT1.below hb2 hT1.lt
    have z2 : W2.heap.size = C + 1 := by rw [hW2, hC]; simp
    obtain ⟨c0, c1, c2, c3, c4⟩ := five_cells k1
    have hb12 : Below W0.heap.size W0 W2 := hb1.trans (hb2.mono hb1.size)
    have l7 : W0.heap.size ≤ C := by rw [hC]; exact hb1.size
    have n5 : B5 ≠ C := by have := (Array.getElem?_eq_some_iff.1 ‹W1.heap[B5]? = _›).1; omega
    have n6 : B6 ≠ C := by have := (Array.getElem?_eq_some_iff.1 ‹W1.heap[B6]? = _›).1; omega
    have hT7 : T ≠ C := by have := hT0.lt; omega
    go_wp2_with fail
    go_step3
    rw [← hW2, ← hC]
    clear kb0 hW2 hb2 hb1 hT1 z1 hC
    go_wp2_with fail
    refine (plans_any _ _).mono ?_
    rintro e w' ⟨rfl, rfl⟩
    have hM : (W2.alloc (.cells #[.int .i64 (n : Nat)] 3)).heap[W2.heap.size]? = some (.cells #[.int .i64 (n : Nat)] 3 (0, 0)) := alloc_heap _ _
    obtain ⟨W3, hW3⟩ : ∃ X, X = W2.alloc (.cells #[.int .i64 (n : Nat)] 3) := ⟨_, rfl⟩
    have hb3 : Below W2.heap.size W2 W3 := by rw [hW3]; exact (Below.refl _ _).alloc (Nat.le_refl _) _
    have kb0 := fun (k : Nat) (o : Obj) (h : W2.heap[k]? = some o) => (hb3.block k (Array.getElem?_eq_some_iff.1 h).1).trans h
    have k0 := kb0 _ _ k0
    have k1 := kb0 _ _ k1
    have k2 := kb0 _ _ k2
    have g5 := kb0 _ _ g5
    have g6 := kb0 _ _ g6
    have g7 := kb0 _ _ g7
    have hT3 : TriAt W3 T := hT2.below hb3 hT2.lt
    have z3 : W3.heap.size = C + 2 := by rw [hW3]; simp [z2]
    have hb13 : Below W0.heap.size W0 W3 := hb12.trans (hb3.mono hb12.size)
    rw [← hW3] at hM ⊢
    rw [z2] at hM ⊢
    clear kb0 hW3 hb3 hb12 hT2 c0 c1 c2 c3 c4
    go_wp2_with fail
    refine (wpIn_wide (n := 9)).1 ?_
    have hO3 := hb13
    refine wpIn_rangeFunc_ownH rfl (by omega) (gf := 56) (lb := #[.pointer (some ⟨C + 1, 0, none⟩)]) rfl trivial (enters_of Try.func56 (by kernel_rfl) rfl)
      (plans_stops 8 n (C + 1) (by omega) (· = C) hn (by omega) W3 hM)
      KeepE.trans (fun W l o o' _ hl hc _ => KeepE.of_grown (grownBy_putObj' W l o') (fun q e => by cases e; exact .inr (fun o2 h2 => by rw [hl] at h2; cases h2; exact hc))) (Below.refl _ _) (fun _ => rfl)
      (fun pre W => (∃ v1 v2, W.heap[C]? = some (.cells #[.int .i64 v1, .int .i64 v2] 23 (0, 0))) ∧ OnlyE (· = C) W3 W ∧ ∀ y ∈ pre, goodP n (risksL g b m u) y = false)
      (fun cc pre W => cc = .exit 0 ∧ OnlyE (· = C) W3 W ∧ ChoseAt n (risksL g b m u) C pre W)
      (fun pre X Y row hs hg hr => by
        obtain ⟨⟨v1, v2, h1⟩, h2, h3⟩ := hs
        exact ⟨⟨v1, v2, cells_kept h1 hg hr⟩, h2.far hg (fun q e => (hr q e).1), h3⟩)
      (fun cc pre X Y row hs hg hr => by
        obtain ⟨h1, h2, pre', x, h3, h4, h5, h6⟩ := hs
        exact ⟨h1, h2.far hg (fun q e => (hr q e).1), pre', x, h3, h4, h5, cells_kept h6 hg hr⟩)
      ⟨⟨0, 0, g7⟩, OnlyE.refl _ _, fun y hy => by cases hy⟩
      (fun x a' W => W.heap[C]? = some (.cells #[.int .i64 (min x.1 n : Nat), .int .i64 (x.2 : Nat)] 23 (0, 0)) ∧ a' = ⟨#[.pointer (some ⟨T, 0, none⟩), .agg #[.int .i64 (n : Nat), .int .i64 g, .int .i64 b, .int .i64 m, .int .i64 u], .pointer (some ⟨H, 0, none⟩), .pointer (some ⟨H + 1, 0, none⟩), .pointer (some ⟨H + 1 + 1, 0, none⟩), .pointer (some ⟨B5, 0, none⟩), .pointer (some ⟨B6, 0, none⟩), .pointer (some ⟨C, 0, none⟩), undef, u9, u10, u11, u12, .pointer (some ⟨H + 1, 0, none⟩), .int .i64 (n : Nat), .func (.func 56) #[] #[.pointer (some ⟨C + 1, 0, none⟩)], planV (min x.1 n : Nat) (x.2 : Nat), undef, undef, undef, undef, undef, undef, undef, undef, undef, undef, undef, undef, undef, undef, undef, undef, undef, undef, undef, undef, undef], []⟩)
      (fun x a' _ X Y row hs hg hr => ⟨cells_kept hs.1 hg hr, hs.2⟩)
      ?assign ?body ?done ?stop
    case assign =>
      rintro l pre x W K ⟨⟨v1, v2, i1⟩, i2, i3⟩ hK
      obtain ⟨c0, c1⟩ := two_cells i1
      have f0 : W.frozen? ⟨C, 0, none⟩ = false := frozen_of i1
      have f1 : W.frozen? ⟨C, 1, none⟩ = false := frozen_of i1
      have hp := two_put i1 (.int .i64 (min x.1 n : Nat)) (.int .i64 (x.2 : Nat))
      have hO : OnlyE (· = C) W ((W.setCell ⟨C, 0, none⟩ (.int .i64 (min x.1 n : Nat))).setCell ⟨C, 1, none⟩ (.int .i64 (x.2 : Nat))) := OnlyE.setAt (E := (· = C)) (OnlyE.setAt (E := (· = C)) (OnlyE.refl _ _) (b := C) 0 rfl _) (b := C) 1 rfl _
      unfold encPl planV
      obtain ⟨y1, hy1⟩ : ∃ y, min x.1 n = y := ⟨_, rfl⟩
      obtain ⟨y2, hy2⟩ : ∃ y, x.2 = y := ⟨_, rfl⟩
      rw [hy1, hy2] at hp hO
      have HY1 := Lib.hid hy1
      have HY2 := Lib.hid hy2
      rw [hy1, hy2]
      clear hy1 hy2
      gi_wp2
      refine hK _ _ (hO.from (by intro k hk; omega)) hO.keep ⟨⟨_, _, hp⟩, i2.trans hO, i3⟩ ⟨by rw [HY1.out, HY2.out]; exact hp, ?_⟩
      rw [HY1.out, HY2.out]
      unfold planV
      rfl
    case body =>
      rintro l pre x a' W hl ⟨rr, hrr⟩ ⟨-, i2, i3⟩ ⟨hX, rfl⟩ _hlt
      unfold planV
      obtain ⟨y1, hy1⟩ : ∃ y, min x.1 n = y := ⟨_, rfl⟩
      obtain ⟨y2, hy2⟩ : ∃ y, x.2 = y := ⟨_, rfl⟩
      have hy1n : y1 ≤ n := by omega
      rw [hy1, hy2] at hX ⊢
      have k0 := i2.get k0 (by omega)
      have k1 := i2.get k1 (by omega)
      have g5 := i2.get g5 n5
      have g6 := i2.get g6 n6
      have hTW : TriAt W T := i2.get hT3 hT7
      obtain ⟨F, hF⟩ : ∃ F, F = failF n y1 (y2 : Nat) (risksL g b m u) := ⟨_, rfl⟩
      have hgood : goodP n (risksL g b m u) x = (firstP F (n + 1)).isNone := by unfold goodP; rw [hy1, hy2, hF]
      have HG := Lib.hid hgood
      have I2 := Lib.hid i2
      have I3 := Lib.hid i3
      have HXX := Lib.hid (And.intro hy1 hy2)
      clear hgood i2 i3 hy1 hy2
      have K0 := Lib.hid k0
      have K1 := Lib.hid k1
      have G5 := Lib.hid g5
      have G6 := Lib.hid g6
      have GX := Lib.hid hX
      obtain ⟨c0, c1, c2, c3, c4⟩ := five_cells k1
      gi_wp2_with fail
      clear c0 c1 c2 c3 c4 k0 k1 g5 g6 hX
      gi_loopw [20] (fun i wr => ∃ k : Nat, k ≤ n + 1 ∧ i = .int .i64 k ∧ Below W.heap.size W wr ∧ firstP F k = none) (fun i _ => n + 1 - (intOf i).toNat)
      case atStart => exact ⟨0, by omega, rfl, Below.refl _ _, rfl⟩
      case round =>
        obtain ⟨k, hk, rfl, hbel, hfn⟩ := hrel
        have HN := Lib.hid hfn
        clear hfn
        by_cases hlt : k < n + 1
        · have hlt' : (k : Int) < (n : Int) + 1 := by omega
          have hbe := fun W R (h : TriAt W T) (hR : RisksAt W R (risksL g b m u)) => bears_any T k (n - k) y1 R (y2 : Nat) (risksL g b m u) W h (by omega) (by omega) hR (by simp [risksL]) (by simp [risksL]) (by intro r hr; simp [risksL] at hr; rcases hr with rfl | rfl; exact hm; exact hu)
          have hlw := fun W => lotWith_any (k : Nat) (n : Nat) W (by omega) (by omega)
          rw [show k + (n - k) = n by omega] at hbe
          have e1 : ((n : Int) - (k : Int)) = ((n - k : Nat) : Int) := by omega
          rw [e1] at hlw
          have hFk : F k = !((risksL g b m u).all fun r => r.kept (k : Nat) (passN k (n - k) y1 (y2 : Nat)) (ch n y1)) := by rw [hF]; rfl
          obtain ⟨z, hz⟩ : ∃ z, ((risksL g b m u).all fun r => r.kept (k : Nat) (passN k (n - k) y1 (y2 : Nat)) (ch n y1)) = z := ⟨_, rfl⟩
          rw [hz] at hbe hFk
          have hlen : (risksL g b m u).length = 2 := rfl
          rw [hlen] at hbe
          unfold mets planV at hbe
          unfold mets at hlw
          have HBE := Lib.hid hbe
          have HLW := Lib.hid hlw
          have HFK := Lib.hid hFk
          have k0r := (hbel.block _ (Array.getElem?_eq_some_iff.1 K0.out).1).trans K0.out
          have k1r := (hbel.block _ (Array.getElem?_eq_some_iff.1 K1.out).1).trans K1.out
          have g5r := (hbel.block _ (Array.getElem?_eq_some_iff.1 G5.out).1).trans G5.out
          have g6r := (hbel.block _ (Array.getElem?_eq_some_iff.1 G6.out).1).trans G6.out
          have gxr := (hbel.block _ (Array.getElem?_eq_some_iff.1 GX.out).1).trans GX.out
          have hTr := hTW.below hbel hTW.lt
          clear hbe hlw hFk hz e1 hlen
          gi_wp2_with fail
          refine wpIn_mono (Q := fun e a' w' => e = .normal ∧ (∃ u23 u24 u25 u26 u27 u28 u29 u30 u31 u32 u33 u34 : Value, a' = ⟨#[.pointer (some ⟨T, 0, none⟩), .agg #[.int .i64 (n : Nat), .int .i64 g, .int .i64 b, .int .i64 m, .int .i64 u], .pointer (some ⟨H, 0, none⟩), .pointer (some ⟨H + 1, 0, none⟩), .pointer (some ⟨H + 1 + 1, 0, none⟩), .pointer (some ⟨B5, 0, none⟩), .pointer (some ⟨B6, 0, none⟩), .pointer (some ⟨C, 0, none⟩), .int .i64 (k : Nat), u9, u10, u11, u12, .pointer (some ⟨H + 1, 0, none⟩), .int .i64 (n : Nat), .func (.func 56) #[] #[.pointer (some ⟨C + 1, 0, none⟩)], .agg #[.int .i64 (y1 : Nat), .int .i64 (y2 : Nat)], .pointer (some ⟨H + 1, 0, none⟩), .int .i64 (n : Nat), .int .i64 ((n : Int) + 1), .int .i64 (k : Nat), .bool true, .int .i64 (k : Nat), u23, u24, u25, u26, u27, u28, u29, u30, u31, u32, u33, u34, .bool (!z), u36, undef], []⟩) ∧ Below wr.heap.size wr w') ?_ ?_
          rotate_left
          · rintro e a3 w8 ⟨rfl, ⟨u23, u24, u25, u26, u27, u28, u29, u30, u31, u32, u33, u34, rfl⟩, hb8⟩
            have hbel8 := hbel.trans (hb8.mono hbel.size)
            clear k0r k1r g5r g6r gxr hTr HBE HLW
            cases z with
            | true =>
              have hFf : F k = false := by rw [HFK.out]; rfl
              have hs : firstP F (k + 1) = none := by show (match firstP F k with | some j => some j | none => if F k then some k else none) = none; rw [HN.out, hFf]; rfl
              have HS := Lib.hid hs
              clear hFf hs
              simp only [Bool.not_true]
              gi_wp2
              go_roundw
              case rel => exact ⟨k + 1, by omega, by go_num, hbel8, HS.out⟩
              case measure => simp [intOf]; omega
            | false =>
              have hFf : F k = true := by rw [HFK.out]; rfl
              have hs : firstP F (n + 1) = some k := firstP_some.2 ⟨hlt, hFf, firstP_none.1 HN.out⟩
              have HS := Lib.hid hs
              clear hFf hs
              simp only [Bool.not_false]
              gi_wp2
              have hO8 : OnlyE (· = C) W w8 := .of_below hbel8
              exact ⟨hO8.from (by intro k hk; omega), hO8.keep, ⟨_, _, (hbel8.block _ (Array.getElem?_eq_some_iff.1 GX.out).1).trans GX.out⟩, I2.out.trans hO8, fun y hy => by
                rcases List.mem_append.1 hy with hy | hy
                · exact I3.out y hy
                · rw [List.mem_singleton.1 hy, HG.out, HS.out]; rfl⟩
          refine wpIn_region_held_round (fun w' => Below wr.heap.size wr w') (by kernel_rfl) (by kernel_rfl) ?_ (Below.refl _ _).drew (fun hHeld => ?_)
          · rintro ⟨_, _, h⟩; cases h.1
          refine wpAnyH_take (i := 0) (oi := _) (v := ?_) rfl (by as_aux_lemma => kernel_rfl) (by as_aux_lemma => kernel_rfl) (by as_aux_lemma => kernel_rfl) (fun _ _ _ h => by cases h.1) (Or.inl ⟨by rfl, ?_⟩) hHeld ?_
          rotate_left
          · intro w1 hSw
            have d0 := one_cell ((hSw.block _ (Array.getElem?_eq_some_iff.1 k0r).1).trans k0r)
            obtain ⟨d1, d2, d3, d4, d5⟩ := five_cells ((hSw.block _ (Array.getElem?_eq_some_iff.1 k1r).1).trans k1r)
            obtain ⟨d6, d7⟩ := two_cells ((hSw.block _ (Array.getElem?_eq_some_iff.1 g5r).1).trans g5r)
            obtain ⟨d8, d9⟩ := two_cells ((hSw.block _ (Array.getElem?_eq_some_iff.1 g6r).1).trans g6r)
            obtain ⟨d10, d11⟩ := two_cells ((hSw.block _ (Array.getElem?_eq_some_iff.1 gxr).1).trans gxr)
            go_simp; with_reducible rfl
          simp only [List.getElem_toArray, List.getElem_cons_succ, List.getElem_cons_zero, Act.put, List.setIfInBounds_toArray, List.set_cons_zero, List.set_cons_succ]
          refine wpAnyH_take (i := 1) (oi := _) (v := ?_) rfl (by as_aux_lemma => kernel_rfl) (by as_aux_lemma => kernel_rfl) (by as_aux_lemma => kernel_rfl) (fun _ _ _ h => by cases h.1) (Or.inl ⟨by rfl, ?_⟩) hHeld ?_
          rotate_left
          · intro w1 hSw

            go_simp; with_reducible rfl
          simp only [List.getElem_toArray, List.getElem_cons_succ, List.getElem_cons_zero, Act.put, List.setIfInBounds_toArray, List.set_cons_zero, List.set_cons_succ]
          refine wpAnyH_take (i := 2) (oi := _) (v := ?_) rfl (by as_aux_lemma => kernel_rfl) (by as_aux_lemma => kernel_rfl) (by as_aux_lemma => kernel_rfl) (fun _ _ _ h => by cases h.1) (Or.inl ⟨by rfl, ?_⟩) hHeld ?_
          rotate_left
          · intro w1 hSw

            go_simp; with_reducible rfl
          simp only [List.getElem_toArray, List.getElem_cons_succ, List.getElem_cons_zero, Act.put, List.setIfInBounds_toArray, List.set_cons_zero, List.set_cons_succ]
          refine wpAnyH_take (i := 3) (oi := _) (v := ?_) rfl (by as_aux_lemma => kernel_rfl) (by as_aux_lemma => kernel_rfl) (by as_aux_lemma => kernel_rfl) (fun _ _ _ h => by cases h.1) (Or.inl ⟨by rfl, ?_⟩) hHeld ?_
          rotate_left
          · intro w1 hSw
            have d0 := one_cell ((hSw.block _ (Array.getElem?_eq_some_iff.1 k0r).1).trans k0r)
            obtain ⟨d1, d2, d3, d4, d5⟩ := five_cells ((hSw.block _ (Array.getElem?_eq_some_iff.1 k1r).1).trans k1r)
            obtain ⟨d6, d7⟩ := two_cells ((hSw.block _ (Array.getElem?_eq_some_iff.1 g5r).1).trans g5r)
            obtain ⟨d8, d9⟩ := two_cells ((hSw.block _ (Array.getElem?_eq_some_iff.1 g6r).1).trans g6r)
            obtain ⟨d10, d11⟩ := two_cells ((hSw.block _ (Array.getElem?_eq_some_iff.1 gxr).1).trans gxr)
            go_simp; with_reducible rfl
          simp only [List.getElem_toArray, List.getElem_cons_succ, List.getElem_cons_zero, Act.put, List.setIfInBounds_toArray, List.set_cons_zero, List.set_cons_succ]
          refine wpAnyH_take (i := 5) (oi := _) (v := ?_) rfl (by as_aux_lemma => kernel_rfl) (by as_aux_lemma => kernel_rfl) (by as_aux_lemma => kernel_rfl) (fun _ _ _ h => by cases h.1) (Or.inl ⟨by rfl, ?_⟩) hHeld ?_
          rotate_left
          · intro w1 hSw
            have d0 := one_cell ((hSw.block _ (Array.getElem?_eq_some_iff.1 k0r).1).trans k0r)
            obtain ⟨d1, d2, d3, d4, d5⟩ := five_cells ((hSw.block _ (Array.getElem?_eq_some_iff.1 k1r).1).trans k1r)
            obtain ⟨d6, d7⟩ := two_cells ((hSw.block _ (Array.getElem?_eq_some_iff.1 g5r).1).trans g5r)
            obtain ⟨d8, d9⟩ := two_cells ((hSw.block _ (Array.getElem?_eq_some_iff.1 g6r).1).trans g6r)
            obtain ⟨d10, d11⟩ := two_cells ((hSw.block _ (Array.getElem?_eq_some_iff.1 gxr).1).trans gxr)
            go_simp; with_reducible rfl
          simp only [List.getElem_toArray, List.getElem_cons_succ, List.getElem_cons_zero, Act.put, List.setIfInBounds_toArray, List.set_cons_zero, List.set_cons_succ]
          refine wpAnyH_take (i := 6) (oi := _) (v := ?_) rfl (by as_aux_lemma => kernel_rfl) (by as_aux_lemma => kernel_rfl) (by as_aux_lemma => kernel_rfl) (fun _ _ _ h => by cases h.1) (Or.inl ⟨by rfl, ?_⟩) hHeld ?_
          rotate_left
          · intro w1 hSw
            have d0 := one_cell ((hSw.block _ (Array.getElem?_eq_some_iff.1 k0r).1).trans k0r)
            obtain ⟨d1, d2, d3, d4, d5⟩ := five_cells ((hSw.block _ (Array.getElem?_eq_some_iff.1 k1r).1).trans k1r)
            obtain ⟨d6, d7⟩ := two_cells ((hSw.block _ (Array.getElem?_eq_some_iff.1 g5r).1).trans g5r)
            obtain ⟨d8, d9⟩ := two_cells ((hSw.block _ (Array.getElem?_eq_some_iff.1 g6r).1).trans g6r)
            obtain ⟨d10, d11⟩ := two_cells ((hSw.block _ (Array.getElem?_eq_some_iff.1 gxr).1).trans gxr)
            go_simp; with_reducible rfl
          simp only [List.getElem_toArray, List.getElem_cons_succ, List.getElem_cons_zero, Act.put, List.setIfInBounds_toArray, List.set_cons_zero, List.set_cons_succ]
          refine wpAnyH_take (i := 7) (oi := _) (v := ?_) rfl (by as_aux_lemma => kernel_rfl) (by as_aux_lemma => kernel_rfl) (by as_aux_lemma => kernel_rfl) (fun _ _ _ h => by cases h.1) (Or.inl ⟨by rfl, ?_⟩) hHeld ?_
          rotate_left
          · intro w1 hSw

            go_simp; with_reducible rfl
          simp only [List.getElem_toArray, List.getElem_cons_succ, List.getElem_cons_zero, Act.put, List.setIfInBounds_toArray, List.set_cons_zero, List.set_cons_succ]
          refine wpAnyH_take (i := 8) (oi := _) (v := ?_) rfl (by as_aux_lemma => kernel_rfl) (by as_aux_lemma => kernel_rfl) (by as_aux_lemma => kernel_rfl) (fun _ _ _ h => by cases h.1) (Or.inl ⟨by rfl, ?_⟩) hHeld ?_
          rotate_left
          · intro w1 hSw
            have d0 := one_cell ((hSw.block _ (Array.getElem?_eq_some_iff.1 k0r).1).trans k0r)
            obtain ⟨d1, d2, d3, d4, d5⟩ := five_cells ((hSw.block _ (Array.getElem?_eq_some_iff.1 k1r).1).trans k1r)
            obtain ⟨d6, d7⟩ := two_cells ((hSw.block _ (Array.getElem?_eq_some_iff.1 g5r).1).trans g5r)
            obtain ⟨d8, d9⟩ := two_cells ((hSw.block _ (Array.getElem?_eq_some_iff.1 g6r).1).trans g6r)
            obtain ⟨d10, d11⟩ := two_cells ((hSw.block _ (Array.getElem?_eq_some_iff.1 gxr).1).trans gxr)
            go_simp; with_reducible rfl
          simp only [List.getElem_toArray, List.getElem_cons_succ, List.getElem_cons_zero, Act.put, List.setIfInBounds_toArray, List.set_cons_zero, List.set_cons_succ]
          refine wpAnyH_take (i := 9) (oi := _) (v := ?_) rfl (by as_aux_lemma => kernel_rfl) (by as_aux_lemma => kernel_rfl) (by as_aux_lemma => kernel_rfl) (fun _ _ _ h => by cases h.1) (Or.inl ⟨by rfl, ?_⟩) hHeld ?_
          rotate_left
          · intro w1 hSw

            go_simp; with_reducible rfl
          simp only [List.getElem_toArray, List.getElem_cons_succ, List.getElem_cons_zero, Act.put, List.setIfInBounds_toArray, List.set_cons_zero, List.set_cons_succ]
          generalize wr.drew = Y0 at hHeld ⊢
          refine wpAnyH_all (rs := [4, 10]) (by as_aux_lemma => kernel_rfl) (by simp) ?_
          intro i hi
          rcases (by simpa using hi : i = 4 ∨ i = 10) with rfl | rfl <;> clear hi
          ·
            refine wpOp_step rfl (fun K3 hK3 => ?_)
            have HK3 := Lib.hid hK3
            clear hK3
            rw [if_pos (by rfl)]
            go_simp
            refine (HLW.out _).mono ?_
            rintro e Y1 ⟨rfl, hbc⟩
            have hb1 := hHeld.trans (hbc.mono hHeld.size)
            clear hbc
            refine HK3.out _ _ ⟨hb1, ?_⟩
            clear HK3 K3
            try simp only [List.getElem_toArray, List.getElem_cons_succ, List.getElem_cons_zero, Act.put, List.setIfInBounds_toArray, List.set_cons_zero, List.set_cons_succ]
            refine wpAnyH_all (rs := [10]) (by as_aux_lemma => kernel_rfl) (by simp) ?_
            intro i hi; obtain rfl := List.mem_singleton.1 hi; clear hi
            refine wpOp_step rfl (fun K3 hK3 => ?_)
            have HK3 := Lib.hid hK3
            clear hK3
            rw [if_pos (by rfl)]
            go_simp
            obtain ⟨Y2, hY⟩ : ∃ Z, Z = Y1.alloc (.cells #[.iface 78 (.agg #[.int .i64 g, .int .i64 m]), .iface 81 (.agg #[.int .i64 b, .int .i64 u])] 99) := ⟨_, rfl⟩
            obtain ⟨R, hRe⟩ : ∃ R, R = Y1.heap.size := ⟨_, rfl⟩
            have hbc : Below Y1.heap.size Y1 Y2 := by rw [hY]; exact (Below.refl _ _).alloc (Nat.le_refl _) _
            have hR : Y2.heap[R]? = some (.cells #[.iface 78 (.agg #[.int .i64 g, .int .i64 m]), .iface 81 (.agg #[.int .i64 b, .int .i64 u])] 99 (0, 0)) := by rw [hY, hRe]; exact alloc_heap _ _
            have hb2 := hb1.trans (hbc.mono hb1.size)
            rw [← hY, ← hRe]
            clear hbc hY hRe
            refine HK3.out _ _ ⟨hb2, ?_⟩
            clear HK3 K3
            try simp only [List.getElem_toArray, List.getElem_cons_succ, List.getElem_cons_zero, Act.put, List.setIfInBounds_toArray, List.set_cons_zero, List.set_cons_succ]
            have hRi : RisksAt Y2 R (risksL g b m u) := by
              intro i r hi
              match i, hi with
              | 0, hi => simp [risksL] at hi; subst hi; simp [World.cell?, hR, Rk.val, Rk.agg]
              | 1, hi => simp [risksL] at hi; subst hi; simp [World.cell?, hR, Rk.val, Rk.agg]
              | i + 2, hi => simp [risksL] at hi
            refine wpAnyH_all (rs := [11]) (by as_aux_lemma => kernel_rfl) (by simp) ?_
            intro i hi; obtain rfl := List.mem_singleton.1 hi; clear hi
            refine wpOp_step rfl (fun K3 hK3 => ?_)
            have HK3 := Lib.hid hK3
            clear hK3
            rw [if_pos (by rfl)]
            go_simp
            refine (HBE.out _ R (((hb2).block _ hTr.lt).trans hTr) hRi).mono ?_
            rintro e Y9 ⟨rfl, hbc⟩
            have hb9 := hb2.trans (hbc.mono hb2.size)
            clear hbc hRi
            refine HK3.out _ _ ⟨hb9, ?_⟩
            clear HK3 K3
            try simp only [List.getElem_toArray, List.getElem_cons_succ, List.getElem_cons_zero, Act.put, List.setIfInBounds_toArray, List.set_cons_zero, List.set_cons_succ]
            refine wpAnyH_all (rs := [12]) (by as_aux_lemma => kernel_rfl) (by simp) ?_
            intro i hi; obtain rfl := List.mem_singleton.1 hi; clear hi
            refine wpOp_step rfl (fun K3 hK3 => ?_)
            have HK3 := Lib.hid hK3
            clear hK3
            rw [if_pos (by rfl)]
            go_simp
            refine HK3.out _ _ ⟨hb9, ?_⟩
            clear HK3 K3
            try simp only [List.getElem_toArray, List.getElem_cons_succ, List.getElem_cons_zero, Act.put, List.setIfInBounds_toArray, List.set_cons_zero, List.set_cons_succ]
            refine wpAnyH_done (by as_aux_lemma => kernel_rfl) ?_ _
            exact ⟨rfl, ⟨_, _, _, _, _, _, _, _, _, _, _, _, rfl⟩, hb9⟩
          ·
            refine wpOp_step rfl (fun K3 hK3 => ?_)
            have HK3 := Lib.hid hK3
            clear hK3
            rw [if_pos (by rfl)]
            go_simp
            obtain ⟨Y1, hY⟩ : ∃ Z, Z = Y0.alloc (.cells #[.iface 78 (.agg #[.int .i64 g, .int .i64 m]), .iface 81 (.agg #[.int .i64 b, .int .i64 u])] 99) := ⟨_, rfl⟩
            obtain ⟨R, hRe⟩ : ∃ R, R = Y0.heap.size := ⟨_, rfl⟩
            have hbc : Below Y0.heap.size Y0 Y1 := by rw [hY]; exact (Below.refl _ _).alloc (Nat.le_refl _) _
            have hR : Y1.heap[R]? = some (.cells #[.iface 78 (.agg #[.int .i64 g, .int .i64 m]), .iface 81 (.agg #[.int .i64 b, .int .i64 u])] 99 (0, 0)) := by rw [hY, hRe]; exact alloc_heap _ _
            have hb1 := hHeld.trans (hbc.mono hHeld.size)
            rw [← hY, ← hRe]
            clear hbc hY hRe
            refine HK3.out _ _ ⟨hb1, ?_⟩
            clear HK3 K3
            try simp only [List.getElem_toArray, List.getElem_cons_succ, List.getElem_cons_zero, Act.put, List.setIfInBounds_toArray, List.set_cons_zero, List.set_cons_succ]
            refine wpAnyH_all (rs := [4]) (by as_aux_lemma => kernel_rfl) (by simp) ?_
            intro i hi; obtain rfl := List.mem_singleton.1 hi; clear hi
            refine wpOp_step rfl (fun K3 hK3 => ?_)
            have HK3 := Lib.hid hK3
            clear hK3
            rw [if_pos (by rfl)]
            go_simp
            refine (HLW.out _).mono ?_
            rintro e Y2 ⟨rfl, hbc⟩
            have hb2 := hb1.trans (hbc.mono hb1.size)
            have hR := (hbc.block _ (Array.getElem?_eq_some_iff.1 hR).1).trans hR
            clear hbc
            refine HK3.out _ _ ⟨hb2, ?_⟩
            clear HK3 K3
            try simp only [List.getElem_toArray, List.getElem_cons_succ, List.getElem_cons_zero, Act.put, List.setIfInBounds_toArray, List.set_cons_zero, List.set_cons_succ]
            have hRi : RisksAt Y2 R (risksL g b m u) := by
              intro i r hi
              match i, hi with
              | 0, hi => simp [risksL] at hi; subst hi; simp [World.cell?, hR, Rk.val, Rk.agg]
              | 1, hi => simp [risksL] at hi; subst hi; simp [World.cell?, hR, Rk.val, Rk.agg]
              | i + 2, hi => simp [risksL] at hi
            refine wpAnyH_all (rs := [11]) (by as_aux_lemma => kernel_rfl) (by simp) ?_
            intro i hi; obtain rfl := List.mem_singleton.1 hi; clear hi
            refine wpOp_step rfl (fun K3 hK3 => ?_)
            have HK3 := Lib.hid hK3
            clear hK3
            rw [if_pos (by rfl)]
            go_simp
            refine (HBE.out _ R (((hb2).block _ hTr.lt).trans hTr) hRi).mono ?_
            rintro e Y9 ⟨rfl, hbc⟩
            have hb9 := hb2.trans (hbc.mono hb2.size)
            clear hbc hRi
            refine HK3.out _ _ ⟨hb9, ?_⟩
            clear HK3 K3
            try simp only [List.getElem_toArray, List.getElem_cons_succ, List.getElem_cons_zero, Act.put, List.setIfInBounds_toArray, List.set_cons_zero, List.set_cons_succ]
            refine wpAnyH_all (rs := [12]) (by as_aux_lemma => kernel_rfl) (by simp) ?_
            intro i hi; obtain rfl := List.mem_singleton.1 hi; clear hi
            refine wpOp_step rfl (fun K3 hK3 => ?_)
            have HK3 := Lib.hid hK3
            clear hK3
            rw [if_pos (by rfl)]
            go_simp
            refine HK3.out _ _ ⟨hb9, ?_⟩
            clear HK3 K3
            try simp only [List.getElem_toArray, List.getElem_cons_succ, List.getElem_cons_zero, Act.put, List.setIfInBounds_toArray, List.set_cons_zero, List.set_cons_succ]
            refine wpAnyH_done (by as_aux_lemma => kernel_rfl) ?_ _
            exact ⟨rfl, ⟨_, _, _, _, _, _, _, _, _, _, _, _, rfl⟩, hb9⟩
        · have hkn : k = n + 1 := by omega
          have hN2 : firstP F (n + 1) = none := by rw [← hkn]; exact HN.out
          have HS := Lib.hid hN2
          have hge : ¬ (k : Int) < (n : Int) + 1 := by omega
          clear hkn hN2 hlt
          gi_wp2
          have hO8 : OnlyE (· = C) W wr := .of_below hbel
          exact ⟨hO8.from (by intro k hk; omega), rfl, I2.out.trans hO8, ⟨pre, x, rfl, I3.out, by rw [HG.out, HS.out]; rfl, by rw [HXX.out.1, HXX.out.2]; exact (hbel.block _ (Array.getElem?_eq_some_iff.1 GX.out).1).trans GX.out⟩⟩
    case done =>
      rintro D xs W hD rfl ⟨-, i2, i3⟩ hK
      have h1 := i3 _ (plansL_mem (n := n) (a := g.toNat) (by omega))
      rw [good_full hg1 hg2 hg3 hm hu] at h1
      cases h1
    case stop =>
      rintro D cc pre W hD hpre ⟨rfl, i2, pre', x, rfl, i3, i4, i5⟩ hK
      have hfind := find_first hpre i3 i4
      have hxin := plansL_in (hpre.subset (List.mem_append_right _ (List.mem_singleton.2 rfl)))
      rw [show min x.1 n = x.1 by omega] at i5
      have hch : chooseP n (risksL g b m u) = x := by unfold chooseP; rw [hfind]; rfl
      have HCH := Lib.hid hch
      have k2' := i2.get k2 (by omega)
      have hDl := (Array.getElem?_eq_some_iff.1 hK).1
      have hbw : Below H w W := by rw [HH.out]; exact hb0.trans ((hb13.mono hb0.size).trans (i2.below (n := w.heap.size) (by have := HH.out; omega) (by intro k hk; have := HH.out; omega)))
      obtain ⟨c0, c1⟩ := two_cells i5
      obtain ⟨c2, c3⟩ := two_cells k2'
      have f0 : W.frozen? ⟨H + 1 + 1, 0, none⟩ = false := frozen_of k2'
      have f1 : W.frozen? ⟨H + 1 + 1, 1, none⟩ = false := frozen_of k2'
      have hp := two_put k2' (.int .i64 (x.1 : Nat)) (.int .i64 (x.2 : Nat))
      have hK2 := (two_other (X := W) (show D ≠ H + 1 + 1 by omega) (.int .i64 (x.1 : Nat)) (.int .i64 (x.2 : Nat))).trans hK
      have hb2 := below_two hbw (show H ≤ H + 1 + 1 by omega) (.int .i64 (x.1 : Nat)) (.int .i64 (x.2 : Nat))
      obtain ⟨x1, x2⟩ := x
      clear hfind hch hpre i3 i4 i5 i2 k2'
      gi_wp2
      go_wp2
      rw [Exit.noGoto_ret]
      generalize ((W.setCell ⟨H + 1 + 1, 0, none⟩ (.int .i64 (x1 : Nat))).setCell ⟨H + 1 + 1, 1, none⟩ (.int .i64 (x2 : Nat))) = W9 at hp hK2 hb2 ⊢
      refine ⟨by simp, .inl ⟨_, _, rfl, run_takeDeferred hK2, ?_⟩⟩
      have hg := grownBy_putObj' W9 D (.deferred none)
      obtain ⟨r0, r1⟩ := two_cells (show (W9.putObj D (.deferred none)).heap[H + 1 + 1]? = some (.cells #[.int .i64 (x1 : Nat), .int .i64 (x2 : Nat)] 23 (0, 0)) from (World.putObj_heap_other (by omega)).trans hp)
      refine ⟨.agg #[.int .i64 (x1 : Nat), .int .i64 (x2 : Nat)], ?_, ?_, ?_⟩
      · simp [results, Try.results44, go_sem, r0, r1]
      · rw [HCH.out]; rfl
      · rw [← HH.out]; exact hb2.grown hg (by have := (Array.getElem?_eq_some_iff.1 hp).1; omega) (fun q e => by cases e; omega)
  refine wpIn_wide.2 ?_
  have HMK := Lib.hid hmk
  have HBK := Lib.hid hbk
  clear hmk hbk
  refine wp_region_held_drew (S := fun w' => Below W0.heap.size W0 w') (by as_aux_lemma => kernel_rfl) (Below.refl _ _).drew (fun hHeld => ?_)
  refine wpAnyH_take (i := 0) (oi := _) (v := ?_) rfl (by as_aux_lemma => kernel_rfl) (by as_aux_lemma => kernel_rfl) (by as_aux_lemma => kernel_rfl) (fun _ _ _ h => by cases h.1) (Or.inl ⟨by rfl, ?_⟩) hHeld ?_
  rotate_left
  · intro w1 hSw
    have d := five_cells ((hSw.block _ (Array.getElem?_eq_some_iff.1 k1).1).trans k1)
    obtain ⟨d0, d1, d2, d3, d4⟩ := d
    go_simp; with_reducible rfl
  simp only [List.getElem_toArray, List.getElem_cons_succ, List.getElem_cons_zero, Act.put, List.setIfInBounds_toArray, List.set_cons_zero, List.set_cons_succ]
  refine wpAnyH_take (i := 2) (oi := _) (v := ?_) rfl (by as_aux_lemma => kernel_rfl) (by as_aux_lemma => kernel_rfl) (by as_aux_lemma => kernel_rfl) (fun _ _ _ h => by cases h.1) (Or.inl ⟨by rfl, ?_⟩) hHeld ?_
  rotate_left
  · intro w1 hSw
    have d := five_cells ((hSw.block _ (Array.getElem?_eq_some_iff.1 k1).1).trans k1)
    obtain ⟨d0, d1, d2, d3, d4⟩ := d
    go_simp; with_reducible rfl
  simp only [List.getElem_toArray, List.getElem_cons_succ, List.getElem_cons_zero, Act.put, List.setIfInBounds_toArray, List.set_cons_zero, List.set_cons_succ]
  generalize W0.drew = X0 at hHeld ⊢
  refine wpAnyH_all (rs := [1, 4, 5]) (by as_aux_lemma => kernel_rfl) (by simp) ?_
  intro i hi
  rcases (by simpa using hi : i = 1 ∨ i = 4 ∨ i = 5) with rfl | rfl | rfl <;> clear hi
  ·
    refine wpOp_step rfl (fun K3 hK3 => ?_)
    have HK3 := Lib.hid hK3
    clear hK3
    rw [if_pos (by rfl)]
    go_simp
    refine (HMK.out _).mono ?_
    rintro e X1 ⟨rfl, hbc⟩
    have hb1 := hHeld.trans (hbc.mono hHeld.size)
    clear hbc
    refine HK3.out _ _ ⟨hb1, ?_⟩
    clear HK3 K3
    try simp only [List.getElem_toArray, List.getElem_cons_succ, List.getElem_cons_zero, Act.put, List.setIfInBounds_toArray, List.set_cons_zero, List.set_cons_succ]
    refine wpAnyH_all (rs := [3, 4, 5]) (by as_aux_lemma => kernel_rfl) (by simp) ?_
    intro i hi
    rcases (by simpa using hi : i = 3 ∨ i = 4 ∨ i = 5) with rfl | rfl | rfl <;> clear hi
    ·
      refine wpOp_step rfl (fun K3 hK3 => ?_)
      have HK3 := Lib.hid hK3
      clear hK3
      rw [if_pos (by rfl)]
      go_simp
      refine (HBK.out _).mono ?_
      rintro e X2 ⟨rfl, hbc⟩
      have hb2 := hb1.trans (hbc.mono hb1.size)
      clear hbc
      refine HK3.out _ _ ⟨hb2, ?_⟩
      clear HK3 K3
      try simp only [List.getElem_toArray, List.getElem_cons_succ, List.getElem_cons_zero, Act.put, List.setIfInBounds_toArray, List.set_cons_zero, List.set_cons_succ]
      refine wpAnyH_all (rs := [4, 5]) (by as_aux_lemma => kernel_rfl) (by simp) ?_
      intro i hi
      rcases (by simpa using hi : i = 4 ∨ i = 5) with rfl | rfl <;> clear hi
      ·
        refine wpOp_step rfl (fun K3 hK3 => ?_)
        have HK3 := Lib.hid hK3
        clear hK3
        rw [if_pos (by rfl)]
        go_simp
        obtain ⟨X3, hX⟩ : ∃ Z, Z = X2.alloc (.cells #[.int .i64 0, .int .i64 0] 78) := ⟨_, rfl⟩
        obtain ⟨B5, hB⟩ : ∃ B, B = X2.heap.size := ⟨_, rfl⟩
        have hbc : Below X2.heap.size X2 X3 := by rw [hX]; exact (Below.refl _ _).alloc (Nat.le_refl _) _
        have q5 : X3.heap[B5]? = some (.cells #[.int .i64 0, .int .i64 0] 78 (0, 0)) := by rw [hX, hB]; exact alloc_heap _ _
        have l5 : W0.heap.size ≤ B5 := by rw [hB]; exact hb2.size
        have hb3 := hb2.trans (hbc.mono hb2.size)
        rw [← hX, ← hB]
        clear hbc hX hB
        refine HK3.out _ _ ⟨hb3, ?_⟩
        clear HK3 K3
        try simp only [List.getElem_toArray, List.getElem_cons_succ, List.getElem_cons_zero, Act.put, List.setIfInBounds_toArray, List.set_cons_zero, List.set_cons_succ]
        refine wpAnyH_all (rs := [5]) (by as_aux_lemma => kernel_rfl) (by simp) ?_
        intro i hi; obtain rfl := List.mem_singleton.1 hi; clear hi
        refine wpOp_step rfl (fun K3 hK3 => ?_)
        have HK3 := Lib.hid hK3
        clear hK3
        rw [if_pos (by rfl)]
        go_simp
        obtain ⟨X4, hX⟩ : ∃ Z, Z = X3.alloc (.cells #[.int .i64 0, .int .i64 0] 81) := ⟨_, rfl⟩
        obtain ⟨B6, hB⟩ : ∃ B, B = X3.heap.size := ⟨_, rfl⟩
        have hbc : Below X3.heap.size X3 X4 := by rw [hX]; exact (Below.refl _ _).alloc (Nat.le_refl _) _
        have q6 : X4.heap[B6]? = some (.cells #[.int .i64 0, .int .i64 0] 81 (0, 0)) := by rw [hX, hB]; exact alloc_heap _ _
        have hne : B5 ≠ B6 := by have := (Array.getElem?_eq_some_iff.1 q5).1; omega
        have q5 := (hbc.block _ (Array.getElem?_eq_some_iff.1 q5).1).trans q5
        have l6 : W0.heap.size ≤ B6 := by rw [hB]; exact hb3.size
        have hb4 := hb3.trans (hbc.mono hb3.size)
        rw [← hX, ← hB]
        clear hbc hX hB
        refine HK3.out _ _ ⟨hb4, ?_⟩
        clear HK3 K3
        try simp only [List.getElem_toArray, List.getElem_cons_succ, List.getElem_cons_zero, Act.put, List.setIfInBounds_toArray, List.set_cons_zero, List.set_cons_succ]
        refine wpAnyH_all (rs := [6]) (by as_aux_lemma => kernel_rfl) (by simp) ?_
        intro i hi; obtain rfl := List.mem_singleton.1 hi; clear hi
        refine wpOp_step rfl (fun K3 hK3 => ?_)
        have HK3 := Lib.hid hK3
        clear hK3
        rw [if_pos (by rfl)]
        obtain ⟨c0, c1⟩ := two_cells q5
        have f0 : X4.frozen? ⟨B5, 0, none⟩ = false := frozen_of q5
        have f1 : X4.frozen? ⟨B5, 1, none⟩ = false := frozen_of q5
        go_simp
        have hb5 := below_two hb4 l5 (.int .i64 g) (.int .i64 m)
        have q6 := (two_other (X := X4) (hne.symm) (.int .i64 g) (.int .i64 m)).trans q6
        have q5 := two_put q5 (.int .i64 g) (.int .i64 m)
        clear c0 c1 f0 f1
        generalize ((X4.setCell ⟨B5, 0, none⟩ (.int .i64 g)).setCell ⟨B5, 1, none⟩ (.int .i64 m)) = X5 at hb5 q5 q6 ⊢
        refine HK3.out _ _ ⟨hb5, ?_⟩
        clear HK3 K3
        try simp only [List.getElem_toArray, List.getElem_cons_succ, List.getElem_cons_zero, Act.put, List.setIfInBounds_toArray, List.set_cons_zero, List.set_cons_succ]
        refine wpAnyH_all (rs := [7]) (by as_aux_lemma => kernel_rfl) (by simp) ?_
        intro i hi; obtain rfl := List.mem_singleton.1 hi; clear hi
        refine wpOp_step rfl (fun K3 hK3 => ?_)
        have HK3 := Lib.hid hK3
        clear hK3
        rw [if_pos (by rfl)]
        obtain ⟨c0, c1⟩ := two_cells q6
        have f0 : X5.frozen? ⟨B6, 0, none⟩ = false := frozen_of q6
        have f1 : X5.frozen? ⟨B6, 1, none⟩ = false := frozen_of q6
        go_simp
        have hb6 := below_two hb5 l6 (.int .i64 b) (.int .i64 u)
        have q5 := (two_other (X := X5) (hne) (.int .i64 b) (.int .i64 u)).trans q5
        have q6 := two_put q6 (.int .i64 b) (.int .i64 u)
        clear c0 c1 f0 f1
        generalize ((X5.setCell ⟨B6, 0, none⟩ (.int .i64 b)).setCell ⟨B6, 1, none⟩ (.int .i64 u)) = X6 at hb6 q5 q6 ⊢
        refine HK3.out _ _ ⟨hb6, ?_⟩
        clear HK3 K3
        try simp only [List.getElem_toArray, List.getElem_cons_succ, List.getElem_cons_zero, Act.put, List.setIfInBounds_toArray, List.set_cons_zero, List.set_cons_succ]
        refine wpAnyH_done (by as_aux_lemma => kernel_rfl) ?_ _
        exact ⟨rfl, B5, B6, _, _, _, _, rfl, hb6, q5, q6, l5, l6⟩
      ·
        refine wpOp_step rfl (fun K3 hK3 => ?_)
        have HK3 := Lib.hid hK3
        clear hK3
        rw [if_pos (by rfl)]
        go_simp
        obtain ⟨X3, hX⟩ : ∃ Z, Z = X2.alloc (.cells #[.int .i64 0, .int .i64 0] 81) := ⟨_, rfl⟩
        obtain ⟨B6, hB⟩ : ∃ B, B = X2.heap.size := ⟨_, rfl⟩
        have hbc : Below X2.heap.size X2 X3 := by rw [hX]; exact (Below.refl _ _).alloc (Nat.le_refl _) _
        have q6 : X3.heap[B6]? = some (.cells #[.int .i64 0, .int .i64 0] 81 (0, 0)) := by rw [hX, hB]; exact alloc_heap _ _
        have l6 : W0.heap.size ≤ B6 := by rw [hB]; exact hb2.size
        have hb3 := hb2.trans (hbc.mono hb2.size)
        rw [← hX, ← hB]
        clear hbc hX hB
        refine HK3.out _ _ ⟨hb3, ?_⟩
        clear HK3 K3
        try simp only [List.getElem_toArray, List.getElem_cons_succ, List.getElem_cons_zero, Act.put, List.setIfInBounds_toArray, List.set_cons_zero, List.set_cons_succ]
        refine wpAnyH_all (rs := [4]) (by as_aux_lemma => kernel_rfl) (by simp) ?_
        intro i hi; obtain rfl := List.mem_singleton.1 hi; clear hi
        refine wpOp_step rfl (fun K3 hK3 => ?_)
        have HK3 := Lib.hid hK3
        clear hK3
        rw [if_pos (by rfl)]
        go_simp
        obtain ⟨X4, hX⟩ : ∃ Z, Z = X3.alloc (.cells #[.int .i64 0, .int .i64 0] 78) := ⟨_, rfl⟩
        obtain ⟨B5, hB⟩ : ∃ B, B = X3.heap.size := ⟨_, rfl⟩
        have hbc : Below X3.heap.size X3 X4 := by rw [hX]; exact (Below.refl _ _).alloc (Nat.le_refl _) _
        have q5 : X4.heap[B5]? = some (.cells #[.int .i64 0, .int .i64 0] 78 (0, 0)) := by rw [hX, hB]; exact alloc_heap _ _
        have hne : B5 ≠ B6 := by have := (Array.getElem?_eq_some_iff.1 q6).1; omega
        have q6 := (hbc.block _ (Array.getElem?_eq_some_iff.1 q6).1).trans q6
        have l5 : W0.heap.size ≤ B5 := by rw [hB]; exact hb3.size
        have hb4 := hb3.trans (hbc.mono hb3.size)
        rw [← hX, ← hB]
        clear hbc hX hB
        refine HK3.out _ _ ⟨hb4, ?_⟩
        clear HK3 K3
        try simp only [List.getElem_toArray, List.getElem_cons_succ, List.getElem_cons_zero, Act.put, List.setIfInBounds_toArray, List.set_cons_zero, List.set_cons_succ]
        refine wpAnyH_all (rs := [6]) (by as_aux_lemma => kernel_rfl) (by simp) ?_
        intro i hi; obtain rfl := List.mem_singleton.1 hi; clear hi
        refine wpOp_step rfl (fun K3 hK3 => ?_)
        have HK3 := Lib.hid hK3
        clear hK3
        rw [if_pos (by rfl)]
        obtain ⟨c0, c1⟩ := two_cells q5
        have f0 : X4.frozen? ⟨B5, 0, none⟩ = false := frozen_of q5
        have f1 : X4.frozen? ⟨B5, 1, none⟩ = false := frozen_of q5
        go_simp
        have hb5 := below_two hb4 l5 (.int .i64 g) (.int .i64 m)
        have q6 := (two_other (X := X4) (hne.symm) (.int .i64 g) (.int .i64 m)).trans q6
        have q5 := two_put q5 (.int .i64 g) (.int .i64 m)
        clear c0 c1 f0 f1
        generalize ((X4.setCell ⟨B5, 0, none⟩ (.int .i64 g)).setCell ⟨B5, 1, none⟩ (.int .i64 m)) = X5 at hb5 q5 q6 ⊢
        refine HK3.out _ _ ⟨hb5, ?_⟩
        clear HK3 K3
        try simp only [List.getElem_toArray, List.getElem_cons_succ, List.getElem_cons_zero, Act.put, List.setIfInBounds_toArray, List.set_cons_zero, List.set_cons_succ]
        refine wpAnyH_all (rs := [7]) (by as_aux_lemma => kernel_rfl) (by simp) ?_
        intro i hi; obtain rfl := List.mem_singleton.1 hi; clear hi
        refine wpOp_step rfl (fun K3 hK3 => ?_)
        have HK3 := Lib.hid hK3
        clear hK3
        rw [if_pos (by rfl)]
        obtain ⟨c0, c1⟩ := two_cells q6
        have f0 : X5.frozen? ⟨B6, 0, none⟩ = false := frozen_of q6
        have f1 : X5.frozen? ⟨B6, 1, none⟩ = false := frozen_of q6
        go_simp
        have hb6 := below_two hb5 l6 (.int .i64 b) (.int .i64 u)
        have q5 := (two_other (X := X5) (hne) (.int .i64 b) (.int .i64 u)).trans q5
        have q6 := two_put q6 (.int .i64 b) (.int .i64 u)
        clear c0 c1 f0 f1
        generalize ((X5.setCell ⟨B6, 0, none⟩ (.int .i64 b)).setCell ⟨B6, 1, none⟩ (.int .i64 u)) = X6 at hb6 q5 q6 ⊢
        refine HK3.out _ _ ⟨hb6, ?_⟩
        clear HK3 K3
        try simp only [List.getElem_toArray, List.getElem_cons_succ, List.getElem_cons_zero, Act.put, List.setIfInBounds_toArray, List.set_cons_zero, List.set_cons_succ]
        refine wpAnyH_done (by as_aux_lemma => kernel_rfl) ?_ _
        exact ⟨rfl, B5, B6, _, _, _, _, rfl, hb6, q5, q6, l5, l6⟩
    ·
      refine wpOp_step rfl (fun K3 hK3 => ?_)
      have HK3 := Lib.hid hK3
      clear hK3
      rw [if_pos (by rfl)]
      go_simp
      obtain ⟨X2, hX⟩ : ∃ Z, Z = X1.alloc (.cells #[.int .i64 0, .int .i64 0] 78) := ⟨_, rfl⟩
      obtain ⟨B5, hB⟩ : ∃ B, B = X1.heap.size := ⟨_, rfl⟩
      have hbc : Below X1.heap.size X1 X2 := by rw [hX]; exact (Below.refl _ _).alloc (Nat.le_refl _) _
      have q5 : X2.heap[B5]? = some (.cells #[.int .i64 0, .int .i64 0] 78 (0, 0)) := by rw [hX, hB]; exact alloc_heap _ _
      have l5 : W0.heap.size ≤ B5 := by rw [hB]; exact hb1.size
      have hb2 := hb1.trans (hbc.mono hb1.size)
      rw [← hX, ← hB]
      clear hbc hX hB
      refine HK3.out _ _ ⟨hb2, ?_⟩
      clear HK3 K3
      try simp only [List.getElem_toArray, List.getElem_cons_succ, List.getElem_cons_zero, Act.put, List.setIfInBounds_toArray, List.set_cons_zero, List.set_cons_succ]
      refine wpAnyH_all (rs := [3, 5]) (by as_aux_lemma => kernel_rfl) (by simp) ?_
      intro i hi
      rcases (by simpa using hi : i = 3 ∨ i = 5) with rfl | rfl <;> clear hi
      ·
        refine wpOp_step rfl (fun K3 hK3 => ?_)
        have HK3 := Lib.hid hK3
        clear hK3
        rw [if_pos (by rfl)]
        go_simp
        refine (HBK.out _).mono ?_
        rintro e X3 ⟨rfl, hbc⟩
        have hb3 := hb2.trans (hbc.mono hb2.size)
        have q5 := (hbc.block _ (Array.getElem?_eq_some_iff.1 q5).1).trans q5
        clear hbc
        refine HK3.out _ _ ⟨hb3, ?_⟩
        clear HK3 K3
        try simp only [List.getElem_toArray, List.getElem_cons_succ, List.getElem_cons_zero, Act.put, List.setIfInBounds_toArray, List.set_cons_zero, List.set_cons_succ]
        refine wpAnyH_all (rs := [5]) (by as_aux_lemma => kernel_rfl) (by simp) ?_
        intro i hi; obtain rfl := List.mem_singleton.1 hi; clear hi
        refine wpOp_step rfl (fun K3 hK3 => ?_)
        have HK3 := Lib.hid hK3
        clear hK3
        rw [if_pos (by rfl)]
        go_simp
        obtain ⟨X4, hX⟩ : ∃ Z, Z = X3.alloc (.cells #[.int .i64 0, .int .i64 0] 81) := ⟨_, rfl⟩
        obtain ⟨B6, hB⟩ : ∃ B, B = X3.heap.size := ⟨_, rfl⟩
        have hbc : Below X3.heap.size X3 X4 := by rw [hX]; exact (Below.refl _ _).alloc (Nat.le_refl _) _
        have q6 : X4.heap[B6]? = some (.cells #[.int .i64 0, .int .i64 0] 81 (0, 0)) := by rw [hX, hB]; exact alloc_heap _ _
        have hne : B5 ≠ B6 := by have := (Array.getElem?_eq_some_iff.1 q5).1; omega
        have q5 := (hbc.block _ (Array.getElem?_eq_some_iff.1 q5).1).trans q5
        have l6 : W0.heap.size ≤ B6 := by rw [hB]; exact hb3.size
        have hb4 := hb3.trans (hbc.mono hb3.size)
        rw [← hX, ← hB]
        clear hbc hX hB
        refine HK3.out _ _ ⟨hb4, ?_⟩
        clear HK3 K3
        try simp only [List.getElem_toArray, List.getElem_cons_succ, List.getElem_cons_zero, Act.put, List.setIfInBounds_toArray, List.set_cons_zero, List.set_cons_succ]
        refine wpAnyH_all (rs := [6]) (by as_aux_lemma => kernel_rfl) (by simp) ?_
        intro i hi; obtain rfl := List.mem_singleton.1 hi; clear hi
        refine wpOp_step rfl (fun K3 hK3 => ?_)
        have HK3 := Lib.hid hK3
        clear hK3
        rw [if_pos (by rfl)]
        obtain ⟨c0, c1⟩ := two_cells q5
        have f0 : X4.frozen? ⟨B5, 0, none⟩ = false := frozen_of q5
        have f1 : X4.frozen? ⟨B5, 1, none⟩ = false := frozen_of q5
        go_simp
        have hb5 := below_two hb4 l5 (.int .i64 g) (.int .i64 m)
        have q6 := (two_other (X := X4) (hne.symm) (.int .i64 g) (.int .i64 m)).trans q6
        have q5 := two_put q5 (.int .i64 g) (.int .i64 m)
        clear c0 c1 f0 f1
        generalize ((X4.setCell ⟨B5, 0, none⟩ (.int .i64 g)).setCell ⟨B5, 1, none⟩ (.int .i64 m)) = X5 at hb5 q5 q6 ⊢
        refine HK3.out _ _ ⟨hb5, ?_⟩
        clear HK3 K3
        try simp only [List.getElem_toArray, List.getElem_cons_succ, List.getElem_cons_zero, Act.put, List.setIfInBounds_toArray, List.set_cons_zero, List.set_cons_succ]
        refine wpAnyH_all (rs := [7]) (by as_aux_lemma => kernel_rfl) (by simp) ?_
        intro i hi; obtain rfl := List.mem_singleton.1 hi; clear hi
        refine wpOp_step rfl (fun K3 hK3 => ?_)
        have HK3 := Lib.hid hK3
        clear hK3
        rw [if_pos (by rfl)]
        obtain ⟨c0, c1⟩ := two_cells q6
        have f0 : X5.frozen? ⟨B6, 0, none⟩ = false := frozen_of q6
        have f1 : X5.frozen? ⟨B6, 1, none⟩ = false := frozen_of q6
        go_simp
        have hb6 := below_two hb5 l6 (.int .i64 b) (.int .i64 u)
        have q5 := (two_other (X := X5) (hne) (.int .i64 b) (.int .i64 u)).trans q5
        have q6 := two_put q6 (.int .i64 b) (.int .i64 u)
        clear c0 c1 f0 f1
        generalize ((X5.setCell ⟨B6, 0, none⟩ (.int .i64 b)).setCell ⟨B6, 1, none⟩ (.int .i64 u)) = X6 at hb6 q5 q6 ⊢
        refine HK3.out _ _ ⟨hb6, ?_⟩
        clear HK3 K3
        try simp only [List.getElem_toArray, List.getElem_cons_succ, List.getElem_cons_zero, Act.put, List.setIfInBounds_toArray, List.set_cons_zero, List.set_cons_succ]
        refine wpAnyH_done (by as_aux_lemma => kernel_rfl) ?_ _
        exact ⟨rfl, B5, B6, _, _, _, _, rfl, hb6, q5, q6, l5, l6⟩
      ·
        refine wpOp_step rfl (fun K3 hK3 => ?_)
        have HK3 := Lib.hid hK3
        clear hK3
        rw [if_pos (by rfl)]
        go_simp
        obtain ⟨X3, hX⟩ : ∃ Z, Z = X2.alloc (.cells #[.int .i64 0, .int .i64 0] 81) := ⟨_, rfl⟩
        obtain ⟨B6, hB⟩ : ∃ B, B = X2.heap.size := ⟨_, rfl⟩
        have hbc : Below X2.heap.size X2 X3 := by rw [hX]; exact (Below.refl _ _).alloc (Nat.le_refl _) _
        have q6 : X3.heap[B6]? = some (.cells #[.int .i64 0, .int .i64 0] 81 (0, 0)) := by rw [hX, hB]; exact alloc_heap _ _
        have hne : B5 ≠ B6 := by have := (Array.getElem?_eq_some_iff.1 q5).1; omega
        have q5 := (hbc.block _ (Array.getElem?_eq_some_iff.1 q5).1).trans q5
        have l6 : W0.heap.size ≤ B6 := by rw [hB]; exact hb2.size
        have hb3 := hb2.trans (hbc.mono hb2.size)
        rw [← hX, ← hB]
        clear hbc hX hB
        refine HK3.out _ _ ⟨hb3, ?_⟩
        clear HK3 K3
        try simp only [List.getElem_toArray, List.getElem_cons_succ, List.getElem_cons_zero, Act.put, List.setIfInBounds_toArray, List.set_cons_zero, List.set_cons_succ]
        refine wpAnyH_all (rs := [3]) (by as_aux_lemma => kernel_rfl) (by simp) ?_
        intro i hi; obtain rfl := List.mem_singleton.1 hi; clear hi
        refine wpOp_step rfl (fun K3 hK3 => ?_)
        have HK3 := Lib.hid hK3
        clear hK3
        rw [if_pos (by rfl)]
        go_simp
        refine (HBK.out _).mono ?_
        rintro e X4 ⟨rfl, hbc⟩
        have hb4 := hb3.trans (hbc.mono hb3.size)
        have q5 := (hbc.block _ (Array.getElem?_eq_some_iff.1 q5).1).trans q5
        have q6 := (hbc.block _ (Array.getElem?_eq_some_iff.1 q6).1).trans q6
        clear hbc
        refine HK3.out _ _ ⟨hb4, ?_⟩
        clear HK3 K3
        try simp only [List.getElem_toArray, List.getElem_cons_succ, List.getElem_cons_zero, Act.put, List.setIfInBounds_toArray, List.set_cons_zero, List.set_cons_succ]
        refine wpAnyH_all (rs := [6]) (by as_aux_lemma => kernel_rfl) (by simp) ?_
        intro i hi; obtain rfl := List.mem_singleton.1 hi; clear hi
        refine wpOp_step rfl (fun K3 hK3 => ?_)
        have HK3 := Lib.hid hK3
        clear hK3
        rw [if_pos (by rfl)]
        obtain ⟨c0, c1⟩ := two_cells q5
        have f0 : X4.frozen? ⟨B5, 0, none⟩ = false := frozen_of q5
        have f1 : X4.frozen? ⟨B5, 1, none⟩ = false := frozen_of q5
        go_simp
        have hb5 := below_two hb4 l5 (.int .i64 g) (.int .i64 m)
        have q6 := (two_other (X := X4) (hne.symm) (.int .i64 g) (.int .i64 m)).trans q6
        have q5 := two_put q5 (.int .i64 g) (.int .i64 m)
        clear c0 c1 f0 f1
        generalize ((X4.setCell ⟨B5, 0, none⟩ (.int .i64 g)).setCell ⟨B5, 1, none⟩ (.int .i64 m)) = X5 at hb5 q5 q6 ⊢
        refine HK3.out _ _ ⟨hb5, ?_⟩
        clear HK3 K3
        try simp only [List.getElem_toArray, List.getElem_cons_succ, List.getElem_cons_zero, Act.put, List.setIfInBounds_toArray, List.set_cons_zero, List.set_cons_succ]
        refine wpAnyH_all (rs := [7]) (by as_aux_lemma => kernel_rfl) (by simp) ?_
        intro i hi; obtain rfl := List.mem_singleton.1 hi; clear hi
        refine wpOp_step rfl (fun K3 hK3 => ?_)
        have HK3 := Lib.hid hK3
        clear hK3
        rw [if_pos (by rfl)]
        obtain ⟨c0, c1⟩ := two_cells q6
        have f0 : X5.frozen? ⟨B6, 0, none⟩ = false := frozen_of q6
        have f1 : X5.frozen? ⟨B6, 1, none⟩ = false := frozen_of q6
        go_simp
        have hb6 := below_two hb5 l6 (.int .i64 b) (.int .i64 u)
        have q5 := (two_other (X := X5) (hne) (.int .i64 b) (.int .i64 u)).trans q5
        have q6 := two_put q6 (.int .i64 b) (.int .i64 u)
        clear c0 c1 f0 f1
        generalize ((X5.setCell ⟨B6, 0, none⟩ (.int .i64 b)).setCell ⟨B6, 1, none⟩ (.int .i64 u)) = X6 at hb6 q5 q6 ⊢
        refine HK3.out _ _ ⟨hb6, ?_⟩
        clear HK3 K3
        try simp only [List.getElem_toArray, List.getElem_cons_succ, List.getElem_cons_zero, Act.put, List.setIfInBounds_toArray, List.set_cons_zero, List.set_cons_succ]
        refine wpAnyH_done (by as_aux_lemma => kernel_rfl) ?_ _
        exact ⟨rfl, B5, B6, _, _, _, _, rfl, hb6, q5, q6, l5, l6⟩
    ·
      refine wpOp_step rfl (fun K3 hK3 => ?_)
      have HK3 := Lib.hid hK3
      clear hK3
      rw [if_pos (by rfl)]
      go_simp
      obtain ⟨X2, hX⟩ : ∃ Z, Z = X1.alloc (.cells #[.int .i64 0, .int .i64 0] 81) := ⟨_, rfl⟩
      obtain ⟨B6, hB⟩ : ∃ B, B = X1.heap.size := ⟨_, rfl⟩
      have hbc : Below X1.heap.size X1 X2 := by rw [hX]; exact (Below.refl _ _).alloc (Nat.le_refl _) _
      have q6 : X2.heap[B6]? = some (.cells #[.int .i64 0, .int .i64 0] 81 (0, 0)) := by rw [hX, hB]; exact alloc_heap _ _
      have l6 : W0.heap.size ≤ B6 := by rw [hB]; exact hb1.size
      have hb2 := hb1.trans (hbc.mono hb1.size)
      rw [← hX, ← hB]
      clear hbc hX hB
      refine HK3.out _ _ ⟨hb2, ?_⟩
      clear HK3 K3
      try simp only [List.getElem_toArray, List.getElem_cons_succ, List.getElem_cons_zero, Act.put, List.setIfInBounds_toArray, List.set_cons_zero, List.set_cons_succ]
      refine wpAnyH_all (rs := [3, 4]) (by as_aux_lemma => kernel_rfl) (by simp) ?_
      intro i hi
      rcases (by simpa using hi : i = 3 ∨ i = 4) with rfl | rfl <;> clear hi
      ·
        refine wpOp_step rfl (fun K3 hK3 => ?_)
        have HK3 := Lib.hid hK3
        clear hK3
        rw [if_pos (by rfl)]
        go_simp
        refine (HBK.out _).mono ?_
        rintro e X3 ⟨rfl, hbc⟩
        have hb3 := hb2.trans (hbc.mono hb2.size)
        have q6 := (hbc.block _ (Array.getElem?_eq_some_iff.1 q6).1).trans q6
        clear hbc
        refine HK3.out _ _ ⟨hb3, ?_⟩
        clear HK3 K3
        try simp only [List.getElem_toArray, List.getElem_cons_succ, List.getElem_cons_zero, Act.put, List.setIfInBounds_toArray, List.set_cons_zero, List.set_cons_succ]
        refine wpAnyH_all (rs := [4]) (by as_aux_lemma => kernel_rfl) (by simp) ?_
        intro i hi; obtain rfl := List.mem_singleton.1 hi; clear hi
        refine wpOp_step rfl (fun K3 hK3 => ?_)
        have HK3 := Lib.hid hK3
        clear hK3
        rw [if_pos (by rfl)]
        go_simp
        obtain ⟨X4, hX⟩ : ∃ Z, Z = X3.alloc (.cells #[.int .i64 0, .int .i64 0] 78) := ⟨_, rfl⟩
        obtain ⟨B5, hB⟩ : ∃ B, B = X3.heap.size := ⟨_, rfl⟩
        have hbc : Below X3.heap.size X3 X4 := by rw [hX]; exact (Below.refl _ _).alloc (Nat.le_refl _) _
        have q5 : X4.heap[B5]? = some (.cells #[.int .i64 0, .int .i64 0] 78 (0, 0)) := by rw [hX, hB]; exact alloc_heap _ _
        have hne : B5 ≠ B6 := by have := (Array.getElem?_eq_some_iff.1 q6).1; omega
        have q6 := (hbc.block _ (Array.getElem?_eq_some_iff.1 q6).1).trans q6
        have l5 : W0.heap.size ≤ B5 := by rw [hB]; exact hb3.size
        have hb4 := hb3.trans (hbc.mono hb3.size)
        rw [← hX, ← hB]
        clear hbc hX hB
        refine HK3.out _ _ ⟨hb4, ?_⟩
        clear HK3 K3
        try simp only [List.getElem_toArray, List.getElem_cons_succ, List.getElem_cons_zero, Act.put, List.setIfInBounds_toArray, List.set_cons_zero, List.set_cons_succ]
        refine wpAnyH_all (rs := [6]) (by as_aux_lemma => kernel_rfl) (by simp) ?_
        intro i hi; obtain rfl := List.mem_singleton.1 hi; clear hi
        refine wpOp_step rfl (fun K3 hK3 => ?_)
        have HK3 := Lib.hid hK3
        clear hK3
        rw [if_pos (by rfl)]
        obtain ⟨c0, c1⟩ := two_cells q5
        have f0 : X4.frozen? ⟨B5, 0, none⟩ = false := frozen_of q5
        have f1 : X4.frozen? ⟨B5, 1, none⟩ = false := frozen_of q5
        go_simp
        have hb5 := below_two hb4 l5 (.int .i64 g) (.int .i64 m)
        have q6 := (two_other (X := X4) (hne.symm) (.int .i64 g) (.int .i64 m)).trans q6
        have q5 := two_put q5 (.int .i64 g) (.int .i64 m)
        clear c0 c1 f0 f1
        generalize ((X4.setCell ⟨B5, 0, none⟩ (.int .i64 g)).setCell ⟨B5, 1, none⟩ (.int .i64 m)) = X5 at hb5 q5 q6 ⊢
        refine HK3.out _ _ ⟨hb5, ?_⟩
        clear HK3 K3
        try simp only [List.getElem_toArray, List.getElem_cons_succ, List.getElem_cons_zero, Act.put, List.setIfInBounds_toArray, List.set_cons_zero, List.set_cons_succ]
        refine wpAnyH_all (rs := [7]) (by as_aux_lemma => kernel_rfl) (by simp) ?_
        intro i hi; obtain rfl := List.mem_singleton.1 hi; clear hi
        refine wpOp_step rfl (fun K3 hK3 => ?_)
        have HK3 := Lib.hid hK3
        clear hK3
        rw [if_pos (by rfl)]
        obtain ⟨c0, c1⟩ := two_cells q6
        have f0 : X5.frozen? ⟨B6, 0, none⟩ = false := frozen_of q6
        have f1 : X5.frozen? ⟨B6, 1, none⟩ = false := frozen_of q6
        go_simp
        have hb6 := below_two hb5 l6 (.int .i64 b) (.int .i64 u)
        have q5 := (two_other (X := X5) (hne) (.int .i64 b) (.int .i64 u)).trans q5
        have q6 := two_put q6 (.int .i64 b) (.int .i64 u)
        clear c0 c1 f0 f1
        generalize ((X5.setCell ⟨B6, 0, none⟩ (.int .i64 b)).setCell ⟨B6, 1, none⟩ (.int .i64 u)) = X6 at hb6 q5 q6 ⊢
        refine HK3.out _ _ ⟨hb6, ?_⟩
        clear HK3 K3
        try simp only [List.getElem_toArray, List.getElem_cons_succ, List.getElem_cons_zero, Act.put, List.setIfInBounds_toArray, List.set_cons_zero, List.set_cons_succ]
        refine wpAnyH_done (by as_aux_lemma => kernel_rfl) ?_ _
        exact ⟨rfl, B5, B6, _, _, _, _, rfl, hb6, q5, q6, l5, l6⟩
      ·
        refine wpOp_step rfl (fun K3 hK3 => ?_)
        have HK3 := Lib.hid hK3
        clear hK3
        rw [if_pos (by rfl)]
        go_simp
        obtain ⟨X3, hX⟩ : ∃ Z, Z = X2.alloc (.cells #[.int .i64 0, .int .i64 0] 78) := ⟨_, rfl⟩
        obtain ⟨B5, hB⟩ : ∃ B, B = X2.heap.size := ⟨_, rfl⟩
        have hbc : Below X2.heap.size X2 X3 := by rw [hX]; exact (Below.refl _ _).alloc (Nat.le_refl _) _
        have q5 : X3.heap[B5]? = some (.cells #[.int .i64 0, .int .i64 0] 78 (0, 0)) := by rw [hX, hB]; exact alloc_heap _ _
        have hne : B5 ≠ B6 := by have := (Array.getElem?_eq_some_iff.1 q6).1; omega
        have q6 := (hbc.block _ (Array.getElem?_eq_some_iff.1 q6).1).trans q6
        have l5 : W0.heap.size ≤ B5 := by rw [hB]; exact hb2.size
        have hb3 := hb2.trans (hbc.mono hb2.size)
        rw [← hX, ← hB]
        clear hbc hX hB
        refine HK3.out _ _ ⟨hb3, ?_⟩
        clear HK3 K3
        try simp only [List.getElem_toArray, List.getElem_cons_succ, List.getElem_cons_zero, Act.put, List.setIfInBounds_toArray, List.set_cons_zero, List.set_cons_succ]
        refine wpAnyH_all (rs := [3]) (by as_aux_lemma => kernel_rfl) (by simp) ?_
        intro i hi; obtain rfl := List.mem_singleton.1 hi; clear hi
        refine wpOp_step rfl (fun K3 hK3 => ?_)
        have HK3 := Lib.hid hK3
        clear hK3
        rw [if_pos (by rfl)]
        go_simp
        refine (HBK.out _).mono ?_
        rintro e X4 ⟨rfl, hbc⟩
        have hb4 := hb3.trans (hbc.mono hb3.size)
        have q5 := (hbc.block _ (Array.getElem?_eq_some_iff.1 q5).1).trans q5
        have q6 := (hbc.block _ (Array.getElem?_eq_some_iff.1 q6).1).trans q6
        clear hbc
        refine HK3.out _ _ ⟨hb4, ?_⟩
        clear HK3 K3
        try simp only [List.getElem_toArray, List.getElem_cons_succ, List.getElem_cons_zero, Act.put, List.setIfInBounds_toArray, List.set_cons_zero, List.set_cons_succ]
        refine wpAnyH_all (rs := [6]) (by as_aux_lemma => kernel_rfl) (by simp) ?_
        intro i hi; obtain rfl := List.mem_singleton.1 hi; clear hi
        refine wpOp_step rfl (fun K3 hK3 => ?_)
        have HK3 := Lib.hid hK3
        clear hK3
        rw [if_pos (by rfl)]
        obtain ⟨c0, c1⟩ := two_cells q5
        have f0 : X4.frozen? ⟨B5, 0, none⟩ = false := frozen_of q5
        have f1 : X4.frozen? ⟨B5, 1, none⟩ = false := frozen_of q5
        go_simp
        have hb5 := below_two hb4 l5 (.int .i64 g) (.int .i64 m)
        have q6 := (two_other (X := X4) (hne.symm) (.int .i64 g) (.int .i64 m)).trans q6
        have q5 := two_put q5 (.int .i64 g) (.int .i64 m)
        clear c0 c1 f0 f1
        generalize ((X4.setCell ⟨B5, 0, none⟩ (.int .i64 g)).setCell ⟨B5, 1, none⟩ (.int .i64 m)) = X5 at hb5 q5 q6 ⊢
        refine HK3.out _ _ ⟨hb5, ?_⟩
        clear HK3 K3
        try simp only [List.getElem_toArray, List.getElem_cons_succ, List.getElem_cons_zero, Act.put, List.setIfInBounds_toArray, List.set_cons_zero, List.set_cons_succ]
        refine wpAnyH_all (rs := [7]) (by as_aux_lemma => kernel_rfl) (by simp) ?_
        intro i hi; obtain rfl := List.mem_singleton.1 hi; clear hi
        refine wpOp_step rfl (fun K3 hK3 => ?_)
        have HK3 := Lib.hid hK3
        clear hK3
        rw [if_pos (by rfl)]
        obtain ⟨c0, c1⟩ := two_cells q6
        have f0 : X5.frozen? ⟨B6, 0, none⟩ = false := frozen_of q6
        have f1 : X5.frozen? ⟨B6, 1, none⟩ = false := frozen_of q6
        go_simp
        have hb6 := below_two hb5 l6 (.int .i64 b) (.int .i64 u)
        have q5 := (two_other (X := X5) (hne) (.int .i64 b) (.int .i64 u)).trans q5
        have q6 := two_put q6 (.int .i64 b) (.int .i64 u)
        clear c0 c1 f0 f1
        generalize ((X5.setCell ⟨B6, 0, none⟩ (.int .i64 b)).setCell ⟨B6, 1, none⟩ (.int .i64 u)) = X6 at hb6 q5 q6 ⊢
        refine HK3.out _ _ ⟨hb6, ?_⟩
        clear HK3 K3
        try simp only [List.getElem_toArray, List.getElem_cons_succ, List.getElem_cons_zero, Act.put, List.setIfInBounds_toArray, List.set_cons_zero, List.set_cons_succ]
        refine wpAnyH_done (by as_aux_lemma => kernel_rfl) ?_ _
        exact ⟨rfl, B5, B6, _, _, _, _, rfl, hb6, q5, q6, l5, l6⟩
  ·
    refine wpOp_step rfl (fun K3 hK3 => ?_)
    have HK3 := Lib.hid hK3
    clear hK3
    rw [if_pos (by rfl)]
    go_simp
    obtain ⟨X1, hX⟩ : ∃ Z, Z = X0.alloc (.cells #[.int .i64 0, .int .i64 0] 78) := ⟨_, rfl⟩
    obtain ⟨B5, hB⟩ : ∃ B, B = X0.heap.size := ⟨_, rfl⟩
    have hbc : Below X0.heap.size X0 X1 := by rw [hX]; exact (Below.refl _ _).alloc (Nat.le_refl _) _
    have q5 : X1.heap[B5]? = some (.cells #[.int .i64 0, .int .i64 0] 78 (0, 0)) := by rw [hX, hB]; exact alloc_heap _ _
    have l5 : W0.heap.size ≤ B5 := by rw [hB]; exact hHeld.size
    have hb1 := hHeld.trans (hbc.mono hHeld.size)
    rw [← hX, ← hB]
    clear hbc hX hB
    refine HK3.out _ _ ⟨hb1, ?_⟩
    clear HK3 K3
    try simp only [List.getElem_toArray, List.getElem_cons_succ, List.getElem_cons_zero, Act.put, List.setIfInBounds_toArray, List.set_cons_zero, List.set_cons_succ]
    refine wpAnyH_all (rs := [1, 5]) (by as_aux_lemma => kernel_rfl) (by simp) ?_
    intro i hi
    rcases (by simpa using hi : i = 1 ∨ i = 5) with rfl | rfl <;> clear hi
    ·
      refine wpOp_step rfl (fun K3 hK3 => ?_)
      have HK3 := Lib.hid hK3
      clear hK3
      rw [if_pos (by rfl)]
      go_simp
      refine (HMK.out _).mono ?_
      rintro e X2 ⟨rfl, hbc⟩
      have hb2 := hb1.trans (hbc.mono hb1.size)
      have q5 := (hbc.block _ (Array.getElem?_eq_some_iff.1 q5).1).trans q5
      clear hbc
      refine HK3.out _ _ ⟨hb2, ?_⟩
      clear HK3 K3
      try simp only [List.getElem_toArray, List.getElem_cons_succ, List.getElem_cons_zero, Act.put, List.setIfInBounds_toArray, List.set_cons_zero, List.set_cons_succ]
      refine wpAnyH_all (rs := [3, 5]) (by as_aux_lemma => kernel_rfl) (by simp) ?_
      intro i hi
      rcases (by simpa using hi : i = 3 ∨ i = 5) with rfl | rfl <;> clear hi
      ·
        refine wpOp_step rfl (fun K3 hK3 => ?_)
        have HK3 := Lib.hid hK3
        clear hK3
        rw [if_pos (by rfl)]
        go_simp
        refine (HBK.out _).mono ?_
        rintro e X3 ⟨rfl, hbc⟩
        have hb3 := hb2.trans (hbc.mono hb2.size)
        have q5 := (hbc.block _ (Array.getElem?_eq_some_iff.1 q5).1).trans q5
        clear hbc
        refine HK3.out _ _ ⟨hb3, ?_⟩
        clear HK3 K3
        try simp only [List.getElem_toArray, List.getElem_cons_succ, List.getElem_cons_zero, Act.put, List.setIfInBounds_toArray, List.set_cons_zero, List.set_cons_succ]
        refine wpAnyH_all (rs := [5]) (by as_aux_lemma => kernel_rfl) (by simp) ?_
        intro i hi; obtain rfl := List.mem_singleton.1 hi; clear hi
        refine wpOp_step rfl (fun K3 hK3 => ?_)
        have HK3 := Lib.hid hK3
        clear hK3
        rw [if_pos (by rfl)]
        go_simp
        obtain ⟨X4, hX⟩ : ∃ Z, Z = X3.alloc (.cells #[.int .i64 0, .int .i64 0] 81) := ⟨_, rfl⟩
        obtain ⟨B6, hB⟩ : ∃ B, B = X3.heap.size := ⟨_, rfl⟩
        have hbc : Below X3.heap.size X3 X4 := by rw [hX]; exact (Below.refl _ _).alloc (Nat.le_refl _) _
        have q6 : X4.heap[B6]? = some (.cells #[.int .i64 0, .int .i64 0] 81 (0, 0)) := by rw [hX, hB]; exact alloc_heap _ _
        have hne : B5 ≠ B6 := by have := (Array.getElem?_eq_some_iff.1 q5).1; omega
        have q5 := (hbc.block _ (Array.getElem?_eq_some_iff.1 q5).1).trans q5
        have l6 : W0.heap.size ≤ B6 := by rw [hB]; exact hb3.size
        have hb4 := hb3.trans (hbc.mono hb3.size)
        rw [← hX, ← hB]
        clear hbc hX hB
        refine HK3.out _ _ ⟨hb4, ?_⟩
        clear HK3 K3
        try simp only [List.getElem_toArray, List.getElem_cons_succ, List.getElem_cons_zero, Act.put, List.setIfInBounds_toArray, List.set_cons_zero, List.set_cons_succ]
        refine wpAnyH_all (rs := [6]) (by as_aux_lemma => kernel_rfl) (by simp) ?_
        intro i hi; obtain rfl := List.mem_singleton.1 hi; clear hi
        refine wpOp_step rfl (fun K3 hK3 => ?_)
        have HK3 := Lib.hid hK3
        clear hK3
        rw [if_pos (by rfl)]
        obtain ⟨c0, c1⟩ := two_cells q5
        have f0 : X4.frozen? ⟨B5, 0, none⟩ = false := frozen_of q5
        have f1 : X4.frozen? ⟨B5, 1, none⟩ = false := frozen_of q5
        go_simp
        have hb5 := below_two hb4 l5 (.int .i64 g) (.int .i64 m)
        have q6 := (two_other (X := X4) (hne.symm) (.int .i64 g) (.int .i64 m)).trans q6
        have q5 := two_put q5 (.int .i64 g) (.int .i64 m)
        clear c0 c1 f0 f1
        generalize ((X4.setCell ⟨B5, 0, none⟩ (.int .i64 g)).setCell ⟨B5, 1, none⟩ (.int .i64 m)) = X5 at hb5 q5 q6 ⊢
        refine HK3.out _ _ ⟨hb5, ?_⟩
        clear HK3 K3
        try simp only [List.getElem_toArray, List.getElem_cons_succ, List.getElem_cons_zero, Act.put, List.setIfInBounds_toArray, List.set_cons_zero, List.set_cons_succ]
        refine wpAnyH_all (rs := [7]) (by as_aux_lemma => kernel_rfl) (by simp) ?_
        intro i hi; obtain rfl := List.mem_singleton.1 hi; clear hi
        refine wpOp_step rfl (fun K3 hK3 => ?_)
        have HK3 := Lib.hid hK3
        clear hK3
        rw [if_pos (by rfl)]
        obtain ⟨c0, c1⟩ := two_cells q6
        have f0 : X5.frozen? ⟨B6, 0, none⟩ = false := frozen_of q6
        have f1 : X5.frozen? ⟨B6, 1, none⟩ = false := frozen_of q6
        go_simp
        have hb6 := below_two hb5 l6 (.int .i64 b) (.int .i64 u)
        have q5 := (two_other (X := X5) (hne) (.int .i64 b) (.int .i64 u)).trans q5
        have q6 := two_put q6 (.int .i64 b) (.int .i64 u)
        clear c0 c1 f0 f1
        generalize ((X5.setCell ⟨B6, 0, none⟩ (.int .i64 b)).setCell ⟨B6, 1, none⟩ (.int .i64 u)) = X6 at hb6 q5 q6 ⊢
        refine HK3.out _ _ ⟨hb6, ?_⟩
        clear HK3 K3
        try simp only [List.getElem_toArray, List.getElem_cons_succ, List.getElem_cons_zero, Act.put, List.setIfInBounds_toArray, List.set_cons_zero, List.set_cons_succ]
        refine wpAnyH_done (by as_aux_lemma => kernel_rfl) ?_ _
        exact ⟨rfl, B5, B6, _, _, _, _, rfl, hb6, q5, q6, l5, l6⟩
      ·
        refine wpOp_step rfl (fun K3 hK3 => ?_)
        have HK3 := Lib.hid hK3
        clear hK3
        rw [if_pos (by rfl)]
        go_simp
        obtain ⟨X3, hX⟩ : ∃ Z, Z = X2.alloc (.cells #[.int .i64 0, .int .i64 0] 81) := ⟨_, rfl⟩
        obtain ⟨B6, hB⟩ : ∃ B, B = X2.heap.size := ⟨_, rfl⟩
        have hbc : Below X2.heap.size X2 X3 := by rw [hX]; exact (Below.refl _ _).alloc (Nat.le_refl _) _
        have q6 : X3.heap[B6]? = some (.cells #[.int .i64 0, .int .i64 0] 81 (0, 0)) := by rw [hX, hB]; exact alloc_heap _ _
        have hne : B5 ≠ B6 := by have := (Array.getElem?_eq_some_iff.1 q5).1; omega
        have q5 := (hbc.block _ (Array.getElem?_eq_some_iff.1 q5).1).trans q5
        have l6 : W0.heap.size ≤ B6 := by rw [hB]; exact hb2.size
        have hb3 := hb2.trans (hbc.mono hb2.size)
        rw [← hX, ← hB]
        clear hbc hX hB
        refine HK3.out _ _ ⟨hb3, ?_⟩
        clear HK3 K3
        try simp only [List.getElem_toArray, List.getElem_cons_succ, List.getElem_cons_zero, Act.put, List.setIfInBounds_toArray, List.set_cons_zero, List.set_cons_succ]
        refine wpAnyH_all (rs := [3]) (by as_aux_lemma => kernel_rfl) (by simp) ?_
        intro i hi; obtain rfl := List.mem_singleton.1 hi; clear hi
        refine wpOp_step rfl (fun K3 hK3 => ?_)
        have HK3 := Lib.hid hK3
        clear hK3
        rw [if_pos (by rfl)]
        go_simp
        refine (HBK.out _).mono ?_
        rintro e X4 ⟨rfl, hbc⟩
        have hb4 := hb3.trans (hbc.mono hb3.size)
        have q5 := (hbc.block _ (Array.getElem?_eq_some_iff.1 q5).1).trans q5
        have q6 := (hbc.block _ (Array.getElem?_eq_some_iff.1 q6).1).trans q6
        clear hbc
        refine HK3.out _ _ ⟨hb4, ?_⟩
        clear HK3 K3
        try simp only [List.getElem_toArray, List.getElem_cons_succ, List.getElem_cons_zero, Act.put, List.setIfInBounds_toArray, List.set_cons_zero, List.set_cons_succ]
        refine wpAnyH_all (rs := [6]) (by as_aux_lemma => kernel_rfl) (by simp) ?_
        intro i hi; obtain rfl := List.mem_singleton.1 hi; clear hi
        refine wpOp_step rfl (fun K3 hK3 => ?_)
        have HK3 := Lib.hid hK3
        clear hK3
        rw [if_pos (by rfl)]
        obtain ⟨c0, c1⟩ := two_cells q5
        have f0 : X4.frozen? ⟨B5, 0, none⟩ = false := frozen_of q5
        have f1 : X4.frozen? ⟨B5, 1, none⟩ = false := frozen_of q5
        go_simp
        have hb5 := below_two hb4 l5 (.int .i64 g) (.int .i64 m)
        have q6 := (two_other (X := X4) (hne.symm) (.int .i64 g) (.int .i64 m)).trans q6
        have q5 := two_put q5 (.int .i64 g) (.int .i64 m)
        clear c0 c1 f0 f1
        generalize ((X4.setCell ⟨B5, 0, none⟩ (.int .i64 g)).setCell ⟨B5, 1, none⟩ (.int .i64 m)) = X5 at hb5 q5 q6 ⊢
        refine HK3.out _ _ ⟨hb5, ?_⟩
        clear HK3 K3
        try simp only [List.getElem_toArray, List.getElem_cons_succ, List.getElem_cons_zero, Act.put, List.setIfInBounds_toArray, List.set_cons_zero, List.set_cons_succ]
        refine wpAnyH_all (rs := [7]) (by as_aux_lemma => kernel_rfl) (by simp) ?_
        intro i hi; obtain rfl := List.mem_singleton.1 hi; clear hi
        refine wpOp_step rfl (fun K3 hK3 => ?_)
        have HK3 := Lib.hid hK3
        clear hK3
        rw [if_pos (by rfl)]
        obtain ⟨c0, c1⟩ := two_cells q6
        have f0 : X5.frozen? ⟨B6, 0, none⟩ = false := frozen_of q6
        have f1 : X5.frozen? ⟨B6, 1, none⟩ = false := frozen_of q6
        go_simp
        have hb6 := below_two hb5 l6 (.int .i64 b) (.int .i64 u)
        have q5 := (two_other (X := X5) (hne) (.int .i64 b) (.int .i64 u)).trans q5
        have q6 := two_put q6 (.int .i64 b) (.int .i64 u)
        clear c0 c1 f0 f1
        generalize ((X5.setCell ⟨B6, 0, none⟩ (.int .i64 b)).setCell ⟨B6, 1, none⟩ (.int .i64 u)) = X6 at hb6 q5 q6 ⊢
        refine HK3.out _ _ ⟨hb6, ?_⟩
        clear HK3 K3
        try simp only [List.getElem_toArray, List.getElem_cons_succ, List.getElem_cons_zero, Act.put, List.setIfInBounds_toArray, List.set_cons_zero, List.set_cons_succ]
        refine wpAnyH_done (by as_aux_lemma => kernel_rfl) ?_ _
        exact ⟨rfl, B5, B6, _, _, _, _, rfl, hb6, q5, q6, l5, l6⟩
    ·
      refine wpOp_step rfl (fun K3 hK3 => ?_)
      have HK3 := Lib.hid hK3
      clear hK3
      rw [if_pos (by rfl)]
      go_simp
      obtain ⟨X2, hX⟩ : ∃ Z, Z = X1.alloc (.cells #[.int .i64 0, .int .i64 0] 81) := ⟨_, rfl⟩
      obtain ⟨B6, hB⟩ : ∃ B, B = X1.heap.size := ⟨_, rfl⟩
      have hbc : Below X1.heap.size X1 X2 := by rw [hX]; exact (Below.refl _ _).alloc (Nat.le_refl _) _
      have q6 : X2.heap[B6]? = some (.cells #[.int .i64 0, .int .i64 0] 81 (0, 0)) := by rw [hX, hB]; exact alloc_heap _ _
      have hne : B5 ≠ B6 := by have := (Array.getElem?_eq_some_iff.1 q5).1; omega
      have q5 := (hbc.block _ (Array.getElem?_eq_some_iff.1 q5).1).trans q5
      have l6 : W0.heap.size ≤ B6 := by rw [hB]; exact hb1.size
      have hb2 := hb1.trans (hbc.mono hb1.size)
      rw [← hX, ← hB]
      clear hbc hX hB
      refine HK3.out _ _ ⟨hb2, ?_⟩
      clear HK3 K3
      try simp only [List.getElem_toArray, List.getElem_cons_succ, List.getElem_cons_zero, Act.put, List.setIfInBounds_toArray, List.set_cons_zero, List.set_cons_succ]
      refine wpAnyH_all (rs := [1]) (by as_aux_lemma => kernel_rfl) (by simp) ?_
      intro i hi; obtain rfl := List.mem_singleton.1 hi; clear hi
      refine wpOp_step rfl (fun K3 hK3 => ?_)
      have HK3 := Lib.hid hK3
      clear hK3
      rw [if_pos (by rfl)]
      go_simp
      refine (HMK.out _).mono ?_
      rintro e X3 ⟨rfl, hbc⟩
      have hb3 := hb2.trans (hbc.mono hb2.size)
      have q5 := (hbc.block _ (Array.getElem?_eq_some_iff.1 q5).1).trans q5
      have q6 := (hbc.block _ (Array.getElem?_eq_some_iff.1 q6).1).trans q6
      clear hbc
      refine HK3.out _ _ ⟨hb3, ?_⟩
      clear HK3 K3
      try simp only [List.getElem_toArray, List.getElem_cons_succ, List.getElem_cons_zero, Act.put, List.setIfInBounds_toArray, List.set_cons_zero, List.set_cons_succ]
      refine wpAnyH_all (rs := [3]) (by as_aux_lemma => kernel_rfl) (by simp) ?_
      intro i hi; obtain rfl := List.mem_singleton.1 hi; clear hi
      refine wpOp_step rfl (fun K3 hK3 => ?_)
      have HK3 := Lib.hid hK3
      clear hK3
      rw [if_pos (by rfl)]
      go_simp
      refine (HBK.out _).mono ?_
      rintro e X4 ⟨rfl, hbc⟩
      have hb4 := hb3.trans (hbc.mono hb3.size)
      have q5 := (hbc.block _ (Array.getElem?_eq_some_iff.1 q5).1).trans q5
      have q6 := (hbc.block _ (Array.getElem?_eq_some_iff.1 q6).1).trans q6
      clear hbc
      refine HK3.out _ _ ⟨hb4, ?_⟩
      clear HK3 K3
      try simp only [List.getElem_toArray, List.getElem_cons_succ, List.getElem_cons_zero, Act.put, List.setIfInBounds_toArray, List.set_cons_zero, List.set_cons_succ]
      refine wpAnyH_all (rs := [6]) (by as_aux_lemma => kernel_rfl) (by simp) ?_
      intro i hi; obtain rfl := List.mem_singleton.1 hi; clear hi
      refine wpOp_step rfl (fun K3 hK3 => ?_)
      have HK3 := Lib.hid hK3
      clear hK3
      rw [if_pos (by rfl)]
      obtain ⟨c0, c1⟩ := two_cells q5
      have f0 : X4.frozen? ⟨B5, 0, none⟩ = false := frozen_of q5
      have f1 : X4.frozen? ⟨B5, 1, none⟩ = false := frozen_of q5
      go_simp
      have hb5 := below_two hb4 l5 (.int .i64 g) (.int .i64 m)
      have q6 := (two_other (X := X4) (hne.symm) (.int .i64 g) (.int .i64 m)).trans q6
      have q5 := two_put q5 (.int .i64 g) (.int .i64 m)
      clear c0 c1 f0 f1
      generalize ((X4.setCell ⟨B5, 0, none⟩ (.int .i64 g)).setCell ⟨B5, 1, none⟩ (.int .i64 m)) = X5 at hb5 q5 q6 ⊢
      refine HK3.out _ _ ⟨hb5, ?_⟩
      clear HK3 K3
      try simp only [List.getElem_toArray, List.getElem_cons_succ, List.getElem_cons_zero, Act.put, List.setIfInBounds_toArray, List.set_cons_zero, List.set_cons_succ]
      refine wpAnyH_all (rs := [7]) (by as_aux_lemma => kernel_rfl) (by simp) ?_
      intro i hi; obtain rfl := List.mem_singleton.1 hi; clear hi
      refine wpOp_step rfl (fun K3 hK3 => ?_)
      have HK3 := Lib.hid hK3
      clear hK3
      rw [if_pos (by rfl)]
      obtain ⟨c0, c1⟩ := two_cells q6
      have f0 : X5.frozen? ⟨B6, 0, none⟩ = false := frozen_of q6
      have f1 : X5.frozen? ⟨B6, 1, none⟩ = false := frozen_of q6
      go_simp
      have hb6 := below_two hb5 l6 (.int .i64 b) (.int .i64 u)
      have q5 := (two_other (X := X5) (hne) (.int .i64 b) (.int .i64 u)).trans q5
      have q6 := two_put q6 (.int .i64 b) (.int .i64 u)
      clear c0 c1 f0 f1
      generalize ((X5.setCell ⟨B6, 0, none⟩ (.int .i64 b)).setCell ⟨B6, 1, none⟩ (.int .i64 u)) = X6 at hb6 q5 q6 ⊢
      refine HK3.out _ _ ⟨hb6, ?_⟩
      clear HK3 K3
      try simp only [List.getElem_toArray, List.getElem_cons_succ, List.getElem_cons_zero, Act.put, List.setIfInBounds_toArray, List.set_cons_zero, List.set_cons_succ]
      refine wpAnyH_done (by as_aux_lemma => kernel_rfl) ?_ _
      exact ⟨rfl, B5, B6, _, _, _, _, rfl, hb6, q5, q6, l5, l6⟩
  ·
    refine wpOp_step rfl (fun K3 hK3 => ?_)
    have HK3 := Lib.hid hK3
    clear hK3
    rw [if_pos (by rfl)]
    go_simp
    obtain ⟨X1, hX⟩ : ∃ Z, Z = X0.alloc (.cells #[.int .i64 0, .int .i64 0] 81) := ⟨_, rfl⟩
    obtain ⟨B6, hB⟩ : ∃ B, B = X0.heap.size := ⟨_, rfl⟩
    have hbc : Below X0.heap.size X0 X1 := by rw [hX]; exact (Below.refl _ _).alloc (Nat.le_refl _) _
    have q6 : X1.heap[B6]? = some (.cells #[.int .i64 0, .int .i64 0] 81 (0, 0)) := by rw [hX, hB]; exact alloc_heap _ _
    have l6 : W0.heap.size ≤ B6 := by rw [hB]; exact hHeld.size
    have hb1 := hHeld.trans (hbc.mono hHeld.size)
    rw [← hX, ← hB]
    clear hbc hX hB
    refine HK3.out _ _ ⟨hb1, ?_⟩
    clear HK3 K3
    try simp only [List.getElem_toArray, List.getElem_cons_succ, List.getElem_cons_zero, Act.put, List.setIfInBounds_toArray, List.set_cons_zero, List.set_cons_succ]
    refine wpAnyH_all (rs := [1, 4]) (by as_aux_lemma => kernel_rfl) (by simp) ?_
    intro i hi
    rcases (by simpa using hi : i = 1 ∨ i = 4) with rfl | rfl <;> clear hi
    ·
      refine wpOp_step rfl (fun K3 hK3 => ?_)
      have HK3 := Lib.hid hK3
      clear hK3
      rw [if_pos (by rfl)]
      go_simp
      refine (HMK.out _).mono ?_
      rintro e X2 ⟨rfl, hbc⟩
      have hb2 := hb1.trans (hbc.mono hb1.size)
      have q6 := (hbc.block _ (Array.getElem?_eq_some_iff.1 q6).1).trans q6
      clear hbc
      refine HK3.out _ _ ⟨hb2, ?_⟩
      clear HK3 K3
      try simp only [List.getElem_toArray, List.getElem_cons_succ, List.getElem_cons_zero, Act.put, List.setIfInBounds_toArray, List.set_cons_zero, List.set_cons_succ]
      refine wpAnyH_all (rs := [3, 4]) (by as_aux_lemma => kernel_rfl) (by simp) ?_
      intro i hi
      rcases (by simpa using hi : i = 3 ∨ i = 4) with rfl | rfl <;> clear hi
      ·
        refine wpOp_step rfl (fun K3 hK3 => ?_)
        have HK3 := Lib.hid hK3
        clear hK3
        rw [if_pos (by rfl)]
        go_simp
        refine (HBK.out _).mono ?_
        rintro e X3 ⟨rfl, hbc⟩
        have hb3 := hb2.trans (hbc.mono hb2.size)
        have q6 := (hbc.block _ (Array.getElem?_eq_some_iff.1 q6).1).trans q6
        clear hbc
        refine HK3.out _ _ ⟨hb3, ?_⟩
        clear HK3 K3
        try simp only [List.getElem_toArray, List.getElem_cons_succ, List.getElem_cons_zero, Act.put, List.setIfInBounds_toArray, List.set_cons_zero, List.set_cons_succ]
        refine wpAnyH_all (rs := [4]) (by as_aux_lemma => kernel_rfl) (by simp) ?_
        intro i hi; obtain rfl := List.mem_singleton.1 hi; clear hi
        refine wpOp_step rfl (fun K3 hK3 => ?_)
        have HK3 := Lib.hid hK3
        clear hK3
        rw [if_pos (by rfl)]
        go_simp
        obtain ⟨X4, hX⟩ : ∃ Z, Z = X3.alloc (.cells #[.int .i64 0, .int .i64 0] 78) := ⟨_, rfl⟩
        obtain ⟨B5, hB⟩ : ∃ B, B = X3.heap.size := ⟨_, rfl⟩
        have hbc : Below X3.heap.size X3 X4 := by rw [hX]; exact (Below.refl _ _).alloc (Nat.le_refl _) _
        have q5 : X4.heap[B5]? = some (.cells #[.int .i64 0, .int .i64 0] 78 (0, 0)) := by rw [hX, hB]; exact alloc_heap _ _
        have hne : B5 ≠ B6 := by have := (Array.getElem?_eq_some_iff.1 q6).1; omega
        have q6 := (hbc.block _ (Array.getElem?_eq_some_iff.1 q6).1).trans q6
        have l5 : W0.heap.size ≤ B5 := by rw [hB]; exact hb3.size
        have hb4 := hb3.trans (hbc.mono hb3.size)
        rw [← hX, ← hB]
        clear hbc hX hB
        refine HK3.out _ _ ⟨hb4, ?_⟩
        clear HK3 K3
        try simp only [List.getElem_toArray, List.getElem_cons_succ, List.getElem_cons_zero, Act.put, List.setIfInBounds_toArray, List.set_cons_zero, List.set_cons_succ]
        refine wpAnyH_all (rs := [6]) (by as_aux_lemma => kernel_rfl) (by simp) ?_
        intro i hi; obtain rfl := List.mem_singleton.1 hi; clear hi
        refine wpOp_step rfl (fun K3 hK3 => ?_)
        have HK3 := Lib.hid hK3
        clear hK3
        rw [if_pos (by rfl)]
        obtain ⟨c0, c1⟩ := two_cells q5
        have f0 : X4.frozen? ⟨B5, 0, none⟩ = false := frozen_of q5
        have f1 : X4.frozen? ⟨B5, 1, none⟩ = false := frozen_of q5
        go_simp
        have hb5 := below_two hb4 l5 (.int .i64 g) (.int .i64 m)
        have q6 := (two_other (X := X4) (hne.symm) (.int .i64 g) (.int .i64 m)).trans q6
        have q5 := two_put q5 (.int .i64 g) (.int .i64 m)
        clear c0 c1 f0 f1
        generalize ((X4.setCell ⟨B5, 0, none⟩ (.int .i64 g)).setCell ⟨B5, 1, none⟩ (.int .i64 m)) = X5 at hb5 q5 q6 ⊢
        refine HK3.out _ _ ⟨hb5, ?_⟩
        clear HK3 K3
        try simp only [List.getElem_toArray, List.getElem_cons_succ, List.getElem_cons_zero, Act.put, List.setIfInBounds_toArray, List.set_cons_zero, List.set_cons_succ]
        refine wpAnyH_all (rs := [7]) (by as_aux_lemma => kernel_rfl) (by simp) ?_
        intro i hi; obtain rfl := List.mem_singleton.1 hi; clear hi
        refine wpOp_step rfl (fun K3 hK3 => ?_)
        have HK3 := Lib.hid hK3
        clear hK3
        rw [if_pos (by rfl)]
        obtain ⟨c0, c1⟩ := two_cells q6
        have f0 : X5.frozen? ⟨B6, 0, none⟩ = false := frozen_of q6
        have f1 : X5.frozen? ⟨B6, 1, none⟩ = false := frozen_of q6
        go_simp
        have hb6 := below_two hb5 l6 (.int .i64 b) (.int .i64 u)
        have q5 := (two_other (X := X5) (hne) (.int .i64 b) (.int .i64 u)).trans q5
        have q6 := two_put q6 (.int .i64 b) (.int .i64 u)
        clear c0 c1 f0 f1
        generalize ((X5.setCell ⟨B6, 0, none⟩ (.int .i64 b)).setCell ⟨B6, 1, none⟩ (.int .i64 u)) = X6 at hb6 q5 q6 ⊢
        refine HK3.out _ _ ⟨hb6, ?_⟩
        clear HK3 K3
        try simp only [List.getElem_toArray, List.getElem_cons_succ, List.getElem_cons_zero, Act.put, List.setIfInBounds_toArray, List.set_cons_zero, List.set_cons_succ]
        refine wpAnyH_done (by as_aux_lemma => kernel_rfl) ?_ _
        exact ⟨rfl, B5, B6, _, _, _, _, rfl, hb6, q5, q6, l5, l6⟩
      ·
        refine wpOp_step rfl (fun K3 hK3 => ?_)
        have HK3 := Lib.hid hK3
        clear hK3
        rw [if_pos (by rfl)]
        go_simp
        obtain ⟨X3, hX⟩ : ∃ Z, Z = X2.alloc (.cells #[.int .i64 0, .int .i64 0] 78) := ⟨_, rfl⟩
        obtain ⟨B5, hB⟩ : ∃ B, B = X2.heap.size := ⟨_, rfl⟩
        have hbc : Below X2.heap.size X2 X3 := by rw [hX]; exact (Below.refl _ _).alloc (Nat.le_refl _) _
        have q5 : X3.heap[B5]? = some (.cells #[.int .i64 0, .int .i64 0] 78 (0, 0)) := by rw [hX, hB]; exact alloc_heap _ _
        have hne : B5 ≠ B6 := by have := (Array.getElem?_eq_some_iff.1 q6).1; omega
        have q6 := (hbc.block _ (Array.getElem?_eq_some_iff.1 q6).1).trans q6
        have l5 : W0.heap.size ≤ B5 := by rw [hB]; exact hb2.size
        have hb3 := hb2.trans (hbc.mono hb2.size)
        rw [← hX, ← hB]
        clear hbc hX hB
        refine HK3.out _ _ ⟨hb3, ?_⟩
        clear HK3 K3
        try simp only [List.getElem_toArray, List.getElem_cons_succ, List.getElem_cons_zero, Act.put, List.setIfInBounds_toArray, List.set_cons_zero, List.set_cons_succ]
        refine wpAnyH_all (rs := [3]) (by as_aux_lemma => kernel_rfl) (by simp) ?_
        intro i hi; obtain rfl := List.mem_singleton.1 hi; clear hi
        refine wpOp_step rfl (fun K3 hK3 => ?_)
        have HK3 := Lib.hid hK3
        clear hK3
        rw [if_pos (by rfl)]
        go_simp
        refine (HBK.out _).mono ?_
        rintro e X4 ⟨rfl, hbc⟩
        have hb4 := hb3.trans (hbc.mono hb3.size)
        have q5 := (hbc.block _ (Array.getElem?_eq_some_iff.1 q5).1).trans q5
        have q6 := (hbc.block _ (Array.getElem?_eq_some_iff.1 q6).1).trans q6
        clear hbc
        refine HK3.out _ _ ⟨hb4, ?_⟩
        clear HK3 K3
        try simp only [List.getElem_toArray, List.getElem_cons_succ, List.getElem_cons_zero, Act.put, List.setIfInBounds_toArray, List.set_cons_zero, List.set_cons_succ]
        refine wpAnyH_all (rs := [6]) (by as_aux_lemma => kernel_rfl) (by simp) ?_
        intro i hi; obtain rfl := List.mem_singleton.1 hi; clear hi
        refine wpOp_step rfl (fun K3 hK3 => ?_)
        have HK3 := Lib.hid hK3
        clear hK3
        rw [if_pos (by rfl)]
        obtain ⟨c0, c1⟩ := two_cells q5
        have f0 : X4.frozen? ⟨B5, 0, none⟩ = false := frozen_of q5
        have f1 : X4.frozen? ⟨B5, 1, none⟩ = false := frozen_of q5
        go_simp
        have hb5 := below_two hb4 l5 (.int .i64 g) (.int .i64 m)
        have q6 := (two_other (X := X4) (hne.symm) (.int .i64 g) (.int .i64 m)).trans q6
        have q5 := two_put q5 (.int .i64 g) (.int .i64 m)
        clear c0 c1 f0 f1
        generalize ((X4.setCell ⟨B5, 0, none⟩ (.int .i64 g)).setCell ⟨B5, 1, none⟩ (.int .i64 m)) = X5 at hb5 q5 q6 ⊢
        refine HK3.out _ _ ⟨hb5, ?_⟩
        clear HK3 K3
        try simp only [List.getElem_toArray, List.getElem_cons_succ, List.getElem_cons_zero, Act.put, List.setIfInBounds_toArray, List.set_cons_zero, List.set_cons_succ]
        refine wpAnyH_all (rs := [7]) (by as_aux_lemma => kernel_rfl) (by simp) ?_
        intro i hi; obtain rfl := List.mem_singleton.1 hi; clear hi
        refine wpOp_step rfl (fun K3 hK3 => ?_)
        have HK3 := Lib.hid hK3
        clear hK3
        rw [if_pos (by rfl)]
        obtain ⟨c0, c1⟩ := two_cells q6
        have f0 : X5.frozen? ⟨B6, 0, none⟩ = false := frozen_of q6
        have f1 : X5.frozen? ⟨B6, 1, none⟩ = false := frozen_of q6
        go_simp
        have hb6 := below_two hb5 l6 (.int .i64 b) (.int .i64 u)
        have q5 := (two_other (X := X5) (hne) (.int .i64 b) (.int .i64 u)).trans q5
        have q6 := two_put q6 (.int .i64 b) (.int .i64 u)
        clear c0 c1 f0 f1
        generalize ((X5.setCell ⟨B6, 0, none⟩ (.int .i64 b)).setCell ⟨B6, 1, none⟩ (.int .i64 u)) = X6 at hb6 q5 q6 ⊢
        refine HK3.out _ _ ⟨hb6, ?_⟩
        clear HK3 K3
        try simp only [List.getElem_toArray, List.getElem_cons_succ, List.getElem_cons_zero, Act.put, List.setIfInBounds_toArray, List.set_cons_zero, List.set_cons_succ]
        refine wpAnyH_done (by as_aux_lemma => kernel_rfl) ?_ _
        exact ⟨rfl, B5, B6, _, _, _, _, rfl, hb6, q5, q6, l5, l6⟩
    ·
      refine wpOp_step rfl (fun K3 hK3 => ?_)
      have HK3 := Lib.hid hK3
      clear hK3
      rw [if_pos (by rfl)]
      go_simp
      obtain ⟨X2, hX⟩ : ∃ Z, Z = X1.alloc (.cells #[.int .i64 0, .int .i64 0] 78) := ⟨_, rfl⟩
      obtain ⟨B5, hB⟩ : ∃ B, B = X1.heap.size := ⟨_, rfl⟩
      have hbc : Below X1.heap.size X1 X2 := by rw [hX]; exact (Below.refl _ _).alloc (Nat.le_refl _) _
      have q5 : X2.heap[B5]? = some (.cells #[.int .i64 0, .int .i64 0] 78 (0, 0)) := by rw [hX, hB]; exact alloc_heap _ _
      have hne : B5 ≠ B6 := by have := (Array.getElem?_eq_some_iff.1 q6).1; omega
      have q6 := (hbc.block _ (Array.getElem?_eq_some_iff.1 q6).1).trans q6
      have l5 : W0.heap.size ≤ B5 := by rw [hB]; exact hb1.size
      have hb2 := hb1.trans (hbc.mono hb1.size)
      rw [← hX, ← hB]
      clear hbc hX hB
      refine HK3.out _ _ ⟨hb2, ?_⟩
      clear HK3 K3
      try simp only [List.getElem_toArray, List.getElem_cons_succ, List.getElem_cons_zero, Act.put, List.setIfInBounds_toArray, List.set_cons_zero, List.set_cons_succ]
      refine wpAnyH_all (rs := [1]) (by as_aux_lemma => kernel_rfl) (by simp) ?_
      intro i hi; obtain rfl := List.mem_singleton.1 hi; clear hi
      refine wpOp_step rfl (fun K3 hK3 => ?_)
      have HK3 := Lib.hid hK3
      clear hK3
      rw [if_pos (by rfl)]
      go_simp
      refine (HMK.out _).mono ?_
      rintro e X3 ⟨rfl, hbc⟩
      have hb3 := hb2.trans (hbc.mono hb2.size)
      have q5 := (hbc.block _ (Array.getElem?_eq_some_iff.1 q5).1).trans q5
      have q6 := (hbc.block _ (Array.getElem?_eq_some_iff.1 q6).1).trans q6
      clear hbc
      refine HK3.out _ _ ⟨hb3, ?_⟩
      clear HK3 K3
      try simp only [List.getElem_toArray, List.getElem_cons_succ, List.getElem_cons_zero, Act.put, List.setIfInBounds_toArray, List.set_cons_zero, List.set_cons_succ]
      refine wpAnyH_all (rs := [3]) (by as_aux_lemma => kernel_rfl) (by simp) ?_
      intro i hi; obtain rfl := List.mem_singleton.1 hi; clear hi
      refine wpOp_step rfl (fun K3 hK3 => ?_)
      have HK3 := Lib.hid hK3
      clear hK3
      rw [if_pos (by rfl)]
      go_simp
      refine (HBK.out _).mono ?_
      rintro e X4 ⟨rfl, hbc⟩
      have hb4 := hb3.trans (hbc.mono hb3.size)
      have q5 := (hbc.block _ (Array.getElem?_eq_some_iff.1 q5).1).trans q5
      have q6 := (hbc.block _ (Array.getElem?_eq_some_iff.1 q6).1).trans q6
      clear hbc
      refine HK3.out _ _ ⟨hb4, ?_⟩
      clear HK3 K3
      try simp only [List.getElem_toArray, List.getElem_cons_succ, List.getElem_cons_zero, Act.put, List.setIfInBounds_toArray, List.set_cons_zero, List.set_cons_succ]
      refine wpAnyH_all (rs := [6]) (by as_aux_lemma => kernel_rfl) (by simp) ?_
      intro i hi; obtain rfl := List.mem_singleton.1 hi; clear hi
      refine wpOp_step rfl (fun K3 hK3 => ?_)
      have HK3 := Lib.hid hK3
      clear hK3
      rw [if_pos (by rfl)]
      obtain ⟨c0, c1⟩ := two_cells q5
      have f0 : X4.frozen? ⟨B5, 0, none⟩ = false := frozen_of q5
      have f1 : X4.frozen? ⟨B5, 1, none⟩ = false := frozen_of q5
      go_simp
      have hb5 := below_two hb4 l5 (.int .i64 g) (.int .i64 m)
      have q6 := (two_other (X := X4) (hne.symm) (.int .i64 g) (.int .i64 m)).trans q6
      have q5 := two_put q5 (.int .i64 g) (.int .i64 m)
      clear c0 c1 f0 f1
      generalize ((X4.setCell ⟨B5, 0, none⟩ (.int .i64 g)).setCell ⟨B5, 1, none⟩ (.int .i64 m)) = X5 at hb5 q5 q6 ⊢
      refine HK3.out _ _ ⟨hb5, ?_⟩
      clear HK3 K3
      try simp only [List.getElem_toArray, List.getElem_cons_succ, List.getElem_cons_zero, Act.put, List.setIfInBounds_toArray, List.set_cons_zero, List.set_cons_succ]
      refine wpAnyH_all (rs := [7]) (by as_aux_lemma => kernel_rfl) (by simp) ?_
      intro i hi; obtain rfl := List.mem_singleton.1 hi; clear hi
      refine wpOp_step rfl (fun K3 hK3 => ?_)
      have HK3 := Lib.hid hK3
      clear hK3
      rw [if_pos (by rfl)]
      obtain ⟨c0, c1⟩ := two_cells q6
      have f0 : X5.frozen? ⟨B6, 0, none⟩ = false := frozen_of q6
      have f1 : X5.frozen? ⟨B6, 1, none⟩ = false := frozen_of q6
      go_simp
      have hb6 := below_two hb5 l6 (.int .i64 b) (.int .i64 u)
      have q5 := (two_other (X := X5) (hne) (.int .i64 b) (.int .i64 u)).trans q5
      have q6 := two_put q6 (.int .i64 b) (.int .i64 u)
      clear c0 c1 f0 f1
      generalize ((X5.setCell ⟨B6, 0, none⟩ (.int .i64 b)).setCell ⟨B6, 1, none⟩ (.int .i64 u)) = X6 at hb6 q5 q6 ⊢
      refine HK3.out _ _ ⟨hb6, ?_⟩
      clear HK3 K3
      try simp only [List.getElem_toArray, List.getElem_cons_succ, List.getElem_cons_zero, Act.put, List.setIfInBounds_toArray, List.set_cons_zero, List.set_cons_succ]
      refine wpAnyH_done (by as_aux_lemma => kernel_rfl) ?_ _
      exact ⟨rfl, B5, B6, _, _, _, _, rfl, hb6, q5, q6, l5, l6⟩
end Go.Proofs.Ytclcconllkfjiaa
