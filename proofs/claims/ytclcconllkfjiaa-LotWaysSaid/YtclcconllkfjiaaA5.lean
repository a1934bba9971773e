/- Contract: testedTwice: how two samples do. -/
import Derived.Test.YtclcconllkfjiaaA4
import Derived.Test.YtclcconllkfjiaaG2
namespace Go.Proofs.Ytclcconllkfjiaa
set_option linter.unusedSimpArgs false
set_option linter.unusedVariables false
open Go.RowKit Go.Shelf
attribute [local go_sem] Oper.semAt_some

/-- all that can be taken with x bad ones at first; those of which the second sample is needed; those that pass -/
def allW (b g c s x : Nat) : Nat := waysN b g c x * ch (b + g - c) s
def secW (b g c s : Nat) (ac re : Int) (x : Nat) : Nat := if (x : Int) ≤ ac then 0 else if (x : Int) < re then waysN b g c x * ch (b + g - c) s else 0
def pasW (b g c s : Nat) (ac re tot : Int) (x : Nat) : Nat := if (x : Int) ≤ ac then waysN b g c x * ch (b + g - c) s else if (x : Int) < re then waysN b g c x * passN (b - x) (g - (c - x)) s (tot - x) else 0
def doubleV (c ac re s tot : Int) : Value := .agg #[.int .i64 c, .int .i64 ac, .int .i64 re, .int .i64 s, .int .i64 tot]
theorem mulBd {x y m n : Nat} (h1 : x ≤ m) (h2 : y ≤ n) : x * y ≤ m * n := Nat.mul_le_mul h1 h2
theorem sumF_mono (f f' : Nat → Nat) (b g c : Nat) (h : ∀ x, f (cl b g c x) ≤ f' (cl b g c x)) : ∀ pre, sumF f b g c pre ≤ sumF f' b g c pre
  | [] => Nat.le_refl _
  | x :: l => by
    have := sumF_mono f f' b g c h l
    have := h x
    unfold sumF at *
    simp only [List.map_cons, List.sum_cons] at *
    omega
theorem sumF_mul (f : Nat → Nat) (k b g c : Nat) : ∀ pre, sumF (fun x => f x * k) b g c pre = sumF f b g c pre * k
  | [] => by simp [sumF]
  | x :: l => by
    have := sumF_mul f k b g c l
    unfold sumF at *
    simp only [List.map_cons, List.sum_cons] at *
    rw [this, Nat.add_mul]
theorem all_is (b g c s : Nat) (hc : c ≤ b + g) : sumF (allW b g c s) b g c (itemsL b g c) = ch (b + g) c * ch (b + g - c) s := by
  rw [← ways_all b g c hc, ← sumF_mul]; rfl
theorem all_bd (b g c s : Nat) (hc : c + s ≤ b + g) (hs : b + g ≤ 30) : sumF (allW b g c s) b g c (itemsL b g c) ≤ 1152921504606846976 := by
  rw [all_is b g c s (by omega)]
  exact mulBd (ch_bd30 _ _ hs) (ch_bd30 _ _ (by omega))
theorem sec_le (b g c s : Nat) (ac re : Int) (pre : List Nat) : sumF (secW b g c s ac re) b g c pre ≤ sumF (allW b g c s) b g c pre := sumF_mono _ _ _ _ _ (fun x => by
  unfold secW allW
  split
  · exact Nat.zero_le _
  · split
    · exact Nat.le_refl _
    · exact Nat.zero_le _) _
theorem pas_le (b g c s : Nat) (ac re tot : Int) (pre : List Nat) (hc : c + s ≤ b + g) : sumF (pasW b g c s ac re tot) b g c pre ≤ sumF (allW b g c s) b g c pre := sumF_mono _ _ _ _ _ (fun x => by
  have hci := cl_in (b := b) (g := g) x (show c ≤ b + g by omega)
  have hp := passN_le (b - cl b g c x) (g - (c - cl b g c x)) s (tot - (cl b g c x : Nat))
  rw [show (b - cl b g c x) + (g - (c - cl b g c x)) = b + g - c by omega] at hp
  unfold pasW allW
  split
  · exact Nat.le_refl _
  · split
    · exact Nat.mul_le_mul_left _ hp
    · exact Nat.zero_le _) _
theorem w64n (n : Nat) (h : n ≤ 1152921504606846976) : wrap64 (n : Int) = n := IntWalk.wrap64_in _ (by omega)
theorem i64n (n : Nat) (h : n ≤ 1152921504606846976) : IntKind.i64.wrap (n : Int) = n := IntWalk.i64_in _ (by omega)
theorem five_cells {X : World} {b : Nat} {u v x y z : Value} {t : TypeId} (h : X.heap[b]? = some (.cells #[u, v, x, y, z] t (0, 0))) : X.cell? ⟨b, 0, none⟩ = some u ∧ X.cell? ⟨b, 1, none⟩ = some v ∧ X.cell? ⟨b, 2, none⟩ = some x ∧ X.cell? ⟨b, 3, none⟩ = some y ∧ X.cell? ⟨b, 4, none⟩ = some z := by simp [World.cell?, h]
theorem mul_bd {x y m n : Nat} (h1 : x ≤ m) (h2 : y ≤ n) : x * y ≤ m * n := Nat.mul_le_mul h1 h2
def twiceAct (T b g c s : Nat) (ac re tot : Int) (H Bx x : Nat) : Act :=
  { tmps := #[.pointer (some ⟨T, 0, none⟩), .agg #[.int .i64 (b : Nat), .int .i64 (g : Nat)], .agg #[.int .i64 (c : Nat), .int .i64 ac, .int .i64 re, .int .i64 (s : Nat), .int .i64 tot], .pointer (some ⟨H, 0, none⟩), .pointer (some ⟨H + 1, 0, none⟩), .pointer (some ⟨H + 1 + 1, 0, none⟩), .pointer (some ⟨H + 1 + 1 + 1, 0, none⟩), .pointer (some ⟨H + 1 + 1 + 1 + 1, 0, none⟩), .pointer (some ⟨H + 1 + 1 + 1 + 1 + 1, 0, none⟩), .pointer (some ⟨Bx, 0, none⟩), .int .i64 (waysN b g c x : Nat), undef, undef, .pointer (some ⟨T, 0, none⟩), .agg #[.int .i64 (b : Nat), .int .i64 (g : Nat)], .pointer (some ⟨H + 1 + 1, 0, none⟩), .int .i64 (c : Nat), .func (.func 55) #[] #[.pointer (some ⟨H + 6 + 1 + 1, 0, none⟩), .pointer (some ⟨H + 6 + 1, 0, none⟩), .pointer (some ⟨H + 6, 0, none⟩)], mets (x : Nat) ((c : Nat) - (x : Nat) : Int), .int .i64 (waysN b g c x : Nat), undef, undef, undef, undef, undef, undef, undef, undef, undef, undef, undef, undef, undef, undef, undef, undef, undef, undef, undef, undef, undef, undef, undef, undef, undef, undef, undef, undef, undef, undef, undef, undef, undef, undef, undef, undef, undef, undef, undef, undef, undef, undef, undef, undef, undef, undef, undef, undef, undef, undef, undef], defers := [] }
set_option maxRecDepth 100000 in
set_option maxHeartbeats 6400000 in
theorem testedTwice_any (T b g c s : Nat) (ac re tot : Int) (w : World) (hT : TriAt w T) (hc : c + s ≤ b + g) (hs : b + g ≤ 30) (ht : -1000 ≤ tot ∧ tot ≤ 1000) :
    Calls Try.prog 31 #[.pointer (some ⟨T, 0, none⟩), mets (b : Nat) (g : Nat), doubleV (c : Nat) ac re (s : Nat) tot] w fun e w' => e = .returned (.tuple #[.int .i64 (sumF (pasW b g c s ac re tot) b g c (itemsL b g c) : Nat), .int .i64 (sumF (secW b g c s ac re) b g c (itemsL b g c) : Nat), .int .i64 (sumF (allW b g c s) b g c (itemsL b g c) : Nat)]) ∧ Below w.heap.size w w' := by
  have hTl := hT.lt
  have hcb : c ≤ b + g := by omega
  have hs50 : b + g ≤ 50 := by omega
  obtain ⟨W0, hW0⟩ : ∃ X, X = ((((((w.alloc (.cells #[.pointer (some ⟨T, 0, none⟩)] 57)).alloc (.cells #[.int .i64 (b : Nat), .int .i64 (g : Nat)] 61)).alloc (.cells #[.int .i64 (c : Nat), .int .i64 ac, .int .i64 re, .int .i64 (s : Nat), .int .i64 tot] 25)).alloc (.cells #[.int .i64 0] 3)).alloc (.cells #[.int .i64 0] 3)).alloc (.cells #[.int .i64 0] 3)) := ⟨_, rfl⟩
  have hb0 : Below w.heap.size w W0 := by rw [hW0]; exact (((((((Below.refl _ _).alloc (Nat.le_refl _) _).alloc (by simp <;> omega) _).alloc (by simp <;> omega) _).alloc (by simp <;> omega) _).alloc (by simp <;> omega) _).alloc (by simp <;> omega) _)
  unfold mets doubleV
  refine (callsIn_wide (n := 9)).1 ?_
  refine callsIn_of_wp_marks Try.func31 rfl trivial ?_ rfl
  simp only [Try.ntmps31, List.size_toArray, List.length_cons, List.length_nil, Nat.reduceAdd, Nat.reduceSub, Array.replicate_succ, Array.replicate_zero, List.push_toArray, List.append_toArray, List.nil_append, List.cons_append]
  gi_wp2
  rw [← hW0]
  have hz0 : W0.heap.size = w.heap.size + 6 := by rw [hW0]; simp
  have hT0 : TriAt W0 T := hT.below hb0 hTl
  obtain ⟨H, hH⟩ : ∃ H, H = w.heap.size := ⟨_, rfl⟩
  have k0 : W0.heap[H]? = some (.cells #[.pointer (some ⟨T, 0, none⟩)] 57) := by
    rw [hW0, hH, Below.heap_alloc _ _ _ (by simp <;> omega), Below.heap_alloc _ _ _ (by simp <;> omega), Below.heap_alloc _ _ _ (by simp <;> omega), Below.heap_alloc _ _ _ (by simp <;> omega), Below.heap_alloc _ _ _ (by simp <;> omega)]
    have := alloc_heap w (.cells #[.pointer (some ⟨T, 0, none⟩)] 57)
    simpa using this
  have k1 : W0.heap[H + 1]? = some (.cells #[.int .i64 (b : Nat), .int .i64 (g : Nat)] 61) := by
    rw [hW0, hH, Below.heap_alloc _ _ _ (by simp <;> omega), Below.heap_alloc _ _ _ (by simp <;> omega), Below.heap_alloc _ _ _ (by simp <;> omega), Below.heap_alloc _ _ _ (by simp <;> omega)]
    have := alloc_heap (w.alloc (.cells #[.pointer (some ⟨T, 0, none⟩)] 57)) (.cells #[.int .i64 (b : Nat), .int .i64 (g : Nat)] 61)
    simpa using this
  have k2 : W0.heap[H + 1 + 1]? = some (.cells #[.int .i64 (c : Nat), .int .i64 ac, .int .i64 re, .int .i64 (s : Nat), .int .i64 tot] 25) := by
    rw [hW0, hH, Below.heap_alloc _ _ _ (by simp <;> omega), Below.heap_alloc _ _ _ (by simp <;> omega), Below.heap_alloc _ _ _ (by simp <;> omega)]
    have := alloc_heap ((w.alloc (.cells #[.pointer (some ⟨T, 0, none⟩)] 57)).alloc (.cells #[.int .i64 (b : Nat), .int .i64 (g : Nat)] 61)) (.cells #[.int .i64 (c : Nat), .int .i64 ac, .int .i64 re, .int .i64 (s : Nat), .int .i64 tot] 25)
    simpa using this
  have k3 : W0.heap[H + 1 + 1 + 1]? = some (.cells #[.int .i64 0] 3) := by
    rw [hW0, hH, Below.heap_alloc _ _ _ (by simp <;> omega), Below.heap_alloc _ _ _ (by simp <;> omega)]
    have := alloc_heap (((w.alloc (.cells #[.pointer (some ⟨T, 0, none⟩)] 57)).alloc (.cells #[.int .i64 (b : Nat), .int .i64 (g : Nat)] 61)).alloc (.cells #[.int .i64 (c : Nat), .int .i64 ac, .int .i64 re, .int .i64 (s : Nat), .int .i64 tot] 25)) (.cells #[.int .i64 0] 3)
    simpa using this
  have k4 : W0.heap[H + 1 + 1 + 1 + 1]? = some (.cells #[.int .i64 0] 3) := by
    rw [hW0, hH, Below.heap_alloc _ _ _ (by simp <;> omega)]
    have := alloc_heap ((((w.alloc (.cells #[.pointer (some ⟨T, 0, none⟩)] 57)).alloc (.cells #[.int .i64 (b : Nat), .int .i64 (g : Nat)] 61)).alloc (.cells #[.int .i64 (c : Nat), .int .i64 ac, .int .i64 re, .int .i64 (s : Nat), .int .i64 tot] 25)).alloc (.cells #[.int .i64 0] 3)) (.cells #[.int .i64 0] 3)
    simpa using this
  have k5 : W0.heap[H + 1 + 1 + 1 + 1 + 1]? = some (.cells #[.int .i64 0] 3) := by
    rw [hW0, hH]
    have := alloc_heap (((((w.alloc (.cells #[.pointer (some ⟨T, 0, none⟩)] 57)).alloc (.cells #[.int .i64 (b : Nat), .int .i64 (g : Nat)] 61)).alloc (.cells #[.int .i64 (c : Nat), .int .i64 ac, .int .i64 re, .int .i64 (s : Nat), .int .i64 tot] 25)).alloc (.cells #[.int .i64 0] 3)).alloc (.cells #[.int .i64 0] 3)) (.cells #[.int .i64 0] 3)
    simpa using this
  rw [← hH] at hz0 ⊢
  have HH := Lib.hid hH
  clear hW0 hH
  have hsm := samples_any T b g c W0
  unfold mets at hsm
  refine ⟨trivial, callsIn_wide.2 (hsm.mono ?_)⟩
  rintro e W1 ⟨rfl, rfl⟩
  clear hsm
  have hM := samples_mem (b := b) (g := g) (c := c) hT0
  obtain ⟨W1, hW1⟩ : ∃ X, X = ((W0.alloc (.cells #[.pointer (some ⟨T, 0, none⟩)] 57)).alloc (.cells #[.int .i64 (b : Nat), .int .i64 (g : Nat)] 61)).alloc (.cells #[.int .i64 (c : Nat)] 3) := ⟨_, rfl⟩
  have hb1 : Below W0.heap.size W0 W1 := by rw [hW1]; exact ((((Below.refl _ _).alloc (Nat.le_refl _) _).alloc (by simp <;> omega) _).alloc (by simp <;> omega) _)
  have hz1 : W1.heap.size = H + 9 := by rw [hW1]; simp [hz0]
  rw [← hW1] at hM ⊢
  clear hW1
  rw [hz0] at hM ⊢
  gi_wp2
  have hO1 : OnlyE (fun k => k = H + 1 + 1 + 1 ∨ k = H + 1 + 1 + 1 + 1 ∨ k = H + 1 + 1 + 1 + 1 + 1) W0 W1 := .of_below hb1
  refine wpIn_rangeFunc_ownH rfl (by omega) (gf := 55) (lb := #[.pointer (some ⟨H + 6 + 1 + 1, 0, none⟩), .pointer (some ⟨H + 6 + 1, 0, none⟩), .pointer (some ⟨H + 6, 0, none⟩)]) rfl trivial (enters_of Try.func55 (by kernel_rfl) rfl)
    (samples_stops 8 (by omega) b g c (H + 6 + 1 + 1) (H + 6 + 1) (H + 6) T (fun k => k = H + 1 + 1 + 1 ∨ k = H + 1 + 1 + 1 + 1 ∨ k = H + 1 + 1 + 1 + 1 + 1) hcb hs50 (by omega) (by omega) (by omega) (by have := HH.out; omega) W1 hM (by intro k hk; omega))
    KeepE.trans (fun W l o o' _ hl hc _ => KeepE.of_grown (grownBy_putObj' W l o') (fun q e => by cases e; exact .inr (fun o2 h2 => by rw [hl] at h2; cases h2; exact hc))) (Below.refl _ _) (fun _ => rfl)
    (fun pre W => W.heap[H + 1 + 1 + 1]? = some (.cells #[.int .i64 (wrap64 (sumF (pasW b g c s ac re tot) b g c pre : Nat))] 3 (0, 0)) ∧ W.heap[H + 1 + 1 + 1 + 1]? = some (.cells #[.int .i64 (wrap64 (sumF (secW b g c s ac re) b g c pre : Nat))] 3 (0, 0)) ∧ W.heap[H + 1 + 1 + 1 + 1 + 1]? = some (.cells #[.int .i64 (wrap64 (sumF (allW b g c s) b g c pre : Nat))] 3 (0, 0)) ∧ OnlyE (fun k => k = H + 1 + 1 + 1 ∨ k = H + 1 + 1 + 1 + 1 ∨ k = H + 1 + 1 + 1 + 1 + 1) W1 W)
    (fun cc pre W => False)
    (fun pre X Y row hs hg hr => ⟨cells_kept hs.1 hg hr, cells_kept hs.2.1 hg hr, cells_kept hs.2.2.1 hg hr, hs.2.2.2.far hg (fun q e => (hr q e).1)⟩)
    (fun cc pre X Y row hs hg hr => hs)
    ⟨?_, ?_, ?_, OnlyE.refl _ _⟩
    (fun x a' W => ∃ Bx, W1.heap.size ≤ Bx ∧ W.heap[Bx]? = some (.cells #[.int .i64 (cl b g c x : Nat), .int .i64 ((c : Int) - (cl b g c x : Nat))] 61 (0, 0)) ∧ a' = twiceAct T b g c s ac re tot H Bx (cl b g c x))
    (fun x a' _ X Y row hs hg hr => by
      obtain ⟨Bx, h1, h2, h3⟩ := hs
      exact ⟨Bx, h1, cells_kept h2 hg hr, h3⟩)
    ?assign ?body ?done ?stop
  · have := (hb1.block _ (by omega)).trans k3
    simpa [sumF_nil, wrap64] using this
  · have := (hb1.block _ (by omega)).trans k4
    simpa [sumF_nil, wrap64] using this
  · have := (hb1.block _ (by omega)).trans k5
    simpa [sumF_nil, wrap64] using this
  case assign =>
    rintro l pre x W K ⟨i1, i2, i3, i4⟩ hK
    unfold encX mets
    gi_wp2
    have hs3 := i4.size
    refine hK _ _ ((KeepsOthers.alloc _ _).from _) ((KeepE.refl _ _).alloc _) ⟨(Below.heap_alloc _ _ _ (Array.getElem?_eq_some_iff.1 i1).1).trans i1, (Below.heap_alloc _ _ _ (Array.getElem?_eq_some_iff.1 i2).1).trans i2, (Below.heap_alloc _ _ _ (Array.getElem?_eq_some_iff.1 i3).1).trans i3, i4.alloc _⟩ ⟨W.heap.size, hs3, alloc_heap _ _, ?_⟩
    unfold twiceAct mets
    rfl
  case body =>
    rintro l pre x a' W hl ⟨rr, hrr⟩ ⟨i1, i2, i3, i4⟩ ⟨Bx, hBx, hX, rfl⟩ _hlt
    have hci := cl_in (b := b) (g := g) x hcb
    have hs3 := sumF_snoc (pasW b g c s ac re tot) b g c pre x
    have hs4 := sumF_snoc (secW b g c s ac re) b g c pre x
    have hs5 := sumF_snoc (allW b g c s) b g c pre x
    have hwl := ways_le30 b g c (cl b g c x) hs
    have y0 : W.heap[H]? = some (.cells #[.pointer (some ⟨T, 0, none⟩)] 57) := (i4.get (hO1.get k0 (by omega)) (by omega))
    have y1 : W.heap[H + 1]? = some (.cells #[.int .i64 (b : Nat), .int .i64 (g : Nat)] 61) := (i4.get (hO1.get k1 (by omega)) (by omega))
    have y2 : W.heap[H + 1 + 1]? = some (.cells #[.int .i64 (c : Nat), .int .i64 ac, .int .i64 re, .int .i64 (s : Nat), .int .i64 tot] 25) := (i4.get (hO1.get k2 (by omega)) (by omega))
    have yT : TriAt W T := (i4.get (hO1.get hT0 (by have := HH.out; omega)) (by have := HH.out; omega))
    obtain ⟨X, hXe⟩ : ∃ X, cl b g c x = X := ⟨_, rfl⟩
    rw [hXe] at hX hci hs3 hs4 hs5 hwl ⊢
    obtain ⟨F3, hF3⟩ : ∃ F, sumF (pasW b g c s ac re tot) b g c (pre ++ [x]) = F := ⟨_, rfl⟩
    obtain ⟨F4, hF4⟩ : ∃ F, sumF (secW b g c s ac re) b g c (pre ++ [x]) = F := ⟨_, rfl⟩
    obtain ⟨F5, hF5⟩ : ∃ F, sumF (allW b g c s) b g c (pre ++ [x]) = F := ⟨_, rfl⟩
    obtain ⟨S3, hS3⟩ : ∃ S, sumF (pasW b g c s ac re tot) b g c pre = S := ⟨_, rfl⟩
    obtain ⟨S4, hS4⟩ : ∃ S, sumF (secW b g c s ac re) b g c pre = S := ⟨_, rfl⟩
    obtain ⟨S5, hS5⟩ : ∃ S, sumF (allW b g c s) b g c pre = S := ⟨_, rfl⟩
    rw [hF3, hS3] at hs3
    rw [hF4, hS4] at hs4
    rw [hF5, hS5] at hs5
    unfold pasW at hs3
    unfold secW at hs4
    unfold allW at hs5
    obtain ⟨M, hM⟩ : ∃ M, waysN b g c X = M := ⟨_, rfl⟩
    unfold twiceAct mets
    rw [hM] at hs3 hs4 hs5 hwl ⊢
    have hwn : (b - X) + (g - (c - X)) = b + g - c := by omega
    have hte := fun W' (h : TriAt W' T) => tested_any T (b - X) (g - (c - X)) s (tot - (X : Int)) W' h (by omega) (by omega)
    have hpl := passN_le (b - X) (g - (c - X)) s (tot - (X : Int))
    have hcb30 := ch_bd30 (b + g - c) s (by omega)
    rw [hwn] at hte hpl
    obtain ⟨Nn, hN⟩ : ∃ Nn, ch (b + g - c) s = Nn := ⟨_, rfl⟩
    obtain ⟨Q, hQ⟩ : ∃ Q, passN (b - X) (g - (c - X)) s (tot - (X : Int)) = Q := ⟨_, rfl⟩
    rw [hN] at hte hpl hcb30 hs3 hs4 hs5
    rw [hQ] at hte hpl hs3
    have hMN : M * Nn ≤ 1152921504606846976 := mul_bd hwl hcb30
    have hMQ : M * Q ≤ 1152921504606846976 := mul_bd hwl (Nat.le_trans hpl hcb30)
    obtain ⟨MN, hMNe⟩ : ∃ z, M * Nn = z := ⟨_, rfl⟩
    obtain ⟨MQ, hMQe⟩ : ∃ z, M * Q = z := ⟨_, rfl⟩
    rw [hMNe] at hMN hs3 hs4 hs5
    rw [hMQe] at hMQ hs3
    have m1 : (M : Int) * (Nn : Int) = (MN : Int) := by rw [← hMNe]; simp
    have m2 : (M : Int) * (Q : Int) = (MQ : Int) := by rw [← hMQe]; simp
    have m3 : wrap64 ((M : Int) * (Nn : Int)) = (MN : Int) := by rw [m1]; exact w64n _ hMN
    have m4 : IntKind.i64.wrap ((M : Int) * (Nn : Int)) = (MN : Int) := by rw [m1]; exact i64n _ hMN
    have m5 : wrap64 ((M : Int) * (Q : Int)) = (MQ : Int) := by rw [m2]; exact w64n _ hMQ
    have m6 : IntKind.i64.wrap ((M : Int) * (Q : Int)) = (MQ : Int) := by rw [m2]; exact i64n _ hMQ
    obtain ⟨V3, hV3⟩ : ∃ V, wrap64 (S3 : Int) = V := ⟨_, rfl⟩
    have hs3' : sumF (pasW b g c s ac re tot) b g c (pre ++ [x]) = S3 + (if (X : Int) ≤ ac then MN else if (X : Int) < re then MQ else 0) := by rw [hF3]; exact hs3
    rw [hS3, hV3] at i1
    have HV3 := Lib.hid hV3
    have HS3 := Lib.hid hs3'
    have w3a : wrap64 (V3 + (MN : Int)) = wrap64 ((S3 : Int) + (MN : Int)) := by rw [← hV3, wrap64_wrap]
    have v3a : IntKind.i64.wrap (V3 + (MN : Int)) = wrap64 ((S3 : Int) + (MN : Int)) := by rw [← hV3, wrap64_is, wrap_wrap, wrap64_is]
    have w3b : wrap64 (V3 + (MQ : Int)) = wrap64 ((S3 : Int) + (MQ : Int)) := by rw [← hV3, wrap64_wrap]
    have v3b : IntKind.i64.wrap (V3 + (MQ : Int)) = wrap64 ((S3 : Int) + (MQ : Int)) := by rw [← hV3, wrap64_is, wrap_wrap, wrap64_is]
    clear hS3 hV3 hs3 hs3' hF3
    obtain ⟨V4, hV4⟩ : ∃ V, wrap64 (S4 : Int) = V := ⟨_, rfl⟩
    have hs4' : sumF (secW b g c s ac re) b g c (pre ++ [x]) = S4 + (if (X : Int) ≤ ac then 0 else if (X : Int) < re then MN else 0) := by rw [hF4]; exact hs4
    rw [hS4, hV4] at i2
    have HV4 := Lib.hid hV4
    have HS4 := Lib.hid hs4'
    have w4a : wrap64 (V4 + (MN : Int)) = wrap64 ((S4 : Int) + (MN : Int)) := by rw [← hV4, wrap64_wrap]
    have v4a : IntKind.i64.wrap (V4 + (MN : Int)) = wrap64 ((S4 : Int) + (MN : Int)) := by rw [← hV4, wrap64_is, wrap_wrap, wrap64_is]
    clear hS4 hV4 hs4 hs4' hF4
    obtain ⟨V5, hV5⟩ : ∃ V, wrap64 (S5 : Int) = V := ⟨_, rfl⟩
    have hs5' : sumF (allW b g c s) b g c (pre ++ [x]) = S5 + (MN) := by rw [hF5]; exact hs5
    rw [hS5, hV5] at i3
    have HV5 := Lib.hid hV5
    have HS5 := Lib.hid hs5'
    have w5a : wrap64 (V5 + (MN : Int)) = wrap64 ((S5 : Int) + (MN : Int)) := by rw [← hV5, wrap64_wrap]
    have v5a : IntKind.i64.wrap (V5 + (MN : Int)) = wrap64 ((S5 : Int) + (MN : Int)) := by rw [← hV5, wrap64_is, wrap_wrap, wrap64_is]
    clear hS5 hV5 hs5 hs5' hF5
    have HX := Lib.hid hXe
    have I4 := Lib.hid i4
    have I1 := Lib.hid i1
    have I2 := Lib.hid i2
    have I3 := Lib.hid i3
    have HTE := Lib.hid hte
    have e1 : ((b : Int) - (X : Int)) = ((b - X : Nat) : Int) := by omega
    have e2 : ((g : Int) - ((c : Int) - (X : Int))) = ((g - (c - X) : Nat) : Int) := by omega
    have E1 := Lib.hid e1
    have E2 := Lib.hid e2
    have hwo := fun W' => without_any (b : Nat) (g : Nat) (X : Nat) ((c : Int) - (X : Int)) W' (by omega) (by omega) (by omega) (by omega)
    rw [e1, e2] at hwo
    unfold mets planV at hte
    unfold mets at hwo
    have HWO := Lib.hid hwo
    have HTE := Lib.hid hte
    clear hXe hM i1 i2 i3 i4 k0 k1 k2 k3 k4 k5 hte hwo e1 e2 hMNe hMQe hN hQ hwn m1 m2
    gi_wp2_with fail
    refine wpIn_region_held_round (fun w' => Below W.heap.size W w') (by kernel_rfl) (by kernel_rfl) ?_ (Below.refl _ _).drew (fun hHeld => ?_)
    · rintro ⟨_, _, h⟩; exact h
    refine wpAnyH_take (i := 0) (oi := _) (v := ?_) rfl (by as_aux_lemma => kernel_rfl) (by as_aux_lemma => kernel_rfl) (by as_aux_lemma => kernel_rfl) (fun _ _ _ h => h) (Or.inl ⟨by rfl, ?_⟩) hHeld ?_
    rotate_left
    · intro w1 hSw
      have d0 := one_cell ((hSw.block _ (Array.getElem?_eq_some_iff.1 y0).1).trans y0)
      obtain ⟨d1, d2⟩ := two_cells ((hSw.block _ (Array.getElem?_eq_some_iff.1 y1).1).trans y1)
      obtain ⟨d3, d4, d5, d6, d7⟩ := five_cells ((hSw.block _ (Array.getElem?_eq_some_iff.1 y2).1).trans y2)
      obtain ⟨d8, d9⟩ := two_cells ((hSw.block _ (Array.getElem?_eq_some_iff.1 hX).1).trans hX)
      go_simp; with_reducible rfl
    simp only [List.getElem_toArray, List.getElem_cons_succ, List.getElem_cons_zero, Act.put, List.setIfInBounds_toArray, List.set_cons_zero, List.set_cons_succ]
    refine wpAnyH_take (i := 1) (oi := _) (v := ?_) rfl (by as_aux_lemma => kernel_rfl) (by as_aux_lemma => kernel_rfl) (by as_aux_lemma => kernel_rfl) (fun _ _ _ h => h) (Or.inl ⟨by rfl, ?_⟩) hHeld ?_
    rotate_left
    · intro w1 hSw
      have d0 := one_cell ((hSw.block _ (Array.getElem?_eq_some_iff.1 y0).1).trans y0)
      obtain ⟨d1, d2⟩ := two_cells ((hSw.block _ (Array.getElem?_eq_some_iff.1 y1).1).trans y1)
      obtain ⟨d3, d4, d5, d6, d7⟩ := five_cells ((hSw.block _ (Array.getElem?_eq_some_iff.1 y2).1).trans y2)
      obtain ⟨d8, d9⟩ := two_cells ((hSw.block _ (Array.getElem?_eq_some_iff.1 hX).1).trans hX)
      go_simp; with_reducible rfl
    simp only [List.getElem_toArray, List.getElem_cons_succ, List.getElem_cons_zero, Act.put, List.setIfInBounds_toArray, List.set_cons_zero, List.set_cons_succ]
    refine wpAnyH_take (i := 2) (oi := _) (v := ?_) rfl (by as_aux_lemma => kernel_rfl) (by as_aux_lemma => kernel_rfl) (by as_aux_lemma => kernel_rfl) (fun _ _ _ h => h) (Or.inl ⟨by rfl, ?_⟩) hHeld ?_
    rotate_left
    · intro w1 hSw
      have d0 := one_cell ((hSw.block _ (Array.getElem?_eq_some_iff.1 y0).1).trans y0)
      obtain ⟨d1, d2⟩ := two_cells ((hSw.block _ (Array.getElem?_eq_some_iff.1 y1).1).trans y1)
      obtain ⟨d3, d4, d5, d6, d7⟩ := five_cells ((hSw.block _ (Array.getElem?_eq_some_iff.1 y2).1).trans y2)
      obtain ⟨d8, d9⟩ := two_cells ((hSw.block _ (Array.getElem?_eq_some_iff.1 hX).1).trans hX)
      go_simp; with_reducible rfl
    simp only [List.getElem_toArray, List.getElem_cons_succ, List.getElem_cons_zero, Act.put, List.setIfInBounds_toArray, List.set_cons_zero, List.set_cons_succ]
    refine wpAnyH_take (i := 4) (oi := _) (v := ?_) rfl (by as_aux_lemma => kernel_rfl) (by as_aux_lemma => kernel_rfl) (by as_aux_lemma => kernel_rfl) (fun _ _ _ h => h) (Or.inl ⟨by rfl, ?_⟩) hHeld ?_
    rotate_left
    · intro w1 hSw
      have d0 := one_cell ((hSw.block _ (Array.getElem?_eq_some_iff.1 y0).1).trans y0)
      obtain ⟨d1, d2⟩ := two_cells ((hSw.block _ (Array.getElem?_eq_some_iff.1 y1).1).trans y1)
      obtain ⟨d3, d4, d5, d6, d7⟩ := five_cells ((hSw.block _ (Array.getElem?_eq_some_iff.1 y2).1).trans y2)
      obtain ⟨d8, d9⟩ := two_cells ((hSw.block _ (Array.getElem?_eq_some_iff.1 hX).1).trans hX)
      go_simp; with_reducible rfl
    simp only [List.getElem_toArray, List.getElem_cons_succ, List.getElem_cons_zero, Act.put, List.setIfInBounds_toArray, List.set_cons_zero, List.set_cons_succ]
    refine wpAnyH_take (i := 5) (oi := _) (v := ?_) rfl (by as_aux_lemma => kernel_rfl) (by as_aux_lemma => kernel_rfl) (by as_aux_lemma => kernel_rfl) (fun _ _ _ h => h) (Or.inl ⟨by rfl, ?_⟩) hHeld ?_
    rotate_left
    · intro w1 hSw
      have d0 := one_cell ((hSw.block _ (Array.getElem?_eq_some_iff.1 y0).1).trans y0)
      obtain ⟨d1, d2⟩ := two_cells ((hSw.block _ (Array.getElem?_eq_some_iff.1 y1).1).trans y1)
      obtain ⟨d3, d4, d5, d6, d7⟩ := five_cells ((hSw.block _ (Array.getElem?_eq_some_iff.1 y2).1).trans y2)
      obtain ⟨d8, d9⟩ := two_cells ((hSw.block _ (Array.getElem?_eq_some_iff.1 hX).1).trans hX)
      go_simp; with_reducible rfl
    simp only [List.getElem_toArray, List.getElem_cons_succ, List.getElem_cons_zero, Act.put, List.setIfInBounds_toArray, List.set_cons_zero, List.set_cons_succ]
    refine wpAnyH_take (i := 6) (oi := _) (v := ?_) rfl (by as_aux_lemma => kernel_rfl) (by as_aux_lemma => kernel_rfl) (by as_aux_lemma => kernel_rfl) (fun _ _ _ h => h) (Or.inl ⟨by rfl, ?_⟩) hHeld ?_
    rotate_left
    · intro w1 hSw
      have d0 := one_cell ((hSw.block _ (Array.getElem?_eq_some_iff.1 y0).1).trans y0)
      obtain ⟨d1, d2⟩ := two_cells ((hSw.block _ (Array.getElem?_eq_some_iff.1 y1).1).trans y1)
      obtain ⟨d3, d4, d5, d6, d7⟩ := five_cells ((hSw.block _ (Array.getElem?_eq_some_iff.1 y2).1).trans y2)
      obtain ⟨d8, d9⟩ := two_cells ((hSw.block _ (Array.getElem?_eq_some_iff.1 hX).1).trans hX)
      go_simp; with_reducible rfl
    simp only [List.getElem_toArray, List.getElem_cons_succ, List.getElem_cons_zero, Act.put, List.setIfInBounds_toArray, List.set_cons_zero, List.set_cons_succ]
    refine wpAnyH_take (i := 7) (oi := _) (v := ?_) rfl (by as_aux_lemma => kernel_rfl) (by as_aux_lemma => kernel_rfl) (by as_aux_lemma => kernel_rfl) (fun _ _ _ h => h) (Or.inl ⟨by rfl, ?_⟩) hHeld ?_
    rotate_left
    · intro w1 hSw
      have d0 := one_cell ((hSw.block _ (Array.getElem?_eq_some_iff.1 y0).1).trans y0)
      obtain ⟨d1, d2⟩ := two_cells ((hSw.block _ (Array.getElem?_eq_some_iff.1 y1).1).trans y1)
      obtain ⟨d3, d4, d5, d6, d7⟩ := five_cells ((hSw.block _ (Array.getElem?_eq_some_iff.1 y2).1).trans y2)
      obtain ⟨d8, d9⟩ := two_cells ((hSw.block _ (Array.getElem?_eq_some_iff.1 hX).1).trans hX)
      go_simp; with_reducible rfl
    simp only [List.getElem_toArray, List.getElem_cons_succ, List.getElem_cons_zero, Act.put, List.setIfInBounds_toArray, List.set_cons_zero, List.set_cons_succ]
    refine wpAnyH_take (i := 8) (oi := _) (v := ?_) rfl (by as_aux_lemma => kernel_rfl) (by as_aux_lemma => kernel_rfl) (by as_aux_lemma => kernel_rfl) (fun _ _ _ h => h) (Or.inl ⟨by rfl, ?_⟩) hHeld ?_
    rotate_left
    · intro w1 hSw
      have d0 := one_cell ((hSw.block _ (Array.getElem?_eq_some_iff.1 y0).1).trans y0)
      obtain ⟨d1, d2⟩ := two_cells ((hSw.block _ (Array.getElem?_eq_some_iff.1 y1).1).trans y1)
      obtain ⟨d3, d4, d5, d6, d7⟩ := five_cells ((hSw.block _ (Array.getElem?_eq_some_iff.1 y2).1).trans y2)
      obtain ⟨d8, d9⟩ := two_cells ((hSw.block _ (Array.getElem?_eq_some_iff.1 hX).1).trans hX)
      go_simp; with_reducible rfl
    simp only [List.getElem_toArray, List.getElem_cons_succ, List.getElem_cons_zero, Act.put, List.setIfInBounds_toArray, List.set_cons_zero, List.set_cons_succ]
    refine wpAnyH_take (i := 9) (oi := _) (v := ?_) rfl (by as_aux_lemma => kernel_rfl) (by as_aux_lemma => kernel_rfl) (by as_aux_lemma => kernel_rfl) (fun _ _ _ h => h) (Or.inl ⟨by rfl, ?_⟩) hHeld ?_
    rotate_left
    · intro w1 hSw
      have d0 := one_cell ((hSw.block _ (Array.getElem?_eq_some_iff.1 y0).1).trans y0)
      obtain ⟨d1, d2⟩ := two_cells ((hSw.block _ (Array.getElem?_eq_some_iff.1 y1).1).trans y1)
      obtain ⟨d3, d4, d5, d6, d7⟩ := five_cells ((hSw.block _ (Array.getElem?_eq_some_iff.1 y2).1).trans y2)
      obtain ⟨d8, d9⟩ := two_cells ((hSw.block _ (Array.getElem?_eq_some_iff.1 hX).1).trans hX)
      go_simp; with_reducible rfl
    simp only [List.getElem_toArray, List.getElem_cons_succ, List.getElem_cons_zero, Act.put, List.setIfInBounds_toArray, List.set_cons_zero, List.set_cons_succ]
    refine wpAnyH_take (i := 10) (oi := _) (v := ?_) rfl (by as_aux_lemma => kernel_rfl) (by as_aux_lemma => kernel_rfl) (by as_aux_lemma => kernel_rfl) (fun _ _ _ h => h) (Or.inl ⟨by rfl, ?_⟩) hHeld ?_
    rotate_left
    · intro w1 hSw
      have d0 := one_cell ((hSw.block _ (Array.getElem?_eq_some_iff.1 y0).1).trans y0)
      obtain ⟨d1, d2⟩ := two_cells ((hSw.block _ (Array.getElem?_eq_some_iff.1 y1).1).trans y1)
      obtain ⟨d3, d4, d5, d6, d7⟩ := five_cells ((hSw.block _ (Array.getElem?_eq_some_iff.1 y2).1).trans y2)
      obtain ⟨d8, d9⟩ := two_cells ((hSw.block _ (Array.getElem?_eq_some_iff.1 hX).1).trans hX)
      go_simp; with_reducible rfl
    simp only [List.getElem_toArray, List.getElem_cons_succ, List.getElem_cons_zero, Act.put, List.setIfInBounds_toArray, List.set_cons_zero, List.set_cons_succ]
    refine wpAnyH_take (i := 11) (oi := _) (v := ?_) rfl (by as_aux_lemma => kernel_rfl) (by as_aux_lemma => kernel_rfl) (by as_aux_lemma => kernel_rfl) (fun _ _ _ h => h) (Or.inl ⟨by rfl, ?_⟩) hHeld ?_
    rotate_left
    · intro w1 hSw
      have d0 := one_cell ((hSw.block _ (Array.getElem?_eq_some_iff.1 y0).1).trans y0)
      obtain ⟨d1, d2⟩ := two_cells ((hSw.block _ (Array.getElem?_eq_some_iff.1 y1).1).trans y1)
      obtain ⟨d3, d4, d5, d6, d7⟩ := five_cells ((hSw.block _ (Array.getElem?_eq_some_iff.1 y2).1).trans y2)
      obtain ⟨d8, d9⟩ := two_cells ((hSw.block _ (Array.getElem?_eq_some_iff.1 hX).1).trans hX)
      go_simp; with_reducible rfl
    simp only [List.getElem_toArray, List.getElem_cons_succ, List.getElem_cons_zero, Act.put, List.setIfInBounds_toArray, List.set_cons_zero, List.set_cons_succ]
    refine wpAnyH_all (rs := [3]) (by as_aux_lemma => kernel_rfl) (by simp) ?_
    intro i hi; obtain rfl := List.mem_singleton.1 hi; clear hi
    refine wpOp_step rfl (fun K3 hK3 => ?_)
    have HK3 := Lib.hid hK3
    clear hK3
    rw [if_pos (by rfl)]
    go_simp
    refine (HWO.out _).mono ?_
    rintro e w2 ⟨rfl, hb2⟩
    have hH2 : Below W.heap.size W w2 := hHeld.trans (hb2.mono hHeld.size)
    refine HK3.out _ _ ⟨hH2, ?_⟩
    clear HK3 K3
    try simp only [List.getElem_toArray, List.getElem_cons_succ, List.getElem_cons_zero, Act.put, List.setIfInBounds_toArray, List.set_cons_zero, List.set_cons_succ]
    refine wpAnyH_all (rs := [12]) (by as_aux_lemma => kernel_rfl) (by simp) ?_
    intro i hi; obtain rfl := List.mem_singleton.1 hi; clear hi
    refine wpOp_step rfl (fun K3 hK3 => ?_)
    have HK3 := Lib.hid hK3
    clear hK3
    rw [if_pos (by rfl)]
    go_simp
    rw [show IntKind.i64.wrap (tot - (X : Int)) = tot - (X : Int) from IntWalk.i64_in _ (by omega)]
    refine (HTE.out _ ((hH2.block _ yT.lt).trans yT)).mono ?_
    rintro e w4 ⟨rfl, hb4⟩
    have hH4 : Below W.heap.size W w4 := hH2.trans (hb4.mono hH2.size)
    refine HK3.out _ _ ⟨hH4, ?_⟩
    clear HK3 K3
    try simp only [List.getElem_toArray, List.getElem_cons_succ, List.getElem_cons_zero, Act.put, List.setIfInBounds_toArray, List.set_cons_zero, List.set_cons_succ]
    refine wpAnyH_take (i := 13) (oi := _) (v := ?_) rfl (by as_aux_lemma => kernel_rfl) (by as_aux_lemma => kernel_rfl) (by as_aux_lemma => kernel_rfl) (fun _ _ _ h => h) (Or.inl ⟨by rfl, ?_⟩) hH4 ?_
    rotate_left
    · intro w1 hSw

      go_simp; with_reducible rfl
    simp only [List.getElem_toArray, List.getElem_cons_succ, List.getElem_cons_zero, Act.put, List.setIfInBounds_toArray, List.set_cons_zero, List.set_cons_succ]
    refine wpAnyH_take (i := 14) (oi := _) (v := ?_) rfl (by as_aux_lemma => kernel_rfl) (by as_aux_lemma => kernel_rfl) (by as_aux_lemma => kernel_rfl) (fun _ _ _ h => h) (Or.inl ⟨by rfl, ?_⟩) hH4 ?_
    rotate_left
    · intro w1 hSw

      go_simp; with_reducible rfl
    simp only [List.getElem_toArray, List.getElem_cons_succ, List.getElem_cons_zero, Act.put, List.setIfInBounds_toArray, List.set_cons_zero, List.set_cons_succ]
    refine wpAnyH_take (i := 15) (oi := _) (v := ?_) rfl (by as_aux_lemma => kernel_rfl) (by as_aux_lemma => kernel_rfl) (by as_aux_lemma => kernel_rfl) (fun _ _ _ h => h) (Or.inl ⟨by rfl, ?_⟩) hH4 ?_
    rotate_left
    · intro w1 hSw

      go_simp; with_reducible rfl
    simp only [List.getElem_toArray, List.getElem_cons_succ, List.getElem_cons_zero, Act.put, List.setIfInBounds_toArray, List.set_cons_zero, List.set_cons_succ]
    refine wpAnyH_all (rs := [16]) (by as_aux_lemma => kernel_rfl) (by simp) ?_
    intro i hi; obtain rfl := List.mem_singleton.1 hi; clear hi
    refine wpOp_step rfl (fun K3 hK3 => ?_)
    have HK3 := Lib.hid hK3
    clear hK3
    rw [if_pos (by rfl)]
    go_simp
    refine HK3.out _ _ ⟨hH4, ?_⟩
    clear HK3 K3
    try simp only [List.getElem_toArray, List.getElem_cons_succ, List.getElem_cons_zero, Act.put, List.setIfInBounds_toArray, List.set_cons_zero, List.set_cons_succ]
    refine wpAnyH_all (rs := [17]) (by as_aux_lemma => kernel_rfl) (by simp) ?_
    intro i hi; obtain rfl := List.mem_singleton.1 hi; clear hi
    refine wpOp_step rfl (fun K3 hK3 => ?_)
    have HK3 := Lib.hid hK3
    clear hK3
    rw [if_pos (by rfl)]
    go_simp
    refine HK3.out _ _ ⟨hH4, ?_⟩
    clear HK3 K3
    try simp only [List.getElem_toArray, List.getElem_cons_succ, List.getElem_cons_zero, Act.put, List.setIfInBounds_toArray, List.set_cons_zero, List.set_cons_succ]
    refine wpAnyH_done (by as_aux_lemma => kernel_rfl) ?_ _
    have hSw := hH4
    have i1 := (hH4.block _ (Array.getElem?_eq_some_iff.1 I1.out).1).trans I1.out
    have i2 := (hH4.block _ (Array.getElem?_eq_some_iff.1 I2.out).1).trans I2.out
    have i3 := (hH4.block _ (Array.getElem?_eq_some_iff.1 I3.out).1).trans I3.out
    have d0 := one_cell ((hSw.block _ (Array.getElem?_eq_some_iff.1 y0).1).trans y0)
    obtain ⟨d1, d2⟩ := two_cells ((hSw.block _ (Array.getElem?_eq_some_iff.1 y1).1).trans y1)
    obtain ⟨d3, d4, d5, d6, d7⟩ := five_cells ((hSw.block _ (Array.getElem?_eq_some_iff.1 y2).1).trans y2)
    obtain ⟨d8, d9⟩ := two_cells ((hSw.block _ (Array.getElem?_eq_some_iff.1 hX).1).trans hX)
    have c3 := one_cell i1
    have c4 := one_cell i2
    have c5 := one_cell i3
    have f3 : w4.frozen? ⟨H + 1 + 1 + 1, 0, none⟩ = false := frozen_of i1
    have f4 : w4.frozen? ⟨H + 1 + 1 + 1 + 1, 0, none⟩ = false := frozen_of i2
    have f5 : w4.frozen? ⟨H + 1 + 1 + 1 + 1 + 1, 0, none⟩ = false := frozen_of i3
    have J1 := Lib.hid i1
    have J2 := Lib.hid i2
    have J3 := Lib.hid i3
    have JH := Lib.hid hH4
    clear hH4 hSw hHeld hH2 hb4 hb2 i1 i2 i3 y0 y1 y2 hX yT I1 I2 I3 HWO HTE
    by_cases h1 : (X : Int) ≤ ac
    · gi_wp2
      have hO := (((OnlyE.of_below (E := (fun k => k = H + 1 + 1 + 1 ∨ k = H + 1 + 1 + 1 + 1 ∨ k = H + 1 + 1 + 1 + 1 + 1)) JH.out).set (b := H + 1 + 1 + 1 + 1 + 1) (by simp) (.int .i64 (wrap64 ((S5 : Int) + (MN : Int))))).set (b := H + 1 + 1 + 1) (by simp) (.int .i64 (wrap64 ((S3 : Int) + (MN : Int)))))
      exact ⟨hO.from (by intro k hk; omega), hO.keep, by rw [HS3.out, if_pos h1, Int.natCast_add]; exact (set_one ((Below.heap_setCell _ _ _ _ (by show H + 1 + 1 + 1 ≠ H + 1 + 1 + 1 + 1 + 1; omega)).trans J1.out) _), by rw [HS4.out, if_pos h1, Nat.add_zero S4, HV4.out]; exact ((Below.heap_setCell _ _ _ _ (by show H + 1 + 1 + 1 + 1 ≠ H + 1 + 1 + 1; omega)).trans ((Below.heap_setCell _ _ _ _ (by show H + 1 + 1 + 1 + 1 ≠ H + 1 + 1 + 1 + 1 + 1; omega)).trans J2.out)), by rw [HS5.out, Int.natCast_add]; exact ((Below.heap_setCell _ _ _ _ (by show H + 1 + 1 + 1 + 1 + 1 ≠ H + 1 + 1 + 1; omega)).trans (set_one J3.out _)), I4.out.trans hO⟩
    · have H1 := Lib.hid h1
      have h1' : ac < (X : Int) := by omega
      clear h1
      by_cases h2 : (X : Int) < re
      · gi_wp2
        have hO := ((((OnlyE.of_below (E := (fun k => k = H + 1 + 1 + 1 ∨ k = H + 1 + 1 + 1 + 1 ∨ k = H + 1 + 1 + 1 + 1 + 1)) JH.out).set (b := H + 1 + 1 + 1 + 1 + 1) (by simp) (.int .i64 (wrap64 ((S5 : Int) + (MN : Int))))).set (b := H + 1 + 1 + 1) (by simp) (.int .i64 (wrap64 ((S3 : Int) + (MQ : Int))))).set (b := H + 1 + 1 + 1 + 1) (by simp) (.int .i64 (wrap64 ((S4 : Int) + (MN : Int)))))
        exact ⟨hO.from (by intro k hk; omega), hO.keep, by rw [HS3.out, if_neg (Int.not_le.2 H1.out), if_pos h2, Int.natCast_add]; exact ((Below.heap_setCell _ _ _ _ (by show H + 1 + 1 + 1 ≠ H + 1 + 1 + 1 + 1; omega)).trans (set_one ((Below.heap_setCell _ _ _ _ (by show H + 1 + 1 + 1 ≠ H + 1 + 1 + 1 + 1 + 1; omega)).trans J1.out) _)), by rw [HS4.out, if_neg (Int.not_le.2 H1.out), if_pos h2, Int.natCast_add]; exact (set_one ((Below.heap_setCell _ _ _ _ (by show H + 1 + 1 + 1 + 1 ≠ H + 1 + 1 + 1; omega)).trans ((Below.heap_setCell _ _ _ _ (by show H + 1 + 1 + 1 + 1 ≠ H + 1 + 1 + 1 + 1 + 1; omega)).trans J2.out)) _), by rw [HS5.out, Int.natCast_add]; exact ((Below.heap_setCell _ _ _ _ (by show H + 1 + 1 + 1 + 1 + 1 ≠ H + 1 + 1 + 1 + 1; omega)).trans ((Below.heap_setCell _ _ _ _ (by show H + 1 + 1 + 1 + 1 + 1 ≠ H + 1 + 1 + 1; omega)).trans (set_one J3.out _))), I4.out.trans hO⟩
      · have H2 := Lib.hid h2
        have h2' : re ≤ (X : Int) := by omega
        clear h2
        gi_wp2
        have hO := ((OnlyE.of_below (E := (fun k => k = H + 1 + 1 + 1 ∨ k = H + 1 + 1 + 1 + 1 ∨ k = H + 1 + 1 + 1 + 1 + 1)) JH.out).set (b := H + 1 + 1 + 1 + 1 + 1) (by simp) (.int .i64 (wrap64 ((S5 : Int) + (MN : Int)))))
        exact ⟨hO.from (by intro k hk; omega), hO.keep, by rw [HS3.out, if_neg (Int.not_le.2 H1.out), if_neg (Int.not_lt.2 H2.out), Nat.add_zero S3, HV3.out]; exact ((Below.heap_setCell _ _ _ _ (by show H + 1 + 1 + 1 ≠ H + 1 + 1 + 1 + 1 + 1; omega)).trans J1.out), by rw [HS4.out, if_neg (Int.not_le.2 H1.out), if_neg (Int.not_lt.2 H2.out), Nat.add_zero S4, HV4.out]; exact ((Below.heap_setCell _ _ _ _ (by show H + 1 + 1 + 1 + 1 ≠ H + 1 + 1 + 1 + 1 + 1; omega)).trans J2.out), by rw [HS5.out, Int.natCast_add]; exact (set_one J3.out _), I4.out.trans hO⟩
  case stop =>
    rintro D cc pre W hD hpre h hK
    exact h.elim
  case done =>
    rintro D xs W hD rfl ⟨i1, i2, i3, i4⟩ hK
    have hbw0 : Below w.heap.size w W := hb0.trans ((hb1.mono hb0.size).trans (i4.below (n := w.heap.size) (by have := HH.out; omega) (by intro k hk; have := HH.out; omega)))
    have hbw : Below H w W := by rw [HH.out]; exact hbw0
    have hDl := (Array.getElem?_eq_some_iff.1 hK).1
    have hz3 := (Array.getElem?_eq_some_iff.1 i3).1
    have a5 := all_bd b g c s hc hs
    have a3 := Nat.le_trans (pas_le b g c s ac re tot (itemsL b g c) hc) a5
    have a4 := Nat.le_trans (sec_le b g c s ac re (itemsL b g c)) a5
    obtain ⟨A3, hA3⟩ : ∃ A, sumF (pasW b g c s ac re tot) b g c (itemsL b g c) = A := ⟨_, rfl⟩
    obtain ⟨A4, hA4⟩ : ∃ A, sumF (secW b g c s ac re) b g c (itemsL b g c) = A := ⟨_, rfl⟩
    obtain ⟨A5, hA5⟩ : ∃ A, sumF (allW b g c s) b g c (itemsL b g c) = A := ⟨_, rfl⟩
    rw [hA3] at i1 a3
    rw [hA4] at i2 a4
    rw [hA5] at i3 a5
    rw [w64n A3 a3] at i1
    rw [w64n A4 a4] at i2
    rw [w64n A5 a5] at i3
    have HA3 := Lib.hid hA3
    have HA4 := Lib.hid hA4
    have HA5 := Lib.hid hA5
    clear hA3 hA4 hA5 i4 k0 k1 k2 k3 k4 k5 hbw0 hb0 hb1 hO1 hM hT0 hT hTl
    gi_wp2
    refine wpIn_mono (Q := fun e a' w' => e = .normal ∧ (∃ u68 u69 u70 : Value, a' = ⟨#[.pointer (some ⟨T, 0, none⟩), .agg #[.int .i64 (b : Nat), .int .i64 (g : Nat)], .agg #[.int .i64 (c : Nat), .int .i64 ac, .int .i64 re, .int .i64 (s : Nat), .int .i64 tot], .pointer (some ⟨H, 0, none⟩), .pointer (some ⟨H + 1, 0, none⟩), .pointer (some ⟨H + 1 + 1, 0, none⟩), .pointer (some ⟨H + 1 + 1 + 1, 0, none⟩), .pointer (some ⟨H + 1 + 1 + 1 + 1, 0, none⟩), .pointer (some ⟨H + 1 + 1 + 1 + 1 + 1, 0, none⟩), undef, undef, undef, undef, .pointer (some ⟨T, 0, none⟩), .agg #[.int .i64 (b : Nat), .int .i64 (g : Nat)], .pointer (some ⟨H + 1 + 1, 0, none⟩), .int .i64 (c : Nat), .func (.func 55) #[] #[.pointer (some ⟨H + 6 + 1 + 1, 0, none⟩), .pointer (some ⟨H + 6 + 1, 0, none⟩), .pointer (some ⟨H + 6, 0, none⟩)], undef, undef, undef, undef, undef, undef, undef, undef, undef, undef, undef, undef, undef, undef, undef, undef, undef, undef, undef, undef, undef, undef, undef, undef, undef, undef, undef, undef, undef, undef, undef, undef, undef, undef, undef, undef, undef, undef, undef, undef, undef, undef, undef, undef, undef, undef, undef, undef, undef, undef, u68, u69, u70], [{ target := .collected D, args := #[] }]⟩) ∧ w'.heap[H + 1 + 1 + 1]? = some (.cells #[.int .i64 (A3 : Nat)] 3 (0, 0)) ∧ w'.heap[H + 1 + 1 + 1 + 1]? = some (.cells #[.int .i64 (A4 : Nat)] 3 (0, 0)) ∧ w'.heap[H + 1 + 1 + 1 + 1 + 1]? = some (.cells #[.int .i64 (A5 : Nat)] 3 (0, 0)) ∧ w'.heap[D]? = some (.deferred (some [])) ∧ Below H w w') ?_ ?_
    rotate_left
    · rintro e a3 W3 ⟨rfl, ⟨u68, u69, u70, rfl⟩, s1, s2, s3, s5, s6⟩
      gi_wp2
      refine ⟨by simp, .inl ⟨_, _, rfl, run_takeDeferred s5, ?_⟩⟩
      have hg := grownBy_putObj' W3 D (.deferred none)
      have c3 := one_cell (show (W3.putObj D (.deferred none)).heap[H + 1 + 1 + 1]? = some (.cells #[.int .i64 (A3 : Nat)] 3 (0, 0)) from (World.putObj_heap_other (by omega)).trans s1)
      have c4 := one_cell (show (W3.putObj D (.deferred none)).heap[H + 1 + 1 + 1 + 1]? = some (.cells #[.int .i64 (A4 : Nat)] 3 (0, 0)) from (World.putObj_heap_other (by omega)).trans s2)
      have c5 := one_cell (show (W3.putObj D (.deferred none)).heap[H + 1 + 1 + 1 + 1 + 1]? = some (.cells #[.int .i64 (A5 : Nat)] 3 (0, 0)) from (World.putObj_heap_other (by omega)).trans s3)
      refine ⟨.tuple #[.int .i64 (A3 : Nat), .int .i64 (A4 : Nat), .int .i64 (A5 : Nat)], ?_, ?_, ?_⟩
      · simp [results, Try.results31, go_sem, c3, c4, c5]
      · rw [HA3.out, HA4.out, HA5.out]
      · rw [← HH.out]; exact s6.grown hg (by have := (Array.getElem?_eq_some_iff.1 s1).1; omega) (fun q e => by cases e; omega)
    refine region_lastIn (fun w' => w'.heap[H + 1 + 1 + 1]? = some (.cells #[.int .i64 (A3 : Nat)] 3 (0, 0)) ∧ w'.heap[H + 1 + 1 + 1 + 1]? = some (.cells #[.int .i64 (A4 : Nat)] 3 (0, 0)) ∧ w'.heap[H + 1 + 1 + 1 + 1 + 1]? = some (.cells #[.int .i64 (A5 : Nat)] 3 (0, 0)) ∧ w'.heap[D]? = some (.deferred (some [])) ∧ Below H w w') [] (by as_aux_lemma => kernel_rfl) ⟨i1, i2, i3, hK, hbw.drew⟩ (fun hHeld => ?_)
    generalize W.drew = Wd0 at hHeld ⊢
    refine lastIn_take (i := 0) (oi := _) (v := ?_) rfl (by as_aux_lemma => kernel_rfl) (by as_aux_lemma => kernel_rfl) (by as_aux_lemma => kernel_rfl) (by as_aux_lemma => kernel_rfl) (by as_aux_lemma => kernel_rfl) (fun _ _ _ h => by cases h.1) (Or.inl ⟨by rfl, ?_⟩) hHeld ?_
    rotate_left
    · intro w1 hSw
      obtain ⟨s1, s2, s3, s5, s6⟩ := hSw
      have c3 := one_cell s1
      have c4 := one_cell s2
      have c5 := one_cell s3
      go_simp; with_reducible rfl
    simp only [List.getElem_toArray, List.getElem_cons_succ, List.getElem_cons_zero, Act.put, List.setIfInBounds_toArray, List.set_cons_zero, List.set_cons_succ]
    refine lastIn_take (i := 1) (oi := _) (v := ?_) rfl (by as_aux_lemma => kernel_rfl) (by as_aux_lemma => kernel_rfl) (by as_aux_lemma => kernel_rfl) (by as_aux_lemma => kernel_rfl) (by as_aux_lemma => kernel_rfl) (fun _ _ _ h => by cases h.1) (Or.inl ⟨by rfl, ?_⟩) hHeld ?_
    rotate_left
    · intro w1 hSw
      obtain ⟨s1, s2, s3, s5, s6⟩ := hSw
      have c3 := one_cell s1
      have c4 := one_cell s2
      have c5 := one_cell s3
      go_simp; with_reducible rfl
    simp only [List.getElem_toArray, List.getElem_cons_succ, List.getElem_cons_zero, Act.put, List.setIfInBounds_toArray, List.set_cons_zero, List.set_cons_succ]
    refine lastIn_take (i := 2) (oi := _) (v := ?_) rfl (by as_aux_lemma => kernel_rfl) (by as_aux_lemma => kernel_rfl) (by as_aux_lemma => kernel_rfl) (by as_aux_lemma => kernel_rfl) (by as_aux_lemma => kernel_rfl) (fun _ _ _ h => by cases h.1) (Or.inl ⟨by rfl, ?_⟩) hHeld ?_
    rotate_left
    · intro w1 hSw
      obtain ⟨s1, s2, s3, s5, s6⟩ := hSw
      have c3 := one_cell s1
      have c4 := one_cell s2
      have c5 := one_cell s3
      go_simp; with_reducible rfl
    simp only [List.getElem_toArray, List.getElem_cons_succ, List.getElem_cons_zero, Act.put, List.setIfInBounds_toArray, List.set_cons_zero, List.set_cons_succ]
    obtain ⟨s1, s2, s3, s5, s6⟩ := hHeld
    have c3 := one_cell s1
    have f3 : Wd0.frozen? ⟨H + 1 + 1 + 1, 0, none⟩ = false := frozen_of s1
    have hH3 : (Wd0.setCell ⟨H + 1 + 1 + 1, 0, none⟩ (.int .i64 (A3 : Nat))).heap[H + 1 + 1 + 1]? = some (.cells #[.int .i64 (A3 : Nat)] 3 (0, 0)) ∧ (Wd0.setCell ⟨H + 1 + 1 + 1, 0, none⟩ (.int .i64 (A3 : Nat))).heap[H + 1 + 1 + 1 + 1]? = some (.cells #[.int .i64 (A4 : Nat)] 3 (0, 0)) ∧ (Wd0.setCell ⟨H + 1 + 1 + 1, 0, none⟩ (.int .i64 (A3 : Nat))).heap[H + 1 + 1 + 1 + 1 + 1]? = some (.cells #[.int .i64 (A5 : Nat)] 3 (0, 0)) ∧ (Wd0.setCell ⟨H + 1 + 1 + 1, 0, none⟩ (.int .i64 (A3 : Nat))).heap[D]? = some (.deferred (some [])) ∧ Below H w (Wd0.setCell ⟨H + 1 + 1 + 1, 0, none⟩ (.int .i64 (A3 : Nat))) := ⟨set_one s1 _, (Below.heap_setCell _ _ _ _ (by show H + 1 + 1 + 1 + 1 ≠ H + 1 + 1 + 1; omega)).trans s2, (Below.heap_setCell _ _ _ _ (by show H + 1 + 1 + 1 + 1 + 1 ≠ H + 1 + 1 + 1; omega)).trans s3, (Below.heap_setCell _ _ _ _ (by show D ≠ H + 1 + 1 + 1; omega)).trans s5, s6.setCell (p := ⟨H + 1 + 1 + 1, 0, none⟩) (by show H ≤ H + 1 + 1 + 1; omega) _⟩
    clear s1 s2 s3 s5 s6
    refine lastIn_ready (rs := [3]) (by as_aux_lemma => kernel_rfl) (by simp) ?_
    intro i hi; obtain rfl := List.mem_singleton.1 hi; clear hi
    refine wpOpIn_step rfl (fun K3 hK3 => ?_)
    have HK3 := Lib.hid hK3
    clear hK3
    rw [if_pos (by rfl)]
    simp only [Oper.wpIn, Oper.semAt_none]; go_simp
    refine HK3.out _ _ ⟨fun _ => hH3, fun _ => ?_⟩
    clear HK3 K3
    try simp only [List.getElem_toArray, List.getElem_cons_succ, List.getElem_cons_zero, Act.put, List.setIfInBounds_toArray, List.set_cons_zero, List.set_cons_succ]
    clear c3 f3
    generalize (Wd0.setCell ⟨H + 1 + 1 + 1, 0, none⟩ (.int .i64 (A3 : Nat))) = Wd1 at hH3 ⊢
    obtain ⟨s1, s2, s3, s5, s6⟩ := hH3
    have c3 := one_cell s2
    have f3 : Wd1.frozen? ⟨H + 1 + 1 + 1 + 1, 0, none⟩ = false := frozen_of s2
    have hH4 : (Wd1.setCell ⟨H + 1 + 1 + 1 + 1, 0, none⟩ (.int .i64 (A4 : Nat))).heap[H + 1 + 1 + 1]? = some (.cells #[.int .i64 (A3 : Nat)] 3 (0, 0)) ∧ (Wd1.setCell ⟨H + 1 + 1 + 1 + 1, 0, none⟩ (.int .i64 (A4 : Nat))).heap[H + 1 + 1 + 1 + 1]? = some (.cells #[.int .i64 (A4 : Nat)] 3 (0, 0)) ∧ (Wd1.setCell ⟨H + 1 + 1 + 1 + 1, 0, none⟩ (.int .i64 (A4 : Nat))).heap[H + 1 + 1 + 1 + 1 + 1]? = some (.cells #[.int .i64 (A5 : Nat)] 3 (0, 0)) ∧ (Wd1.setCell ⟨H + 1 + 1 + 1 + 1, 0, none⟩ (.int .i64 (A4 : Nat))).heap[D]? = some (.deferred (some [])) ∧ Below H w (Wd1.setCell ⟨H + 1 + 1 + 1 + 1, 0, none⟩ (.int .i64 (A4 : Nat))) := ⟨(Below.heap_setCell _ _ _ _ (by show H + 1 + 1 + 1 ≠ H + 1 + 1 + 1 + 1; omega)).trans s1, set_one s2 _, (Below.heap_setCell _ _ _ _ (by show H + 1 + 1 + 1 + 1 + 1 ≠ H + 1 + 1 + 1 + 1; omega)).trans s3, (Below.heap_setCell _ _ _ _ (by show D ≠ H + 1 + 1 + 1 + 1; omega)).trans s5, s6.setCell (p := ⟨H + 1 + 1 + 1 + 1, 0, none⟩) (by show H ≤ H + 1 + 1 + 1 + 1; omega) _⟩
    clear s1 s2 s3 s5 s6
    refine lastIn_ready (rs := [4]) (by as_aux_lemma => kernel_rfl) (by simp) ?_
    intro i hi; obtain rfl := List.mem_singleton.1 hi; clear hi
    refine wpOpIn_step rfl (fun K3 hK3 => ?_)
    have HK3 := Lib.hid hK3
    clear hK3
    rw [if_pos (by rfl)]
    simp only [Oper.wpIn, Oper.semAt_none]; go_simp
    refine HK3.out _ _ ⟨fun _ => hH4, fun _ => ?_⟩
    clear HK3 K3
    try simp only [List.getElem_toArray, List.getElem_cons_succ, List.getElem_cons_zero, Act.put, List.setIfInBounds_toArray, List.set_cons_zero, List.set_cons_succ]
    clear c3 f3
    generalize (Wd1.setCell ⟨H + 1 + 1 + 1 + 1, 0, none⟩ (.int .i64 (A4 : Nat))) = Wd2 at hH4 ⊢
    obtain ⟨s1, s2, s3, s5, s6⟩ := hH4
    have c3 := one_cell s3
    have f3 : Wd2.frozen? ⟨H + 1 + 1 + 1 + 1 + 1, 0, none⟩ = false := frozen_of s3
    have hH5 : (Wd2.setCell ⟨H + 1 + 1 + 1 + 1 + 1, 0, none⟩ (.int .i64 (A5 : Nat))).heap[H + 1 + 1 + 1]? = some (.cells #[.int .i64 (A3 : Nat)] 3 (0, 0)) ∧ (Wd2.setCell ⟨H + 1 + 1 + 1 + 1 + 1, 0, none⟩ (.int .i64 (A5 : Nat))).heap[H + 1 + 1 + 1 + 1]? = some (.cells #[.int .i64 (A4 : Nat)] 3 (0, 0)) ∧ (Wd2.setCell ⟨H + 1 + 1 + 1 + 1 + 1, 0, none⟩ (.int .i64 (A5 : Nat))).heap[H + 1 + 1 + 1 + 1 + 1]? = some (.cells #[.int .i64 (A5 : Nat)] 3 (0, 0)) ∧ (Wd2.setCell ⟨H + 1 + 1 + 1 + 1 + 1, 0, none⟩ (.int .i64 (A5 : Nat))).heap[D]? = some (.deferred (some [])) ∧ Below H w (Wd2.setCell ⟨H + 1 + 1 + 1 + 1 + 1, 0, none⟩ (.int .i64 (A5 : Nat))) := ⟨(Below.heap_setCell _ _ _ _ (by show H + 1 + 1 + 1 ≠ H + 1 + 1 + 1 + 1 + 1; omega)).trans s1, (Below.heap_setCell _ _ _ _ (by show H + 1 + 1 + 1 + 1 ≠ H + 1 + 1 + 1 + 1 + 1; omega)).trans s2, set_one s3 _, (Below.heap_setCell _ _ _ _ (by show D ≠ H + 1 + 1 + 1 + 1 + 1; omega)).trans s5, s6.setCell (p := ⟨H + 1 + 1 + 1 + 1 + 1, 0, none⟩) (by show H ≤ H + 1 + 1 + 1 + 1 + 1; omega) _⟩
    clear s1 s2 s3 s5 s6
    refine lastIn_ready (rs := [5]) (by as_aux_lemma => kernel_rfl) (by simp) ?_
    intro i hi; obtain rfl := List.mem_singleton.1 hi; clear hi
    refine wpOpIn_step rfl (fun K3 hK3 => ?_)
    have HK3 := Lib.hid hK3
    clear hK3
    rw [if_pos (by rfl)]
    simp only [Oper.wpIn, Oper.semAt_none]; go_simp
    refine HK3.out _ _ ⟨fun _ => hH5, fun _ => ?_⟩
    clear HK3 K3
    try simp only [List.getElem_toArray, List.getElem_cons_succ, List.getElem_cons_zero, Act.put, List.setIfInBounds_toArray, List.set_cons_zero, List.set_cons_succ]
    clear c3 f3
    generalize (Wd2.setCell ⟨H + 1 + 1 + 1 + 1 + 1, 0, none⟩ (.int .i64 (A5 : Nat))) = Wd3 at hH5 ⊢
    refine lastIn_done (by as_aux_lemma => kernel_rfl) ?_ _
    exact ⟨rfl, ⟨_, _, _, rfl⟩, hH5⟩
end Go.Proofs.Ytclcconllkfjiaa
