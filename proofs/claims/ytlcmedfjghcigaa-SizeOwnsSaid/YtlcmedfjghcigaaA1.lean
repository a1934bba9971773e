/- Size: what lies in memory; contracts of the small functions. -/
import Derived.Test.YtlcmedfjghcigaaM1
import Derived.Lib.RabinKarpLaws
namespace Go.Proofs.Ytlcmedfjghcigaa
set_option linter.unusedSimpArgs false
set_option linter.unusedVariables false
open Go.RowKit

theorem alloc_heap (w : World) (o : Obj) : (w.alloc o).heap[w.heap.size]? = some o := (MapKept.heap_alloc w o).1
theorem box_step {w0 w1 w2 : World} {B : Nat} {o : Obj} (h : w1.heap[B]? = some o) (hb : Below w1.heap.size w1 w2) : w2.heap[B]? = some o := (hb.block B (Array.getElem?_eq_some_iff.1 h).1).trans h
theorem two_cells {X : World} {b : Nat} {x y : Value} {t : TypeId} (h : X.heap[b]? = some (.cells #[x, y] t)) : X.cell? ⟨b, 0, none⟩ = some x ∧ X.cell? ⟨b, 1, none⟩ = some y := by
  simp [World.cell?, h]
theorem three_cells {X : World} {b : Nat} {x y z : Value} {t : TypeId} (h : X.heap[b]? = some (.cells #[x, y, z] t)) : X.cell? ⟨b, 0, none⟩ = some x ∧ X.cell? ⟨b, 1, none⟩ = some y ∧ X.cell? ⟨b, 2, none⟩ = some z := by
  simp [World.cell?, h]
theorem four_cells {X : World} {b : Nat} {x y z u : Value} {t : TypeId} (h : X.heap[b]? = some (.cells #[x, y, z, u] t)) : X.cell? ⟨b, 0, none⟩ = some x ∧ X.cell? ⟨b, 1, none⟩ = some y ∧ X.cell? ⟨b, 2, none⟩ = some z ∧ X.cell? ⟨b, 3, none⟩ = some u := by
  simp [World.cell?, h]
theorem five_cells {X : World} {b : Nat} {x y z u v : Value} {t : TypeId} (h : X.heap[b]? = some (.cells #[x, y, z, u, v] t)) : X.cell? ⟨b, 0, none⟩ = some x ∧ X.cell? ⟨b, 1, none⟩ = some y ∧ X.cell? ⟨b, 2, none⟩ = some z ∧ X.cell? ⟨b, 3, none⟩ = some u ∧ X.cell? ⟨b, 4, none⟩ = some v := by
  simp [World.cell?, h]
theorem one_cell {X : World} {b : Nat} {v : Value} {t : TypeId} (h : X.heap[b]? = some (.cells #[v] t (0, 0))) : X.cell? ⟨b, 0, none⟩ = some v := by simp [World.cell?, h]
/-- a slice of structs of k integers -/
def TabAt {α : Type} [Inhabited α] (k : Nat) (f : α → Nat → Int) (w : World) (v : Value) (L : List α) : Prop := L.length ≤ maxLen ∧ ((L = [] ∧ ∃ a c, v = .slice a 0 c) ∨ ∃ b off cap, v = .slice (some ⟨b, off, none⟩) L.length cap ∧ L.length ≤ cap ∧ cap ≤ maxLen ∧ b < w.heap.size ∧
  ∀ i, i < L.length → ∀ j, j < k → w.cell? ⟨b, off + i * k + j, none⟩ = some (.int .i64 (f (L.getD i default) j)))
section
variable {α : Type} [Inhabited α] {k : Nat} {f : α → Nat → Int} {w w' : World} {v : Value} {L : List α}
theorem TabAt.shape (h : TabAt k f w v L) : ∃ a c, v = .slice a L.length c := by
  obtain ⟨_, ⟨rfl, a, c, rfl⟩ | ⟨b, off, cap, rfl, _⟩⟩ := h
  · exact ⟨a, c, rfl⟩
  · exact ⟨_, _, rfl⟩
theorem TabAt.below (h : TabAt k f w v L) (hb : Below w.heap.size w w') : TabAt k f w' v L := by
  obtain ⟨hl, ⟨rfl, h⟩ | ⟨b, off, cap, rfl, h1, h2, h3, h4⟩⟩ := h
  · exact ⟨hl, .inl ⟨rfl, h⟩⟩
  · exact ⟨hl, .inr ⟨b, off, cap, rfl, h1, h2, Nat.lt_of_lt_of_le h3 hb.size, fun i hi j hj => (hb.cell (p := ⟨b, _, none⟩) h3).trans (h4 i hi j hj)⟩⟩
theorem TabAt.at {a : Option Addr} {n c : Nat} (h : TabAt k f w (.slice a n c) L) (hl : 0 < L.length) : ∃ b off, a = some ⟨b, off, none⟩ ∧ b < w.heap.size ∧ ∀ i, i < L.length → ∀ j, j < k → w.cell? ⟨b, off + i * k + j, none⟩ = some (.int .i64 (f (L.getD i default) j)) := by
  obtain ⟨_, ⟨rfl, _⟩ | ⟨b, off, cap, e, h1, h2, h3, h4⟩⟩ := h
  · simp at hl
  · simp only [Value.slice.injEq] at e
    exact ⟨b, off, e.1, h3, h4⟩
end
theorem getD_bang {α : Type} [Inhabited α] (l : List α) {k : Nat} (hk : k < l.length) : l.getD k default = l[k]! := by
  rw [getElem!_pos l k hk, List.getD, List.getElem?_eq_getElem hk]; rfl
def tpC (t : Tp) : Nat → Int | 0 => t.f.1 | 1 => t.f.2 | _ => t.n
def rlC (r : Rl) : Nat → Int | 0 => r.t | _ => r.m
def szC (s : Sz) : Nat → Int | 0 => s.start | 1 => s.full | 2 => s.loss | _ => s.price
def tpV (t : Tp) : Value := .agg #[.int .i64 t.f.1, .int .i64 t.f.2, .int .i64 t.n]
def rlV (r : Rl) : Value := .agg #[.int .i64 r.t, .int .i64 r.m]
def szV (s : Sz) : Value := .agg #[.int .i64 s.start, .int .i64 s.full, .int .i64 s.loss, .int .i64 s.price]
def ldV (l : Ld) : Value := .agg #[.int .i64 l.f.1, .int .i64 l.f.2, .int .i64 l.n]
theorem isFrom_any (n lo hi : Int) (w : World) : Calls Try.prog 48 #[.int .i64 n, .int .i64 lo, .int .i64 hi] w fun e w' => e = .returned (.bool (inF n lo hi)) ∧ w = w' := by
  by_cases h : lo ≤ n
  · have H := Lib.hid (show inF n lo hi = decide (n ≤ hi) by simp [inF, h])
    go_enter Try.func48, Try.ntmps48
    go_wp2
    go_ret
    exact ⟨by rw [H.out]; rfl, rfl⟩
  · have H := Lib.hid (show inF n lo hi = false by simp [inF, h])
    go_enter Try.func48, Try.ntmps48
    go_wp2
    go_ret
    exact ⟨by rw [H.out]; rfl, rfl⟩
theorem in_any (n lo hi : Int) (w : World) : Calls Try.prog 51 #[.int .i64 n, .int .i64 lo, .int .i64 hi] w fun e w' => e = .returned (.bool (inF n lo hi)) ∧ w = w' := by
  by_cases h : lo ≤ n
  · have H := Lib.hid (show inF n lo hi = decide (n ≤ hi) by simp [inF, h])
    go_enter Try.func51, Try.ntmps51
    go_wp2
    go_ret
    exact ⟨by rw [H.out]; rfl, rfl⟩
  · have H := Lib.hid (show inF n lo hi = false by simp [inF, h])
    go_enter Try.func51, Try.ntmps51
    go_wp2
    go_ret
    exact ⟨by rw [H.out]; rfl, rfl⟩
theorem isTap_any (t : Tp) (w : World) : Calls Try.prog 53 #[tpV t] w fun e w' => e = .returned (.bool (tapOk t)) ∧ Below w.heap.size w w' := by
  have hb := (Below.refl w.heap.size w).alloc (Nat.le_refl _) (.cells #[.int .i64 t.f.1, .int .i64 t.f.2, .int .i64 t.n] 52)
  have HB := Lib.hid hb
  have k := fun X => isFrom_any t.n 0 10000 X
  have hR : tapOk t = (decide (0 ≤ t.f.1) && (decide (t.f.1 ≤ t.f.2) && (decide (t.f.2 ≤ 100000) && inF t.n 0 10000))) := rfl
  obtain ⟨b, hbb⟩ : ∃ b, inF t.n 0 10000 = b := ⟨_, rfl⟩
  rw [hbb] at hR
  simp only [hbb] at k
  have K := Lib.hid k
  clear hb k hbb
  unfold tpV
  by_cases h1 : 0 ≤ t.f.1
  · by_cases h2 : t.f.1 ≤ t.f.2
    · by_cases h3 : t.f.2 ≤ 100000
      · rw [show tapOk t = b by rw [hR]; simp [h1, h2, h3]]
        clear hR
        go_enter Try.func53, Try.ntmps53
        go_wp2_with (go_at_call 48; (with_reducible refine (K.out _).mono ?_); rintro e w2 ⟨rfl, rfl⟩)
        go_ret
        exact ⟨rfl, HB.out⟩
      · rw [show tapOk t = false by rw [hR]; simp [h3]]
        have h4 : ¬ t.f.2 ≤ 100000 := h3
        clear hR
        go_enter Try.func53, Try.ntmps53
        go_wp2
        go_ret
        exact ⟨rfl, HB.out⟩
    · rw [show tapOk t = false by rw [hR]; simp [h2]]
      clear hR
      go_enter Try.func53, Try.ntmps53
      go_wp2
      go_ret
      exact ⟨rfl, HB.out⟩
  · rw [show tapOk t = false by rw [hR]; simp [h1]]
    clear hR
    go_enter Try.func53, Try.ntmps53
    go_wp2
    go_ret
    exact ⟨rfl, HB.out⟩
set_option maxHeartbeats 1600000 in
theorem isSize_any (s : Sz) (w : World) : Calls Try.prog 63 #[szV s] w fun e w' => e = .returned (.bool (szOk s)) ∧ Below w.heap.size w w' := by
  have hb := (Below.refl w.heap.size w).alloc (Nat.le_refl _) (.cells #[.int .i64 s.start, .int .i64 s.full, .int .i64 s.loss, .int .i64 s.price] 27)
  have HB := Lib.hid hb
  have k1 := fun X => isFrom_any s.full 1 1000000 X
  have k2 := fun X => isFrom_any s.start 0 s.full X
  have k3 := fun X => isFrom_any s.loss 0 10000 X
  have k4 := fun X => isFrom_any s.price 0 1000000 X
  have hR : szOk s = (inF s.full 1 1000000 && (inF s.start 0 s.full && (inF s.loss 0 10000 && inF s.price 0 1000000))) := rfl
  rw [hR]
  clear hR
  obtain ⟨b1, e1⟩ : ∃ b, inF s.full 1 1000000 = b := ⟨_, rfl⟩
  obtain ⟨b2, e2⟩ : ∃ b, inF s.start 0 s.full = b := ⟨_, rfl⟩
  obtain ⟨b3, e3⟩ : ∃ b, inF s.loss 0 10000 = b := ⟨_, rfl⟩
  obtain ⟨b4, e4⟩ : ∃ b, inF s.price 0 1000000 = b := ⟨_, rfl⟩
  rw [e1, e2, e3, e4]
  simp only [e1, e2, e3, e4] at k1 k2 k3 k4
  have K1 := Lib.hid k1
  have K2 := Lib.hid k2
  have K3 := Lib.hid k3
  have K4 := Lib.hid k4
  clear hb k1 k2 k3 k4 e1 e2 e3 e4
  unfold szV
  cases b1 <;> cases b2 <;> cases b3
  all_goals
    go_enter Try.func63, Try.ntmps63
    go_wp2_with (go_at_call 48; (first | (with_reducible refine (K1.out _).mono ?_) | (with_reducible refine (K2.out _).mono ?_) | (with_reducible refine (K3.out _).mono ?_) | (with_reducible refine (K4.out _).mono ?_)); rintro e w2 ⟨rfl, rfl⟩)
    go_ret
    exact ⟨by simp, HB.out⟩
theorem hears_any (hd dr : Int) (v1 v2 : Value) (a1 a2 : Option Addr) (n1 c1 n2 c2 : Nat) (s : Sz) (w : World) : Calls Try.prog 46 #[.agg #[.int .i64 hd, .int .i64 dr, .slice a1 n1 c1, .slice a2 n2 c2], szV s] w fun e w' => e = .returned (.bool (decide (s.start ≤ dr))) ∧ Below w.heap.size w w' := by
  have hb := ((Below.refl w.heap.size w).alloc (Nat.le_refl _) (.cells #[.int .i64 hd, .int .i64 dr, .slice a1 n1 c1, .slice a2 n2 c2] 25)).alloc (by simp) (.cells #[.int .i64 s.start, .int .i64 s.full, .int .i64 s.loss, .int .i64 s.price] 27)
  have HB := Lib.hid hb
  clear hb
  unfold szV
  go_enter Try.func46, Try.ntmps46
  go_wp2
  go_ret
  exact ⟨rfl, HB.out⟩
theorem has_any (s k : Nat) (hs : s < 9223372036854775808) (hk : k < 64) (w : World) : Calls Try.prog 61 #[.int .i64 s, .int .i64 k] w fun e w' => e = .returned (.bool (hasF s k)) ∧ w = w' := by
  have h1 : (0 : Int) ≤ (k : Int) := by omega
  have hm : min k 64 = k := by omega
  have hlt : s / 2 ^ k < 9223372036854775808 := Nat.lt_of_le_of_lt (Nat.div_le_self _ _) hs
  have he : bits BinOp.and IntKind.i64 ((s : Int) / 2 ^ k) 1 = ((s / 2 ^ k % 2 : Nat) : Int) := by
    have := and_one (s / 2 ^ k) hlt
    rw [← this]; rfl
  have h2 := Lib.hid (show decide (((s / 2 ^ k % 2 : Nat) : Int) = 1) = hasF s k by unfold hasF; rw [decide_eq_decide]; omega)
  obtain ⟨m, hmm⟩ : ∃ m, s / 2 ^ k % 2 = m := ⟨_, rfl⟩
  rw [hmm] at he h2
  clear hlt hmm
  go_enter Try.func61, Try.ntmps61
  go_wp2
  go_ret
  exact ⟨by rw [← h2.out]; rfl, rfl⟩
end Go.Proofs.Ytlcmedfjghcigaa
