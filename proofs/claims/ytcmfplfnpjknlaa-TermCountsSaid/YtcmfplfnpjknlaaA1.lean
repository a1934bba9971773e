/- Term: what lies in memory; contracts of the small functions. -/
import Derived.Test.YtcmfplfnpjknlaaM1
namespace Go.Proofs.Ytcmfplfnpjknlaa
set_option linter.unusedSimpArgs false
set_option linter.unusedVariables false
open Go.RowKit

theorem ret_int {k : IntKind} {a b : Int} (h : a = b) : Ending.returned (.int k a) = .returned (.int k b) := by rw [h]
theorem alloc_heap (w : World) (o : Obj) : (w.alloc o).heap[w.heap.size]? = some o := (MapKept.heap_alloc w o).1
theorem box_step {w0 w1 w2 : World} {B : Nat} {o : Obj} (h : w1.heap[B]? = some o) (hb : Below w1.heap.size w1 w2) : w2.heap[B]? = some o := (hb.block B (Array.getElem?_eq_some_iff.1 h).1).trans h
theorem two_cells {X : World} {b : Nat} {x y : Value} {t : TypeId} (h : X.heap[b]? = some (.cells #[x, y] t)) : X.cell? ⟨b, 0, none⟩ = some x ∧ X.cell? ⟨b, 1, none⟩ = some y := by
  simp [World.cell?, h]
theorem four_cells {X : World} {b : Nat} {x y z u : Value} {t : TypeId} (h : X.heap[b]? = some (.cells #[x, y, z, u] t)) : X.cell? ⟨b, 0, none⟩ = some x ∧ X.cell? ⟨b, 1, none⟩ = some y ∧ X.cell? ⟨b, 2, none⟩ = some z ∧ X.cell? ⟨b, 3, none⟩ = some u := by
  simp [World.cell?, h]
theorem six_cells {X : World} {b : Nat} {x y z u v t : Value} {T : TypeId} (h : X.heap[b]? = some (.cells #[x, y, z, u, v, t] T)) : X.cell? ⟨b, 0, none⟩ = some x ∧ X.cell? ⟨b, 1, none⟩ = some y ∧ X.cell? ⟨b, 2, none⟩ = some z ∧ X.cell? ⟨b, 3, none⟩ = some u ∧ X.cell? ⟨b, 4, none⟩ = some v ∧ X.cell? ⟨b, 5, none⟩ = some t := by
  simp [World.cell?, h]
/-- a slice of structs of k integers -/
def TabAt {α : Type} [Inhabited α] (k : Nat) (f : α → Nat → Int) (w : World) (v : Value) (L : List α) : Prop := L.length ≤ maxLen ∧ ((L = [] ∧ ∃ a c, v = .slice a 0 c) ∨ ∃ b off cap, v = .slice (some ⟨b, off, none⟩) L.length cap ∧ L.length ≤ cap ∧ cap ≤ maxLen ∧ b < w.heap.size ∧
  ∀ i, i < L.length → ∀ j, j < k → w.cell? ⟨b, off + i * k + j, none⟩ = some (.int .i64 (f (L.getD i default) j)))
section
variable {α : Type} [Inhabited α] {k : Nat} {f : α → Nat → Int} {w w' : World} {v : Value} {L : List α}
theorem TabAt.shape (h : TabAt k f w v L) : ∃ a c, v = .slice a L.length c := by
  obtain ⟨_, ⟨rfl, a, c, rfl⟩ | ⟨b, off, cap, rfl, _⟩⟩ := h
  · exact ⟨a, c, rfl⟩
  · exact ⟨_, _, rfl⟩
theorem TabAt.below (h : TabAt k f w v L) (hb : Below w.heap.size w w') : TabAt k f w' v L := by
  obtain ⟨hl, ⟨rfl, h⟩ | ⟨b, off, cap, rfl, h1, h2, h3, h4⟩⟩ := h
  · exact ⟨hl, .inl ⟨rfl, h⟩⟩
  · exact ⟨hl, .inr ⟨b, off, cap, rfl, h1, h2, Nat.lt_of_lt_of_le h3 hb.size, fun i hi j hj => (hb.cell (p := ⟨b, _, none⟩) h3).trans (h4 i hi j hj)⟩⟩
theorem TabAt.at {a : Option Addr} {n c : Nat} (h : TabAt k f w (.slice a n c) L) (hl : 0 < L.length) : ∃ b off, a = some ⟨b, off, none⟩ ∧ b < w.heap.size ∧ ∀ i, i < L.length → ∀ j, j < k → w.cell? ⟨b, off + i * k + j, none⟩ = some (.int .i64 (f (L.getD i default) j)) := by
  obtain ⟨_, ⟨rfl, _⟩ | ⟨b, off, cap, e, h1, h2, h3, h4⟩⟩ := h
  · simp at hl
  · simp only [Value.slice.injEq] at e
    exact ⟨b, off, e.1, h3, h4⟩
end
def clsC (c : Cls) : Nat → Int | 0 => c.term | 1 => c.times | 2 => c.more | _ => c.fail
def rowC (c : Row) : Nat → Int | 0 => c.lo | 1 => c.hi | 2 => c.cls | _ => c.day
def brkC (b : Int × Int) : Nat → Int | 0 => b.1 | _ => b.2
def numC (n : Int) (_ : Nat) : Int := n
def clsV (c : Cls) : Value := .agg #[.int .i64 c.term, .int .i64 c.times, .int .i64 c.more, .int .i64 c.fail]
def rowV (c : Row) : Value := .agg #[.int .i64 c.lo, .int .i64 c.hi, .int .i64 c.cls, .int .i64 c.day]
/-- a slice of proofs, each with a slice of its own -/
def PrfAt (w : World) (v : Value) (L : List Prf) : Prop := L.length ≤ maxLen ∧ ((L = [] ∧ ∃ a c, v = .slice a 0 c) ∨ ∃ b off cap, v = .slice (some ⟨b, off, none⟩) L.length cap ∧ L.length ≤ cap ∧ cap ≤ maxLen ∧ b < w.heap.size ∧
  ∀ i, i < L.length → ∃ sv, w.cell? ⟨b, off + i * 4, none⟩ = some (.int .i64 (L.getD i default).cls) ∧ w.cell? ⟨b, off + i * 4 + 1, none⟩ = some (.int .i64 (L.getD i default).day) ∧ w.cell? ⟨b, off + i * 4 + 2, none⟩ = some sv ∧ w.cell? ⟨b, off + i * 4 + 3, none⟩ = some (.int .i64 (L.getD i default).failed) ∧ TabAt 1 numC w sv (L.getD i default).seals)
theorem PrfAt.shape {w : World} {v : Value} {L : List Prf} (h : PrfAt w v L) : ∃ a c, v = .slice a L.length c := by
  obtain ⟨_, ⟨rfl, a, c, rfl⟩ | ⟨b, off, cap, rfl, _⟩⟩ := h
  · exact ⟨a, c, rfl⟩
  · exact ⟨_, _, rfl⟩
theorem PrfAt.below {w w' : World} {v : Value} {L : List Prf} (h : PrfAt w v L) (hb : Below w.heap.size w w') : PrfAt w' v L := by
  obtain ⟨hl, ⟨rfl, h⟩ | ⟨b, off, cap, rfl, h1, h2, h3, h4⟩⟩ := h
  · exact ⟨hl, .inl ⟨rfl, h⟩⟩
  · refine ⟨hl, .inr ⟨b, off, cap, rfl, h1, h2, Nat.lt_of_lt_of_le h3 hb.size, fun i hi => ?_⟩⟩
    obtain ⟨sv, g1, g2, g3, g4, g5⟩ := h4 i hi
    exact ⟨sv, (hb.cell (p := ⟨b, _, none⟩) h3).trans g1, (hb.cell (p := ⟨b, _, none⟩) h3).trans g2, (hb.cell (p := ⟨b, _, none⟩) h3).trans g3, (hb.cell (p := ⟨b, _, none⟩) h3).trans g4, g5.below hb⟩
theorem PrfAt.at {w : World} {L : List Prf} {a : Option Addr} {n c : Nat} (h : PrfAt w (.slice a n c) L) (hl : 0 < L.length) : ∃ b off, a = some ⟨b, off, none⟩ ∧ b < w.heap.size ∧ ∀ i, i < L.length → ∃ sv, w.cell? ⟨b, off + i * 4, none⟩ = some (.int .i64 (L.getD i default).cls) ∧ w.cell? ⟨b, off + i * 4 + 1, none⟩ = some (.int .i64 (L.getD i default).day) ∧ w.cell? ⟨b, off + i * 4 + 2, none⟩ = some sv ∧ w.cell? ⟨b, off + i * 4 + 3, none⟩ = some (.int .i64 (L.getD i default).failed) ∧ TabAt 1 numC w sv (L.getD i default).seals := by
  obtain ⟨_, ⟨rfl, _⟩ | ⟨b, off, cap, e, h1, h2, h3, h4⟩⟩ := h
  · simp at hl
  · simp only [Value.slice.injEq] at e
    exact ⟨b, off, e.1, h3, h4⟩
/-- a stock by value -/
def StkAt (w : World) (v : Value) (s : Stk) : Prop := ∃ cv rv pv bv, v = .agg #[cv, rv, pv, bv] ∧ TabAt 4 clsC w cv s.cs ∧ TabAt 4 rowC w rv s.rs ∧ PrfAt w pv s.ps ∧ TabAt 2 brkC w bv s.bs
theorem StkAt.below {w w' : World} {v : Value} {s : Stk} (h : StkAt w v s) (hb : Below w.heap.size w w') : StkAt w' v s := by
  obtain ⟨cv, rv, pv, bv, e, h1, h2, h3, h4⟩ := h
  exact ⟨cv, rv, pv, bv, e, h1.below hb, h2.below hb, h3.below hb, h4.below hb⟩

theorem isFrom_any (n lo hi : Int) (w : World) : Calls Try.prog 39 #[.int .i64 n, .int .i64 lo, .int .i64 hi] w fun e w' => e = .returned (.bool (inF n lo hi)) ∧ w = w' := by
  by_cases h : lo ≤ n
  · have H := Lib.hid (show inF n lo hi = decide (n ≤ hi) by simp [inF, h])
    go_enter Try.func39, Try.ntmps39
    go_wp2
    go_ret
    exact ⟨by rw [H.out]; rfl, rfl⟩
  · have H := Lib.hid (show inF n lo hi = false by simp [inF, h])
    go_enter Try.func39, Try.ntmps39
    go_wp2
    go_ret
    exact ⟨by rw [H.out]; rfl, rfl⟩
theorem in_any (n lo hi : Int) (w : World) : Calls Try.prog 28 #[.int .i64 n, .int .i64 lo, .int .i64 hi] w fun e w' => e = .returned (.bool (inF n lo hi)) ∧ w = w' := by
  by_cases h : lo ≤ n
  · have H := Lib.hid (show inF n lo hi = decide (n ≤ hi) by simp [inF, h])
    go_enter Try.func28, Try.ntmps28
    go_wp2
    go_ret
    exact ⟨by rw [H.out]; rfl, rfl⟩
  · have H := Lib.hid (show inF n lo hi = false by simp [inF, h])
    go_enter Try.func28, Try.ntmps28
    go_wp2
    go_ret
    exact ⟨by rw [H.out]; rfl, rfl⟩
theorem isDay_any (n : Int) (w : World) : Calls Try.prog 25 #[.int .i64 n] w fun e w' => e = .returned (.bool (inF n 0 131072)) ∧ w = w' := by
  go_enter Try.func25, Try.ntmps25
  go_wp2_with (go_at_call 39; refine (isFrom_any _ _ _ _).mono ?_; rintro e w' ⟨rfl, rfl⟩)
  go_ret
  exact ⟨rfl, rfl⟩
theorem isSeal_any (n : Int) (w : World) : Calls Try.prog 51 #[.int .i64 n] w fun e w' => e = .returned (.bool (inF n 1 1000000)) ∧ w = w' := by
  go_enter Try.func51, Try.ntmps51
  go_wp2_with (go_at_call 39; refine (isFrom_any _ _ _ _).mono ?_; rintro e w' ⟨rfl, rfl⟩)
  go_ret
  exact ⟨rfl, rfl⟩
set_option maxHeartbeats 1600000 in
theorem isClass_any (c : Cls) (w : World) : Calls Try.prog 48 #[clsV c] w fun e w' => e = .returned (.bool (clsOk c)) ∧ Below w.heap.size w w' := by
  have hb := (Below.refl w.heap.size w).alloc (Nat.le_refl _) (.cells #[.int .i64 c.term, .int .i64 c.times, .int .i64 c.more, .int .i64 c.fail] 50)
  unfold clsV clsOk
  have f1 := fun X => isFrom_any c.term 1 10000 X
  have f2 := fun X => isFrom_any c.more 1 10000 X
  have f3 := fun X => isFrom_any c.times 0 4 X
  have f4 := fun X => isFrom_any c.fail 0 20 X
  generalize inF c.term 1 10000 = b1 at *
  generalize inF c.more 1 10000 = b2 at *
  generalize inF c.times 0 4 = b3 at *
  generalize inF c.fail 0 20 = b4 at *
  have F1 := Lib.hid f1
  have F2 := Lib.hid f2
  have F3 := Lib.hid f3
  have F4 := Lib.hid f4
  clear f1 f2 f3 f4
  cases b1 <;> cases b2 <;> cases b3 <;> cases b4
  all_goals
    go_enter Try.func48, Try.ntmps48
    go_wp2_with (go_at_call 39; first | ((with_reducible refine (F1.out _).mono ?_); rintro e w' ⟨rfl, rfl⟩) | ((with_reducible refine (F2.out _).mono ?_); rintro e w' ⟨rfl, rfl⟩) | ((with_reducible refine (F3.out _).mono ?_); rintro e w' ⟨rfl, rfl⟩) | ((with_reducible refine (F4.out _).mono ?_); rintro e w' ⟨rfl, rfl⟩))
    go_ret
    exact ⟨rfl, hb⟩
end Go.Proofs.Ytcmfplfnpjknlaa
