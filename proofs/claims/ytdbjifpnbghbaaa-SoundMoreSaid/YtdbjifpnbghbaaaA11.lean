/- Sound: slows; rows that the call made and writes. -/
import Derived.Test.YtdbjifpnbghbaaaA10
import Derived.Laws.MakeOwn
namespace Go.Proofs.Ytdbjifpnbghbaaa
set_option linter.unusedSimpArgs false
set_option linter.unusedVariables false
open Go.RowKit Go.Maps Go.BigFrame

theorem flat_cons {α : Type} (k : Nat) (f : α → Nat → Int) (x : α) (l : List α) : flatK k f (x :: l) = (List.range k).map (fun j => Value.int .i64 (f x j)) ++ flatK k f l := by unfold flatK; rfl
theorem flat_set2 (a b : Int) : ∀ (L : List (Int × Int)) (i : Nat), i < L.length → ((flatK 2 spC L).set (i * 2) (.int .i64 a)).set (i * 2 + 1) (.int .i64 b) = flatK 2 spC (L.set i (a, b))
  | [], i, h => by simp at h
  | x :: l, 0, _ => by simp [flat_cons, List.range_succ, spC]
  | x :: l, i + 1, h => by
    have ih := flat_set2 a b l i (by simpa using h)
    rw [List.set_cons_succ, flat_cons, flat_cons, ← ih]
    rw [show (i + 1) * 2 = i * 2 + 1 + 1 by omega]
    simp [List.range_succ]
theorem flat_set3 (a b : Int) : ∀ (L : List Pi) (i : Nat), i < L.length → ((flatK 3 piC L).set (i * 3 + 1) (.int .i64 a)).set (i * 3 + 2) (.int .i64 b) = flatK 3 piC (L.set i ⟨(L.getD i default).len, a, b⟩)
  | [], i, h => by simp at h
  | x :: l, 0, _ => by simp [flat_cons, List.range_succ, piC]
  | x :: l, i + 1, h => by
    have ih := flat_set3 a b l i (by simpa using h)
    rw [List.set_cons_succ, flat_cons, flat_cons]
    have e : (x :: l).getD (i + 1) default = l.getD i default := by simp [List.getD]
    rw [e, ← ih]
    rw [show (i + 1) * 3 + 1 = i * 3 + 1 + 1 + 1 + 1 by omega, show (i + 1) * 3 + 2 = i * 3 + 2 + 1 + 1 + 1 by omega]
    simp [List.range_succ]
theorem made2 {n : Nat} (h : n ≤ 8) : madeCells #[.int .i64 0, .int .i64 0] (n * 2) = (flatK 2 spC (List.replicate n (0, 0))).toArray := by
  rcases (by omega : n = 0 ∨ n = 1 ∨ n = 2 ∨ n = 3 ∨ n = 4 ∨ n = 5 ∨ n = 6 ∨ n = 7 ∨ n = 8) with rfl | rfl | rfl | rfl | rfl | rfl | rfl | rfl | rfl <;> kernel_rfl
theorem made3 {n : Nat} (h : n ≤ 8) : madeCells #[.int .i64 0, .int .i64 0, .int .i64 0] (n * 3) = (flatK 3 piC (List.replicate n ⟨0, 0, 0⟩)).toArray := by
  rcases (by omega : n = 0 ∨ n = 1 ∨ n = 2 ∨ n = 3 ∨ n = 4 ∨ n = 5 ∨ n = 6 ∨ n = 7 ∨ n = 8) with rfl | rfl | rfl | rfl | rfl | rfl | rfl | rfl | rfl <;> kernel_rfl
theorem Try.info24 : (Try.prog.info? 24).map (fun i => (i.zero, i.size, i.bytes)) = some (some (.agg #[.int .i64 0, .int .i64 0]), 2, 16) := by kernel_rfl
theorem Try.info59 : (Try.prog.info? 59).map (fun i => (i.zero, i.size, i.bytes)) = some (some (.agg #[.int .i64 0, .int .i64 0, .int .i64 0]), 3, 24) := by kernel_rfl
theorem make_spans {n : Nat} (h : n ≤ 8) (w : World) : (Instr.makeSlice 32 (.int .i64 (n : Int)) (.int .i64 (n : Int))).run Try.prog w = .ok (.slice (some ⟨w.heap.size, 0, none⟩) n n) (w.alloc (.cells (flatK 2 spC (List.replicate n (0, 0))).toArray 24)) := by
  obtain ⟨i0, hi, hz0, hz1, hz2⟩ := info_parts Try.info24
  have := run_make (P := Try.prog) (w := w) 32 24 i0 _ Try.underlying32 hi hz0 .i64 .i64 (n : Int) (n : Int) (by omega) (Int.le_refl _) (by rw [hz2]; omega) (by omega)
  rw [this, Int.toNat_natCast, hz1, ← made2 h]
  rfl
theorem make_pipes {n : Nat} (h : n ≤ 8) (w : World) : (Instr.makeSlice 68 (.int .i64 (n : Int)) (.int .i64 (n : Int))).run Try.prog w = .ok (.slice (some ⟨w.heap.size, 0, none⟩) n n) (w.alloc (.cells (flatK 3 piC (List.replicate n ⟨0, 0, 0⟩)).toArray 59)) := by
  obtain ⟨i0, hi, hz0, hz1, hz2⟩ := info_parts Try.info59
  have := run_make (P := Try.prog) (w := w) 68 59 i0 _ Try.underlying68 hi hz0 .i64 .i64 (n : Int) (n : Int) (by omega) (Int.le_refl _) (by rw [hz2]; omega) (by omega)
  rw [this, Int.toNat_natCast, hz1, ← made3 h]
  rfl
theorem row_cell {k : Nat} {α : Type} [Inhabited α] {f : α → Nat → Int} {L : List α} {X : World} {R : Nat} {t : TypeId} (h : X.heap[R]? = some (.cells (flatK k f L).toArray t (0, 0))) {i j : Nat} (hi : i < L.length) (hj : j < k) : X.cell? ⟨R, i * k + j, none⟩ = some (.int .i64 (f (L.getD i default) j)) := by
  have := flat_get (f := f) hi hj
  simp [World.cell?, h, this]
theorem row_set2 {L : List (Int × Int)} {X : World} {R : Nat} {t : TypeId} (h : X.heap[R]? = some (.cells (flatK 2 spC L).toArray t (0, 0))) {i : Nat} (hi : i < L.length) (a b : Int) :
    ((X.setCell ⟨R, i * 2, none⟩ (.int .i64 a)).setCell ⟨R, i * 2 + 1, none⟩ (.int .i64 b)).heap[R]? = some (.cells (flatK 2 spC (L.set i (a, b))).toArray t (0, 0)) := by
  have h1 := heap_setCell_same X R (i * 2) _ t (.int .i64 a) h
  have h2 := heap_setCell_same _ R (i * 2 + 1) _ t (.int .i64 b) h1
  rw [h2, List.setIfInBounds_toArray, List.setIfInBounds_toArray, flat_set2 a b L i hi]
theorem row_set3 {L : List Pi} {X : World} {R : Nat} {t : TypeId} (h : X.heap[R]? = some (.cells (flatK 3 piC L).toArray t (0, 0))) {i : Nat} (hi : i < L.length) (a b : Int) :
    ((X.setCell ⟨R, i * 3 + 1, none⟩ (.int .i64 a)).setCell ⟨R, i * 3 + 2, none⟩ (.int .i64 b)).heap[R]? = some (.cells (flatK 3 piC (L.set i ⟨(L.getD i default).len, a, b⟩)).toArray t (0, 0)) := by
  have h1 := heap_setCell_same X R (i * 3 + 1) _ t (.int .i64 a) h
  have h2 := heap_setCell_same _ R (i * 3 + 2) _ t (.int .i64 b) h1
  rw [h2, List.setIfInBounds_toArray, List.setIfInBounds_toArray, flat_set3 a b L i hi]
/-- what slows has after k rounds -/
def slowsUp (l : List Pi) (k : Nat) : List (Int × Int) := (slowsF l).take k ++ List.replicate (l.length - k) (0, 0)
theorem slowsUp_len {l : List Pi} {k : Nat} (h : k ≤ l.length) : (slowsUp l k).length = l.length := by simp [slowsUp, slowsF]; omega
theorem slowsUp_0 (l : List Pi) : slowsUp l 0 = List.replicate l.length (0, 0) := by simp [slowsUp]
theorem slowsUp_all (l : List Pi) : slowsUp l l.length = slowsF l := by
  unfold slowsUp
  rw [Nat.sub_self, List.replicate_zero, List.append_nil, List.take_of_length_le (by simp [slowsF])]
theorem slowsUp_next {l : List Pi} {k : Nat} (h : k < l.length) : slowsUp l (k + 1) = (slowsUp l k).set k ((l.getD k default).lo, (l.getD k default).hi) := by
  unfold slowsUp slowsF
  have e1 : l.length - k = (l.length - (k + 1)) + 1 := by omega
  rw [List.set_append, if_neg (by simp; omega), e1, List.replicate_succ]
  have e2 : k - (List.take k (List.map (fun p => ((p.lo, p.hi) : Int × Int)) l)).length = 0 := by simp; omega
  rw [e2, List.set_cons_zero, List.take_add_one, List.append_assoc]
  simp [List.getD, List.getElem?_eq_getElem h]
set_option maxRecDepth 100000 in
set_option maxHeartbeats 3200000 in
theorem slows_any (l : List Pi) (h8 : l.length ≤ 8) (v : Value) (w : World) (hl : TabAt 3 piC w v l) : Calls Try.prog 43 #[v] w fun e w' => ∃ R, e = .returned (.slice (some ⟨R, 0, none⟩) l.length l.length) ∧ w.heap.size ≤ R ∧ w'.heap[R]? = some (.cells (flatK 2 spC (slowsF l)).toArray 24 (0, 0)) ∧ Below w.heap.size w w' := by
  obtain ⟨a, c, rfl⟩ := hl.shape
  have HL := Lib.hid hl
  have hmk := make_spans h8 w
  obtain ⟨W0, hW0⟩ : ∃ X, X = w.alloc (.cells (flatK 2 spC (List.replicate l.length (0, 0))).toArray 24) := ⟨_, rfl⟩
  have hr0 : W0.heap[w.heap.size]? = some (.cells (flatK 2 spC (slowsUp l 0)).toArray 24 (0, 0)) := by rw [slowsUp_0, hW0]; exact alloc_heap w _
  have hb0 : Below w.heap.size w W0 := by rw [hW0]; exact (Below.refl _ _).alloc (Nat.le_refl _) _
  have hs0 : W0.heap.size = w.heap.size + 1 := by rw [hW0]; simp
  rw [← hW0] at hmk
  obtain ⟨R, hR⟩ : ∃ x, w.heap.size = x := ⟨_, rfl⟩
  rw [hR] at hr0 hmk hs0
  have HR := Lib.hid hR
  have H0 := Lib.hid hr0
  have HB0 := Lib.hid hb0
  clear hl hW0 hr0 hb0 hR
  go_enter Try.func43, Try.ntmps43
  go_wp2_with fail
  clear hmk
  go_loopw [11] (fun i wr => ∃ k : Nat, k ≤ l.length ∧ i = .int .i64 k ∧ Below w.heap.size w wr ∧ wr.heap[R]? = some (.cells (flatK 2 spC (slowsUp l k)).toArray 24 (0, 0))) (fun i _ => l.length - (intOf i).toNat)
  case atStart => exact ⟨0, by omega, rfl, HB0.out, H0.out⟩
  case round =>
    obtain ⟨k, hk, rfl, hbw, hr⟩ := hrel
    by_cases hlt : k < l.length
    · obtain ⟨lb, lo, e1, hlb, hlx⟩ := HL.out.at (by omega)
      subst e1
      have x0 := (hbw.cell (p := ⟨lb, lo + k * 3 + 0, none⟩) hlb).trans (hlx k hlt 0 (by omega))
      have x1 := (hbw.cell (p := ⟨lb, lo + k * 3 + 1, none⟩) hlb).trans (hlx k hlt 1 (by omega))
      have x2 := (hbw.cell (p := ⟨lb, lo + k * 3 + 2, none⟩) hlb).trans (hlx k hlt 2 (by omega))
      have hnx := slowsUp_next hlt
      obtain ⟨⟨t0, t1, t2⟩, hrow⟩ : ∃ x : Pi, l.getD k default = x := ⟨_, rfl⟩
      rw [hrow] at x0 x1 x2 hnx
      simp only [Nat.add_zero, piC] at x0 x1 x2 hnx
      have hlen := slowsUp_len (l := l) (k := k) (by omega)
      obtain ⟨W1, hW1⟩ : ∃ X, X = wr.alloc (.cells #[.int .i64 t0, .int .i64 t1, .int .i64 t2] 59) := ⟨_, rfl⟩
      have hr1 : W1.heap[wr.heap.size]? = some (.cells #[.int .i64 t0, .int .i64 t1, .int .i64 t2] 59 (0, 0)) := by rw [hW1]; exact alloc_heap wr _
      have hbb : Below wr.heap.size wr W1 := by rw [hW1]; exact (Below.refl _ _).alloc (Nat.le_refl _) _
      have hrR := box_step (w0 := w) hr hbb
      have hB1 := hbw.trans (hbb.mono hbw.size)
      obtain ⟨d0, d1, d2⟩ := three_cells hr1
      have c0 := row_cell hrR (i := k) (j := 0) (by omega) (by omega)
      have c1 := row_cell hrR (i := k) (j := 1) (by omega) (by omega)
      rw [Nat.add_zero] at c0
      have f0 : W1.frozen? ⟨R, k * 2, none⟩ = false := frozen_of hrR
      have f1 : W1.frozen? ⟨R, k * 2 + 1, none⟩ = false := frozen_of hrR
      have hz := row_set2 hrR (i := k) (by omega) t1 t2
      rw [← hnx] at hz
      have HZ := Lib.hid hz
      have HBZ := Lib.hid ((hB1.setCell (p := ⟨R, k * 2, none⟩) (by rw [← HR.out]; exact Nat.le_refl _) (.int .i64 t1)).setCell (p := ⟨R, k * 2 + 1, none⟩) (by rw [← HR.out]; exact Nat.le_refl _) (.int .i64 t2))
      have ij1 : (k : Int) < (l.length : Int) := Int.ofNat_lt.2 hlt
      have w1 : IntKind.i64.wrap ((k : Int) + 1) = (k : Int) + 1 := IntWalk.i64_in _ (by omega)
      obtain ⟨B, hB⟩ : ∃ B, wr.heap.size = B := ⟨_, rfl⟩
      clear hlx hrow hnx hr1 hbb hrR hB1 hz hbw hr hlb hlen
      go_upto_region 5 with fail
      rw [← hW1]
      rw [hB] at d0 d1 d2
      clear hW1 hB x0 x1 x2
      go_wp2
      go_roundw
      case rel => exact ⟨k + 1, by omega, by go_num, HBZ.out, HZ.out⟩
      case measure => simp [intOf]; omega
    · have i1 : ¬ (k : Int) < (l.length : Int) := by omega
      have hkl : k = l.length := by omega
      rw [hkl, slowsUp_all] at hr
      have HRr := Lib.hid hr
      have HBW := Lib.hid hbw
      clear hr hbw
      go_wp2
      go_ret
      exact ⟨R, rfl, by rw [HR.out]; exact Nat.le_refl _, HRr.out, HBW.out⟩
end Go.Proofs.Ytdbjifpnbghbaaa
