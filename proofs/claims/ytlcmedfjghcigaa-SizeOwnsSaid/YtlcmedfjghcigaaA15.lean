/- Size: the cheapest pair is kept. -/
import Derived.Test.YtlcmedfjghcigaaA14
namespace Go.Proofs.Ytlcmedfjghcigaa
set_option linter.unusedSimpArgs false
set_option linter.unusedVariables false
open Go.RowKit Go.Maps

def st4 (X : World) (R : Nat) (A B C D : Value) : World := (((X.setCell ⟨R, 0, none⟩ A).setCell ⟨R, 1, none⟩ B).setCell ⟨R, 2, none⟩ C).setCell ⟨R, 3, none⟩ D
theorem st4_same {X : World} {R : Nat} {a b c d A B C D : Value} {t : TypeId} (h : X.heap[R]? = some (.cells #[a, b, c, d] t (0, 0))) : (st4 X R A B C D).heap[R]? = some (.cells #[A, B, C, D] t (0, 0)) := by
  have h1 := heap_setCell_same X R 0 _ t A h
  have h2 := heap_setCell_same _ R 1 _ t B h1
  have h3 := heap_setCell_same _ R 2 _ t C h2
  have h4 := heap_setCell_same _ R 3 _ t D h3
  unfold st4
  rw [h4]; rfl
theorem st4_only (X : World) (R : Nat) (A B C D : Value) : OnlyE (· = R) X (st4 X R A B C D) := by
  unfold st4
  exact OnlyE.set (E := (· = R)) (OnlyE.set (E := (· = R)) (OnlyE.set (E := (· = R)) (OnlyE.set (E := (· = R)) (OnlyE.refl _ _) rfl _) rfl _) rfl _) rfl _
def bestI (b : Best) : Int := match b with | none => 0 | some ((i, _), _) => (i : Nat)
def bestK (b : Best) : Int := match b with | none => 0 | some ((_, k), _) => (k : Nat)
def bestP (b : Best) : Int := match b with | none => 0 | some (_, p) => p
def bestF (b : Best) : Bool := match b with | none => false | some _ => true
/-- the cheapest that is kept in a block -/
def BestAt (w : World) (C : Nat) (b : Best) : Prop := w.heap[C]? = some (.cells #[.int .i64 (bestI b), .int .i64 (bestK b), .int .i64 (bestP b), .bool (bestF b)] 94 (0, 0))
set_option maxRecDepth 100000 in
set_option maxHeartbeats 3200000 in
theorem offer_any (C : Nat) (b : Best) (i k : Nat) (p : Int) (w : World) (hb : BestAt w C b) : Calls Try.prog 60 #[.pointer (some ⟨C, 0, none⟩), .agg #[.int .i64 (i : Nat), .int .i64 (k : Nat)], .int .i64 p] w fun e w' => e = .returned (.tuple #[]) ∧ BestAt w' C (offerF b (i, k) p) ∧ OnlyE (· = C) w w' := by
  have hCl := (Array.getElem?_eq_some_iff.1 hb).1
  obtain ⟨W0, hW0⟩ : ∃ X, X = w.alloc (.cells #[.int .i64 (i : Nat), .int .i64 (k : Nat)] 92) := ⟨_, rfl⟩
  have hal : W0 = al w [(.cells #[.int .i64 (i : Nat), .int .i64 (k : Nat)] 92)] := hW0
  have hb0 : Below w.heap.size w W0 := by rw [hal]; exact al_below w _ (Nat.le_refl _)
  have hs0 : W0.heap.size = w.heap.size + 1 := by rw [hal]; exact al_size w _
  have hr0 : W0.heap[w.heap.size]? = some (.cells #[.int .i64 (i : Nat), .int .i64 (k : Nat)] 92 (0, 0)) := by rw [hal]; exact al_get w _ 0 _ rfl
  obtain ⟨P, hP0⟩ : ∃ x, w.heap.size = x := ⟨_, rfl⟩
  rw [hP0] at hr0 hs0
  clear hal
  have hC0 := (hb0.block C hCl).trans hb
  have HO0 := Lib.hid (show OnlyE (· = C) w W0 from .of_below hb0)
  have HC := Lib.hid hC0
  have HS := Lib.hid (show w.heap.size = P from hP0)
  obtain ⟨x0, x1, x2, x3⟩ := four_cells hC0
  obtain ⟨y0, y1⟩ := two_cells hr0
  have fz : ∀ o, W0.frozen? ⟨C, o, none⟩ = false := fun o => frozen_of hC0
  have fz0 := fz 0
  have fz1 := fz 1
  have fz2 := fz 2
  have fz3 := fz 3
  have HZ := Lib.hid (st4_same (A := .int .i64 (i : Nat)) (B := .int .i64 (k : Nat)) (C := .int .i64 p) (D := .bool true) hC0)
  have HO := Lib.hid (HO0.out.trans (st4_only W0 C (.int .i64 (i : Nat)) (.int .i64 (k : Nat)) (.int .i64 p) (.bool true)))
  clear hb0 hr0 hs0 hb hC0 fz hCl
  cases b with
  | none =>
    simp only [bestI, bestK, bestP, bestF] at x0 x1 x2 x3
    go_enter Try.func60, Try.ntmps60
    go_upto_region 1 with fail
    rw [← hW0]
    clear hW0 hP0
    go_wp2
    go_end0
    exact ⟨rfl, HZ.out, HO.out⟩
  | some q =>
    obtain ⟨⟨bi, bk⟩, bp⟩ := q
    simp only [bestI, bestK, bestP, bestF] at x0 x1 x2 x3
    by_cases hlt : p < bp
    · have HF := Lib.hid (show offerF (some ((bi, bk), bp)) (i, k) p = some ((i, k), p) by simp [offerF, hlt])
      go_enter Try.func60, Try.ntmps60
      go_upto_region 1 with fail
      rw [← hW0]
      clear hW0 hP0
      go_wp2
      go_end0
      exact ⟨rfl, by rw [HF.out]; exact HZ.out, HO.out⟩
    · have HF := Lib.hid (show offerF (some ((bi, bk), bp)) (i, k) p = some ((bi, bk), bp) by simp [offerF, hlt])
      have hd : decide (p < bp) = false := decide_eq_false hlt
      clear hlt
      go_enter Try.func60, Try.ntmps60
      go_upto_region 1 with fail
      rw [← hW0]
      clear hW0 hP0
      go_wp2
      go_end0
      exact ⟨rfl, by rw [HF.out]; exact HC.out, HO0.out⟩
end Go.Proofs.Ytlcmedfjghcigaa
