/- Sound: cut, by. -/
import Derived.Test.YtdbjifpnbghbaaaA2
namespace Go.Proofs.Ytdbjifpnbghbaaa
set_option linter.unusedSimpArgs false
set_option linter.unusedVariables false
open Go.RowKit Go.Maps Go.BigFrame

theorem res1_24 {fn : Func} {p : Tmp} (h : fn.results = #[.cell p 24]) {tmps : Array Value} {w : World} {g : Nat} {t : TypeId} {f : Nat × Nat} {x y : Int} (hp : tmps.getD p undef = .pointer (some ⟨g, 0, none⟩)) (hg : w.heap[g]? = some (.cells #[.int .i64 x, .int .i64 y] t f)) :
    (results fn tmps).run Try.prog w = .ok (.agg #[.int .i64 x, .int .i64 y]) w :=
  results_cell_row h tmps w g t _ f _ hp hg Try.underlying24 rfl (by kernel_rfl)
theorem set2 {X : World} {R : Nat} {a b A B : Value} {t : TypeId} (h : X.heap[R]? = some (.cells #[a, b] t (0, 0))) : ((X.setCell ⟨R, 0, none⟩ A).setCell ⟨R, 1, none⟩ B).heap[R]? = some (.cells #[A, B] t (0, 0)) := by
  have h1 := heap_setCell_same X R 0 _ t A h
  have h2 := heap_setCell_same _ R 1 _ t B h1
  rw [h2]; rfl
theorem set2_other (X : World) {R b : Nat} (A B : Value) (h : b ≠ R) : ((X.setCell ⟨R, 0, none⟩ A).setCell ⟨R, 1, none⟩ B).heap[b]? = X.heap[b]? := (set_other _ R 1 b B h).trans (set_other _ R 0 b A h)
theorem below2 {n : Nat} {w X : World} (h : Below n w X) {R : Nat} (hR : n ≤ R) (A B : Value) : Below n w ((X.setCell ⟨R, 0, none⟩ A).setCell ⟨R, 1, none⟩ B) := (h.setCell (p := ⟨R, 0, none⟩) hR A).setCell (p := ⟨R, 1, none⟩) hR B
set_option maxRecDepth 100000 in
set_option maxHeartbeats 3200000 in
theorem cut_any (s0 s1 : Int) (os : List (Int × Int)) (v : Value) (w : World) (hl : TabAt 2 spC w v os) : Calls Try.prog 41 #[.agg #[.int .i64 s0, .int .i64 s1], v] w fun e w' => e = .returned (spV (cutF (s0, s1) os)) ∧ Below w.heap.size w w' := by
  obtain ⟨la, lc, rfl⟩ := hl.shape
  have ml : os.length ≤ 9223372036854775807 := hl.1
  obtain ⟨W0, hW0⟩ : ∃ X, X = (w.alloc (.cells #[.int .i64 s0, .int .i64 s1] 24)).alloc (.cells #[.int .i64 0, .int .i64 0] 24) := ⟨_, rfl⟩
  have hal : W0 = al w [(.cells #[.int .i64 s0, .int .i64 s1] 24), (.cells #[.int .i64 0, .int .i64 0] 24)] := hW0
  have hb0 : Below w.heap.size w W0 := by rw [hal]; exact al_below w _ (Nat.le_refl _)
  have hs0 : W0.heap.size = w.heap.size + 2 := by rw [hal]; exact al_size w _
  have hr0 : W0.heap[w.heap.size]? = some (.cells #[.int .i64 s0, .int .i64 s1] 24 (0, 0)) := by rw [hal]; exact al_get w _ 0 _ rfl
  have hr1 : W0.heap[w.heap.size + 1]? = some (.cells #[.int .i64 0, .int .i64 0] 24 (0, 0)) := by rw [hal]; exact al_get w _ 1 _ rfl
  obtain ⟨P, hP0⟩ : ∃ x, w.heap.size = x := ⟨_, rfl⟩
  rw [hP0] at hr0 hr1 hs0
  obtain ⟨Q, hP1⟩ : ∃ x, P + 1 = x := ⟨_, rfl⟩
  rw [hP1] at hr1
  clear hal
  have HL := Lib.hid hl
  have HB0 := Lib.hid hb0
  have H0 := Lib.hid hr0
  have H1 := Lib.hid hr1
  have HPw := Lib.hid (show w.heap.size ≤ P ∧ P < Q ∧ Q < W0.heap.size from by omega)
  clear hl hb0 hr0 hr1 hs0
  go_enter Try.func41, Try.ntmps41
  go_upto_region 1 with fail
  rw [← hW0]
  clear hW0 hP0 hP1
  go_wp2_with fail
  go_loopw [9] (fun i wr => ∃ j : Nat, j ≤ os.length ∧ i = .int .i64 j ∧ Q < wr.heap.size ∧ Below w.heap.size w wr ∧ wr.heap[P]? = some (.cells #[.int .i64 (cutF (s0, s1) (os.take j)).1, .int .i64 (cutF (s0, s1) (os.take j)).2] 24 (0, 0)) ∧ wr.heap[Q]? = some (.cells #[.int .i64 0, .int .i64 0] 24 (0, 0))) (fun i _ => os.length - (intOf i).toNat)
  case atStart => exact ⟨0, by omega, rfl, HPw.out.2.2, HB0.out, H0.out, H1.out⟩
  case round =>
    obtain ⟨j, hj, rfl, hsz, hbw, hp, hq⟩ := hrel
    by_cases hlt : j < os.length
    · obtain ⟨lb, lo, e1, hlb, hlx⟩ := HL.out.at (by omega)
      subst e1
      have x0 := (hbw.cell (p := ⟨lb, lo + j * 2 + 0, none⟩) hlb).trans (hlx j hlt 0 (by omega))
      have x1 := (hbw.cell (p := ⟨lb, lo + j * 2 + 1, none⟩) hlb).trans (hlx j hlt 1 (by omega))
      obtain ⟨⟨o0, o1⟩, hrow⟩ : ∃ x : Int × Int, os.getD j default = x := ⟨_, rfl⟩
      rw [hrow] at x0 x1
      simp only [Nat.add_zero, spC] at x0 x1
      have hnx : cutF (s0, s1) (os.take (j + 1)) = (max (cutF (s0, s1) (os.take j)).1 o0, min (cutF (s0, s1) (os.take j)).2 o1) := by rw [take_next hlt, cutF_snoc, hrow]
      obtain ⟨⟨c0, c1⟩, hc⟩ : ∃ x, cutF (s0, s1) (os.take j) = x := ⟨_, rfl⟩
      rw [hc] at hnx hp
      simp only [] at hnx hp
      have HNX := Lib.hid hnx
      have ij1 : (j : Int) < (os.length : Int) := Int.ofNat_lt.2 hlt
      have w1 : IntKind.i64.wrap ((j : Int) + 1) = (j : Int) + 1 := IntWalk.i64_in _ (by omega)
      obtain ⟨W1, hW1⟩ : ∃ X, X = wr.alloc (.cells #[.int .i64 o0, .int .i64 o1] 24) := ⟨_, rfl⟩
      have hr1 : W1.heap[wr.heap.size]? = some (.cells #[.int .i64 o0, .int .i64 o1] 24 (0, 0)) := by rw [hW1]; exact alloc_heap wr _
      have hbb : Below wr.heap.size wr W1 := by rw [hW1]; exact (Below.refl _ _).alloc (Nat.le_refl _) _
      have hp1 := box_step (w0 := w) hp hbb
      have hq1 := box_step (w0 := w) hq hbb
      have HB1 := hbw.trans (hbb.mono hbw.size)
      obtain ⟨z0, z1⟩ := two_cells hr1
      obtain ⟨y0, y1⟩ := two_cells hp1
      have f0 : W1.frozen? ⟨P, 0, none⟩ = false := frozen_of hp1
      have f1 : W1.frozen? ⟨P, 1, none⟩ = false := frozen_of hp1
      have HZ := Lib.hid (set2 (A := .int .i64 (max c0 o0)) (B := .int .i64 (min c1 o1)) hp1)
      have HQ := Lib.hid ((set2_other W1 (R := P) (b := Q) (.int .i64 (max c0 o0)) (.int .i64 (min c1 o1)) (by have := HPw.out; omega)).trans hq1)
      have HBZ := Lib.hid (below2 HB1 (R := P) (by have := HPw.out; omega) (.int .i64 (max c0 o0)) (.int .i64 (min c1 o1)))
      have HSZ := Lib.hid (show Q < ((W1.setCell ⟨P, 0, none⟩ (.int .i64 (max c0 o0))).setCell ⟨P, 1, none⟩ (.int .i64 (min c1 o1))).heap.size from (Array.getElem?_eq_some_iff.1 HQ.out).1)
      clear hp hq hbw hsz hlx hlb hrow hnx hc hr1 hbb hp1 hq1 HB1
      go_upto_region 4 with fail
      rw [← hW1]
      obtain ⟨B, hB⟩ : ∃ B, wr.heap.size = B := ⟨_, rfl⟩
      rw [hB] at z0 z1 ⊢
      clear hW1 hB x0 x1
      go_wp2
      go_roundw
      case rel => exact ⟨j + 1, by omega, by go_num, HSZ.out, HBZ.out, by rw [HNX.out]; exact HZ.out, HQ.out⟩
      case measure => simp [intOf]; omega
    · have i1 : ¬ (j : Int) < (os.length : Int) := by omega
      have hjl : j = os.length := by omega
      subst hjl
      rw [List.take_length] at hp
      obtain ⟨y0, y1⟩ := two_cells hp
      have f0 : wr.frozen? ⟨Q, 0, none⟩ = false := frozen_of hq
      have f1 : wr.frozen? ⟨Q, 1, none⟩ = false := frozen_of hq
      obtain ⟨q0, q1⟩ := two_cells hq
      have HZ := Lib.hid (set2 (A := .int .i64 (cutF (s0, s1) os).1) (B := .int .i64 (cutF (s0, s1) os).2) hq)
      have HBZ := Lib.hid (below2 hbw (R := Q) (by have := HPw.out; omega) (.int .i64 (cutF (s0, s1) os).1) (.int .i64 (cutF (s0, s1) os).2))
      clear hp hq hbw hsz
      go_wp2
      exact bodyPost_ret (res1_24 Try.results41 rfl HZ.out) rfl ⟨rfl, HBZ.out⟩
end Go.Proofs.Ytdbjifpnbghbaaa
