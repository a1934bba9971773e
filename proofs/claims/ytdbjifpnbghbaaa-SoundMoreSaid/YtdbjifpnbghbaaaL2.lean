/- Sound: the law's small functions; the reference's End. -/
import Derived.Test.YtdbjifpnbghbaaaL1
namespace Go.Proofs.Ytdbjifpnbghbaaa
set_option linter.unusedSimpArgs false
set_option linter.unusedVariables false
open Go.RowKit Go.Maps Go.BigFrame

theorem res1_26 {fn : Func} {p : Tmp} (h : fn.results = #[.cell p 26]) {tmps : Array Value} {w : World} {g : Nat} {t : TypeId} {f : Nat × Nat} {x y z u : Int} (hp : tmps.getD p undef = .pointer (some ⟨g, 0, none⟩)) (hg : w.heap[g]? = some (.cells #[.int .i64 x, .int .i64 y, .int .i64 z, .int .i64 u] t f)) :
    (results fn tmps).run Try.prog w = .ok (.agg #[.int .i64 x, .int .i64 y, .int .i64 z, .int .i64 u]) w :=
  results_cell_row h tmps w g t _ f _ hp hg Try.underlying26 rfl (by kernel_rfl)
theorem span_any (x y : Int) (w : World) : Calls Try.prog 21 #[.int .i64 x, .int .i64 y] w fun e w' => e = .returned (.agg #[.int .i64 x, .int .i64 y]) ∧ Below w.heap.size w w' := by
  obtain ⟨W0, hW0⟩ : ∃ X, X = w.alloc (.cells #[.int .i64 0, .int .i64 0] 24) := ⟨_, rfl⟩
  have hb0 : Below w.heap.size w W0 := by rw [hW0]; exact (Below.refl _ _).alloc (Nat.le_refl _) _
  have hr0 : W0.heap[w.heap.size]? = some (.cells #[.int .i64 0, .int .i64 0] 24 (0, 0)) := by rw [hW0]; exact alloc_heap w _
  obtain ⟨P, hP⟩ : ∃ x, w.heap.size = x := ⟨_, rfl⟩
  rw [hP] at hr0
  have f0 : W0.frozen? ⟨P, 0, none⟩ = false := frozen_of hr0
  have f1 : W0.frozen? ⟨P, 1, none⟩ = false := frozen_of hr0
  obtain ⟨p0, p1⟩ := two_cells hr0
  have HZ := Lib.hid (set2 (A := .int .i64 x) (B := .int .i64 y) hr0)
  have HBZ := Lib.hid (below2 hb0 (R := P) (by omega) (.int .i64 x) (.int .i64 y))
  clear hr0 hb0
  go_enter Try.func21, Try.ntmps21
  go_upto_region 1 with fail
  rw [← hW0]
  clear hW0 hP
  go_wp2
  exact bodyPost_ret (res1_24 Try.results21 rfl HZ.out) rfl ⟨rfl, HBZ.out⟩
theorem line_any (w : World) : Calls Try.prog 22 #[] w fun e w' => ∃ R, e = .returned (.slice (some ⟨R, 0, none⟩) 2 2) ∧ w.heap.size ≤ R ∧ w'.heap[R]? = some (.cells (flatK 3 piC exL).toArray 59 (0, 0)) ∧ Below w.heap.size w w' := by
  have KS := Lib.hid span_any
  go_enter Try.func22, Try.ntmps22
  go_wp2_with (go_at_call 21; fail)
  refine (KS.out 8 10 w).mono ?_
  rintro e w2 ⟨rfl, hb2⟩
  have HB2 := Lib.hid hb2
  clear hb2
  go_wp2_with (go_at_call 21; fail)
  refine (KS.out 5 5 w2).mono ?_
  rintro e w3 ⟨rfl, hb3⟩
  have HB3 := Lib.hid (HB2.out.trans (hb3.mono HB2.out.size))
  clear hb3
  go_wp2
  go_ret
  exact ⟨w3.heap.size, rfl, HB3.out.size, alloc_heap w3 _, HB3.out.alloc HB3.out.size _⟩
set_option maxRecDepth 100000 in
theorem heard_any (x y : Int) (w : World) : Calls Try.prog 23 #[.int .i64 x, .int .i64 y] w fun e w' => e = .returned (heV ⟨0, 150, x, y⟩) ∧ Below w.heap.size w w' := by
  have KS := Lib.hid span_any
  obtain ⟨W0, hW0⟩ : ∃ X, X = w.alloc (.cells #[.int .i64 0, .int .i64 0, .int .i64 0, .int .i64 0] 26) := ⟨_, rfl⟩
  have hb0 : Below w.heap.size w W0 := by rw [hW0]; exact (Below.refl _ _).alloc (Nat.le_refl _) _
  have hr0 : W0.heap[w.heap.size]? = some (.cells #[.int .i64 0, .int .i64 0, .int .i64 0, .int .i64 0] 26 (0, 0)) := by rw [hW0]; exact alloc_heap w _
  obtain ⟨P, hP⟩ : ∃ x, w.heap.size = x := ⟨_, rfl⟩
  rw [hP] at hr0
  have H0 := Lib.hid hr0
  have HB0 := Lib.hid hb0
  have HP := Lib.hid hP
  clear hr0 hb0
  go_enter Try.func23, Try.ntmps23
  go_upto_region 1 with fail
  rw [← hW0]
  clear hW0 hP
  go_wp2_with (go_at_call 21; fail)
  refine (KS.out x y _).mono ?_
  rintro e w2 ⟨rfl, hb2⟩
  have h02 := box_step (w0 := w) H0.out hb2
  have hbw := HB0.out.trans (hb2.mono HB0.out.size)
  have g0 : ∀ i, w2.frozen? ⟨P, i, none⟩ = false := fun i => frozen_of h02
  have f0 := g0 0
  have f1 := g0 1
  have f2 := g0 2
  have f3 := g0 3
  obtain ⟨p0, p1, p2, p3⟩ := four_cells h02
  have h1 := heap_setCell_same w2 P 0 _ 26 (.int .i64 0) h02
  have h2 := heap_setCell_same _ P 1 _ 26 (.int .i64 150) h1
  have h3 := heap_setCell_same _ P 2 _ 26 (.int .i64 x) h2
  have h4 := heap_setCell_same _ P 3 _ 26 (.int .i64 y) h3
  have HZ := Lib.hid h4
  have hPn : w.heap.size ≤ P := by rw [HP.out]; exact Nat.le_refl _
  have HBZ := Lib.hid ((((hbw.setCell (p := ⟨P, 0, none⟩) hPn (.int .i64 0)).setCell (p := ⟨P, 1, none⟩) hPn (.int .i64 150)).setCell (p := ⟨P, 2, none⟩) hPn (.int .i64 x)).setCell (p := ⟨P, 3, none⟩) hPn (.int .i64 y))
  clear hb2 h02 hbw g0 h1 h2 h3 h4 hPn
  go_wp2
  exact bodyPost_ret (res1_26 Try.results23 rfl HZ.out) rfl ⟨rfl, HBZ.out⟩
set_option maxRecDepth 100000 in
set_option maxHeartbeats 3200000 in
theorem End_any (l : List Pi) (v : Value) (w : World) (hl : TabAt 3 piC w v l) (hb : ∀ i, i ≤ l.length → 0 ≤ posF l i ∧ posF l i ≤ 1000000000000) : Calls Try.prog 25 #[v] w fun e w' => e = .returned (.int .i64 (endF l)) ∧ w = w' := by
  obtain ⟨a, c, rfl⟩ := hl.shape
  have ml : l.length ≤ 9223372036854775807 := hl.1
  have HL := Lib.hid hl
  have HB := Lib.hid hb
  clear hl hb
  go_enter Try.func25, Try.ntmps25
  go_wp2_with fail
  go_loopw [3, 4] (fun n i wr => ∃ j : Nat, j ≤ l.length ∧ i = .int .i64 j ∧ n = .int .i64 (posF l j) ∧ wr = w) (fun _ i _ => l.length - (intOf i).toNat)
  case atStart => exact ⟨0, by omega, rfl, rfl, rfl⟩
  case round =>
    obtain ⟨j, hj, rfl, rfl, rfl⟩ := hrel
    by_cases hlt : j < l.length
    · obtain ⟨lb, lo, e1, hlb, hlx⟩ := HL.out.at (by omega)
      subst e1
      have x0 := hlx j hlt 0 (by omega)
      have hps : posF l (j + 1) = posF l j + (l.getD j default).len := rfl
      have hb0 := HB.out j (by omega)
      have hb1 := HB.out (j + 1) (by omega)
      obtain ⟨⟨t0, t1, t2⟩, hrow⟩ : ∃ x : Pi, l.getD j default = x := ⟨_, rfl⟩
      rw [hrow] at x0 hps
      simp only [Nat.add_zero, piC] at x0 hps
      obtain ⟨p, hp⟩ : ∃ p, posF l j = p := ⟨_, rfl⟩
      obtain ⟨p1, hp1⟩ : ∃ p, posF l (j + 1) = p := ⟨_, rfl⟩
      rw [hp, hp1] at hps
      rw [hp] at hb0 ⊢
      rw [hp1] at hb1
      have w1 : IntKind.i64.wrap (p + t0) = p1 := by rw [← hps]; exact IntWalk.i64_in _ (by omega)
      have ij1 : (j : Int) < (l.length : Int) := Int.ofNat_lt.2 hlt
      have w2 : IntKind.i64.wrap ((j : Int) + 1) = (j : Int) + 1 := IntWalk.i64_in _ (by omega)
      have HP1 := Lib.hid hp1
      clear hlx hrow hps hp hp1 hb0 hb1 hlb
      go_wp2
      go_roundw
      case rel => exact ⟨j + 1, by omega, by go_num, by rw [HP1.out], trivial⟩
      case measure => simp [intOf]; omega
    · have i1 : ¬ (j : Int) < (l.length : Int) := by omega
      have hjl : j = l.length := by omega
      subst hjl
      go_wp2
      go_ret
      exact ⟨rfl, rfl⟩
end Go.Proofs.Ytdbjifpnbghbaaa
