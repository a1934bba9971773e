/- Size: the law's sample; great. -/
import Derived.Test.YtlcmedfjghcigaaA18
namespace Go.Proofs.Ytlcmedfjghcigaa
set_option linter.unusedSimpArgs false
set_option linter.unusedVariables false
open Go.RowKit Go.Maps

theorem var25 {w : World} {g : Nat} {t : TypeId} {f : Nat × Nat} {x y : Int} {u v : Value} (hg : w.heap[g]? = some (.cells #[.int .i64 x, .int .i64 y, u, v] t f)) : Sem.run Try.prog (loadVar 25 ⟨g, 0, none⟩) w = .ok (.agg #[.int .i64 x, .int .i64 y, u, v]) w :=
  run_loadVar_row w g t 25 _ f _ hg Try.underlying25 rfl (by kernel_rfl)
theorem res2_25 {fn : Func} {p s : Tmp} (h : fn.results = #[.cell p 25, .tmp s]) {tmps : Array Value} {w : World} {g : Nat} {t : TypeId} {f : Nat × Nat} {x y : Int} {u v a : Value} (hp : tmps.getD p undef = .pointer (some ⟨g, 0, none⟩)) (ha : tmps.getD s undef = a) (hg : w.heap[g]? = some (.cells #[.int .i64 x, .int .i64 y, u, v] t f)) :
    (results fn tmps).run Try.prog w = .ok (.tuple #[.agg #[.int .i64 x, .int .i64 y, u, v], a]) w := by
  have hp' : tmps[p]?.getD undef = .pointer (some ⟨g, 0, none⟩) := by simpa using hp
  have ha' : tmps[s]?.getD undef = a := by simpa using ha
  simp [results, h, hp', ha', asAddr, var25 hg]
def tCells : Array Value := #[.int .i64 300, .int .i64 400, .int .i64 100, .int .i64 600, .int .i64 800, .int .i64 150, .int .i64 200, .int .i64 300, .int .i64 50]
def rCells : Array Value := #[.int .i64 3, .int .i64 1]
def sCells : Array Value := #[.int .i64 5, .int .i64 1000, .int .i64 200, .int .i64 10, .int .i64 10, .int .i64 1500, .int .i64 250, .int .i64 15, .int .i64 20, .int .i64 3000, .int .i64 250, .int .i64 30]
theorem tCells_eq : tCells = (flatK 3 tpC (sampleH 400 12).tp).toArray := by kernel_rfl
theorem rCells_eq : rCells = (flatK 2 rlC (sampleH 400 12).rl).toArray := by kernel_rfl
theorem sCells_eq : sCells = (flatK 4 szC sampleL).toArray := by kernel_rfl
/-- the law's sample in memory -/
structure SampleAt (w : World) (g k m : Nat) : Prop where
  tp : TabAt 3 tpC w (.slice (some ⟨g, 0, none⟩) 3 3) (sampleH 400 12).tp
  rl : TabAt 2 rlC w (.slice (some ⟨k, 0, none⟩) 1 1) (sampleH 400 12).rl
  sz : TabAt 4 szC w (.slice (some ⟨m, 0, none⟩) 3 3) sampleL
theorem SampleAt.below {w w' : World} {g k m : Nat} (h : SampleAt w g k m) (hb : Below w.heap.size w w') : SampleAt w' g k m := ⟨h.tp.below hb, h.rl.below hb, h.sz.below hb⟩
set_option maxRecDepth 100000 in
set_option maxHeartbeats 3200000 in
theorem sample_any (w : World) : Calls Try.prog 24 #[] w fun e w' => ∃ g k m, e = .returned (.tuple #[.agg #[.int .i64 400, .int .i64 12, .slice (some ⟨g, 0, none⟩) 3 3, .slice (some ⟨k, 0, none⟩) 1 1], .slice (some ⟨m, 0, none⟩) 3 3]) ∧ SampleAt w' g k m ∧ Below w.heap.size w w' := by
  have KZ := Lib.hid span_any
  obtain ⟨W0, hW0⟩ : ∃ X, X = w.alloc (.cells #[.int .i64 0, .int .i64 0, .slice none 0 0, .slice none 0 0] 25) := ⟨_, rfl⟩
  have hal : W0 = al w [(.cells #[.int .i64 0, .int .i64 0, .slice none 0 0, .slice none 0 0] 25)] := hW0
  have hb0 : Below w.heap.size w W0 := by rw [hal]; exact al_below w _ (Nat.le_refl _)
  have hs0 : W0.heap.size = w.heap.size + 1 := by rw [hal]; exact al_size w _
  have hr0 : W0.heap[w.heap.size]? = some (.cells #[.int .i64 0, .int .i64 0, .slice none 0 0, .slice none 0 0] 25 (0, 0)) := by rw [hal]; exact al_get w _ 0 _ rfl
  obtain ⟨P, hP0⟩ : ∃ x, w.heap.size = x := ⟨_, rfl⟩
  rw [hP0] at hr0 hs0
  clear hal
  rw [hP0] at hb0
  have HS := Lib.hid (show w.heap.size = P ∧ W0.heap.size = P + 1 from ⟨by omega, by omega⟩)
  have HB0 := Lib.hid hb0
  have HP0 := Lib.hid hr0
  have hs00 : P + 1 ≤ W0.heap.size := by omega
  clear hb0 hr0 hs0
  go_enter Try.func24, Try.ntmps24
  go_upto_region 1 with fail
  rw [← hW0]
  clear hW0 hP0
  go_wp2_with fail
  refine (KZ.out _ _ _).mono ?_
  rintro e w1 ⟨rfl, hb⟩
  have HB1 := Lib.hid (HB0.out.trans (hb.mono (by omega)))
  have HP1 := Lib.hid (box_step (w0 := w) HP0.out hb)
  have hs1 : P + 1 ≤ w1.heap.size := by have := hb.size; omega
  clear hb
  go_wp2_with fail
  refine (KZ.out _ _ _).mono ?_
  rintro e w2 ⟨rfl, hb⟩
  have HB2 := Lib.hid (HB1.out.trans (hb.mono (by omega)))
  have HP2 := Lib.hid (box_step (w0 := w) HP1.out hb)
  have hs2 : P + 1 ≤ w2.heap.size := by have := hb.size; omega
  clear hb
  go_wp2_with fail
  refine (KZ.out _ _ _).mono ?_
  rintro e w3 ⟨rfl, hb⟩
  have HB3 := Lib.hid (HB2.out.trans (hb.mono (by omega)))
  have HP3 := Lib.hid (box_step (w0 := w) HP2.out hb)
  have hs3 : P + 1 ≤ w3.heap.size := by have := hb.size; omega
  clear hb
  obtain ⟨g, hg⟩ : ∃ x, w3.heap.size = x := ⟨_, rfl⟩
  obtain ⟨k, hk⟩ : ∃ x, g + 1 = x := ⟨_, rfl⟩
  obtain ⟨q, hq⟩ : ∃ x, k + 1 = x := ⟨_, rfl⟩
  obtain ⟨m, hm⟩ : ∃ x, q + 1 = x := ⟨_, rfl⟩
  obtain ⟨W4, hW4⟩ : ∃ X, ((w3.alloc (.cells #[.int .i64 300, .int .i64 400, .int .i64 100, .int .i64 600, .int .i64 800, .int .i64 150, .int .i64 200, .int .i64 300, .int .i64 50] 52)).alloc (.cells #[.int .i64 3, .int .i64 1] 65)).alloc (.cells #[.int .i64 400, .int .i64 12, .slice (some ⟨g, 0, none⟩) 3 3, .slice (some ⟨k, 0, none⟩) 1 1] 25) = X := ⟨_, rfl⟩
  obtain ⟨W5, hW5⟩ : ∃ X, W4.alloc (.cells #[.int .i64 5, .int .i64 1000, .int .i64 200, .int .i64 10, .int .i64 10, .int .i64 1500, .int .i64 250, .int .i64 15, .int .i64 20, .int .i64 3000, .int .i64 250, .int .i64 30] 27) = X := ⟨_, rfl⟩
  have hal : W4 = al w3 [.cells #[.int .i64 300, .int .i64 400, .int .i64 100, .int .i64 600, .int .i64 800, .int .i64 150, .int .i64 200, .int .i64 300, .int .i64 50] 52, .cells #[.int .i64 3, .int .i64 1] 65, .cells #[.int .i64 400, .int .i64 12, .slice (some ⟨g, 0, none⟩) 3 3, .slice (some ⟨k, 0, none⟩) 1 1] 25] := hW4.symm
  have hb4 : Below w3.heap.size w3 W4 := by rw [hal]; exact al_below _ _ (Nat.le_refl _)
  have hz4 : W4.heap.size = w3.heap.size + 3 := by rw [hal]; exact al_size _ _
  have hg4 : W4.heap[g]? = some (.cells #[.int .i64 300, .int .i64 400, .int .i64 100, .int .i64 600, .int .i64 800, .int .i64 150, .int .i64 200, .int .i64 300, .int .i64 50] 52 (0, 0)) := by rw [hal, ← hg]; exact al_get w3 _ 0 _ rfl
  have hk4 : W4.heap[k]? = some (.cells #[.int .i64 3, .int .i64 1] 65 (0, 0)) := by rw [hal, ← hk, ← hg]; exact al_get w3 _ 1 _ rfl
  have hq4 : W4.heap[q]? = some (.cells #[.int .i64 400, .int .i64 12, .slice (some ⟨g, 0, none⟩) 3 3, .slice (some ⟨k, 0, none⟩) 1 1] 25 (0, 0)) := by rw [hal, ← hq, ← hk, ← hg]; exact al_get w3 _ 2 _ rfl
  have hz4m : W4.heap.size = m := by rw [hz4, hg, ← hm, ← hq, ← hk]
  have hb5 : Below W4.heap.size W4 W5 := by rw [← hW5]; exact (Below.refl _ _).alloc (Nat.le_refl _) _
  have hm5 : W5.heap[m]? = some (.cells #[.int .i64 5, .int .i64 1000, .int .i64 200, .int .i64 10, .int .i64 10, .int .i64 1500, .int .i64 250, .int .i64 15, .int .i64 20, .int .i64 3000, .int .i64 250, .int .i64 30] 27 (0, 0)) := by rw [← hW5, ← hz4m]; exact alloc_heap W4 _
  have hg5 := box_step (w0 := w) hg4 hb5
  have hk5 := box_step (w0 := w) hk4 hb5
  have HB5 := Lib.hid (HB3.out.trans ((hb4.trans (hb5.mono hb4.size)).mono (by omega)))
  have hp5 := box_step (w0 := w) (box_step (w0 := w) HP3.out hb4) hb5
  have hsa : SampleAt W5 g k m := ⟨by rw [show (#[.int .i64 300, .int .i64 400, .int .i64 100, .int .i64 600, .int .i64 800, .int .i64 150, .int .i64 200, .int .i64 300, .int .i64 50] : Array Value) = tCells from rfl, tCells_eq] at hg5; exact tab_of_block hg5 (by decide), by rw [show (#[.int .i64 3, .int .i64 1] : Array Value) = rCells from rfl, rCells_eq] at hk5; exact tab_of_block hk5 (by decide), by rw [show (#[.int .i64 5, .int .i64 1000, .int .i64 200, .int .i64 10, .int .i64 10, .int .i64 1500, .int .i64 250, .int .i64 15, .int .i64 20, .int .i64 3000, .int .i64 250, .int .i64 30] : Array Value) = sCells from rfl, sCells_eq] at hm5; exact tab_of_block hm5 (by decide)⟩
  obtain ⟨x0, x1, x2, x3⟩ := four_cells hq4
  obtain ⟨y0, y1, y2, y3⟩ := four_cells hp5
  have fz : ∀ o, W5.frozen? ⟨P, o, none⟩ = false := fun o => frozen_of hp5
  have fz0 := fz 0
  have fz1 := fz 1
  have fz2 := fz 2
  have fz3 := fz 3
  have HZ := Lib.hid (st4_same (A := .int .i64 400) (B := .int .i64 12) (C := .slice (some ⟨g, 0, none⟩) 3 3) (D := .slice (some ⟨k, 0, none⟩) 1 1) hp5)
  have ho := st4_only W5 P (.int .i64 400) (.int .i64 12) (.slice (some ⟨g, 0, none⟩) 3 3) (.slice (some ⟨k, 0, none⟩) 1 1)
  have HNE := Lib.hid (show P < g ∧ P < k ∧ P < m from ⟨by omega, by omega, by omega⟩)
  have HSA := Lib.hid (show SampleAt (st4 W5 P (.int .i64 400) (.int .i64 12) (.slice (some ⟨g, 0, none⟩) 3 3) (.slice (some ⟨k, 0, none⟩) 1 1)) g k m from ⟨hsa.tp.keep ho.keep (fun _ b off e hb => by cases e; omega), hsa.rl.keep ho.keep (fun _ b off e hb => by cases e; omega), hsa.sz.keep ho.keep (fun _ b off e hb => by cases e; omega)⟩)
  have HB6 := Lib.hid (HB5.out.trans (ho.below (n := P) (by have := HB5.out.size; have := HS.out; omega) (fun x e => by omega)))
  have HW5 := Lib.hid hW5
  clear hal hb4 hz4 hg4 hk4 hq4 hb5 hm5 hg5 hk5 hp5 hsa ho fz HB0 HB1 HB2 HB3 HP0 HP1 HP2 HP3 hs00 hs1 hs2 hs3
  go_wp2
  exact bodyPost_ret (res2_25 Try.results24 rfl rfl HZ.out) rfl ⟨g, k, m, rfl, HSA.out, by rw [HS.out.1]; exact HB6.out⟩
def greatB (h : Hs) (taps : Int) : Bool := (decide (taps < (h.tp.length : Int)) && decide ((h.tp.length : Int) ≤ 10)) || (decide (16 < (h.tp.length : Int)) || decide (14 < (h.rl.length : Int)))
set_option maxRecDepth 100000 in
set_option maxHeartbeats 3200000 in
theorem great_any (h : Hs) (a1 : Option Addr) (c1 : Nat) (a2 : Option Addr) (c2 : Nat) (taps : Int) (w : World) (hh : HsAt w h a1 c1 a2 c2) : Calls Try.prog 12 #[hsV h a1 c1 a2 c2, .int .i64 taps] w fun e w' => e = .returned (.bool (greatB h taps)) ∧ Below w.heap.size w w' := by
  have mt : h.tp.length ≤ 9223372036854775807 := hh.tp.1
  have mr : h.rl.length ≤ 9223372036854775807 := hh.rl.1
  have hb := (Below.refl w.heap.size w).alloc (Nat.le_refl _) (.cells #[.int .i64 h.head, .int .i64 h.drip, .slice a1 h.tp.length c1, .slice a2 h.rl.length c2] 25)
  have HB := Lib.hid hb
  have hg : greatB h taps = ((decide (taps < (h.tp.length : Int)) && decide ((h.tp.length : Int) ≤ 10)) || (decide (16 < (h.tp.length : Int)) || decide (14 < (h.rl.length : Int)))) := rfl
  obtain ⟨n1, hn1⟩ : ∃ n, h.tp.length = n := ⟨_, rfl⟩
  obtain ⟨n2, hn2⟩ : ∃ n, h.rl.length = n := ⟨_, rfl⟩
  obtain ⟨R, hR⟩ : ∃ b, greatB h taps = b := ⟨_, rfl⟩
  unfold hsV
  rw [hR] at hg ⊢
  rw [hn1] at hg mt HB ⊢
  rw [hn2] at hg mr HB ⊢
  clear hb hh hn1 hn2 hR
  by_cases t1 : taps < (n1 : Int)
  all_goals by_cases t2 : (n1 : Int) ≤ 10
  all_goals by_cases t3 : (16 : Int) < (n1 : Int)
  all_goals by_cases t4 : (14 : Int) < (n2 : Int)
  all_goals try (exfalso; omega)
  all_goals
    simp only [t1, t2, t3, t4, decide_true, decide_false, Bool.and_true, Bool.and_false, Bool.or_true, Bool.or_false, Bool.true_and, Bool.false_and, Bool.true_or, Bool.false_or] at hg
    subst hg
    go_enter Try.func12, Try.ntmps12
    go_wp2
    go_ret
    exact ⟨rfl, HB.out⟩
end Go.Proofs.Ytlcmedfjghcigaa
