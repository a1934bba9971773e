/- Size: alive. -/
import Derived.Test.YtlcmedfjghcigaaA20
namespace Go.Proofs.Ytlcmedfjghcigaa
set_option linter.unusedSimpArgs false
set_option linter.unusedVariables false
open Go.RowKit Go.Maps

/-- one cell of a block of four written -/
theorem set_at0 {X : World} {R : Nat} {a b c d A : Value} {t : TypeId} (h : X.heap[R]? = some (.cells #[a, b, c, d] t (0, 0))) : (X.setCell ⟨R, 0, none⟩ A).heap[R]? = some (.cells #[A, b, c, d] t (0, 0)) := by rw [heap_setCell_same X R 0 _ t A h]; rfl
theorem set_at1 {X : World} {R : Nat} {a b c d A : Value} {t : TypeId} (h : X.heap[R]? = some (.cells #[a, b, c, d] t (0, 0))) : (X.setCell ⟨R, 1, none⟩ A).heap[R]? = some (.cells #[a, A, c, d] t (0, 0)) := by rw [heap_setCell_same X R 1 _ t A h]; rfl
theorem SampleAt.only {X Y : World} {g k m H : Nat} (h : SampleAt X g k m) (ho : OnlyE (· = H) X Y) (hg : g < H) (hk : k < H) (hm : m < H) : SampleAt Y g k m :=
  ⟨h.tp.keep ho.keep (fun _ b off e hb => by cases e; omega), h.rl.keep ho.keep (fun _ b off e hb => by cases e; omega), h.sz.keep ho.keep (fun _ b off e hb => by cases e; omega)⟩
theorem SampleAt.lt {X : World} {g k m : Nat} (h : SampleAt X g k m) : g < X.heap.size ∧ k < X.heap.size ∧ m < X.heap.size := ⟨tab_row h.tp (by decide) g 0 rfl, tab_row h.rl (by decide) k 0 rfl, tab_row h.sz (by decide) m 0 rfl⟩
set_option maxRecDepth 100000 in
set_option maxHeartbeats 6400000 in
theorem alive_any (w : World) : Calls Try.prog 13 #[] w fun e w' => e = .returned (.bool true) ∧ Below w.heap.size w w' := by
  have KS := Lib.hid (sample_any w)
  go_enter Try.func13, Try.ntmps13
  go_wp2_with fail
  refine KS.out.mono ?_
  rintro e w1 ⟨g, k, m, rfl, hs1, hb1⟩
  have hlt := hs1.lt
  obtain ⟨H, hH⟩ : ∃ x, w1.heap.size = x := ⟨_, rfl⟩
  obtain ⟨W2, hW2⟩ : ∃ X, w1.alloc (.cells #[.int .i64 400, .int .i64 12, .slice (some ⟨g, 0, none⟩) 3 3, .slice (some ⟨k, 0, none⟩) 1 1] 25) = X := ⟨_, rfl⟩
  have hb2 : Below w1.heap.size w1 W2 := by rw [← hW2]; exact (Below.refl _ _).alloc (Nat.le_refl _) _
  have hh2 : W2.heap[H]? = some (.cells #[.int .i64 400, .int .i64 12, .slice (some ⟨g, 0, none⟩) 3 3, .slice (some ⟨k, 0, none⟩) 1 1] 25 (0, 0)) := by rw [← hW2, ← hH]; exact alloc_heap w1 _
  have hz2 : W2.heap.size = H + 1 := by rw [← hW2, ← hH]; simp
  have HL := Lib.hid (show g < H ∧ k < H ∧ m < H ∧ w.heap.size ≤ H from ⟨by omega, by omega, by omega, by have := hb1.size; omega⟩)
  have hs2 := hs1.below hb2
  have HS2 := Lib.hid hs2
  have HH2 := Lib.hid hh2
  have HB2 := Lib.hid (hb1.trans (hb2.mono hb1.size))
  have KP := Lib.hid (peak_s hs2)
  obtain ⟨x0, x1, x2, x3⟩ := four_cells hh2
  clear hs1 hb1 hlt hb2 hh2 hs2
  go_wp2_with (go_at_call 14; fail)
  clear hW2 hH
  refine KP.out.mono ?_
  rintro e w3 ⟨rfl, hb3⟩
  obtain ⟨S, hS⟩ : ∃ x, w3.heap.size = x := ⟨_, rfl⟩
  obtain ⟨W4, hW4⟩ : ∃ X, w3.alloc (.cells #[.int .i64 800, .int .i64 1100] 31) = X := ⟨_, rfl⟩
  have hb4 : Below w3.heap.size w3 W4 := by rw [← hW4]; exact (Below.refl _ _).alloc (Nat.le_refl _) _
  have hS4 : W4.heap[S]? = some (.cells #[.int .i64 800, .int .i64 1100] 31 (0, 0)) := by rw [← hW4, ← hS]; exact alloc_heap w3 _
  have hb24 := hb3.trans (hb4.mono hb3.size)
  have hs4 := HS2.out.below hb24
  have hh4 := box_step (w0 := w) HH2.out hb24
  have HB4 := Lib.hid (HB2.out.trans (hb24.mono HB2.out.size))
  have HSH := Lib.hid (show H < S by have := hb3.size; omega)
  have HS4 := Lib.hid hs4
  have HH4 := Lib.hid hh4
  have HX4 := Lib.hid hS4
  clear x0 x1 x2 x3 hb3 hb4 hS4 hb24
  obtain ⟨x0, x1, x2, x3⟩ := four_cells hh4
  obtain ⟨⟨r0, r1, r2, r3⟩, _⟩ := sample_row hs4
  have k0 := cell_regrown x0
  have k1 := cell_regrown x1
  have k2 := cell_regrown x2
  have k3 := cell_regrown x3
  have k4 := cell_regrown r0
  have k5 := cell_regrown r1
  have k6 := cell_regrown r2
  have k7 := cell_regrown r3
  have C1 := fun d os => Calls.regrown_of (w := W4) (d := d) (os := os) (starved_s0 (hs4.below (below_regrown W4 d os)))
  clear hs4 hh4
  go_upto_region 3 with fail
  clear hW4 hS x0 x1 x2 x3 r0 r1 r2 r3
  refine wp_region_quiet_below (by kernel_rfl) (by kernel_rfl) ?_
  repeat (go_big_quiet_step (first | with_reducible exact C1 _ _))
  refine wpQuiet_nil ?_
  intro W5 hw'
  have hbr : Below W4.heap.size W4 W5 := by obtain ⟨⟨dq, osq⟩, hw''⟩ := hw'; rw [hw'']; exact below_regrown W4 dq osq
  clear hw' C1 k0 k1 k2 k3 k4 k5 k6 k7
  have hs5 := HS4.out.below hbr
  have hh5 := box_step (w0 := w) HH4.out hbr
  have HX5 := Lib.hid (box_step (w0 := w) HX4.out hbr)
  have HB5 := Lib.hid (HB4.out.trans (hbr.mono HB4.out.size))
  have HS5 := Lib.hid hs5
  have HH5 := Lib.hid hh5
  have KC := Lib.hid (choose_s hs5)
  obtain ⟨x0, x1, x2, x3⟩ := four_cells hh5
  clear hbr hs5 hh5
  go_wp2_with (go_at_call 18; fail)
  refine KC.out.mono ?_
  rintro e w6 ⟨rfl, hb6⟩
  have hs6 := HS5.out.below hb6
  have hh6 := box_step (w0 := w) HH5.out hb6
  have HX6 := Lib.hid (box_step (w0 := w) HX5.out hb6)
  have HB6 := Lib.hid (HB5.out.trans (hb6.mono HB5.out.size))
  have HS6 := Lib.hid hs6
  have HH6 := Lib.hid hh6
  have KL := Lib.hid (least_s hs6)
  clear x0 x1 x2 x3
  obtain ⟨x0, x1, x2, x3⟩ := four_cells hh6
  clear hb6 hs6 hh6
  go_wp2_with (go_at_call 22; fail)
  refine KL.out.mono ?_
  rintro e w7 ⟨rfl, hb7⟩
  have hs7 := HS6.out.below hb7
  have hh7 := box_step (w0 := w) HH6.out hb7
  have hx7 := box_step (w0 := w) HX6.out hb7
  have HB7 := Lib.hid (HB6.out.trans (hb7.mono HB6.out.size))
  have f7 : w7.frozen? ⟨H, 1, none⟩ = false := frozen_of hh7
  have hh8 := set_at1 (A := .int .i64 8) hh7
  have ho8 : OnlyE (· = H) w7 (w7.setCell ⟨H, 1, none⟩ (.int .i64 8)) := OnlyE.set (E := (· = H)) (OnlyE.refl _ _) (b := H) rfl _
  obtain ⟨W8, hW8⟩ : ∃ X, w7.setCell ⟨H, 1, none⟩ (.int .i64 8) = X := ⟨_, rfl⟩
  rw [hW8] at hh8 ho8
  have hs8 := hs7.only ho8 HL.out.1 HL.out.2.1 HL.out.2.2.1
  have HX8 := Lib.hid (ho8.get hx7 (by have := HSH.out; omega))
  have HB8 := Lib.hid (HB7.out.trans (ho8.below (n := w.heap.size) HB7.out.size (fun x e => by have := HL.out; omega)))
  have HS8 := Lib.hid hs8
  have HH8 := Lib.hid hh8
  have KR := Lib.hid (pair_s hs8)
  clear x0 x1 x2 x3
  obtain ⟨y0, y1, y2, y3⟩ := four_cells hh7
  obtain ⟨x0, x1, x2, x3⟩ := four_cells hh8
  clear hb7 hs7 hh7 hx7 hh8 ho8 hs8
  go_wp2_with (go_at_call 20; fail)
  clear hW8 y0 y1 y2 y3
  refine KR.out.mono ?_
  rintro e w9 ⟨rfl, hb9⟩
  have hx9 := box_step (w0 := w) HX8.out hb9
  have HB9 := Lib.hid (HB8.out.trans (hb9.mono HB8.out.size))
  obtain ⟨z0, z1⟩ := two_cells hx9
  have k0 := cell_regrown z0
  have k1 := cell_regrown z1
  have C1 := fun d os => Calls.regrown_of (w := w9) (d := d) (os := os) (span_any 800 1100 _)
  clear x0 x1 x2 x3 f7 hx9 hb9
  go_upto_region 8 with fail
  clear z0 z1
  refine wp_region_quiet_below (by kernel_rfl) (by kernel_rfl) ?_
  repeat (go_big_quiet_step (first | with_reducible exact C1 _ _))
  refine wpQuiet_nil ?_
  intro W10 hw'
  have hbr : Below w9.heap.size w9 W10 := by obtain ⟨⟨dq, osq⟩, hw''⟩ := hw'; rw [hw'']; exact below_regrown w9 dq osq
  clear hw'
  go_wp2
  go_ret
  exact ⟨rfl, HB9.out.trans (hbr.mono HB9.out.size)⟩
end Go.Proofs.Ytlcmedfjghcigaa
