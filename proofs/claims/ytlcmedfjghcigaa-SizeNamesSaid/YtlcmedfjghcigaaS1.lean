/- Size: the walk of SizeNames. -/
import Derived.Test.YtlcmedfjghcigaaA21
namespace Go.Proofs.Ytlcmedfjghcigaa
set_option linter.unusedSimpArgs false
set_option linter.unusedVariables false
open Go.RowKit Go.Maps

set_option maxRecDepth 100000 in
set_option maxHeartbeats 6400000 in
theorem names_any (w : World) : Calls Try.prog 5 #[] w fun e w' => e = .returned (.bool true) ∧ Below w.heap.size w w' := by
  have KS := Lib.hid (sample_any w)
  have KA := Lib.hid alive_any
  go_enter Try.func5, Try.ntmps5
  go_wp2_with fail
  refine KS.out.mono ?_
  rintro e w1 ⟨g, k, m, rfl, hs1, hb1⟩
  have hlt := hs1.lt
  obtain ⟨H, hH⟩ : ∃ x, w1.heap.size = x := ⟨_, rfl⟩
  obtain ⟨W2, hW2⟩ : ∃ X, w1.alloc (.cells #[.int .i64 400, .int .i64 12, .slice (some ⟨g, 0, none⟩) 3 3, .slice (some ⟨k, 0, none⟩) 1 1] 25) = X := ⟨_, rfl⟩
  have hb2 : Below w1.heap.size w1 W2 := by rw [← hW2]; exact (Below.refl _ _).alloc (Nat.le_refl _) _
  have hh2 : W2.heap[H]? = some (.cells #[.int .i64 400, .int .i64 12, .slice (some ⟨g, 0, none⟩) 3 3, .slice (some ⟨k, 0, none⟩) 1 1] 25 (0, 0)) := by rw [← hW2, ← hH]; exact alloc_heap w1 _
  have HL := Lib.hid (show g < H ∧ k < H ∧ m < H ∧ w.heap.size ≤ H from ⟨by omega, by omega, by omega, by have := hb1.size; omega⟩)
  have HS2 := Lib.hid (hs1.below hb2)
  have HH2 := Lib.hid hh2
  have HB2 := Lib.hid (hb1.trans (hb2.mono hb1.size))
  clear hs1 hb1 hlt hb2 hh2
  obtain ⟨x0, x1, x2, x3⟩ := four_cells HH2.out
  obtain ⟨⟨r0, r1, r2, r3⟩, s0, s1, s2, s3⟩ := sample_row HS2.out
  have k0 := cell_regrown x0
  have k1 := cell_regrown x1
  have k2 := cell_regrown x2
  have k3 := cell_regrown x3
  have k4 := cell_regrown r0
  have k5 := cell_regrown r1
  have k6 := cell_regrown r2
  have k7 := cell_regrown r3
  have k8 := cell_regrown s0
  have k9 := cell_regrown s1
  have k10 := cell_regrown s2
  have k11 := cell_regrown s3
  have C1 := fun d os => Calls.regrown_of (w := W2) (d := d) (os := os) (starved_s1 (HS2.out.below (below_regrown W2 d os)))
  go_upto_region 2 with fail
  clear hW2 hH
  clear x0 x1 x2 x3 r0 r1 r2 r3 s0 s1 s2 s3
  refine wp_region_quiet_below (by kernel_rfl) (by kernel_rfl) ?_
  repeat (go_big_quiet_step (first | with_reducible exact C1 _ _))
  refine wpQuiet_nil ?_
  intro W3 hw'
  have hbr : Below W2.heap.size W2 W3 := by obtain ⟨⟨dq, osq⟩, hw''⟩ := hw'; rw [hw'']; exact below_regrown W2 dq osq
  clear hw' C1 k0 k1 k2 k3 k4 k5 k6 k7 k8 k9 k10 k11
  have HH3 := Lib.hid (box_step (w0 := w) HH2.out hbr)
  have HS3 := Lib.hid (HS2.out.below hbr)
  have HB3 := Lib.hid (HB2.out.trans (hbr.mono HB2.out.size))
  clear hbr
  obtain ⟨x0, x1, x2, x3⟩ := four_cells HH3.out
  obtain ⟨⟨r0, r1, r2, r3⟩, s0, s1, s2, s3⟩ := sample_row HS3.out
  have k0 := cell_regrown x0
  have k1 := cell_regrown x1
  have k2 := cell_regrown x2
  have k3 := cell_regrown x3
  have k4 := cell_regrown r0
  have k5 := cell_regrown r1
  have k6 := cell_regrown r2
  have k7 := cell_regrown r3
  have k8 := cell_regrown s0
  have k9 := cell_regrown s1
  have k10 := cell_regrown s2
  have k11 := cell_regrown s3
  have C1 := fun d os => Calls.regrown_of (w := W3) (d := d) (os := os) (choose_s1 (HS3.out.below (below_regrown W3 d os)))
  go_upto_region 3 with fail
  clear x0 x1 x2 x3 r0 r1 r2 r3 s0 s1 s2 s3
  refine wp_region_quiet_below (by kernel_rfl) (by kernel_rfl) ?_
  repeat (go_big_quiet_step (first | with_reducible exact C1 _ _))
  refine wpQuiet_nil ?_
  intro W4 hw'
  have hbr : Below W3.heap.size W3 W4 := by obtain ⟨⟨dq, osq⟩, hw''⟩ := hw'; rw [hw'']; exact below_regrown W3 dq osq
  clear hw' C1 k0 k1 k2 k3 k4 k5 k6 k7 k8 k9 k10 k11
  have HH4 := Lib.hid (box_step (w0 := w) HH3.out hbr)
  have HS4 := Lib.hid (HS3.out.below hbr)
  have HB4 := Lib.hid (HB3.out.trans (hbr.mono HB3.out.size))
  clear hbr
  obtain ⟨x0, x1, x2, x3⟩ := four_cells HH4.out
  have fz : W4.frozen? ⟨H, 1, none⟩ = false := frozen_of HH4.out
  have hh := set_at1 (A := .int .i64 8) HH4.out
  have ho : OnlyE (· = H) W4 (W4.setCell ⟨H, 1, none⟩ (.int .i64 8)) := OnlyE.set (E := (· = H)) (OnlyE.refl _ _) (b := H) rfl _
  obtain ⟨W5, hW⟩ : ∃ X, W4.setCell ⟨H, 1, none⟩ (.int .i64 8) = X := ⟨_, rfl⟩
  rw [hW] at hh ho
  have HH5 := Lib.hid hh
  have HS5 := Lib.hid (HS4.out.only ho HL.out.1 HL.out.2.1 HL.out.2.2.1)
  have HB5 := Lib.hid (HB4.out.trans (ho.below (n := w.heap.size) HB4.out.size (fun x e => by have := HL.out; omega)))
  clear hh ho
  go_upto_region 5 with fail
  clear hW fz x0 x1 x2 x3
  have KC := Lib.hid (choose_s8 HS5.out)
  obtain ⟨x0, x1, x2, x3⟩ := four_cells HH5.out
  go_wp2_with (go_at_call 18; fail)
  refine KC.out.mono ?_
  rintro e W6 ⟨rfl, hbr⟩
  have HH6 := Lib.hid (box_step (w0 := w) HH5.out hbr)
  have HS6 := Lib.hid (HS5.out.below hbr)
  have HB6 := Lib.hid (HB5.out.trans (hbr.mono HB5.out.size))
  clear hbr x0 x1 x2 x3 KC
  obtain ⟨x0, x1, x2, x3⟩ := four_cells HH6.out
  have fz : W6.frozen? ⟨H, 0, none⟩ = false := frozen_of HH6.out
  have hh := set_at0 (A := .int .i64 250) HH6.out
  have ho : OnlyE (· = H) W6 (W6.setCell ⟨H, 0, none⟩ (.int .i64 250)) := OnlyE.set (E := (· = H)) (OnlyE.refl _ _) (b := H) rfl _
  obtain ⟨W7, hW⟩ : ∃ X, W6.setCell ⟨H, 0, none⟩ (.int .i64 250) = X := ⟨_, rfl⟩
  rw [hW] at hh ho
  have HH7 := Lib.hid hh
  have HS7 := Lib.hid (HS6.out.only ho HL.out.1 HL.out.2.1 HL.out.2.2.1)
  have HB7 := Lib.hid (HB6.out.trans (ho.below (n := w.heap.size) HB6.out.size (fun x e => by have := HL.out; omega)))
  clear hh ho
  go_upto_region 7 with fail
  clear hW fz x0 x1 x2 x3
  obtain ⟨x0, x1, x2, x3⟩ := four_cells HH7.out
  obtain ⟨⟨r0, r1, r2, r3⟩, s0, s1, s2, s3⟩ := sample_row HS7.out
  have k0 := cell_regrown x0
  have k1 := cell_regrown x1
  have k2 := cell_regrown x2
  have k3 := cell_regrown x3
  have k4 := cell_regrown r0
  have k5 := cell_regrown r1
  have k6 := cell_regrown r2
  have k7 := cell_regrown r3
  have k8 := cell_regrown s0
  have k9 := cell_regrown s1
  have k10 := cell_regrown s2
  have k11 := cell_regrown s3
  have C1 := fun d os => Calls.regrown_of (w := W7) (d := d) (os := os) (starved_s2 (HS7.out.below (below_regrown W7 d os)))
  go_upto_region 7 with fail
  clear x0 x1 x2 x3 r0 r1 r2 r3 s0 s1 s2 s3
  refine wp_region_quiet_below (by kernel_rfl) (by kernel_rfl) ?_
  repeat (go_big_quiet_step (first | with_reducible exact C1 _ _))
  refine wpQuiet_nil ?_
  intro W8 hw'
  have hbr : Below W7.heap.size W7 W8 := by obtain ⟨⟨dq, osq⟩, hw''⟩ := hw'; rw [hw'']; exact below_regrown W7 dq osq
  clear hw' C1 k0 k1 k2 k3 k4 k5 k6 k7 k8 k9 k10 k11
  have HH8 := Lib.hid (box_step (w0 := w) HH7.out hbr)
  have HS8 := Lib.hid (HS7.out.below hbr)
  have HB8 := Lib.hid (HB7.out.trans (hbr.mono HB7.out.size))
  clear hbr
  obtain ⟨x0, x1, x2, x3⟩ := four_cells HH8.out
  have fz : W8.frozen? ⟨H, 0, none⟩ = false := frozen_of HH8.out
  have hh := set_at0 (A := .int .i64 200) HH8.out
  have ho : OnlyE (· = H) W8 (W8.setCell ⟨H, 0, none⟩ (.int .i64 200)) := OnlyE.set (E := (· = H)) (OnlyE.refl _ _) (b := H) rfl _
  obtain ⟨W9, hW⟩ : ∃ X, W8.setCell ⟨H, 0, none⟩ (.int .i64 200) = X := ⟨_, rfl⟩
  rw [hW] at hh ho
  have HH9 := Lib.hid hh
  have HS9 := Lib.hid (HS8.out.only ho HL.out.1 HL.out.2.1 HL.out.2.2.1)
  have HB9 := Lib.hid (HB8.out.trans (ho.below (n := w.heap.size) HB8.out.size (fun x e => by have := HL.out; omega)))
  clear hh ho
  go_upto_region 9 with fail
  clear hW fz x0 x1 x2 x3
  have KC := Lib.hid (least_s200 HS9.out)
  obtain ⟨x0, x1, x2, x3⟩ := four_cells HH9.out
  go_wp2_with (go_at_call 22; fail)
  refine KC.out.mono ?_
  rintro e W10 ⟨rfl, hbr⟩
  have HH10 := Lib.hid (box_step (w0 := w) HH9.out hbr)
  have HS10 := Lib.hid (HS9.out.below hbr)
  have HB10 := Lib.hid (HB9.out.trans (hbr.mono HB9.out.size))
  clear hbr x0 x1 x2 x3 KC
  obtain ⟨x0, x1, x2, x3⟩ := four_cells HH10.out
  have fz : W10.frozen? ⟨H, 0, none⟩ = false := frozen_of HH10.out
  have hh := set_at0 (A := .int .i64 150) HH10.out
  have ho : OnlyE (· = H) W10 (W10.setCell ⟨H, 0, none⟩ (.int .i64 150)) := OnlyE.set (E := (· = H)) (OnlyE.refl _ _) (b := H) rfl _
  obtain ⟨W11, hW⟩ : ∃ X, W10.setCell ⟨H, 0, none⟩ (.int .i64 150) = X := ⟨_, rfl⟩
  rw [hW] at hh ho
  have HH11 := Lib.hid hh
  have HS11 := Lib.hid (HS10.out.only ho HL.out.1 HL.out.2.1 HL.out.2.2.1)
  have HB11 := Lib.hid (HB10.out.trans (ho.below (n := w.heap.size) HB10.out.size (fun x e => by have := HL.out; omega)))
  clear hh ho
  go_upto_region 11 with fail
  clear hW fz x0 x1 x2 x3
  have KC := Lib.hid (least_s150 HS11.out)
  obtain ⟨x0, x1, x2, x3⟩ := four_cells HH11.out
  go_wp2_with (go_at_call 22; fail)
  refine KC.out.mono ?_
  rintro e W12 ⟨rfl, hbr⟩
  have HH12 := Lib.hid (box_step (w0 := w) HH11.out hbr)
  have HS12 := Lib.hid (HS11.out.below hbr)
  have HB12 := Lib.hid (HB11.out.trans (hbr.mono HB11.out.size))
  clear hbr x0 x1 x2 x3 KC
  go_wp2_with fail
  refine (KA.out _).mono ?_
  rintro e W13 ⟨rfl, hbr⟩
  have HB13 := Lib.hid (HB12.out.trans (hbr.mono HB12.out.size))
  clear hbr
  go_wp2
  go_ret
  exact ⟨rfl, HB13.out⟩
end Go.Proofs.Ytlcmedfjghcigaa
