/- (trial).with: a pair more; case of so many pairs. -/
import Derived.Test.YtoiapnokgpeipaaA5
import Derived.Test.YtoiapnokgpeipaaG1
import Derived.Deep.DrawnRows
namespace Go.Proofs.Ytoiapnokgpeipaa
open Go.RowKit Go.Maps Go.Sort
attribute [local go_sem ↓] Go.wp_at_zero Go.wp_at_succ
set_option linter.unusedSimpArgs false

set_option maxRecDepth 100000 in
set_option maxHeartbeats 3200000 in
theorem with_0 (a0 a1 a2 a3 a4 a5 i d n x y : Int) (w : World) (hd : 1 ≤ d ∧ d ≤ 10000) (hn : 1 ≤ n ∧ n ≤ 10000) (hx : 6 ≤ x ∧ x ≤ 100) (hy : 6 ≤ y ∧ y ≤ 100) :
    Calls Try.prog 67 #[.agg #[.int .i64 a0, .int .i64 a1, .int .i64 a2, .int .i64 a3, .int .i64 a4, .int .i64 a5, .int .i64 0, .int .i64 i, .int .i64 d, .int .i64 n], .agg #[.int .i64 x, .int .i64 y]] w fun e w' =>
      e = .returned (.agg #[.int .i64 x, .int .i64 y, .int .i64 a2, .int .i64 a3, .int .i64 a4, .int .i64 a5, .int .i64 1, .int .i64 i, .int .i64 (d * x), .int .i64 (n * y)]) ∧ Below w.heap.size w w' := by
  have p1 := mul_bd (x := d) (y := x) (by omega) hd.2 (by omega) hx.2
  have p2 := mul_bd (x := n) (y := y) (by omega) hn.2 (by omega) hy.2
  go_enter Try.func67, Try.ntmps67
  go_wp2_with fail
  refine wp_region_last (fun w' => w'.cell? ⟨w.heap.size, 8, none⟩ = some (.int .i64 d) ∧ w'.cell? ⟨w.heap.size, 9, none⟩ = some (.int .i64 n) ∧ w'.cell? ⟨w.heap.size + 1, 0, none⟩ = some (.int .i64 x) ∧ w'.cell? ⟨w.heap.size + 1, 1, none⟩ = some (.int .i64 y)) 16 (by kernel_rfl) ?_ (fun hHeld => ?_)
  · refine ⟨?_, ?_, ?_, ?_⟩ <;> go_simp
  refine wpLast_take (i := 0) (oi := _) (v := ?_) rfl (by kernel_rfl) (by kernel_rfl) (by decide) (by kernel_rfl) (by kernel_rfl) (fun _ _ _ h => h) (Or.inl ⟨by rfl, ?_⟩) hHeld ?_
  rotate_left
  · intro w hSw; obtain ⟨s8, s9, s0, s1⟩ := hSw; go_simp; with_reducible rfl
  simp only [Act.put, List.setIfInBounds_toArray, List.set_cons_zero, List.set_cons_succ]
  refine wpLast_take (i := 1) (oi := _) (v := ?_) rfl (by kernel_rfl) (by kernel_rfl) (by decide) (by kernel_rfl) (by kernel_rfl) (fun _ _ _ h => h) (Or.inl ⟨by rfl, ?_⟩) hHeld ?_
  rotate_left
  · intro w hSw; obtain ⟨s8, s9, s0, s1⟩ := hSw; go_simp; with_reducible rfl
  simp only [Act.put, List.setIfInBounds_toArray, List.set_cons_zero, List.set_cons_succ]
  refine wpLast_take (i := 2) (oi := _) (v := ?_) rfl (by kernel_rfl) (by kernel_rfl) (by decide) (by kernel_rfl) (by kernel_rfl) (fun _ _ _ h => h) (Or.inl ⟨by rfl, ?_⟩) hHeld ?_
  rotate_left
  · intro w hSw; obtain ⟨s8, s9, s0, s1⟩ := hSw; go_simp; with_reducible rfl
  simp only [Act.put, List.setIfInBounds_toArray, List.set_cons_zero, List.set_cons_succ]
  refine wpLast_take (i := 3) (oi := _) (v := ?_) rfl (by kernel_rfl) (by kernel_rfl) (by decide) (by kernel_rfl) (by kernel_rfl) (fun _ _ _ h => h) (Or.inl ⟨by rfl, ?_⟩) hHeld ?_
  rotate_left
  · intro w hSw; obtain ⟨s8, s9, s0, s1⟩ := hSw; go_simp; with_reducible rfl
  simp only [Act.put, List.setIfInBounds_toArray, List.set_cons_zero, List.set_cons_succ]
  refine wpLast_take (i := 4) (oi := _) (v := ?_) rfl (by kernel_rfl) (by kernel_rfl) (by decide) (by kernel_rfl) (by kernel_rfl) (fun _ _ _ h => h) (Or.inl ⟨by rfl, ?_⟩) hHeld ?_
  rotate_left
  · intro w hSw; obtain ⟨s8, s9, s0, s1⟩ := hSw; go_simp; with_reducible rfl
  simp only [Act.put, List.setIfInBounds_toArray, List.set_cons_zero, List.set_cons_succ]
  refine wpLast_take (i := 7) (oi := _) (v := ?_) rfl (by kernel_rfl) (by kernel_rfl) (by decide) (by kernel_rfl) (by kernel_rfl) (fun _ _ _ h => h) (Or.inl ⟨by rfl, ?_⟩) hHeld ?_
  rotate_left
  · intro w hSw; obtain ⟨s8, s9, s0, s1⟩ := hSw; go_simp; with_reducible rfl
  simp only [Act.put, List.setIfInBounds_toArray, List.set_cons_zero, List.set_cons_succ]
  refine wpLast_take (i := 8) (oi := _) (v := ?_) rfl (by kernel_rfl) (by kernel_rfl) (by decide) (by kernel_rfl) (by kernel_rfl) (fun _ _ _ h => h) (Or.inl ⟨by rfl, ?_⟩) hHeld ?_
  rotate_left
  · intro w hSw; obtain ⟨s8, s9, s0, s1⟩ := hSw; go_simp; with_reducible rfl
  simp only [Act.put, List.setIfInBounds_toArray, List.set_cons_zero, List.set_cons_succ]
  refine wpLast_take (i := 9) (oi := _) (v := ?_) rfl (by kernel_rfl) (by kernel_rfl) (by decide) (by kernel_rfl) (by kernel_rfl) (fun _ _ _ h => h) (Or.inl ⟨by rfl, ?_⟩) hHeld ?_
  rotate_left
  · intro w hSw; obtain ⟨s8, s9, s0, s1⟩ := hSw; go_simp; with_reducible rfl
  simp only [Act.put, List.setIfInBounds_toArray, List.set_cons_zero, List.set_cons_succ]
  refine wpLast_take (i := 10) (oi := _) (v := ?_) rfl (by kernel_rfl) (by kernel_rfl) (by decide) (by kernel_rfl) (by kernel_rfl) (fun _ _ _ h => h) (Or.inl ⟨by rfl, ?_⟩) hHeld ?_
  rotate_left
  · intro w hSw; obtain ⟨s8, s9, s0, s1⟩ := hSw; go_simp; with_reducible rfl
  simp only [Act.put, List.setIfInBounds_toArray, List.set_cons_zero, List.set_cons_succ]
  refine wpLast_take (i := 11) (oi := _) (v := ?_) rfl (by kernel_rfl) (by kernel_rfl) (by decide) (by kernel_rfl) (by kernel_rfl) (fun _ _ _ h => h) (Or.inl ⟨by rfl, ?_⟩) hHeld ?_
  rotate_left
  · intro w hSw; obtain ⟨s8, s9, s0, s1⟩ := hSw; go_simp; with_reducible rfl
  simp only [Act.put, List.setIfInBounds_toArray, List.set_cons_zero, List.set_cons_succ]
  refine wpLast_ready (rs := [5, 12]) (by kernel_rfl) (by simp) ?_
  intro i hi; rcases List.mem_cons.1 hi with rfl | hi
  · clear hi
    refine wpOp_step rfl (fun K hK => ?_)
    have HK := Lib.hid hK
    clear hK
    rw [if_pos (by rfl)]
    go_simp
    clear hHeld
    refine HK.out _ _ ⟨fun _ => ?_, fun hHeld => ?_⟩
    · refine ⟨?_, ?_, ?_, ?_⟩ <;> go_simp
    clear HK K
    replace hHeld := hHeld (by decide)
    refine wpLast_ready (rs := [6, 12]) (by kernel_rfl) (by simp) ?_
    intro i hi; rcases List.mem_cons.1 hi with rfl | hi
    · clear hi
      refine wpOp_step rfl (fun K hK => ?_)
      have HK := Lib.hid hK
      clear hK
      rw [if_pos (by rfl)]
      go_simp
      refine Calls.mono (product_two d x _ _ (by omega) (by omega) (by omega) (by omega) (by go_simp) (by go_simp)) ?_
      rintro e w9 ⟨rfl, rfl⟩
      try simp only [Act.put, List.setIfInBounds_toArray, List.set_cons_zero, List.set_cons_succ]
      clear hHeld
      refine HK.out _ _ ⟨fun _ => ?_, fun hHeld => ?_⟩
      · refine ⟨?_, ?_, ?_, ?_⟩ <;> go_simp
      clear HK K
      replace hHeld := hHeld (by decide)
      refine wpLast_ready (rs := [12]) (by kernel_rfl) (by simp) ?_
      intro i hi; obtain rfl := List.mem_singleton.1 hi; clear hi
      refine wpOp_step rfl (fun K hK => ?_)
      have HK := Lib.hid hK
      clear hK
      rw [if_pos (by rfl)]
      go_simp
      clear hHeld
      refine HK.out _ _ ⟨fun _ => ?_, fun hHeld => ?_⟩
      · refine ⟨?_, ?_, ?_, ?_⟩ <;> go_simp
      clear HK K
      replace hHeld := hHeld (by decide)
      refine wpLast_ready (rs := [13]) (by kernel_rfl) (by simp) ?_
      intro i hi; obtain rfl := List.mem_singleton.1 hi; clear hi
      refine wpOp_step rfl (fun K hK => ?_)
      have HK := Lib.hid hK
      clear hK
      rw [if_pos (by rfl)]
      go_simp
      refine Calls.mono (product_two n y _ _ (by omega) (by omega) (by omega) (by omega) (by go_simp) (by go_simp)) ?_
      rintro e w9 ⟨rfl, rfl⟩
      try simp only [Act.put, List.setIfInBounds_toArray, List.set_cons_zero, List.set_cons_succ]
      clear hHeld
      refine HK.out _ _ ⟨fun _ => ?_, fun hHeld => ?_⟩
      · refine ⟨?_, ?_, ?_, ?_⟩ <;> go_simp
      clear HK K
      replace hHeld := hHeld (by decide)
      refine wpLast_take (i := 14) (oi := _) (v := ?_) rfl (by kernel_rfl) (by kernel_rfl) (by decide) (by kernel_rfl) (by kernel_rfl) (fun _ _ _ h => h) (Or.inl ⟨by rfl, ?_⟩) hHeld ?_
      rotate_left
      · intro w hSw; go_simp; with_reducible rfl
      simp only [Act.put, List.setIfInBounds_toArray, List.set_cons_zero, List.set_cons_succ]
      refine wpLast_take (i := 15) (oi := _) (v := ?_) rfl (by kernel_rfl) (by kernel_rfl) (by decide) (by kernel_rfl) (by kernel_rfl) (fun _ _ _ h => h) (Or.inl ⟨by rfl, ?_⟩) hHeld ?_
      rotate_left
      · intro w hSw; go_simp; with_reducible rfl
      simp only [Act.put, List.setIfInBounds_toArray, List.set_cons_zero, List.set_cons_succ]
      refine wpLast_ready (rs := [16]) (by kernel_rfl) (by simp) ?_
      intro i hi; obtain rfl := List.mem_singleton.1 hi; clear hi
      refine wpOp_step rfl (fun K hK => ?_)
      have HK := Lib.hid hK
      clear hK
      rw [if_pos (by rfl)]
      go_simp
      refine HK.out _ _ ⟨fun h => absurd rfl h, fun _ => wpLast_done (by kernel_rfl) ?_ _⟩
      clear HK K
      go_wp2
      refine bodyPost_ret (v := .agg #[.int .i64 x, .int .i64 y, .int .i64 a2, .int .i64 a3, .int .i64 a4, .int .i64 a5, .int .i64 1, .int .i64 i, .int .i64 (d * x), .int .i64 (n * y)]) (by simp [results, Try.results67, go_sem]) rfl ⟨rfl, ?_⟩
      repeat (first | exact Below.refl _ _ | refine Below.setCell ?_ (by simp) _ | refine Below.alloc ?_ (by simp; try omega) _ | refine Below.drew ?_)
    obtain rfl := List.mem_singleton.1 hi; clear hi
    refine wpOp_step rfl (fun K hK => ?_)
    have HK := Lib.hid hK
    clear hK
    rw [if_pos (by rfl)]
    go_simp
    clear hHeld
    refine HK.out _ _ ⟨fun _ => ?_, fun hHeld => ?_⟩
    · refine ⟨?_, ?_, ?_, ?_⟩ <;> go_simp
    clear HK K
    replace hHeld := hHeld (by decide)
    refine wpLast_ready (rs := [6]) (by kernel_rfl) (by simp) ?_
    intro i hi; obtain rfl := List.mem_singleton.1 hi; clear hi
    refine wpOp_step rfl (fun K hK => ?_)
    have HK := Lib.hid hK
    clear hK
    rw [if_pos (by rfl)]
    go_simp
    refine Calls.mono (product_two d x _ _ (by omega) (by omega) (by omega) (by omega) (by go_simp) (by go_simp)) ?_
    rintro e w9 ⟨rfl, rfl⟩
    try simp only [Act.put, List.setIfInBounds_toArray, List.set_cons_zero, List.set_cons_succ]
    clear hHeld
    refine HK.out _ _ ⟨fun _ => ?_, fun hHeld => ?_⟩
    · refine ⟨?_, ?_, ?_, ?_⟩ <;> go_simp
    clear HK K
    replace hHeld := hHeld (by decide)
    refine wpLast_ready (rs := [13]) (by kernel_rfl) (by simp) ?_
    intro i hi; obtain rfl := List.mem_singleton.1 hi; clear hi
    refine wpOp_step rfl (fun K hK => ?_)
    have HK := Lib.hid hK
    clear hK
    rw [if_pos (by rfl)]
    go_simp
    refine Calls.mono (product_two n y _ _ (by omega) (by omega) (by omega) (by omega) (by go_simp) (by go_simp)) ?_
    rintro e w9 ⟨rfl, rfl⟩
    try simp only [Act.put, List.setIfInBounds_toArray, List.set_cons_zero, List.set_cons_succ]
    clear hHeld
    refine HK.out _ _ ⟨fun _ => ?_, fun hHeld => ?_⟩
    · refine ⟨?_, ?_, ?_, ?_⟩ <;> go_simp
    clear HK K
    replace hHeld := hHeld (by decide)
    refine wpLast_take (i := 14) (oi := _) (v := ?_) rfl (by kernel_rfl) (by kernel_rfl) (by decide) (by kernel_rfl) (by kernel_rfl) (fun _ _ _ h => h) (Or.inl ⟨by rfl, ?_⟩) hHeld ?_
    rotate_left
    · intro w hSw; go_simp; with_reducible rfl
    simp only [Act.put, List.setIfInBounds_toArray, List.set_cons_zero, List.set_cons_succ]
    refine wpLast_take (i := 15) (oi := _) (v := ?_) rfl (by kernel_rfl) (by kernel_rfl) (by decide) (by kernel_rfl) (by kernel_rfl) (fun _ _ _ h => h) (Or.inl ⟨by rfl, ?_⟩) hHeld ?_
    rotate_left
    · intro w hSw; go_simp; with_reducible rfl
    simp only [Act.put, List.setIfInBounds_toArray, List.set_cons_zero, List.set_cons_succ]
    refine wpLast_ready (rs := [16]) (by kernel_rfl) (by simp) ?_
    intro i hi; obtain rfl := List.mem_singleton.1 hi; clear hi
    refine wpOp_step rfl (fun K hK => ?_)
    have HK := Lib.hid hK
    clear hK
    rw [if_pos (by rfl)]
    go_simp
    refine HK.out _ _ ⟨fun h => absurd rfl h, fun _ => wpLast_done (by kernel_rfl) ?_ _⟩
    clear HK K
    go_wp2
    refine bodyPost_ret (v := .agg #[.int .i64 x, .int .i64 y, .int .i64 a2, .int .i64 a3, .int .i64 a4, .int .i64 a5, .int .i64 1, .int .i64 i, .int .i64 (d * x), .int .i64 (n * y)]) (by simp [results, Try.results67, go_sem]) rfl ⟨rfl, ?_⟩
    repeat (first | exact Below.refl _ _ | refine Below.setCell ?_ (by simp) _ | refine Below.alloc ?_ (by simp; try omega) _ | refine Below.drew ?_)
  obtain rfl := List.mem_singleton.1 hi; clear hi
  refine wpOp_step rfl (fun K hK => ?_)
  have HK := Lib.hid hK
  clear hK
  rw [if_pos (by rfl)]
  go_simp
  clear hHeld
  refine HK.out _ _ ⟨fun _ => ?_, fun hHeld => ?_⟩
  · refine ⟨?_, ?_, ?_, ?_⟩ <;> go_simp
  clear HK K
  replace hHeld := hHeld (by decide)
  refine wpLast_ready (rs := [5]) (by kernel_rfl) (by simp) ?_
  intro i hi; obtain rfl := List.mem_singleton.1 hi; clear hi
  refine wpOp_step rfl (fun K hK => ?_)
  have HK := Lib.hid hK
  clear hK
  rw [if_pos (by rfl)]
  go_simp
  clear hHeld
  refine HK.out _ _ ⟨fun _ => ?_, fun hHeld => ?_⟩
  · refine ⟨?_, ?_, ?_, ?_⟩ <;> go_simp
  clear HK K
  replace hHeld := hHeld (by decide)
  refine wpLast_ready (rs := [6]) (by kernel_rfl) (by simp) ?_
  intro i hi; obtain rfl := List.mem_singleton.1 hi; clear hi
  refine wpOp_step rfl (fun K hK => ?_)
  have HK := Lib.hid hK
  clear hK
  rw [if_pos (by rfl)]
  go_simp
  refine Calls.mono (product_two d x _ _ (by omega) (by omega) (by omega) (by omega) (by go_simp) (by go_simp)) ?_
  rintro e w9 ⟨rfl, rfl⟩
  try simp only [Act.put, List.setIfInBounds_toArray, List.set_cons_zero, List.set_cons_succ]
  clear hHeld
  refine HK.out _ _ ⟨fun _ => ?_, fun hHeld => ?_⟩
  · refine ⟨?_, ?_, ?_, ?_⟩ <;> go_simp
  clear HK K
  replace hHeld := hHeld (by decide)
  refine wpLast_ready (rs := [13]) (by kernel_rfl) (by simp) ?_
  intro i hi; obtain rfl := List.mem_singleton.1 hi; clear hi
  refine wpOp_step rfl (fun K hK => ?_)
  have HK := Lib.hid hK
  clear hK
  rw [if_pos (by rfl)]
  go_simp
  refine Calls.mono (product_two n y _ _ (by omega) (by omega) (by omega) (by omega) (by go_simp) (by go_simp)) ?_
  rintro e w9 ⟨rfl, rfl⟩
  try simp only [Act.put, List.setIfInBounds_toArray, List.set_cons_zero, List.set_cons_succ]
  clear hHeld
  refine HK.out _ _ ⟨fun _ => ?_, fun hHeld => ?_⟩
  · refine ⟨?_, ?_, ?_, ?_⟩ <;> go_simp
  clear HK K
  replace hHeld := hHeld (by decide)
  refine wpLast_take (i := 14) (oi := _) (v := ?_) rfl (by kernel_rfl) (by kernel_rfl) (by decide) (by kernel_rfl) (by kernel_rfl) (fun _ _ _ h => h) (Or.inl ⟨by rfl, ?_⟩) hHeld ?_
  rotate_left
  · intro w hSw; go_simp; with_reducible rfl
  simp only [Act.put, List.setIfInBounds_toArray, List.set_cons_zero, List.set_cons_succ]
  refine wpLast_take (i := 15) (oi := _) (v := ?_) rfl (by kernel_rfl) (by kernel_rfl) (by decide) (by kernel_rfl) (by kernel_rfl) (fun _ _ _ h => h) (Or.inl ⟨by rfl, ?_⟩) hHeld ?_
  rotate_left
  · intro w hSw; go_simp; with_reducible rfl
  simp only [Act.put, List.setIfInBounds_toArray, List.set_cons_zero, List.set_cons_succ]
  refine wpLast_ready (rs := [16]) (by kernel_rfl) (by simp) ?_
  intro i hi; obtain rfl := List.mem_singleton.1 hi; clear hi
  refine wpOp_step rfl (fun K hK => ?_)
  have HK := Lib.hid hK
  clear hK
  rw [if_pos (by rfl)]
  go_simp
  refine HK.out _ _ ⟨fun h => absurd rfl h, fun _ => wpLast_done (by kernel_rfl) ?_ _⟩
  clear HK K
  go_wp2
  refine bodyPost_ret (v := .agg #[.int .i64 x, .int .i64 y, .int .i64 a2, .int .i64 a3, .int .i64 a4, .int .i64 a5, .int .i64 1, .int .i64 i, .int .i64 (d * x), .int .i64 (n * y)]) (by simp [results, Try.results67, go_sem]) rfl ⟨rfl, ?_⟩
  repeat (first | exact Below.refl _ _ | refine Below.setCell ?_ (by simp) _ | refine Below.alloc ?_ (by simp; try omega) _ | refine Below.drew ?_)


end Go.Proofs.Ytoiapnokgpeipaa
