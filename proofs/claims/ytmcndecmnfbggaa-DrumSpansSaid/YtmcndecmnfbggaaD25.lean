/- Contract: two spans that follow one another. -/
import Derived.Test.YtmcndecmnfbggaaD24
import Derived.Deep.RegionHeld3
namespace Go.Proofs.Ytmcndecmnfbggaa
set_option linter.unusedSimpArgs false
set_option linter.unusedVariables false
open Go.RowKit

set_option maxRecDepth 100000 in
set_option maxHeartbeats 3200000 in
theorem both_any (a1 a2 b1 b2 : Int) (w : World) (ha : -1000000000000 ≤ a2 ∧ a2 ≤ 1000000000000) : Calls Try.prog 55 #[.agg #[.int .i64 a1, .int .i64 a2], .agg #[.int .i64 b1, .int .i64 b2]] w fun e w' => e = .returned (.tuple #[.agg #[.int .i64 a1, .int .i64 b2], .bool (a2 + 1 == b1)]) ∧ Below w.heap.size w w' := by
  obtain ⟨c, hc⟩ : ∃ c, (a2 + 1 == b1) = c := ⟨_, rfl⟩
  rw [hc]
  have HC := Lib.hid hc
  have hw1 : IntKind.i64.wrap (a2 + 1) = a2 + 1 := IntWalk.i64_in _ (by omega)
  obtain ⟨W3, hW3⟩ : ∃ X, X = ((w.alloc (.cells #[.int .i64 a1, .int .i64 a2] 45)).alloc (.cells #[.int .i64 b1, .int .i64 b2] 45)).alloc (.cells #[.int .i64 0, .int .i64 0] 45) := ⟨_, rfl⟩
  have hbw : Below w.heap.size w W3 := by rw [hW3]; repeat (first | exact Below.refl _ _ | refine Below.alloc ?_ (by simp; try omega) _)
  have gA : W3.heap[w.heap.size]? = some (.cells #[.int .i64 a1, .int .i64 a2] 45 (0, 0)) := by
    rw [hW3, Below.heap_alloc _ _ _ (by simp; omega), Below.heap_alloc _ _ _ (by simp)]; exact (MapKept.heap_alloc w _).1
  have gB : W3.heap[w.heap.size + 1]? = some (.cells #[.int .i64 b1, .int .i64 b2] 45 (0, 0)) := by
    rw [hW3, Below.heap_alloc _ _ _ (by simp)]
    have := (MapKept.heap_alloc (w.alloc (.cells #[.int .i64 a1, .int .i64 a2] 45)) (.cells #[.int .i64 b1, .int .i64 b2] 45)).1
    simpa using this
  have gO : W3.heap[w.heap.size + 1 + 1]? = some (.cells #[.int .i64 0, .int .i64 0] 45 (0, 0)) := by
    rw [hW3]
    have := (MapKept.heap_alloc ((w.alloc (.cells #[.int .i64 a1, .int .i64 a2] 45)).alloc (.cells #[.int .i64 b1, .int .i64 b2] 45)) (.cells #[.int .i64 0, .int .i64 0] 45)).1
    simpa using this
  go_enter Try.func55, Try.ntmps55
  go_wp2_with fail
  rw [← hW3]
  clear hW3
  obtain ⟨A, hA⟩ : ∃ x, w.heap.size = x := ⟨_, rfl⟩
  obtain ⟨B, hB⟩ : ∃ x, A + 1 = x := ⟨_, rfl⟩
  obtain ⟨O, hO⟩ : ∃ x, A + 1 + 1 = x := ⟨_, rfl⟩
  rw [hA] at gA gB gO ⊢
  rw [hB] at gB
  rw [hO] at gO
  rw [hO, hB]
  have HA := Lib.hid hA
  have HB := Lib.hid hB
  have HO := Lib.hid hO
  clear hA hB hO hc
  have hOw : w.heap.size ≤ O := by have := HA.out; have := HO.out; omega
  refine wp_region_held_drew (S := fun w' => w'.heap[A]? = some (.cells #[.int .i64 a1, .int .i64 a2] 45) ∧ w'.heap[B]? = some (.cells #[.int .i64 b1, .int .i64 b2] 45)) (by kernel_rfl) ⟨gA, gB⟩ (fun hHeld => ?_)
  obtain ⟨X0, hX0⟩ : ∃ X0, X0 = W3.drew := ⟨_, rfl⟩
  have hbX : Below w.heap.size w X0 := by rw [hX0]; exact below_drewN' hbw 1
  have hS := Lib.hid hHeld
  have hO0 : X0.heap[O]? = some (.cells #[.int .i64 0, .int .i64 0] 45 (0, 0)) := by rw [hX0]; exact gO
  rw [← hX0] at hS ⊢
  clear hX0 hHeld gA gB gO hbw
  refine wpAnyH_take (i := 0) (oi := _) (v := ?_) rfl (by kernel_rfl) (by kernel_rfl) (by kernel_rfl) (fun _ _ _ h => h) (Or.inl ⟨by rfl, ?_⟩) hS.out ?_
  rotate_left
  · intro w1 hSw
    replace hSw : w1.heap[A]? = some (.cells #[.int .i64 a1, .int .i64 a2] 45) ∧ w1.heap[B]? = some (.cells #[.int .i64 b1, .int .i64 b2] 45) := hSw
    obtain ⟨s1, s2⟩ := hSw
    obtain ⟨p0, p1⟩ := two_cells s1
    obtain ⟨q0, q1⟩ := two_cells s2
    clear s1 s2
    go_simp; with_reducible rfl
  simp only [List.getElem_toArray, List.getElem_cons_succ, List.getElem_cons_zero, Act.put, List.setIfInBounds_toArray, List.set_cons_zero, List.set_cons_succ]
  refine wpAnyH_take (i := 1) (oi := _) (v := ?_) rfl (by kernel_rfl) (by kernel_rfl) (by kernel_rfl) (fun _ _ _ h => h) (Or.inl ⟨by rfl, ?_⟩) hS.out ?_
  rotate_left
  · intro w1 hSw
    replace hSw : w1.heap[A]? = some (.cells #[.int .i64 a1, .int .i64 a2] 45) ∧ w1.heap[B]? = some (.cells #[.int .i64 b1, .int .i64 b2] 45) := hSw
    obtain ⟨s1, s2⟩ := hSw
    obtain ⟨p0, p1⟩ := two_cells s1
    obtain ⟨q0, q1⟩ := two_cells s2
    clear s1 s2
    go_simp; with_reducible rfl
  simp only [List.getElem_toArray, List.getElem_cons_succ, List.getElem_cons_zero, Act.put, List.setIfInBounds_toArray, List.set_cons_zero, List.set_cons_succ]
  refine wpAnyH_take (i := 2) (oi := _) (v := ?_) rfl (by kernel_rfl) (by kernel_rfl) (by kernel_rfl) (fun _ _ _ h => h) (Or.inl ⟨by rfl, ?_⟩) hS.out ?_
  rotate_left
  · intro w1 hSw
    replace hSw : w1.heap[A]? = some (.cells #[.int .i64 a1, .int .i64 a2] 45) ∧ w1.heap[B]? = some (.cells #[.int .i64 b1, .int .i64 b2] 45) := hSw
    obtain ⟨s1, s2⟩ := hSw
    obtain ⟨p0, p1⟩ := two_cells s1
    obtain ⟨q0, q1⟩ := two_cells s2
    clear s1 s2
    go_simp; with_reducible rfl
  simp only [List.getElem_toArray, List.getElem_cons_succ, List.getElem_cons_zero, Act.put, List.setIfInBounds_toArray, List.set_cons_zero, List.set_cons_succ]
  refine wpAnyH_take (i := 3) (oi := _) (v := ?_) rfl (by kernel_rfl) (by kernel_rfl) (by kernel_rfl) (fun _ _ _ h => h) (Or.inl ⟨by rfl, ?_⟩) hS.out ?_
  rotate_left
  · intro w1 hSw
    replace hSw : w1.heap[A]? = some (.cells #[.int .i64 a1, .int .i64 a2] 45) ∧ w1.heap[B]? = some (.cells #[.int .i64 b1, .int .i64 b2] 45) := hSw
    obtain ⟨s1, s2⟩ := hSw
    obtain ⟨p0, p1⟩ := two_cells s1
    obtain ⟨q0, q1⟩ := two_cells s2
    clear s1 s2
    go_simp; with_reducible rfl
  simp only [List.getElem_toArray, List.getElem_cons_succ, List.getElem_cons_zero, Act.put, List.setIfInBounds_toArray, List.set_cons_zero, List.set_cons_succ]
  refine wpAnyH_take (i := 4) (oi := _) (v := ?_) rfl (by kernel_rfl) (by kernel_rfl) (by kernel_rfl) (fun _ _ _ h => h) (Or.inl ⟨by rfl, ?_⟩) hS.out ?_
  rotate_left
  · intro w1 hSw
    replace hSw : w1.heap[A]? = some (.cells #[.int .i64 a1, .int .i64 a2] 45) ∧ w1.heap[B]? = some (.cells #[.int .i64 b1, .int .i64 b2] 45) := hSw
    obtain ⟨s1, s2⟩ := hSw
    obtain ⟨p0, p1⟩ := two_cells s1
    obtain ⟨q0, q1⟩ := two_cells s2
    clear s1 s2
    go_simp; with_reducible rfl
  simp only [List.getElem_toArray, List.getElem_cons_succ, List.getElem_cons_zero, Act.put, List.setIfInBounds_toArray, List.set_cons_zero, List.set_cons_succ]
  refine wpAnyH_take (i := 5) (oi := _) (v := ?_) rfl (by kernel_rfl) (by kernel_rfl) (by kernel_rfl) (fun _ _ _ h => h) (Or.inl ⟨by rfl, ?_⟩) hS.out ?_
  rotate_left
  · intro w1 hSw
    replace hSw : w1.heap[A]? = some (.cells #[.int .i64 a1, .int .i64 a2] 45) ∧ w1.heap[B]? = some (.cells #[.int .i64 b1, .int .i64 b2] 45) := hSw
    obtain ⟨s1, s2⟩ := hSw
    obtain ⟨p0, p1⟩ := two_cells s1
    obtain ⟨q0, q1⟩ := two_cells s2
    clear s1 s2
    go_simp; with_reducible rfl
  simp only [List.getElem_toArray, List.getElem_cons_succ, List.getElem_cons_zero, Act.put, List.setIfInBounds_toArray, List.set_cons_zero, List.set_cons_succ]
  refine wpAnyH_take (i := 6) (oi := _) (v := ?_) rfl (by kernel_rfl) (by kernel_rfl) (by kernel_rfl) (fun _ _ _ h => h) (Or.inl ⟨by rfl, ?_⟩) hS.out ?_
  rotate_left
  · intro w1 hSw
    replace hSw : w1.heap[A]? = some (.cells #[.int .i64 a1, .int .i64 a2] 45) ∧ w1.heap[B]? = some (.cells #[.int .i64 b1, .int .i64 b2] 45) := hSw
    obtain ⟨s1, s2⟩ := hSw
    obtain ⟨p0, p1⟩ := two_cells s1
    obtain ⟨q0, q1⟩ := two_cells s2
    clear s1 s2
    go_simp; with_reducible rfl
  simp only [List.getElem_toArray, List.getElem_cons_succ, List.getElem_cons_zero, Act.put, List.setIfInBounds_toArray, List.set_cons_zero, List.set_cons_succ]
  refine wpAnyH_take (i := 7) (oi := _) (v := ?_) rfl (by kernel_rfl) (by kernel_rfl) (by kernel_rfl) (fun _ _ _ h => h) (Or.inl ⟨by rfl, ?_⟩) hS.out ?_
  rotate_left
  · intro w1 hSw
    replace hSw : w1.heap[A]? = some (.cells #[.int .i64 a1, .int .i64 a2] 45) ∧ w1.heap[B]? = some (.cells #[.int .i64 b1, .int .i64 b2] 45) := hSw
    obtain ⟨s1, s2⟩ := hSw
    obtain ⟨p0, p1⟩ := two_cells s1
    obtain ⟨q0, q1⟩ := two_cells s2
    clear s1 s2
    go_simp; with_reducible rfl
  simp only [List.getElem_toArray, List.getElem_cons_succ, List.getElem_cons_zero, Act.put, List.setIfInBounds_toArray, List.set_cons_zero, List.set_cons_succ]
  refine wpAnyH_take (i := 8) (oi := _) (v := ?_) rfl (by kernel_rfl) (by kernel_rfl) (by kernel_rfl) (fun _ _ _ h => h) (Or.inl ⟨by rfl, ?_⟩) hS.out ?_
  rotate_left
  · intro w1 hSw
    replace hSw : w1.heap[A]? = some (.cells #[.int .i64 a1, .int .i64 a2] 45) ∧ w1.heap[B]? = some (.cells #[.int .i64 b1, .int .i64 b2] 45) := hSw
    obtain ⟨s1, s2⟩ := hSw
    obtain ⟨p0, p1⟩ := two_cells s1
    obtain ⟨q0, q1⟩ := two_cells s2
    clear s1 s2
    go_simp; with_reducible rfl
  simp only [List.getElem_toArray, List.getElem_cons_succ, List.getElem_cons_zero, Act.put, List.setIfInBounds_toArray, List.set_cons_zero, List.set_cons_succ]
  refine wpAnyH_take (i := 9) (oi := _) (v := ?_) rfl (by kernel_rfl) (by kernel_rfl) (by kernel_rfl) (fun _ _ _ h => h) (Or.inl ⟨by rfl, ?_⟩) hS.out ?_
  rotate_left
  · intro w1 hSw
    replace hSw : w1.heap[A]? = some (.cells #[.int .i64 a1, .int .i64 a2] 45) ∧ w1.heap[B]? = some (.cells #[.int .i64 b1, .int .i64 b2] 45) := hSw
    obtain ⟨s1, s2⟩ := hSw
    obtain ⟨p0, p1⟩ := two_cells s1
    obtain ⟨q0, q1⟩ := two_cells s2
    clear s1 s2
    go_simp; with_reducible rfl
  simp only [List.getElem_toArray, List.getElem_cons_succ, List.getElem_cons_zero, Act.put, List.setIfInBounds_toArray, List.set_cons_zero, List.set_cons_succ]
  refine wpAnyH_take (i := 10) (oi := _) (v := ?_) rfl (by kernel_rfl) (by kernel_rfl) (by kernel_rfl) (fun _ _ _ h => h) (Or.inl ⟨by rfl, ?_⟩) hS.out ?_
  rotate_left
  · intro w1 hSw
    replace hSw : w1.heap[A]? = some (.cells #[.int .i64 a1, .int .i64 a2] 45) ∧ w1.heap[B]? = some (.cells #[.int .i64 b1, .int .i64 b2] 45) := hSw
    obtain ⟨s1, s2⟩ := hSw
    obtain ⟨p0, p1⟩ := two_cells s1
    obtain ⟨q0, q1⟩ := two_cells s2
    clear s1 s2
    have hcc := HC.out
    go_simp; with_reducible rfl
  simp only [List.getElem_toArray, List.getElem_cons_succ, List.getElem_cons_zero, Act.put, List.setIfInBounds_toArray, List.set_cons_zero, List.set_cons_succ]
  obtain ⟨u0, u1⟩ := two_cells hO0
  have uf := frozen_of hO0
  refine wpAnyH_all (rs := [11]) (by kernel_rfl) (by simp) ?_
  intro i hi; obtain rfl := List.mem_singleton.1 hi; clear hi
  refine wpOp_step rfl (fun K3 hK3 => ?_)
  have HK3 := Lib.hid hK3
  clear hK3
  rw [if_pos (by rfl)]
  go_simp
  obtain ⟨xe, hxe⟩ : ∃ Z, Z = (X0.setCell ⟨O, 0, none⟩ (.int .i64 a1)).setCell ⟨O, 1, none⟩ (.int .i64 b2) := ⟨_, rfl⟩
  have hO2 := Lib.hid (show xe.heap[O]? = some (.cells #[.int .i64 a1, .int .i64 b2] 45 (0, 0)) by rw [hxe]; exact set_two hO0)
  have hbE : Below w.heap.size w xe := by rw [hxe]; exact (hbX.setCell (p := ⟨O, 0, none⟩) hOw _).setCell (p := ⟨O, 1, none⟩) hOw _
  have hS2 : RowKit.Hid (xe.heap[A]? = some (.cells #[.int .i64 a1, .int .i64 a2] 45) ∧ xe.heap[B]? = some (.cells #[.int .i64 b1, .int .i64 b2] 45)) := Lib.hid (by
    have n1 : A ≠ O := by have := HO.out; omega
    have n2 : B ≠ O := by have := HO.out; have := HB.out; omega
    have hoth : ∀ k, k ≠ O → xe.heap[k]? = X0.heap[k]? := fun k hk => by rw [hxe]; exact (Below.heap_setCell _ _ _ k (fun e => hk (by rw [e]))).trans (Below.heap_setCell _ _ _ k (fun e => hk (by rw [e])))
    exact ⟨(hoth A n1).trans hS.out.1, (hoth B n2).trans hS.out.2⟩)
  rw [← hxe]
  clear hxe u0 u1 uf hbX hS
  refine HK3.out _ _ ⟨hS2.out, ?_⟩
  clear HK3 K3
  try simp only [List.getElem_toArray, List.getElem_cons_succ, List.getElem_cons_zero, Act.put, List.setIfInBounds_toArray, List.set_cons_zero, List.set_cons_succ]
  refine wpAnyH_take (i := 12) (oi := _) (v := ?_) rfl (by kernel_rfl) (by kernel_rfl) (by kernel_rfl) (fun _ _ _ h => h) (Or.inl ⟨by rfl, ?_⟩) hS2.out ?_
  rotate_left
  · intro w1 hSw
    replace hSw : w1.heap[A]? = some (.cells #[.int .i64 a1, .int .i64 a2] 45) ∧ w1.heap[B]? = some (.cells #[.int .i64 b1, .int .i64 b2] 45) := hSw
    obtain ⟨s1, s2⟩ := hSw
    obtain ⟨p0, p1⟩ := two_cells s1
    obtain ⟨q0, q1⟩ := two_cells s2
    clear s1 s2
    go_simp; with_reducible rfl
  simp only [List.getElem_toArray, List.getElem_cons_succ, List.getElem_cons_zero, Act.put, List.setIfInBounds_toArray, List.set_cons_zero, List.set_cons_succ]
  refine wpAnyH_done (by kernel_rfl) ?_ _
  go_wp2
  obtain ⟨z0, z1⟩ := two_cells hO2.out
  refine bodyPost_ret (v := .tuple #[.agg #[.int .i64 a1, .int .i64 b2], .bool c]) (by simp [results, Try.results55, go_sem, z0, z1]) rfl ⟨rfl, hbE⟩
end Go.Proofs.Ytmcndecmnfbggaa
