/- Contract: Choose, where the lot is valid. -/
import Derived.Test.YtclcconllkfjiaaA10
import Derived.Test.YtclcconllkfjiaaA11
namespace Go.Proofs.Ytclcconllkfjiaa
set_option linter.unusedSimpArgs false
set_option linter.unusedVariables false
open Go.RowKit

theorem isLotB_spec {n g b m u : Int} (h : isLotB n g b m u = true) : (1 ≤ n ∧ n ≤ 50) ∧ (0 ≤ b ∧ b ≤ n) ∧ (0 ≤ g ∧ g ≤ b - 1) ∧ (0 ≤ m ∧ m ≤ 1000) ∧ (0 ≤ u ∧ u ≤ 1000) := by
  unfold isLotB at h
  simp only [Bool.and_eq_true] at h
  obtain ⟨⟨⟨⟨h1, h2⟩, h3⟩, h4⟩, h5⟩ := h
  exact ⟨inB_iff.1 h1, inB_iff.1 h2, inB_iff.1 h3, inB_iff.1 h4, inB_iff.1 h5⟩
set_option maxRecDepth 100000 in
set_option maxHeartbeats 1600000 in
theorem chooses_ok (n : Nat) (g b m u : Int) (w : World) (hv : isLotB (n : Nat) g b m u = true) :
    Calls Try.prog 38 #[lotV (n : Nat) g b m u] w fun e w' => e = .returned (.tuple #[planV ((chooseP n (risksL g b m u)).1 : Nat) ((chooseP n (risksL g b m u)).2 : Nat), .int .i64 0]) ∧ Below w.heap.size w w' := by
  obtain ⟨⟨n1, n2⟩, ⟨b1, b2⟩, ⟨g1, g2⟩, hm, hu⟩ := isLotB_spec hv
  have hn : n ≤ 50 := by omega
  obtain ⟨W0, hW0⟩ : ∃ X, X = (w.alloc (.cells #[.int .i64 (n : Nat), .int .i64 g, .int .i64 b, .int .i64 m, .int .i64 u] 40)).alloc (.cells #[.int .i64 0, .int .i64 0] 23) := ⟨_, rfl⟩
  have hb0 : Below w.heap.size w W0 := by rw [hW0]; exact ((Below.refl _ _).alloc (Nat.le_refl _) _).alloc (by simp) _
  obtain ⟨H, hH⟩ : ∃ H, H = w.heap.size := ⟨_, rfl⟩
  have k0 : W0.heap[H]? = some (.cells #[.int .i64 (n : Nat), .int .i64 g, .int .i64 b, .int .i64 m, .int .i64 u] 40 (0, 0)) := by rw [hW0, hH, Below.heap_alloc _ _ _ (by simp)]; exact alloc_heap _ _
  have k1 : W0.heap[H + 1]? = some (.cells #[.int .i64 0, .int .i64 0] 23 (0, 0)) := by
    rw [hW0, hH]
    have := alloc_heap (w.alloc (.cells #[.int .i64 (n : Nat), .int .i64 g, .int .i64 b, .int .i64 m, .int .i64 u] 40)) (.cells #[.int .i64 0, .int .i64 0] 23)
    simpa using this
  have hlo := fun W => isLot_any (n : Nat) g b m u W
  rw [hv] at hlo
  have hch := fun T W (h : TriAt W T) => choose_any T n g b m u W h hn g1 (by omega) b2 hm hu
  obtain ⟨P, hP⟩ : ∃ P, (chooseP n (risksL g b m u)).1 = P := ⟨_, rfl⟩
  obtain ⟨Q, hQ⟩ : ∃ Q, (chooseP n (risksL g b m u)).2 = Q := ⟨_, rfl⟩
  rw [hP, hQ] at hch
  unfold lotV planV at hch
  unfold lotV
  obtain ⟨c0, c1, c2, c3, c4⟩ := five_cells k0
  have HLO := Lib.hid hlo
  have HCH := Lib.hid hch
  have HPQ := Lib.hid (And.intro hP hQ)
  have HH := Lib.hid hH
  have K0 := Lib.hid k0
  have K1 := Lib.hid k1
  clear hlo hch hP hQ k0 k1 hv
  go_enter Try.func38, Try.ntmps38
  go_wp2_with fail
  rw [← hW0, ← hH]
  clear hW0 hH
  refine (HLO.out _).mono ?_
  rintro e W1 ⟨rfl, hb1⟩
  have j0 := (hb1.block _ (Array.getElem?_eq_some_iff.1 K0.out).1).trans K0.out
  have j1 := (hb1.block _ (Array.getElem?_eq_some_iff.1 K1.out).1).trans K1.out
  have hw1 : Below H w W1 := by rw [HH.out]; exact hb0.trans (hb1.mono hb0.size)
  have hj1 := (Array.getElem?_eq_some_iff.1 j1).1
  have J0 := Lib.hid j0
  have J1 := Lib.hid j1
  clear c0 c1 c2 c3 c4 j0 j1 hb0 hb1
  go_wp2_with fail
  refine wp_region_held_drew (S := fun w' => Below (H + 1) W1 w') (by as_aux_lemma => kernel_rfl) (Below.refl _ _).drew (fun hHeld => ?_)
  refine wpAnyH_take (i := 1) (oi := _) (v := ?_) rfl (by as_aux_lemma => kernel_rfl) (by as_aux_lemma => kernel_rfl) (by as_aux_lemma => kernel_rfl) (fun _ _ _ h => h) (Or.inl ⟨by rfl, ?_⟩) hHeld ?_
  rotate_left
  · intro w1 hSw
    obtain ⟨d0, d1, d2, d3, d4⟩ := five_cells ((hSw.block _ (by omega)).trans J0.out)
    go_simp; with_reducible rfl
  simp only [List.getElem_toArray, List.getElem_cons_succ, List.getElem_cons_zero, Act.put, List.setIfInBounds_toArray, List.set_cons_zero, List.set_cons_succ]
  generalize hY0 : W1.drew = Y0 at hHeld ⊢
  have q1 : Y0.heap[H + 1]? = some (.cells #[.int .i64 0, .int .i64 0] 23 (0, 0)) := by rw [← hY0]; exact J1.out
  clear hY0
  refine wpAnyH_all (rs := [0]) (by as_aux_lemma => kernel_rfl) (by simp) ?_
  intro i hi; obtain rfl := List.mem_singleton.1 hi; clear hi
  refine wpOp_step rfl (fun K3 hK3 => ?_)
  have HK3 := Lib.hid hK3
  clear hK3
  rw [if_pos (by rfl)]
  go_simp
  refine (newTriangle_any _).mono ?_
  rintro e Y1 ⟨T, rfl, -, hT1, hc1⟩
  have hH1 := hHeld.trans (hc1.mono (by have := (Array.getElem?_eq_some_iff.1 q1).1; omega))
  have q1 := (hc1.block _ (Array.getElem?_eq_some_iff.1 q1).1).trans q1
  refine HK3.out _ _ ⟨hH1, ?_⟩
  clear HK3 K3
  try simp only [List.getElem_toArray, List.getElem_cons_succ, List.getElem_cons_zero, Act.put, List.setIfInBounds_toArray, List.set_cons_zero, List.set_cons_succ]
  refine wpAnyH_all (rs := [2]) (by as_aux_lemma => kernel_rfl) (by simp) ?_
  intro i hi; obtain rfl := List.mem_singleton.1 hi; clear hi
  refine wpOp_step rfl (fun K3 hK3 => ?_)
  have HK3 := Lib.hid hK3
  clear hK3
  rw [if_pos (by rfl)]
  go_simp
  refine (HCH.out _ _ hT1).mono ?_
  rintro e Y2 ⟨rfl, hc2⟩
  have hH2 := hH1.trans (hc2.mono (by have := (Array.getElem?_eq_some_iff.1 q1).1; omega))
  have q1 := (hc2.block _ (Array.getElem?_eq_some_iff.1 q1).1).trans q1
  refine HK3.out _ _ ⟨hH2, ?_⟩
  clear HK3 K3
  try simp only [List.getElem_toArray, List.getElem_cons_succ, List.getElem_cons_zero, Act.put, List.setIfInBounds_toArray, List.set_cons_zero, List.set_cons_succ]
  obtain ⟨x0, x1⟩ := two_cells q1
  have f0 : Y2.frozen? ⟨H + 1, 0, none⟩ = false := frozen_of q1
  have f1 : Y2.frozen? ⟨H + 1, 1, none⟩ = false := frozen_of q1
  have hp := two_put q1 (.int .i64 (P : Nat)) (.int .i64 (Q : Nat))
  have hH3 := below_two hH2 (Nat.le_refl (H + 1)) (.int .i64 (P : Nat)) (.int .i64 (Q : Nat))
  refine wpAnyH_all (rs := [3]) (by as_aux_lemma => kernel_rfl) (by simp) ?_
  intro i hi; obtain rfl := List.mem_singleton.1 hi; clear hi
  refine wpOp_step rfl (fun K3 hK3 => ?_)
  have HK3 := Lib.hid hK3
  clear hK3
  rw [if_pos (by rfl)]
  go_simp
  generalize ((Y2.setCell ⟨H + 1, 0, none⟩ (.int .i64 (P : Nat))).setCell ⟨H + 1, 1, none⟩ (.int .i64 (Q : Nat))) = Y3 at hp hH3 ⊢
  refine HK3.out _ _ ⟨hH3, ?_⟩
  clear HK3 K3
  try simp only [List.getElem_toArray, List.getElem_cons_succ, List.getElem_cons_zero, Act.put, List.setIfInBounds_toArray, List.set_cons_zero, List.set_cons_succ]
  refine wpAnyH_all (rs := [4]) (by as_aux_lemma => kernel_rfl) (by simp) ?_
  intro i hi; obtain rfl := List.mem_singleton.1 hi; clear hi
  refine wpOp_step rfl (fun K3 hK3 => ?_)
  have HK3 := Lib.hid hK3
  clear hK3
  rw [if_pos (by rfl)]
  go_simp
  refine HK3.out _ _ ⟨hH3, ?_⟩
  clear HK3 K3
  try simp only [List.getElem_toArray, List.getElem_cons_succ, List.getElem_cons_zero, Act.put, List.setIfInBounds_toArray, List.set_cons_zero, List.set_cons_succ]
  refine wpAnyH_done (by as_aux_lemma => kernel_rfl) ?_ _
  clear x0 x1 f0 f1
  obtain ⟨t0, t1⟩ := two_cells hp
  go_wp2
  exact bodyPost_ret (v := .tuple #[.agg #[.int .i64 (P : Nat), .int .i64 (Q : Nat)], .int .i64 0]) (by simp [results, Try.results38, go_sem, t0, t1]) rfl ⟨by rw [HPQ.out.1, HPQ.out.2]; rfl, by rw [← HH.out]; exact hw1.trans (hH3.mono (by omega))⟩
end Go.Proofs.Ytclcconllkfjiaa
