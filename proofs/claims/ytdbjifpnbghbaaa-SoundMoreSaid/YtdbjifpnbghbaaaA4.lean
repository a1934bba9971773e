/- Sound: by. -/
import Derived.Test.YtdbjifpnbghbaaaA3
namespace Go.Proofs.Ytdbjifpnbghbaaa
set_option linter.unusedSimpArgs false
set_option linter.unusedVariables false
open Go.RowKit Go.Maps Go.BigFrame

set_option maxRecDepth 100000 in
set_option maxHeartbeats 3200000 in
theorem by_any (n0 n1 d : Int) (h0 : -100000000000000 ≤ n0 ∧ n0 ≤ 100000000000000) (h1 : -100000000000000 ≤ n1 ∧ n1 ≤ 100000000000000) (hd : d ≠ 0) (w : World) : Calls Try.prog 59 #[.agg #[.int .i64 n0, .int .i64 n1], .int .i64 d] w fun e w' => e = .returned (spV (byF n0 n1 d)) ∧ Below w.heap.size w w' := by
  obtain ⟨W0, hW0⟩ : ∃ X, X = (w.alloc (.cells #[.int .i64 n0, .int .i64 n1] 98)).alloc (.cells #[.int .i64 0, .int .i64 0] 24) := ⟨_, rfl⟩
  have hal : W0 = al w [(.cells #[.int .i64 n0, .int .i64 n1] 98), (.cells #[.int .i64 0, .int .i64 0] 24)] := hW0
  have hb0 : Below w.heap.size w W0 := by rw [hal]; exact al_below w _ (Nat.le_refl _)
  have hs0 : W0.heap.size = w.heap.size + 2 := by rw [hal]; exact al_size w _
  have hr0 : W0.heap[w.heap.size]? = some (.cells #[.int .i64 n0, .int .i64 n1] 98 (0, 0)) := by rw [hal]; exact al_get w _ 0 _ rfl
  have hr1 : W0.heap[w.heap.size + 1]? = some (.cells #[.int .i64 0, .int .i64 0] 24 (0, 0)) := by rw [hal]; exact al_get w _ 1 _ rfl
  obtain ⟨P, hP0⟩ : ∃ x, w.heap.size = x := ⟨_, rfl⟩
  rw [hP0] at hr0 hr1 hs0
  obtain ⟨Q, hP1⟩ : ∃ x, P + 1 = x := ⟨_, rfl⟩
  rw [hP1] at hr1
  clear hal
  have HB0 := Lib.hid hb0
  have H1 := Lib.hid hr1
  have HPw := Lib.hid (show w.heap.size ≤ P ∧ P < Q ∧ Q < W0.heap.size from by omega)
  have H0 := Lib.hid hr0
  have DN := Lib.hid (fun n (hn : -100000000000000 ≤ n ∧ n ≤ 100000000000000) X => down_any n d (by omega) hd X)
  have UP := Lib.hid (fun n (hn : -100000000000000 ≤ n ∧ n ≤ 100000000000000) X => up_any n d (by omega) hd X)
  have hdef : byF n0 n1 d = if d < 0 then (downF n1 d, upF n0 d) else (downF n0 d, upF n1 d) := rfl
  clear hb0 hr1 hs0
  obtain ⟨p0, p1⟩ := two_cells hr0
  by_cases hlt : d < 0
  · rw [if_pos hlt] at hdef
    have HDF := Lib.hid hdef
    have f0 : W0.frozen? ⟨P, 0, none⟩ = false := frozen_of hr0
    have f1 : W0.frozen? ⟨P, 1, none⟩ = false := frozen_of hr0
    have hz := set2 (A := .int .i64 n1) (B := .int .i64 n0) hr0
    have hqz := (set2_other W0 (R := P) (b := Q) (.int .i64 n1) (.int .i64 n0) (by have := HPw.out; omega)).trans H1.out
    have hbz := below2 HB0.out (R := P) (by have := HPw.out; omega) (.int .i64 n1) (.int .i64 n0)
    obtain ⟨W1, hW1⟩ : ∃ X, (W0.setCell ⟨P, 0, none⟩ (.int .i64 n1)).setCell ⟨P, 1, none⟩ (.int .i64 n0) = X := ⟨_, rfl⟩
    rw [hW1] at hz hqz hbz
    have HS := Lib.hid (And.intro hz hqz)
    have HB := Lib.hid hbz
    clear hdef hr0 hz hqz hbz
    go_enter Try.func59, Try.ntmps59
    go_upto_region 1 with fail
    rw [← hW0]
    clear hW0 hP0 hP1
    go_upto_region 3 with fail
    clear hW1
    refine wp_region_last (fun w' => w'.heap[P]? = some (.cells #[.int .i64 n1, .int .i64 n0] 98 (0, 0)) ∧ True ∧ ∃ u v, w'.heap[Q]? = some (.cells #[u, v] 24 (0, 0))) 9 (by kernel_rfl) ⟨HS.out.1, trivial, _, _, HS.out.2⟩ (fun hHeld => ?_)
    obtain ⟨Y0, hY0⟩ : ∃ X, X = W1.drew := ⟨_, rfl⟩
    have hq0 : Y0.heap[Q]? = some (.cells #[.int .i64 0, .int .i64 0] 24 (0, 0)) := by rw [hY0]; exact HS.out.2
    have hbY : Below w.heap.size w Y0 := by rw [hY0]; exact HB.out.drew
    rw [← hY0] at hHeld ⊢
    have hH := Lib.hid hHeld
    have HBY := Lib.hid hbY
    clear hY0 hHeld hbY
    refine wpLast_take (i := 0) (oi := _) (v := ?_) rfl (by kernel_rfl) (by kernel_rfl) (by decide) (by kernel_rfl) (by kernel_rfl) (fun _ _ _ h => h) (Or.inl ⟨by rfl, ?_⟩) hH.out ?_
    rotate_left
    · intro w1 hSw
      obtain ⟨e1, e2, e3⟩ := hSw
      obtain ⟨d0, d1⟩ := two_cells e1
      clear e1 e3
      go_simp; with_reducible rfl
    simp only [List.getElem_toArray, List.getElem_cons_succ, List.getElem_cons_zero, Act.put, List.setIfInBounds_toArray, List.set_cons_zero, List.set_cons_succ]
    refine wpLast_take (i := 1) (oi := _) (v := ?_) rfl (by kernel_rfl) (by kernel_rfl) (by decide) (by kernel_rfl) (by kernel_rfl) (fun _ _ _ h => h) (Or.inl ⟨by rfl, ?_⟩) hH.out ?_
    rotate_left
    · intro w1 hSw
      obtain ⟨e1, e2, e3⟩ := hSw
      obtain ⟨d0, d1⟩ := two_cells e1
      clear e1 e3
      go_simp; with_reducible rfl
    simp only [List.getElem_toArray, List.getElem_cons_succ, List.getElem_cons_zero, Act.put, List.setIfInBounds_toArray, List.set_cons_zero, List.set_cons_succ]
    refine wpLast_take (i := 2) (oi := _) (v := ?_) rfl (by kernel_rfl) (by kernel_rfl) (by decide) (by kernel_rfl) (by kernel_rfl) (fun _ _ _ h => h) (Or.inl ⟨by rfl, ?_⟩) hH.out ?_
    rotate_left
    · intro w1 hSw
      obtain ⟨e1, e2, e3⟩ := hSw
      obtain ⟨d0, d1⟩ := two_cells e1
      clear e1 e3
      go_simp; with_reducible rfl
    simp only [List.getElem_toArray, List.getElem_cons_succ, List.getElem_cons_zero, Act.put, List.setIfInBounds_toArray, List.set_cons_zero, List.set_cons_succ]
    refine wpLast_take (i := 4) (oi := _) (v := ?_) rfl (by kernel_rfl) (by kernel_rfl) (by decide) (by kernel_rfl) (by kernel_rfl) (fun _ _ _ h => h) (Or.inl ⟨by rfl, ?_⟩) hH.out ?_
    rotate_left
    · intro w1 hSw
      obtain ⟨e1, e2, e3⟩ := hSw
      obtain ⟨d0, d1⟩ := two_cells e1
      clear e1 e3
      go_simp; with_reducible rfl
    simp only [List.getElem_toArray, List.getElem_cons_succ, List.getElem_cons_zero, Act.put, List.setIfInBounds_toArray, List.set_cons_zero, List.set_cons_succ]
    refine wpLast_take (i := 5) (oi := _) (v := ?_) rfl (by kernel_rfl) (by kernel_rfl) (by decide) (by kernel_rfl) (by kernel_rfl) (fun _ _ _ h => h) (Or.inl ⟨by rfl, ?_⟩) hH.out ?_
    rotate_left
    · intro w1 hSw
      obtain ⟨e1, e2, e3⟩ := hSw
      obtain ⟨d0, d1⟩ := two_cells e1
      clear e1 e3
      go_simp; with_reducible rfl
    simp only [List.getElem_toArray, List.getElem_cons_succ, List.getElem_cons_zero, Act.put, List.setIfInBounds_toArray, List.set_cons_zero, List.set_cons_succ]
    refine wpLast_take (i := 6) (oi := _) (v := ?_) rfl (by kernel_rfl) (by kernel_rfl) (by decide) (by kernel_rfl) (by kernel_rfl) (fun _ _ _ h => h) (Or.inl ⟨by rfl, ?_⟩) hH.out ?_
    rotate_left
    · intro w1 hSw
      obtain ⟨e1, e2, e3⟩ := hSw
      obtain ⟨d0, d1⟩ := two_cells e1
      clear e1 e3
      go_simp; with_reducible rfl
    simp only [List.getElem_toArray, List.getElem_cons_succ, List.getElem_cons_zero, Act.put, List.setIfInBounds_toArray, List.set_cons_zero, List.set_cons_succ]
    refine wpLast_ready (rs := [3]) (by kernel_rfl) (by simp) ?_
    intro i hi; obtain rfl := List.mem_singleton.1 hi; clear hi
    refine wpOp_step rfl (fun K3 hK3 => ?_)
    have HK3 := Lib.hid hK3
    clear hK3
    rw [if_pos (by rfl)]
    go_simp
    refine (DN.out n1 h1 _).mono ?_
    rintro e w2 ⟨rfl, rfl⟩
    refine HK3.out _ _ ⟨fun _ => hH.out, fun _ => ?_⟩
    clear HK3 K3
    try simp only [List.getElem_toArray, List.getElem_cons_succ, List.getElem_cons_zero, Act.put, List.setIfInBounds_toArray, List.set_cons_zero, List.set_cons_succ]
    refine wpLast_ready (rs := [7]) (by kernel_rfl) (by simp) ?_
    intro i hi; obtain rfl := List.mem_singleton.1 hi; clear hi
    refine wpOp_step rfl (fun K3 hK3 => ?_)
    have HK3 := Lib.hid hK3
    clear hK3
    rw [if_pos (by rfl)]
    go_simp
    refine (UP.out n0 h0 _).mono ?_
    rintro e w2 ⟨rfl, rfl⟩
    refine HK3.out _ _ ⟨fun _ => hH.out, fun _ => ?_⟩
    clear HK3 K3
    try simp only [List.getElem_toArray, List.getElem_cons_succ, List.getElem_cons_zero, Act.put, List.setIfInBounds_toArray, List.set_cons_zero, List.set_cons_succ]
    refine wpLast_take (i := 8) (oi := _) (v := ?_) rfl (by kernel_rfl) (by kernel_rfl) (by decide) (by kernel_rfl) (by kernel_rfl) (fun _ _ _ h => h) (Or.inl ⟨by rfl, ?_⟩) hH.out ?_
    rotate_left
    · intro w1 hSw
      obtain ⟨e1, e2, e3⟩ := hSw
      obtain ⟨d0, d1⟩ := two_cells e1
      clear e1 e3
      go_simp; with_reducible rfl
    simp only [List.getElem_toArray, List.getElem_cons_succ, List.getElem_cons_zero, Act.put, List.setIfInBounds_toArray, List.set_cons_zero, List.set_cons_succ]
    have f0 : Y0.frozen? ⟨Q, 0, none⟩ = false := frozen_of hq0
    have f1 : Y0.frozen? ⟨Q, 1, none⟩ = false := frozen_of hq0
    obtain ⟨q0, q1⟩ := two_cells hq0
    have HZ := Lib.hid (set2 (A := .int .i64 (downF n1 d)) (B := .int .i64 (upF n0 d)) hq0)
    have HBZ := Lib.hid (below2 HBY.out (R := Q) (by have := HPw.out; omega) (.int .i64 (downF n1 d)) (.int .i64 (upF n0 d)))
    clear hq0
    refine wpLast_ready (rs := [9]) (by kernel_rfl) (by simp) ?_
    intro i hi; obtain rfl := List.mem_singleton.1 hi; clear hi
    refine wpOp_step rfl (fun K3 hK3 => ?_)
    have HK3 := Lib.hid hK3
    clear hK3
    rw [if_pos (by rfl)]
    go_simp
    refine HK3.out _ _ ⟨fun h => absurd rfl h, fun _ => ?_⟩
    clear HK3 K3
    try simp only [List.getElem_toArray, List.getElem_cons_succ, List.getElem_cons_zero, Act.put, List.setIfInBounds_toArray, List.set_cons_zero, List.set_cons_succ]
    refine wpLast_done (by kernel_rfl) ?_ _
    go_wp2
    exact bodyPost_ret (res1_24 Try.results59 rfl HZ.out) rfl ⟨by rw [HDF.out]; rfl, HBZ.out⟩
  · rw [if_neg hlt] at hdef
    have HDF := Lib.hid hdef
    have hlt' : decide (d < 0) = false := decide_eq_false hlt
    have HS := Lib.hid (And.intro hr0 H1.out)
    have HB := HB0
    clear hdef hr0
    go_enter Try.func59, Try.ntmps59
    go_upto_region 1 with fail
    rw [← hW0]
    clear hW0 hP0 hP1
    go_upto_region 3 with fail
    refine wp_region_last (fun w' => w'.heap[P]? = some (.cells #[.int .i64 n0, .int .i64 n1] 98 (0, 0)) ∧ True ∧ ∃ u v, w'.heap[Q]? = some (.cells #[u, v] 24 (0, 0))) 9 (by kernel_rfl) ⟨HS.out.1, trivial, _, _, HS.out.2⟩ (fun hHeld => ?_)
    obtain ⟨Y0, hY0⟩ : ∃ X, X = W0.drew := ⟨_, rfl⟩
    have hq0 : Y0.heap[Q]? = some (.cells #[.int .i64 0, .int .i64 0] 24 (0, 0)) := by rw [hY0]; exact HS.out.2
    have hbY : Below w.heap.size w Y0 := by rw [hY0]; exact HB.out.drew
    rw [← hY0] at hHeld ⊢
    have hH := Lib.hid hHeld
    have HBY := Lib.hid hbY
    clear hY0 hHeld hbY
    refine wpLast_take (i := 0) (oi := _) (v := ?_) rfl (by kernel_rfl) (by kernel_rfl) (by decide) (by kernel_rfl) (by kernel_rfl) (fun _ _ _ h => h) (Or.inl ⟨by rfl, ?_⟩) hH.out ?_
    rotate_left
    · intro w1 hSw
      obtain ⟨e1, e2, e3⟩ := hSw
      obtain ⟨d0, d1⟩ := two_cells e1
      clear e1 e3
      go_simp; with_reducible rfl
    simp only [List.getElem_toArray, List.getElem_cons_succ, List.getElem_cons_zero, Act.put, List.setIfInBounds_toArray, List.set_cons_zero, List.set_cons_succ]
    refine wpLast_take (i := 1) (oi := _) (v := ?_) rfl (by kernel_rfl) (by kernel_rfl) (by decide) (by kernel_rfl) (by kernel_rfl) (fun _ _ _ h => h) (Or.inl ⟨by rfl, ?_⟩) hH.out ?_
    rotate_left
    · intro w1 hSw
      obtain ⟨e1, e2, e3⟩ := hSw
      obtain ⟨d0, d1⟩ := two_cells e1
      clear e1 e3
      go_simp; with_reducible rfl
    simp only [List.getElem_toArray, List.getElem_cons_succ, List.getElem_cons_zero, Act.put, List.setIfInBounds_toArray, List.set_cons_zero, List.set_cons_succ]
    refine wpLast_take (i := 2) (oi := _) (v := ?_) rfl (by kernel_rfl) (by kernel_rfl) (by decide) (by kernel_rfl) (by kernel_rfl) (fun _ _ _ h => h) (Or.inl ⟨by rfl, ?_⟩) hH.out ?_
    rotate_left
    · intro w1 hSw
      obtain ⟨e1, e2, e3⟩ := hSw
      obtain ⟨d0, d1⟩ := two_cells e1
      clear e1 e3
      go_simp; with_reducible rfl
    simp only [List.getElem_toArray, List.getElem_cons_succ, List.getElem_cons_zero, Act.put, List.setIfInBounds_toArray, List.set_cons_zero, List.set_cons_succ]
    refine wpLast_take (i := 4) (oi := _) (v := ?_) rfl (by kernel_rfl) (by kernel_rfl) (by decide) (by kernel_rfl) (by kernel_rfl) (fun _ _ _ h => h) (Or.inl ⟨by rfl, ?_⟩) hH.out ?_
    rotate_left
    · intro w1 hSw
      obtain ⟨e1, e2, e3⟩ := hSw
      obtain ⟨d0, d1⟩ := two_cells e1
      clear e1 e3
      go_simp; with_reducible rfl
    simp only [List.getElem_toArray, List.getElem_cons_succ, List.getElem_cons_zero, Act.put, List.setIfInBounds_toArray, List.set_cons_zero, List.set_cons_succ]
    refine wpLast_take (i := 5) (oi := _) (v := ?_) rfl (by kernel_rfl) (by kernel_rfl) (by decide) (by kernel_rfl) (by kernel_rfl) (fun _ _ _ h => h) (Or.inl ⟨by rfl, ?_⟩) hH.out ?_
    rotate_left
    · intro w1 hSw
      obtain ⟨e1, e2, e3⟩ := hSw
      obtain ⟨d0, d1⟩ := two_cells e1
      clear e1 e3
      go_simp; with_reducible rfl
    simp only [List.getElem_toArray, List.getElem_cons_succ, List.getElem_cons_zero, Act.put, List.setIfInBounds_toArray, List.set_cons_zero, List.set_cons_succ]
    refine wpLast_take (i := 6) (oi := _) (v := ?_) rfl (by kernel_rfl) (by kernel_rfl) (by decide) (by kernel_rfl) (by kernel_rfl) (fun _ _ _ h => h) (Or.inl ⟨by rfl, ?_⟩) hH.out ?_
    rotate_left
    · intro w1 hSw
      obtain ⟨e1, e2, e3⟩ := hSw
      obtain ⟨d0, d1⟩ := two_cells e1
      clear e1 e3
      go_simp; with_reducible rfl
    simp only [List.getElem_toArray, List.getElem_cons_succ, List.getElem_cons_zero, Act.put, List.setIfInBounds_toArray, List.set_cons_zero, List.set_cons_succ]
    refine wpLast_ready (rs := [3]) (by kernel_rfl) (by simp) ?_
    intro i hi; obtain rfl := List.mem_singleton.1 hi; clear hi
    refine wpOp_step rfl (fun K3 hK3 => ?_)
    have HK3 := Lib.hid hK3
    clear hK3
    rw [if_pos (by rfl)]
    go_simp
    refine (DN.out n0 h0 _).mono ?_
    rintro e w2 ⟨rfl, rfl⟩
    refine HK3.out _ _ ⟨fun _ => hH.out, fun _ => ?_⟩
    clear HK3 K3
    try simp only [List.getElem_toArray, List.getElem_cons_succ, List.getElem_cons_zero, Act.put, List.setIfInBounds_toArray, List.set_cons_zero, List.set_cons_succ]
    refine wpLast_ready (rs := [7]) (by kernel_rfl) (by simp) ?_
    intro i hi; obtain rfl := List.mem_singleton.1 hi; clear hi
    refine wpOp_step rfl (fun K3 hK3 => ?_)
    have HK3 := Lib.hid hK3
    clear hK3
    rw [if_pos (by rfl)]
    go_simp
    refine (UP.out n1 h1 _).mono ?_
    rintro e w2 ⟨rfl, rfl⟩
    refine HK3.out _ _ ⟨fun _ => hH.out, fun _ => ?_⟩
    clear HK3 K3
    try simp only [List.getElem_toArray, List.getElem_cons_succ, List.getElem_cons_zero, Act.put, List.setIfInBounds_toArray, List.set_cons_zero, List.set_cons_succ]
    refine wpLast_take (i := 8) (oi := _) (v := ?_) rfl (by kernel_rfl) (by kernel_rfl) (by decide) (by kernel_rfl) (by kernel_rfl) (fun _ _ _ h => h) (Or.inl ⟨by rfl, ?_⟩) hH.out ?_
    rotate_left
    · intro w1 hSw
      obtain ⟨e1, e2, e3⟩ := hSw
      obtain ⟨d0, d1⟩ := two_cells e1
      clear e1 e3
      go_simp; with_reducible rfl
    simp only [List.getElem_toArray, List.getElem_cons_succ, List.getElem_cons_zero, Act.put, List.setIfInBounds_toArray, List.set_cons_zero, List.set_cons_succ]
    have f0 : Y0.frozen? ⟨Q, 0, none⟩ = false := frozen_of hq0
    have f1 : Y0.frozen? ⟨Q, 1, none⟩ = false := frozen_of hq0
    obtain ⟨q0, q1⟩ := two_cells hq0
    have HZ := Lib.hid (set2 (A := .int .i64 (downF n0 d)) (B := .int .i64 (upF n1 d)) hq0)
    have HBZ := Lib.hid (below2 HBY.out (R := Q) (by have := HPw.out; omega) (.int .i64 (downF n0 d)) (.int .i64 (upF n1 d)))
    clear hq0
    refine wpLast_ready (rs := [9]) (by kernel_rfl) (by simp) ?_
    intro i hi; obtain rfl := List.mem_singleton.1 hi; clear hi
    refine wpOp_step rfl (fun K3 hK3 => ?_)
    have HK3 := Lib.hid hK3
    clear hK3
    rw [if_pos (by rfl)]
    go_simp
    refine HK3.out _ _ ⟨fun h => absurd rfl h, fun _ => ?_⟩
    clear HK3 K3
    try simp only [List.getElem_toArray, List.getElem_cons_succ, List.getElem_cons_zero, Act.put, List.setIfInBounds_toArray, List.set_cons_zero, List.set_cons_succ]
    refine wpLast_done (by kernel_rfl) ?_ _
    go_wp2
    exact bodyPost_ret (res1_24 Try.results59 rfl HZ.out) rfl ⟨by rw [HDF.out]; rfl, HBZ.out⟩
end Go.Proofs.Ytdbjifpnbghbaaa
