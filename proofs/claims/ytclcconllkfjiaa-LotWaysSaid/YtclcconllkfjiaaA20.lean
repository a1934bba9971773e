/- Contract: Fails, where the lot and the plan are valid; LotNames. -/
import Derived.Test.YtclcconllkfjiaaA19
namespace Go.Proofs.Ytclcconllkfjiaa
set_option linter.unusedSimpArgs false
set_option linter.unusedVariables false
open Go.RowKit

/-- what Fails returns -/
def failsV (g : Int) (r : Option Nat) : Value := match r with | some k => .tuple #[.int .i64 (k : Nat), .bool (decide ((k : Int) ≤ g)), .int .i64 0] | none => .tuple #[.int .i64 0, .bool false, .int .i64 4]
set_option maxRecDepth 100000 in
set_option maxHeartbeats 3200000 in
theorem fails_ok (n c : Nat) (g b m u a : Int) (w : World) (hv : isLotB (n : Nat) g b m u = true) (hp : isPlanB (c : Nat) a (n : Nat) = true) :
    Calls Try.prog 16 #[lotV (n : Nat) g b m u, planV (c : Nat) a] w fun e w' => e = .returned (failsV g (firstP (failF n c a (risksL g b m u)) (n + 1))) ∧ Below w.heap.size w w' := by
  obtain ⟨⟨n1, n2⟩, ⟨b1, b2⟩, ⟨g1, g2⟩, hm, hu⟩ := isLotB_spec hv
  have hn : n ≤ 50 := by omega
  have hcn : c ≤ n := by unfold isPlanB at hp; rw [Bool.and_eq_true] at hp; have := (inB_iff.1 hp.1).2; omega
  obtain ⟨W0, hW0⟩ : ∃ X, X = (w.alloc (.cells #[.int .i64 (n : Nat), .int .i64 g, .int .i64 b, .int .i64 m, .int .i64 u] 40)).alloc (.cells #[.int .i64 (c : Nat), .int .i64 a] 23) := ⟨_, rfl⟩
  have hb0 : Below w.heap.size w W0 := by rw [hW0]; exact ((Below.refl _ _).alloc (Nat.le_refl _) _).alloc (by simp) _
  obtain ⟨H, hH⟩ : ∃ H, H = w.heap.size := ⟨_, rfl⟩
  have k0 : W0.heap[H]? = some (.cells #[.int .i64 (n : Nat), .int .i64 g, .int .i64 b, .int .i64 m, .int .i64 u] 40 (0, 0)) := by rw [hW0, hH, Below.heap_alloc _ _ _ (by simp)]; exact alloc_heap _ _
  have k1 : W0.heap[H + 1]? = some (.cells #[.int .i64 (c : Nat), .int .i64 a] 23 (0, 0)) := by
    rw [hW0, hH]
    have := alloc_heap (w.alloc (.cells #[.int .i64 (n : Nat), .int .i64 g, .int .i64 b, .int .i64 m, .int .i64 u] 40)) (.cells #[.int .i64 (c : Nat), .int .i64 a] 23)
    simpa using this
  have hlo := fun W => isLot_any (n : Nat) g b m u W
  rw [hv] at hlo
  have hpl := fun W => isPlan_any (c : Nat) a (n : Nat) W
  rw [hp] at hpl
  have hmk := fun W => makerOf_any (n : Nat) g b m u W
  have hbk := fun W => buyerOf_any (n : Nat) g b m u W
  have hfa := fun T R W (h : TriAt W T) (hR : RisksAt W R (risksL g b m u)) => failure_any T n c R a (risksL g b m u) W h hcn hn hR (by simp [risksL]) (by simp [risksL]) (by intro r hr; simp [risksL] at hr; rcases hr with rfl | rfl; exact hm; exact hu)
  obtain ⟨r, hr⟩ : ∃ r, firstP (failF n c a (risksL g b m u)) (n + 1) = r := ⟨_, rfl⟩
  rw [hr] at hfa ⊢
  have hlen : (risksL g b m u).length = 2 := rfl
  rw [hlen] at hfa
  unfold planV at hpl hfa ⊢
  unfold lotV at hmk hbk ⊢
  have HLO := Lib.hid hlo
  have HPL := Lib.hid hpl
  have HMK := Lib.hid hmk
  have HBK := Lib.hid hbk
  have HFA := Lib.hid hfa
  have HH := Lib.hid hH
  have K0 := Lib.hid k0
  have K1 := Lib.hid k1
  obtain ⟨c0, c1, c2, c3, c4⟩ := five_cells k0
  clear hlo hpl hmk hbk hfa hr hlen k0 k1 hv hp
  go_enter Try.func16, Try.ntmps16
  go_wp2_with fail
  rw [← hW0, ← hH]
  clear hW0 hH
  refine (HLO.out _).mono ?_
  rintro e W1 ⟨rfl, hb1⟩
  have j0 := (hb1.block _ (Array.getElem?_eq_some_iff.1 K0.out).1).trans K0.out
  have j1 := (hb1.block _ (Array.getElem?_eq_some_iff.1 K1.out).1).trans K1.out
  have hw1 : Below w.heap.size w W1 := hb0.trans (hb1.mono hb0.size)
  have J0 := Lib.hid j0
  have J1 := Lib.hid j1
  clear c0 c1 c2 c3 c4 hb0 hb1
  obtain ⟨c0, c1, c2, c3, c4⟩ := five_cells j0
  obtain ⟨p0, p1⟩ := two_cells j1
  clear j0 j1
  go_wp2_with fail
  refine (HPL.out _).mono ?_
  rintro e W2 ⟨rfl, hb2⟩
  have j0 := (hb2.block _ (Array.getElem?_eq_some_iff.1 J0.out).1).trans J0.out
  have j1 := (hb2.block _ (Array.getElem?_eq_some_iff.1 J1.out).1).trans J1.out
  have hw2 : Below w.heap.size w W2 := hw1.trans (hb2.mono hw1.size)
  have I0 := Lib.hid j0
  have I1 := Lib.hid j1
  clear c0 c1 c2 c3 c4 p0 p1 j0 j1 hw1 hb2
  go_wp2_with fail
  refine wp_region_held_drew (S := fun w' => Below W2.heap.size W2 w') (by as_aux_lemma => kernel_rfl) (Below.refl _ _).drew (fun hHeld => ?_)
  refine wpAnyH_take (i := 1) (oi := _) (v := ?_) rfl (by as_aux_lemma => kernel_rfl) (by as_aux_lemma => kernel_rfl) (by as_aux_lemma => kernel_rfl) (fun _ _ _ h => h) (Or.inl ⟨by rfl, ?_⟩) hHeld ?_
  rotate_left
  · intro w1 hSw

    go_simp; with_reducible rfl
  simp only [List.getElem_toArray, List.getElem_cons_succ, List.getElem_cons_zero, Act.put, List.setIfInBounds_toArray, List.set_cons_zero, List.set_cons_succ]
  refine wpAnyH_take (i := 2) (oi := _) (v := ?_) rfl (by as_aux_lemma => kernel_rfl) (by as_aux_lemma => kernel_rfl) (by as_aux_lemma => kernel_rfl) (fun _ _ _ h => h) (Or.inl ⟨by rfl, ?_⟩) hHeld ?_
  rotate_left
  · intro w1 hSw
    obtain ⟨d0, d1, d2, d3, d4⟩ := five_cells ((hSw.block _ (Array.getElem?_eq_some_iff.1 I0.out).1).trans I0.out)
    obtain ⟨d5, d6⟩ := two_cells ((hSw.block _ (Array.getElem?_eq_some_iff.1 I1.out).1).trans I1.out)
    go_simp; with_reducible rfl
  simp only [List.getElem_toArray, List.getElem_cons_succ, List.getElem_cons_zero, Act.put, List.setIfInBounds_toArray, List.set_cons_zero, List.set_cons_succ]
  refine wpAnyH_take (i := 3) (oi := _) (v := ?_) rfl (by as_aux_lemma => kernel_rfl) (by as_aux_lemma => kernel_rfl) (by as_aux_lemma => kernel_rfl) (fun _ _ _ h => h) (Or.inl ⟨by rfl, ?_⟩) hHeld ?_
  rotate_left
  · intro w1 hSw
    obtain ⟨d0, d1, d2, d3, d4⟩ := five_cells ((hSw.block _ (Array.getElem?_eq_some_iff.1 I0.out).1).trans I0.out)
    obtain ⟨d5, d6⟩ := two_cells ((hSw.block _ (Array.getElem?_eq_some_iff.1 I1.out).1).trans I1.out)
    go_simp; with_reducible rfl
  simp only [List.getElem_toArray, List.getElem_cons_succ, List.getElem_cons_zero, Act.put, List.setIfInBounds_toArray, List.set_cons_zero, List.set_cons_succ]
  refine wpAnyH_take (i := 4) (oi := _) (v := ?_) rfl (by as_aux_lemma => kernel_rfl) (by as_aux_lemma => kernel_rfl) (by as_aux_lemma => kernel_rfl) (fun _ _ _ h => h) (Or.inl ⟨by rfl, ?_⟩) hHeld ?_
  rotate_left
  · intro w1 hSw
    obtain ⟨d0, d1, d2, d3, d4⟩ := five_cells ((hSw.block _ (Array.getElem?_eq_some_iff.1 I0.out).1).trans I0.out)
    obtain ⟨d5, d6⟩ := two_cells ((hSw.block _ (Array.getElem?_eq_some_iff.1 I1.out).1).trans I1.out)
    go_simp; with_reducible rfl
  simp only [List.getElem_toArray, List.getElem_cons_succ, List.getElem_cons_zero, Act.put, List.setIfInBounds_toArray, List.set_cons_zero, List.set_cons_succ]
  refine wpAnyH_take (i := 7) (oi := _) (v := ?_) rfl (by as_aux_lemma => kernel_rfl) (by as_aux_lemma => kernel_rfl) (by as_aux_lemma => kernel_rfl) (fun _ _ _ h => h) (Or.inl ⟨by rfl, ?_⟩) hHeld ?_
  rotate_left
  · intro w1 hSw
    obtain ⟨d0, d1, d2, d3, d4⟩ := five_cells ((hSw.block _ (Array.getElem?_eq_some_iff.1 I0.out).1).trans I0.out)
    obtain ⟨d5, d6⟩ := two_cells ((hSw.block _ (Array.getElem?_eq_some_iff.1 I1.out).1).trans I1.out)
    go_simp; with_reducible rfl
  simp only [List.getElem_toArray, List.getElem_cons_succ, List.getElem_cons_zero, Act.put, List.setIfInBounds_toArray, List.set_cons_zero, List.set_cons_succ]
  generalize W2.drew = Y0 at hHeld ⊢
  refine wpAnyH_all (rs := [0]) (by as_aux_lemma => kernel_rfl) (by simp) ?_
  intro i hi; obtain rfl := List.mem_singleton.1 hi; clear hi
  refine wpOp_step rfl (fun K3 hK3 => ?_)
  have HK3 := Lib.hid hK3
  clear hK3
  rw [if_pos (by rfl)]
  go_simp
  refine (newTriangle_any _).mono ?_
  rintro e Y1 ⟨T, rfl, -, hT1, hc1⟩
  have hH1 := hHeld.trans (hc1.mono hHeld.size)
  refine HK3.out _ _ ⟨hH1, ?_⟩
  clear HK3 K3
  try simp only [List.getElem_toArray, List.getElem_cons_succ, List.getElem_cons_zero, Act.put, List.setIfInBounds_toArray, List.set_cons_zero, List.set_cons_succ]
  refine wpAnyH_all (rs := [5]) (by as_aux_lemma => kernel_rfl) (by simp) ?_
  intro i hi; obtain rfl := List.mem_singleton.1 hi; clear hi
  refine wpOp_step rfl (fun K3 hK3 => ?_)
  have HK3 := Lib.hid hK3
  clear hK3
  rw [if_pos (by rfl)]
  go_simp
  refine (HMK.out _).mono ?_
  rintro e Y2 ⟨rfl, hc2⟩
  have hT2 := hT1.below hc2 hT1.lt
  have hH2 := hH1.trans (hc2.mono hH1.size)
  refine HK3.out _ _ ⟨hH2, ?_⟩
  clear HK3 K3
  try simp only [List.getElem_toArray, List.getElem_cons_succ, List.getElem_cons_zero, Act.put, List.setIfInBounds_toArray, List.set_cons_zero, List.set_cons_succ]
  refine wpAnyH_take (i := 6) (oi := _) (v := ?_) rfl (by as_aux_lemma => kernel_rfl) (by as_aux_lemma => kernel_rfl) (by as_aux_lemma => kernel_rfl) (fun _ _ _ h => h) (Or.inl ⟨by rfl, ?_⟩) hH2 ?_
  rotate_left
  · intro w1 hSw

    go_simp; with_reducible rfl
  simp only [List.getElem_toArray, List.getElem_cons_succ, List.getElem_cons_zero, Act.put, List.setIfInBounds_toArray, List.set_cons_zero, List.set_cons_succ]
  refine wpAnyH_all (rs := [8]) (by as_aux_lemma => kernel_rfl) (by simp) ?_
  intro i hi; obtain rfl := List.mem_singleton.1 hi; clear hi
  refine wpOp_step rfl (fun K3 hK3 => ?_)
  have HK3 := Lib.hid hK3
  clear hK3
  rw [if_pos (by rfl)]
  go_simp
  refine (HBK.out _).mono ?_
  rintro e Y3 ⟨rfl, hc3⟩
  have hT3 := hT2.below hc3 hT2.lt
  have hH3 := hH2.trans (hc3.mono hH2.size)
  refine HK3.out _ _ ⟨hH3, ?_⟩
  clear HK3 K3
  try simp only [List.getElem_toArray, List.getElem_cons_succ, List.getElem_cons_zero, Act.put, List.setIfInBounds_toArray, List.set_cons_zero, List.set_cons_succ]
  refine wpAnyH_take (i := 9) (oi := _) (v := ?_) rfl (by as_aux_lemma => kernel_rfl) (by as_aux_lemma => kernel_rfl) (by as_aux_lemma => kernel_rfl) (fun _ _ _ h => h) (Or.inl ⟨by rfl, ?_⟩) hH3 ?_
  rotate_left
  · intro w1 hSw

    go_simp; with_reducible rfl
  simp only [List.getElem_toArray, List.getElem_cons_succ, List.getElem_cons_zero, Act.put, List.setIfInBounds_toArray, List.set_cons_zero, List.set_cons_succ]
  refine wpAnyH_all (rs := [10]) (by as_aux_lemma => kernel_rfl) (by simp) ?_
  intro i hi; obtain rfl := List.mem_singleton.1 hi; clear hi
  refine wpOp_step rfl (fun K3 hK3 => ?_)
  have HK3 := Lib.hid hK3
  clear hK3
  rw [if_pos (by rfl)]
  go_simp
  obtain ⟨Y4, hY⟩ : ∃ Z, Z = Y3.alloc (.cells #[.iface 78 (.agg #[.int .i64 g, .int .i64 m]), .iface 81 (.agg #[.int .i64 b, .int .i64 u])] 99) := ⟨_, rfl⟩
  obtain ⟨R, hRe⟩ : ∃ R, R = Y3.heap.size := ⟨_, rfl⟩
  have hbc : Below Y3.heap.size Y3 Y4 := by rw [hY]; exact (Below.refl _ _).alloc (Nat.le_refl _) _
  have hR : Y4.heap[R]? = some (.cells #[.iface 78 (.agg #[.int .i64 g, .int .i64 m]), .iface 81 (.agg #[.int .i64 b, .int .i64 u])] 99 (0, 0)) := by rw [hY, hRe]; exact alloc_heap _ _
  have hH4 := hH3.trans (hbc.mono hH3.size)
  have hT4 := hT3.below hbc hT3.lt
  rw [← hY, ← hRe]
  clear hbc hY hRe
  refine HK3.out _ _ ⟨hH4, ?_⟩
  clear HK3 K3
  try simp only [List.getElem_toArray, List.getElem_cons_succ, List.getElem_cons_zero, Act.put, List.setIfInBounds_toArray, List.set_cons_zero, List.set_cons_succ]
  have hRi : RisksAt Y4 R (risksL g b m u) := by
    intro i r hi
    match i, hi with
    | 0, hi => simp [risksL] at hi; subst hi; simp [World.cell?, hR, Rk.val, Rk.agg]
    | 1, hi => simp [risksL] at hi; subst hi; simp [World.cell?, hR, Rk.val, Rk.agg]
    | i + 2, hi => simp [risksL] at hi
  refine wpAnyH_all (rs := [11]) (by as_aux_lemma => kernel_rfl) (by simp) ?_
  intro i hi; obtain rfl := List.mem_singleton.1 hi; clear hi
  refine wpOp_step rfl (fun K3 hK3 => ?_)
  have HK3 := Lib.hid hK3
  clear hK3
  rw [if_pos (by rfl)]
  go_simp
  refine (HFA.out _ R _ hT4 hRi).mono ?_
  rintro e Y5 ⟨rfl, hc5⟩
  have hH5 := hH4.trans (hc5.mono hH4.size)
  clear hRi hR hc5 hc1 hc2 hc3
  refine HK3.out _ _ ⟨hH5, ?_⟩
  clear HK3 K3
  try simp only [List.getElem_toArray, List.getElem_cons_succ, List.getElem_cons_zero, Act.put, List.setIfInBounds_toArray, List.set_cons_zero, List.set_cons_succ]
  obtain ⟨f0, f1, f2, f3, f4⟩ := five_cells ((hH5.block _ (Array.getElem?_eq_some_iff.1 I0.out).1).trans I0.out)
  cases r with
  | none =>
    unfold leastV
    simp only []
    refine wpAnyH_take (i := 12) (oi := _) (v := ?_) rfl (by as_aux_lemma => kernel_rfl) (by as_aux_lemma => kernel_rfl) (by as_aux_lemma => kernel_rfl) (fun _ _ _ h => h) (Or.inl ⟨by rfl, ?_⟩) hH5 ?_
    rotate_left
    · intro w1 hSw

      go_simp; with_reducible rfl
    simp only [List.getElem_toArray, List.getElem_cons_succ, List.getElem_cons_zero, Act.put, List.setIfInBounds_toArray, List.set_cons_zero, List.set_cons_succ]
    refine wpAnyH_take (i := 13) (oi := _) (v := ?_) rfl (by as_aux_lemma => kernel_rfl) (by as_aux_lemma => kernel_rfl) (by as_aux_lemma => kernel_rfl) (fun _ _ _ h => h) (Or.inl ⟨by rfl, ?_⟩) hH5 ?_
    rotate_left
    · intro w1 hSw

      go_simp; with_reducible rfl
    simp only [List.getElem_toArray, List.getElem_cons_succ, List.getElem_cons_zero, Act.put, List.setIfInBounds_toArray, List.set_cons_zero, List.set_cons_succ]
    refine wpAnyH_take (i := 14) (oi := _) (v := ?_) rfl (by as_aux_lemma => kernel_rfl) (by as_aux_lemma => kernel_rfl) (by as_aux_lemma => kernel_rfl) (fun _ _ _ h => h) (Or.inl ⟨by rfl, ?_⟩) hH5 ?_
    rotate_left
    · intro w1 hSw

      go_simp; with_reducible rfl
    simp only [List.getElem_toArray, List.getElem_cons_succ, List.getElem_cons_zero, Act.put, List.setIfInBounds_toArray, List.set_cons_zero, List.set_cons_succ]
    refine wpAnyH_all (rs := [15]) (by as_aux_lemma => kernel_rfl) (by simp) ?_
    intro i hi; obtain rfl := List.mem_singleton.1 hi; clear hi
    refine wpOp_step rfl (fun K3 hK3 => ?_)
    have HK3 := Lib.hid hK3
    clear hK3
    rw [if_pos (by rfl)]
    go_simp
    refine HK3.out _ _ ⟨hH5, ?_⟩
    clear HK3 K3
    try simp only [List.getElem_toArray, List.getElem_cons_succ, List.getElem_cons_zero, Act.put, List.setIfInBounds_toArray, List.set_cons_zero, List.set_cons_succ]
    refine wpAnyH_all (rs := [16]) (by as_aux_lemma => kernel_rfl) (by simp) ?_
    intro i hi; obtain rfl := List.mem_singleton.1 hi; clear hi
    refine wpOp_step rfl (fun K3 hK3 => ?_)
    have HK3 := Lib.hid hK3
    clear hK3
    rw [if_pos (by rfl)]
    go_simp
    refine HK3.out _ _ ⟨hH5, ?_⟩
    clear HK3 K3
    try simp only [List.getElem_toArray, List.getElem_cons_succ, List.getElem_cons_zero, Act.put, List.setIfInBounds_toArray, List.set_cons_zero, List.set_cons_succ]
    refine wpAnyH_done (by as_aux_lemma => kernel_rfl) ?_ _
    go_wp2
    go_ret3
    exact ⟨rfl, hw2.trans (hH5.mono hw2.size)⟩
  | some k =>
    unfold leastV
    simp only []
    refine wpAnyH_take (i := 12) (oi := _) (v := ?_) rfl (by as_aux_lemma => kernel_rfl) (by as_aux_lemma => kernel_rfl) (by as_aux_lemma => kernel_rfl) (fun _ _ _ h => h) (Or.inl ⟨by rfl, ?_⟩) hH5 ?_
    rotate_left
    · intro w1 hSw

      go_simp; with_reducible rfl
    simp only [List.getElem_toArray, List.getElem_cons_succ, List.getElem_cons_zero, Act.put, List.setIfInBounds_toArray, List.set_cons_zero, List.set_cons_succ]
    refine wpAnyH_take (i := 13) (oi := _) (v := ?_) rfl (by as_aux_lemma => kernel_rfl) (by as_aux_lemma => kernel_rfl) (by as_aux_lemma => kernel_rfl) (fun _ _ _ h => h) (Or.inl ⟨by rfl, ?_⟩) hH5 ?_
    rotate_left
    · intro w1 hSw

      go_simp; with_reducible rfl
    simp only [List.getElem_toArray, List.getElem_cons_succ, List.getElem_cons_zero, Act.put, List.setIfInBounds_toArray, List.set_cons_zero, List.set_cons_succ]
    refine wpAnyH_take (i := 14) (oi := _) (v := ?_) rfl (by as_aux_lemma => kernel_rfl) (by as_aux_lemma => kernel_rfl) (by as_aux_lemma => kernel_rfl) (fun _ _ _ h => h) (Or.inl ⟨by rfl, ?_⟩) hH5 ?_
    rotate_left
    · intro w1 hSw

      go_simp; with_reducible rfl
    simp only [List.getElem_toArray, List.getElem_cons_succ, List.getElem_cons_zero, Act.put, List.setIfInBounds_toArray, List.set_cons_zero, List.set_cons_succ]
    refine wpAnyH_all (rs := [15]) (by as_aux_lemma => kernel_rfl) (by simp) ?_
    intro i hi; obtain rfl := List.mem_singleton.1 hi; clear hi
    refine wpOp_step rfl (fun K3 hK3 => ?_)
    have HK3 := Lib.hid hK3
    clear hK3
    rw [if_pos (by rfl)]
    go_simp
    refine HK3.out _ _ ⟨hH5, ?_⟩
    clear HK3 K3
    try simp only [List.getElem_toArray, List.getElem_cons_succ, List.getElem_cons_zero, Act.put, List.setIfInBounds_toArray, List.set_cons_zero, List.set_cons_succ]
    refine wpAnyH_all (rs := [16]) (by as_aux_lemma => kernel_rfl) (by simp) ?_
    intro i hi; obtain rfl := List.mem_singleton.1 hi; clear hi
    refine wpOp_step rfl (fun K3 hK3 => ?_)
    have HK3 := Lib.hid hK3
    clear hK3
    rw [if_pos (by rfl)]
    go_simp
    refine HK3.out _ _ ⟨hH5, ?_⟩
    clear HK3 K3
    try simp only [List.getElem_toArray, List.getElem_cons_succ, List.getElem_cons_zero, Act.put, List.setIfInBounds_toArray, List.set_cons_zero, List.set_cons_succ]
    refine wpAnyH_done (by as_aux_lemma => kernel_rfl) ?_ _
    by_cases hk : (k : Int) ≤ g
    · have hd : decide ((k : Int) ≤ g) = true := decide_eq_true hk
      go_wp2_with fail
      go_quiet (fail)
      go_wp2
      go_ret3
      exact ⟨by show _ = Ending.returned (.tuple #[.int .i64 (k : Nat), .bool (decide ((k : Int) ≤ g)), .int .i64 0]); rw [hd]; rfl, below_drewn (hw2.trans (hH5.mono hw2.size)) _⟩
    · have hd : decide ((k : Int) ≤ g) = false := decide_eq_false hk
      have hk' : g < (k : Int) := by omega
      clear hk
      go_wp2_with fail
      go_quiet (fail)
      go_wp2
      go_ret3
      exact ⟨by show _ = Ending.returned (.tuple #[.int .i64 (k : Nat), .bool (decide ((k : Int) ≤ g)), .int .i64 0]); rw [hd]; rfl, below_drewn (hw2.trans (hH5.mono hw2.size)) _⟩
theorem ex_ways2 : waysP 10 1 3 0 = (84, 120, 0) := by kernel_rfl
theorem ex_fails1 : firstP (failF 10 5 1 (risksL 1 4 100 200)) 11 = some 4 := by kernel_rfl
theorem ex_fails2 : firstP (failF 10 3 0 (risksL 1 4 100 200)) 11 = some 1 := by kernel_rfl
theorem ex_fails3 : firstP (failF 10 6 1 (risksL 1 4 100 200)) 11 = none := by kernel_rfl
set_option maxRecDepth 100000 in
set_option maxHeartbeats 6400000 in
theorem names_any (w : World) : Calls Try.prog 4 #[] w fun e w' => e = .returned (.bool true) ∧ Below w.heap.size w w' := by
  have h1 := fun W => ways_any 10 1 3 0 W
  have h2 := fun W => fails_ok 10 5 1 4 100 200 1 W ex_lot (by kernel_rfl)
  have h3 := fun W => fails_ok 10 3 1 4 100 200 0 W ex_lot (by kernel_rfl)
  have h4 := fun W => fails_ok 10 6 1 4 100 200 1 W ex_lot (by kernel_rfl)
  have hsa := fun W => sample_any W
  rw [ex_ways2] at h1
  rw [ex_fails1] at h2
  rw [ex_fails2] at h3
  rw [ex_fails3] at h4
  unfold planV three at h1
  unfold lotV planV failsV at h2 h3 h4
  unfold lotV at hsa
  simp only [] at h1 h2 h3 h4 hsa
  have e2 : decide (((4 : Nat) : Int) ≤ 1) = false := by decide
  have e3 : decide (((1 : Nat) : Int) ≤ 1) = true := by decide
  rw [e2] at h2
  rw [e3] at h3
  have H1 := Lib.hid h1
  have H2 := Lib.hid h2
  have H3 := Lib.hid h3
  have H4 := Lib.hid h4
  have HS := Lib.hid hsa
  clear h1 h2 h3 h4 hsa e2 e3
  go_enter Try.func4, Try.ntmps4
  go_wp2_with fail
  refine (H1.out _).mono ?_
  rintro e w1 ⟨rfl, b1⟩
  go_wp2_with fail
  refine (HS.out _).mono ?_
  rintro e w2 ⟨rfl, b2⟩
  have b2 := b1.trans (b2.mono b1.size)
  go_wp2_with fail
  refine (H2.out _).mono ?_
  rintro e w3 ⟨rfl, b3⟩
  have b3 := b2.trans (b3.mono b2.size)
  go_wp2_with fail
  refine (HS.out _).mono ?_
  rintro e w4 ⟨rfl, b4⟩
  have b4 := b3.trans (b4.mono b3.size)
  go_wp2_with fail
  refine (H3.out _).mono ?_
  rintro e w5 ⟨rfl, b5⟩
  have b5 := b4.trans (b5.mono b4.size)
  go_wp2_with fail
  refine (HS.out _).mono ?_
  rintro e w6 ⟨rfl, b6⟩
  have b6 := b5.trans (b6.mono b5.size)
  go_wp2_with fail
  refine (H4.out _).mono ?_
  rintro e w7 ⟨rfl, b7⟩
  have b7 := b6.trans (b7.mono b6.size)
  go_wp2_with fail
  refine (alive_any _).mono ?_
  rintro e w8 ⟨rfl, b8⟩
  have b8 := b7.trans (b8.mono b7.size)
  clear b1 b2 b3 b4 b5 b6 b7
  go_wp2
  go_ret
  exact ⟨rfl, b8⟩
end Go.Proofs.Ytclcconllkfjiaa
