/- Contracts: Ways, Twice. -/
import Derived.Test.YtclcconllkfjiaaA11
import Derived.Deep.RegionHeld3
namespace Go.Proofs.Ytclcconllkfjiaa
set_option linter.unusedSimpArgs false
set_option linter.unusedVariables false
open Go.RowKit

/-- what Ways returns -/
def waysP (n b c a : Int) : Int × Int × Int :=
  if inB n 1 50 = false then (0, 0, 1) else if (inB b 0 n && isPlanB c a n) = false then (0, 0, 2) else ((passN b.toNat (n - b).toNat c.toNat a : Nat), (ch n.toNat c.toNat : Nat), 0)
def three (r : Int × Int × Int) : Value := .tuple #[.int .i64 r.1, .int .i64 r.2.1, .int .i64 r.2.2]
set_option maxRecDepth 100000 in
set_option maxHeartbeats 1600000 in
theorem ways_ok (n b c : Nat) (a : Int) (w : World) (h1 : 1 ≤ n) (h2 : n ≤ 50) (h3 : b ≤ n) (h4 : c ≤ n) (h5 : 0 ≤ a) (h6 : a ≤ c) :
    Calls Try.prog 9 #[.int .i64 (n : Nat), .int .i64 (b : Nat), planV (c : Nat) a] w fun e w' => e = .returned (three ((passN b (n - b) c a : Nat), (ch n c : Nat), 0)) ∧ Below w.heap.size w w' := by
  obtain ⟨W0, hW0⟩ : ∃ X, X = w.alloc (.cells #[.int .i64 (c : Nat), .int .i64 a] 23) := ⟨_, rfl⟩
  have hb0 : Below w.heap.size w W0 := by rw [hW0]; exact (Below.refl _ _).alloc (Nat.le_refl _) _
  have k0 : W0.heap[w.heap.size]? = some (.cells #[.int .i64 (c : Nat), .int .i64 a] 23 (0, 0)) := by rw [hW0]; exact alloc_heap _ _
  have hlt := hb0.size
  have hwl := (Array.getElem?_eq_some_iff.1 k0).1
  have hpl := isPlan_any (c : Nat) a (n : Nat)
  rw [show isPlanB (c : Nat) a (n : Nat) = true by unfold isPlanB inB; rw [decide_eq_true (by omega), decide_eq_true (by omega)]; rfl] at hpl
  have hte := fun T W (h : TriAt W T) => tested_any T b (n - b) c a W h (by omega) (by omega)
  rw [show b + (n - b) = n by omega] at hte
  have hlw := fun W => lotWith_any (b : Nat) (n : Nat) W (by omega) (by omega)
  have e1 : ((n : Int) - (b : Int)) = ((n - b : Nat) : Int) := by omega
  rw [e1] at hlw
  have f1 := fun W => isFrom_any (n : Nat) 1 50 W
  have f2 := fun W => isFrom_any (b : Nat) 0 (n : Nat) W
  rw [show inB (n : Nat) 1 50 = true from inB_iff.2 (by omega)] at f1
  rw [show inB (b : Nat) 0 (n : Nat) = true from inB_iff.2 (by omega)] at f2
  obtain ⟨P, hP⟩ : ∃ P, passN b (n - b) c a = P := ⟨_, rfl⟩
  obtain ⟨Q, hQ⟩ : ∃ Q, ch n c = Q := ⟨_, rfl⟩
  rw [hP, hQ] at hte
  unfold planV at hpl hte ⊢
  unfold mets at hte hlw
  have HPL := Lib.hid hpl
  have HTE := Lib.hid hte
  have HLW := Lib.hid hlw
  have F1 := Lib.hid f1
  have F2 := Lib.hid f2
  have HPQ := Lib.hid (And.intro hP hQ)
  have K0 := Lib.hid k0
  clear hpl hte hlw f1 f2 hP hQ e1 k0
  go_enter Try.func9, Try.ntmps9
  go_wp2_with fail
  rw [← hW0]
  clear hW0
  refine (F1.out _).mono ?_
  rintro e w1 ⟨rfl, rfl⟩
  go_wp2_with fail
  refine (F2.out _).mono ?_
  rintro e w1 ⟨rfl, rfl⟩
  have c0 := two_cells K0.out
  obtain ⟨c0, c1⟩ := c0
  go_wp2_with fail
  refine (HPL.out _).mono ?_
  rintro e w3 ⟨rfl, hb3⟩
  have hw3 : Below w.heap.size w w3 := hb0.trans (hb3.mono hb0.size)
  have K3 := Lib.hid ((hb3.block _ hwl).trans K0.out)
  have hz3 := hb3.size
  clear c0 c1
  go_wp2_with fail
  refine wp_region_held_drew (S := fun w' => Below w3.heap.size w3 w') (by as_aux_lemma => kernel_rfl) (Below.refl _ _).drew (fun hHeld => ?_)
  refine wpAnyH_take (i := 1) (oi := _) (v := ?_) rfl (by as_aux_lemma => kernel_rfl) (by as_aux_lemma => kernel_rfl) (by as_aux_lemma => kernel_rfl) (fun _ _ _ h => h) (Or.inl ⟨by rfl, ?_⟩) hHeld ?_
  rotate_left
  · intro w1 hSw

    go_simp; with_reducible rfl
  simp only [List.getElem_toArray, List.getElem_cons_succ, List.getElem_cons_zero, Act.put, List.setIfInBounds_toArray, List.set_cons_zero, List.set_cons_succ]
  refine wpAnyH_take (i := 2) (oi := _) (v := ?_) rfl (by as_aux_lemma => kernel_rfl) (by as_aux_lemma => kernel_rfl) (by as_aux_lemma => kernel_rfl) (fun _ _ _ h => h) (Or.inl ⟨by rfl, ?_⟩) hHeld ?_
  rotate_left
  · intro w1 hSw

    go_simp; with_reducible rfl
  simp only [List.getElem_toArray, List.getElem_cons_succ, List.getElem_cons_zero, Act.put, List.setIfInBounds_toArray, List.set_cons_zero, List.set_cons_succ]
  refine wpAnyH_take (i := 4) (oi := _) (v := ?_) rfl (by as_aux_lemma => kernel_rfl) (by as_aux_lemma => kernel_rfl) (by as_aux_lemma => kernel_rfl) (fun _ _ _ h => h) (Or.inl ⟨by rfl, ?_⟩) hHeld ?_
  rotate_left
  · intro w1 hSw
    obtain ⟨d0, d1⟩ := two_cells ((hSw.block _ (Array.getElem?_eq_some_iff.1 K3.out).1).trans K3.out)
    go_simp; with_reducible rfl
  simp only [List.getElem_toArray, List.getElem_cons_succ, List.getElem_cons_zero, Act.put, List.setIfInBounds_toArray, List.set_cons_zero, List.set_cons_succ]
  generalize w3.drew = Y0 at hHeld ⊢
  refine wpAnyH_all (rs := [0]) (by as_aux_lemma => kernel_rfl) (by simp) ?_
  intro i hi; obtain rfl := List.mem_singleton.1 hi; clear hi
  refine wpOp_step rfl (fun K3 hK3 => ?_)
  have HK3 := Lib.hid hK3
  clear hK3
  rw [if_pos (by rfl)]
  go_simp
  refine (newTriangle_any _).mono ?_
  rintro e Y1 ⟨T, rfl, -, hT1, hc1⟩
  have hH1 := hHeld.trans (hc1.mono hHeld.size)
  refine HK3.out _ _ ⟨hH1, ?_⟩
  clear HK3 K3
  try simp only [List.getElem_toArray, List.getElem_cons_succ, List.getElem_cons_zero, Act.put, List.setIfInBounds_toArray, List.set_cons_zero, List.set_cons_succ]
  refine wpAnyH_all (rs := [3]) (by as_aux_lemma => kernel_rfl) (by simp) ?_
  intro i hi; obtain rfl := List.mem_singleton.1 hi; clear hi
  refine wpOp_step rfl (fun K3 hK3 => ?_)
  have HK3 := Lib.hid hK3
  clear hK3
  rw [if_pos (by rfl)]
  go_simp
  refine (HLW.out _).mono ?_
  rintro e Y2 ⟨rfl, hc2⟩
  have hT2 := hT1.below hc2 hT1.lt
  have hH2 := hH1.trans (hc2.mono hH1.size)
  refine HK3.out _ _ ⟨hH2, ?_⟩
  clear HK3 K3
  try simp only [List.getElem_toArray, List.getElem_cons_succ, List.getElem_cons_zero, Act.put, List.setIfInBounds_toArray, List.set_cons_zero, List.set_cons_succ]
  refine wpAnyH_all (rs := [5]) (by as_aux_lemma => kernel_rfl) (by simp) ?_
  intro i hi; obtain rfl := List.mem_singleton.1 hi; clear hi
  refine wpOp_step rfl (fun K3 hK3 => ?_)
  have HK3 := Lib.hid hK3
  clear hK3
  rw [if_pos (by rfl)]
  go_simp
  refine (HTE.out _ _ hT2).mono ?_
  rintro e Y3 ⟨rfl, hc3⟩
  have hH3 := hH2.trans (hc3.mono hH2.size)
  refine HK3.out _ _ ⟨hH3, ?_⟩
  clear HK3 K3
  try simp only [List.getElem_toArray, List.getElem_cons_succ, List.getElem_cons_zero, Act.put, List.setIfInBounds_toArray, List.set_cons_zero, List.set_cons_succ]
  refine wpAnyH_take (i := 6) (oi := _) (v := ?_) rfl (by as_aux_lemma => kernel_rfl) (by as_aux_lemma => kernel_rfl) (by as_aux_lemma => kernel_rfl) (fun _ _ _ h => h) (Or.inl ⟨by rfl, ?_⟩) hH3 ?_
  rotate_left
  · intro w1 hSw

    go_simp; with_reducible rfl
  simp only [List.getElem_toArray, List.getElem_cons_succ, List.getElem_cons_zero, Act.put, List.setIfInBounds_toArray, List.set_cons_zero, List.set_cons_succ]
  refine wpAnyH_take (i := 7) (oi := _) (v := ?_) rfl (by as_aux_lemma => kernel_rfl) (by as_aux_lemma => kernel_rfl) (by as_aux_lemma => kernel_rfl) (fun _ _ _ h => h) (Or.inl ⟨by rfl, ?_⟩) hH3 ?_
  rotate_left
  · intro w1 hSw

    go_simp; with_reducible rfl
  simp only [List.getElem_toArray, List.getElem_cons_succ, List.getElem_cons_zero, Act.put, List.setIfInBounds_toArray, List.set_cons_zero, List.set_cons_succ]
  refine wpAnyH_take (i := 8) (oi := _) (v := ?_) rfl (by as_aux_lemma => kernel_rfl) (by as_aux_lemma => kernel_rfl) (by as_aux_lemma => kernel_rfl) (fun _ _ _ h => h) (Or.inl ⟨by rfl, ?_⟩) hH3 ?_
  rotate_left
  · intro w1 hSw

    go_simp; with_reducible rfl
  simp only [List.getElem_toArray, List.getElem_cons_succ, List.getElem_cons_zero, Act.put, List.setIfInBounds_toArray, List.set_cons_zero, List.set_cons_succ]
  refine wpAnyH_all (rs := [9]) (by as_aux_lemma => kernel_rfl) (by simp) ?_
  intro i hi; obtain rfl := List.mem_singleton.1 hi; clear hi
  refine wpOp_step rfl (fun K3 hK3 => ?_)
  have HK3 := Lib.hid hK3
  clear hK3
  rw [if_pos (by rfl)]
  go_simp
  refine HK3.out _ _ ⟨hH3, ?_⟩
  clear HK3 K3
  try simp only [List.getElem_toArray, List.getElem_cons_succ, List.getElem_cons_zero, Act.put, List.setIfInBounds_toArray, List.set_cons_zero, List.set_cons_succ]
  refine wpAnyH_all (rs := [10]) (by as_aux_lemma => kernel_rfl) (by simp) ?_
  intro i hi; obtain rfl := List.mem_singleton.1 hi; clear hi
  refine wpOp_step rfl (fun K3 hK3 => ?_)
  have HK3 := Lib.hid hK3
  clear hK3
  rw [if_pos (by rfl)]
  go_simp
  refine HK3.out _ _ ⟨hH3, ?_⟩
  clear HK3 K3
  try simp only [List.getElem_toArray, List.getElem_cons_succ, List.getElem_cons_zero, Act.put, List.setIfInBounds_toArray, List.set_cons_zero, List.set_cons_succ]
  refine wpAnyH_done (by as_aux_lemma => kernel_rfl) ?_ _
  go_wp2
  go_ret3
  exact ⟨by rw [HPQ.out.1, HPQ.out.2]; rfl, hw3.trans (hH3.mono hw3.size)⟩
set_option maxHeartbeats 1600000 in
theorem ways_any (n b c a : Int) (w : World) : Calls Try.prog 9 #[.int .i64 n, .int .i64 b, planV c a] w fun e w' => e = .returned (three (waysP n b c a)) ∧ Below w.heap.size w w' := by
  have f1 := fun W => isFrom_any n 1 50 W
  have f2 := fun W => isFrom_any b 0 n W
  have f3 := fun W => isPlan_any c a n W
  obtain ⟨y1, hy1⟩ : ∃ y, inB n 1 50 = y := ⟨_, rfl⟩
  obtain ⟨y2, hy2⟩ : ∃ y, inB b 0 n = y := ⟨_, rfl⟩
  obtain ⟨y3, hy3⟩ : ∃ y, isPlanB c a n = y := ⟨_, rfl⟩
  rw [hy1] at f1
  rw [hy2] at f2
  rw [hy3] at f3
  have hr : waysP n b c a = (if y1 = false then (0, 0, 1) else if (y2 && y3) = false then (0, 0, 2) else ((passN b.toNat (n - b).toNat c.toNat a : Nat), (ch n.toNat c.toNat : Nat), 0) : Int × Int × Int) := by unfold waysP; rw [hy1, hy2, hy3]
  have HR := Lib.hid hr
  have F1 := Lib.hid f1
  have F2 := Lib.hid f2
  have F3 := Lib.hid f3
  have Y1 := Lib.hid hy1
  have Y2 := Lib.hid hy2
  have Y3 := Lib.hid hy3
  clear hr f1 f2 f3 hy1 hy2 hy3
  cases y1 with
  | false =>
    unfold planV
    go_enter Try.func9, Try.ntmps9
    go_wp2_with fail
    refine (F1.out _).mono ?_
    rintro e w1 ⟨rfl, rfl⟩
    go_wp2
    go_ret3
    exact ⟨by rw [HR.out]; rfl, (Below.refl _ _).alloc (Nat.le_refl _) _⟩
  | true =>
    cases y2 with
    | false =>
      unfold planV
      go_enter Try.func9, Try.ntmps9
      go_wp2_with fail
      refine (F1.out _).mono ?_
      rintro e w1 ⟨rfl, rfl⟩
      go_wp2_with fail
      refine (F2.out _).mono ?_
      rintro e w1 ⟨rfl, rfl⟩
      go_wp2
      go_ret3
      exact ⟨by rw [HR.out]; rfl, (Below.refl _ _).alloc (Nat.le_refl _) _⟩
    | true =>
      cases y3 with
      | false =>
        unfold planV at F3 ⊢
        obtain ⟨W0, hW0⟩ : ∃ X, X = w.alloc (.cells #[.int .i64 c, .int .i64 a] 23) := ⟨_, rfl⟩
        have hb0 : Below w.heap.size w W0 := by rw [hW0]; exact (Below.refl _ _).alloc (Nat.le_refl _) _
        have k0 : W0.heap[w.heap.size]? = some (.cells #[.int .i64 c, .int .i64 a] 23 (0, 0)) := by rw [hW0]; exact alloc_heap _ _
        obtain ⟨c0, c1⟩ := two_cells k0
        go_enter Try.func9, Try.ntmps9
        go_wp2_with fail
        rw [← hW0]
        clear hW0 k0
        refine (F1.out _).mono ?_
        rintro e w1 ⟨rfl, rfl⟩
        go_wp2_with fail
        refine (F2.out _).mono ?_
        rintro e w1 ⟨rfl, rfl⟩
        go_wp2_with fail
        refine (F3.out _).mono ?_
        rintro e w3 ⟨rfl, hb3⟩
        go_wp2
        go_ret3
        exact ⟨by rw [HR.out]; rfl, hb0.trans (hb3.mono hb0.size)⟩
      | true =>
        obtain ⟨n1, n2⟩ := inB_iff.1 Y1.out
        obtain ⟨b1, b2⟩ := inB_iff.1 Y2.out
        have hp := Y3.out
        unfold isPlanB at hp
        rw [Bool.and_eq_true] at hp
        obtain ⟨c1, c2⟩ := inB_iff.1 hp.1
        obtain ⟨a1, a2⟩ := inB_iff.1 hp.2
        have := ways_ok n.toNat b.toNat c.toNat a w (by omega) (by omega) (by omega) (by omega) a1 (by omega)
        rw [show ((n.toNat : Nat) : Int) = n by omega, show ((b.toNat : Nat) : Int) = b by omega, show ((c.toNat : Nat) : Int) = c by omega] at this
        refine this.mono ?_
        rintro e w' ⟨rfl, hb⟩
        exact ⟨by rw [HR.out, show (n - b).toNat = n.toNat - b.toNat by omega]; rfl, hb⟩
end Go.Proofs.Ytclcconllkfjiaa
