/- Contract: Twice. -/
import Derived.Test.YtclcconllkfjiaaA12
namespace Go.Proofs.Ytclcconllkfjiaa
set_option linter.unusedSimpArgs false
set_option linter.unusedVariables false
open Go.RowKit

/-- what Twice returns -/
def twiceP (n b fi ac re se tot : Int) : Int × Int × Int × Int :=
  if isDoubleB fi ac re se tot n = false then (0, 0, 0, 1) else if inB b 0 n = false then (0, 0, 0, 2) else
    ((sumF (pasW b.toNat (n - b).toNat fi.toNat se.toNat ac re tot) b.toNat (n - b).toNat fi.toNat (itemsL b.toNat (n - b).toNat fi.toNat) : Nat), (sumF (secW b.toNat (n - b).toNat fi.toNat se.toNat ac re) b.toNat (n - b).toNat fi.toNat (itemsL b.toNat (n - b).toNat fi.toNat) : Nat), (sumF (allW b.toNat (n - b).toNat fi.toNat se.toNat) b.toNat (n - b).toNat fi.toNat (itemsL b.toNat (n - b).toNat fi.toNat) : Nat), 0)
def four (r : Int × Int × Int × Int) : Value := .tuple #[.int .i64 r.1, .int .i64 r.2.1, .int .i64 r.2.2.1, .int .i64 r.2.2.2]
set_option maxRecDepth 100000 in
set_option maxHeartbeats 1600000 in
theorem twice_ok (n b fi se : Nat) (ac re tot : Int) (w : World) (h1 : 1 ≤ n) (h2 : n ≤ 30) (h3 : b ≤ n) (h4 : fi + se ≤ n) (ht : -1000 ≤ tot ∧ tot ≤ 1000) (hd : isDoubleB (fi : Nat) ac re (se : Nat) tot (n : Nat) = true) :
    Calls Try.prog 11 #[.int .i64 (n : Nat), .int .i64 (b : Nat), doubleV (fi : Nat) ac re (se : Nat) tot] w fun e w' => e = .returned (four ((sumF (pasW b (n - b) fi se ac re tot) b (n - b) fi (itemsL b (n - b) fi) : Nat), (sumF (secW b (n - b) fi se ac re) b (n - b) fi (itemsL b (n - b) fi) : Nat), (sumF (allW b (n - b) fi se) b (n - b) fi (itemsL b (n - b) fi) : Nat), 0)) ∧ Below w.heap.size w w' := by
  obtain ⟨W0, hW0⟩ : ∃ X, X = w.alloc (.cells #[.int .i64 (fi : Nat), .int .i64 ac, .int .i64 re, .int .i64 (se : Nat), .int .i64 tot] 25) := ⟨_, rfl⟩
  have hb0 : Below w.heap.size w W0 := by rw [hW0]; exact (Below.refl _ _).alloc (Nat.le_refl _) _
  have k0 : W0.heap[w.heap.size]? = some (.cells #[.int .i64 (fi : Nat), .int .i64 ac, .int .i64 re, .int .i64 (se : Nat), .int .i64 tot] 25 (0, 0)) := by rw [hW0]; exact alloc_heap _ _
  have hwl := (Array.getElem?_eq_some_iff.1 k0).1
  have hdb := isDouble_any (fi : Nat) ac re (se : Nat) tot (n : Nat)
  rw [hd] at hdb
  have hte := fun T W (h : TriAt W T) => testedTwice_any T b (n - b) fi se ac re tot W h (by omega) (by omega) ht
  have hlw := fun W => lotWith_any (b : Nat) (n : Nat) W (by omega) (by omega)
  have e1 : ((n : Int) - (b : Int)) = ((n - b : Nat) : Int) := by omega
  rw [e1] at hlw
  have f2 := fun W => isFrom_any (b : Nat) 0 (n : Nat) W
  rw [show inB (b : Nat) 0 (n : Nat) = true from inB_iff.2 (by omega)] at f2
  obtain ⟨P, hP⟩ : ∃ P, sumF (pasW b (n - b) fi se ac re tot) b (n - b) fi (itemsL b (n - b) fi) = P := ⟨_, rfl⟩
  obtain ⟨Q, hQ⟩ : ∃ Q, sumF (secW b (n - b) fi se ac re) b (n - b) fi (itemsL b (n - b) fi) = Q := ⟨_, rfl⟩
  obtain ⟨R, hR⟩ : ∃ R, sumF (allW b (n - b) fi se) b (n - b) fi (itemsL b (n - b) fi) = R := ⟨_, rfl⟩
  rw [hP, hQ, hR] at hte
  unfold doubleV at hdb hte ⊢
  unfold mets at hte hlw
  have HDB := Lib.hid hdb
  have HTE := Lib.hid hte
  have HLW := Lib.hid hlw
  have F2 := Lib.hid f2
  have HPQ := Lib.hid (And.intro hP (And.intro hQ hR))
  have K0 := Lib.hid k0
  obtain ⟨c0, c1, c2, c3, c4⟩ := five_cells k0
  clear hdb hte hlw f2 hP hQ hR e1 k0 hd
  go_enter Try.func11, Try.ntmps11
  go_wp2_with fail
  rw [← hW0]
  clear hW0
  refine (HDB.out _).mono ?_
  rintro e w1 ⟨rfl, hb1⟩
  go_wp2_with fail
  refine (F2.out _).mono ?_
  rintro e w3 ⟨rfl, rfl⟩
  have hw3 : Below w.heap.size w w1 := hb0.trans (hb1.mono hb0.size)
  have K3 := Lib.hid ((hb1.block _ hwl).trans K0.out)
  clear c0 c1 c2 c3 c4
  go_wp2_with fail
  refine wp_region_held_drew (S := fun w' => Below w1.heap.size w1 w') (by as_aux_lemma => kernel_rfl) (Below.refl _ _).drew (fun hHeld => ?_)
  refine wpAnyH_take (i := 1) (oi := _) (v := ?_) rfl (by as_aux_lemma => kernel_rfl) (by as_aux_lemma => kernel_rfl) (by as_aux_lemma => kernel_rfl) (fun _ _ _ h => h) (Or.inl ⟨by rfl, ?_⟩) hHeld ?_
  rotate_left
  · intro w1 hSw

    go_simp; with_reducible rfl
  simp only [List.getElem_toArray, List.getElem_cons_succ, List.getElem_cons_zero, Act.put, List.setIfInBounds_toArray, List.set_cons_zero, List.set_cons_succ]
  refine wpAnyH_take (i := 2) (oi := _) (v := ?_) rfl (by as_aux_lemma => kernel_rfl) (by as_aux_lemma => kernel_rfl) (by as_aux_lemma => kernel_rfl) (fun _ _ _ h => h) (Or.inl ⟨by rfl, ?_⟩) hHeld ?_
  rotate_left
  · intro w1 hSw

    go_simp; with_reducible rfl
  simp only [List.getElem_toArray, List.getElem_cons_succ, List.getElem_cons_zero, Act.put, List.setIfInBounds_toArray, List.set_cons_zero, List.set_cons_succ]
  refine wpAnyH_take (i := 4) (oi := _) (v := ?_) rfl (by as_aux_lemma => kernel_rfl) (by as_aux_lemma => kernel_rfl) (by as_aux_lemma => kernel_rfl) (fun _ _ _ h => h) (Or.inl ⟨by rfl, ?_⟩) hHeld ?_
  rotate_left
  · intro w1 hSw
    obtain ⟨d0, d1, d2, d3, d4⟩ := five_cells ((hSw.block _ (Array.getElem?_eq_some_iff.1 K3.out).1).trans K3.out)
    go_simp; with_reducible rfl
  simp only [List.getElem_toArray, List.getElem_cons_succ, List.getElem_cons_zero, Act.put, List.setIfInBounds_toArray, List.set_cons_zero, List.set_cons_succ]
  generalize w1.drew = Y0 at hHeld ⊢
  refine wpAnyH_all (rs := [0]) (by as_aux_lemma => kernel_rfl) (by simp) ?_
  intro i hi; obtain rfl := List.mem_singleton.1 hi; clear hi
  refine wpOp_step rfl (fun K3 hK3 => ?_)
  have HK3 := Lib.hid hK3
  clear hK3
  rw [if_pos (by rfl)]
  go_simp
  refine (newTriangle_any _).mono ?_
  rintro e Y1 ⟨T, rfl, -, hT1, hc1⟩
  have hH1 := hHeld.trans (hc1.mono hHeld.size)
  refine HK3.out _ _ ⟨hH1, ?_⟩
  clear HK3 K3
  try simp only [List.getElem_toArray, List.getElem_cons_succ, List.getElem_cons_zero, Act.put, List.setIfInBounds_toArray, List.set_cons_zero, List.set_cons_succ]
  refine wpAnyH_all (rs := [3]) (by as_aux_lemma => kernel_rfl) (by simp) ?_
  intro i hi; obtain rfl := List.mem_singleton.1 hi; clear hi
  refine wpOp_step rfl (fun K3 hK3 => ?_)
  have HK3 := Lib.hid hK3
  clear hK3
  rw [if_pos (by rfl)]
  go_simp
  refine (HLW.out _).mono ?_
  rintro e Y2 ⟨rfl, hc2⟩
  have hT2 := hT1.below hc2 hT1.lt
  have hH2 := hH1.trans (hc2.mono hH1.size)
  refine HK3.out _ _ ⟨hH2, ?_⟩
  clear HK3 K3
  try simp only [List.getElem_toArray, List.getElem_cons_succ, List.getElem_cons_zero, Act.put, List.setIfInBounds_toArray, List.set_cons_zero, List.set_cons_succ]
  refine wpAnyH_all (rs := [5]) (by as_aux_lemma => kernel_rfl) (by simp) ?_
  intro i hi; obtain rfl := List.mem_singleton.1 hi; clear hi
  refine wpOp_step rfl (fun K3 hK3 => ?_)
  have HK3 := Lib.hid hK3
  clear hK3
  rw [if_pos (by rfl)]
  go_simp
  refine (HTE.out _ _ hT2).mono ?_
  rintro e Y3 ⟨rfl, hc3⟩
  have hH3 := hH2.trans (hc3.mono hH2.size)
  refine HK3.out _ _ ⟨hH3, ?_⟩
  clear HK3 K3
  try simp only [List.getElem_toArray, List.getElem_cons_succ, List.getElem_cons_zero, Act.put, List.setIfInBounds_toArray, List.set_cons_zero, List.set_cons_succ]
  refine wpAnyH_take (i := 6) (oi := _) (v := ?_) rfl (by as_aux_lemma => kernel_rfl) (by as_aux_lemma => kernel_rfl) (by as_aux_lemma => kernel_rfl) (fun _ _ _ h => h) (Or.inl ⟨by rfl, ?_⟩) hH3 ?_
  rotate_left
  · intro w1 hSw

    go_simp; with_reducible rfl
  simp only [List.getElem_toArray, List.getElem_cons_succ, List.getElem_cons_zero, Act.put, List.setIfInBounds_toArray, List.set_cons_zero, List.set_cons_succ]
  refine wpAnyH_take (i := 7) (oi := _) (v := ?_) rfl (by as_aux_lemma => kernel_rfl) (by as_aux_lemma => kernel_rfl) (by as_aux_lemma => kernel_rfl) (fun _ _ _ h => h) (Or.inl ⟨by rfl, ?_⟩) hH3 ?_
  rotate_left
  · intro w1 hSw

    go_simp; with_reducible rfl
  simp only [List.getElem_toArray, List.getElem_cons_succ, List.getElem_cons_zero, Act.put, List.setIfInBounds_toArray, List.set_cons_zero, List.set_cons_succ]
  refine wpAnyH_take (i := 8) (oi := _) (v := ?_) rfl (by as_aux_lemma => kernel_rfl) (by as_aux_lemma => kernel_rfl) (by as_aux_lemma => kernel_rfl) (fun _ _ _ h => h) (Or.inl ⟨by rfl, ?_⟩) hH3 ?_
  rotate_left
  · intro w1 hSw

    go_simp; with_reducible rfl
  simp only [List.getElem_toArray, List.getElem_cons_succ, List.getElem_cons_zero, Act.put, List.setIfInBounds_toArray, List.set_cons_zero, List.set_cons_succ]
  refine wpAnyH_take (i := 9) (oi := _) (v := ?_) rfl (by as_aux_lemma => kernel_rfl) (by as_aux_lemma => kernel_rfl) (by as_aux_lemma => kernel_rfl) (fun _ _ _ h => h) (Or.inl ⟨by rfl, ?_⟩) hH3 ?_
  rotate_left
  · intro w1 hSw

    go_simp; with_reducible rfl
  simp only [List.getElem_toArray, List.getElem_cons_succ, List.getElem_cons_zero, Act.put, List.setIfInBounds_toArray, List.set_cons_zero, List.set_cons_succ]
  refine wpAnyH_all (rs := [10]) (by as_aux_lemma => kernel_rfl) (by simp) ?_
  intro i hi; obtain rfl := List.mem_singleton.1 hi; clear hi
  refine wpOp_step rfl (fun K3 hK3 => ?_)
  have HK3 := Lib.hid hK3
  clear hK3
  rw [if_pos (by rfl)]
  go_simp
  refine HK3.out _ _ ⟨hH3, ?_⟩
  clear HK3 K3
  try simp only [List.getElem_toArray, List.getElem_cons_succ, List.getElem_cons_zero, Act.put, List.setIfInBounds_toArray, List.set_cons_zero, List.set_cons_succ]
  refine wpAnyH_all (rs := [11]) (by as_aux_lemma => kernel_rfl) (by simp) ?_
  intro i hi; obtain rfl := List.mem_singleton.1 hi; clear hi
  refine wpOp_step rfl (fun K3 hK3 => ?_)
  have HK3 := Lib.hid hK3
  clear hK3
  rw [if_pos (by rfl)]
  go_simp
  refine HK3.out _ _ ⟨hH3, ?_⟩
  clear HK3 K3
  try simp only [List.getElem_toArray, List.getElem_cons_succ, List.getElem_cons_zero, Act.put, List.setIfInBounds_toArray, List.set_cons_zero, List.set_cons_succ]
  refine wpAnyH_all (rs := [12]) (by as_aux_lemma => kernel_rfl) (by simp) ?_
  intro i hi; obtain rfl := List.mem_singleton.1 hi; clear hi
  refine wpOp_step rfl (fun K3 hK3 => ?_)
  have HK3 := Lib.hid hK3
  clear hK3
  rw [if_pos (by rfl)]
  go_simp
  refine HK3.out _ _ ⟨hH3, ?_⟩
  clear HK3 K3
  try simp only [List.getElem_toArray, List.getElem_cons_succ, List.getElem_cons_zero, Act.put, List.setIfInBounds_toArray, List.set_cons_zero, List.set_cons_succ]
  refine wpAnyH_done (by as_aux_lemma => kernel_rfl) ?_ _
  go_wp2
  refine bodyPost_ret (v := .tuple #[.int .i64 (P : Nat), .int .i64 (Q : Nat), .int .i64 (R : Nat), .int .i64 0]) (by simp [results, Try.results11, go_sem]) rfl ⟨?_, hw3.trans (hH3.mono hw3.size)⟩
  rw [HPQ.out.1, HPQ.out.2.1, HPQ.out.2.2]; rfl
set_option maxHeartbeats 1600000 in
theorem twice_any (n b fi ac re se tot : Int) (w : World) : Calls Try.prog 11 #[.int .i64 n, .int .i64 b, doubleV fi ac re se tot] w fun e w' => e = .returned (four (twiceP n b fi ac re se tot)) ∧ Below w.heap.size w w' := by
  have f1 := fun W => isDouble_any fi ac re se tot n W
  have f2 := fun W => isFrom_any b 0 n W
  obtain ⟨y1, hy1⟩ : ∃ y, isDoubleB fi ac re se tot n = y := ⟨_, rfl⟩
  obtain ⟨y2, hy2⟩ : ∃ y, inB b 0 n = y := ⟨_, rfl⟩
  rw [hy1] at f1
  rw [hy2] at f2
  have F1 := Lib.hid f1
  have F2 := Lib.hid f2
  have Y1 := Lib.hid hy1
  have Y2 := Lib.hid hy2
  clear f1 f2 hy1 hy2
  cases y1 with
  | false =>
    have HR := Lib.hid (show twiceP n b fi ac re se tot = (0, 0, 0, 1) by unfold twiceP; rw [if_pos Y1.out])
    unfold doubleV at F1 ⊢
    go_enter Try.func11, Try.ntmps11
    go_wp2_with fail
    refine (F1.out _).mono ?_
    rintro e w1 ⟨rfl, hb1⟩
    go_wp2
    refine bodyPost_ret (v := .tuple #[.int .i64 0, .int .i64 0, .int .i64 0, .int .i64 1]) (by simp [results, Try.results11, go_sem]) rfl ⟨by rw [HR.out]; rfl, ((Below.refl _ _).alloc (Nat.le_refl _) _).trans (hb1.mono (by simp))⟩
  | true =>
    cases y2 with
    | false =>
      have HR := Lib.hid (show twiceP n b fi ac re se tot = (0, 0, 0, 2) by unfold twiceP; rw [if_neg (by rw [Y1.out]; decide), if_pos Y2.out])
      unfold doubleV at F1 ⊢
      go_enter Try.func11, Try.ntmps11
      go_wp2_with fail
      refine (F1.out _).mono ?_
      rintro e w1 ⟨rfl, hb1⟩
      go_wp2_with fail
      refine (F2.out _).mono ?_
      rintro e w2 ⟨rfl, rfl⟩
      go_wp2
      refine bodyPost_ret (v := .tuple #[.int .i64 0, .int .i64 0, .int .i64 0, .int .i64 2]) (by simp [results, Try.results11, go_sem]) rfl ⟨by rw [HR.out]; rfl, ((Below.refl _ _).alloc (Nat.le_refl _) _).trans (hb1.mono (by simp))⟩
    | true =>
      obtain ⟨b1, b2⟩ := inB_iff.1 Y2.out
      have hp := Y1.out
      unfold isDoubleB at hp
      simp only [Bool.and_eq_true] at hp
      obtain ⟨⟨⟨⟨⟨p1, p2⟩, p3⟩, p4⟩, p5⟩, p6⟩ := hp
      obtain ⟨n1, n2⟩ := inB_iff.1 p1
      obtain ⟨i1, i2⟩ := inB_iff.1 p2
      obtain ⟨s1, s2⟩ := inB_iff.1 p3
      obtain ⟨a1, a2⟩ := inB_iff.1 p4
      obtain ⟨t1, t2⟩ := inB_iff.1 p6
      have en : ((n.toNat : Nat) : Int) = n := by omega
      have eb : ((b.toNat : Nat) : Int) = b := by omega
      have ef : ((fi.toNat : Nat) : Int) = fi := by omega
      have es : ((se.toNat : Nat) : Int) = se := by omega
      have := twice_ok n.toNat b.toNat fi.toNat se.toNat ac re tot w (by omega) (by omega) (by omega) (by omega) ⟨by omega, by omega⟩ (by rw [en, ef, es]; exact Y1.out)
      rw [en, eb, ef, es] at this
      refine this.mono ?_
      rintro e w' ⟨rfl, hb⟩
      refine ⟨?_, hb⟩
      unfold twiceP
      rw [if_neg (by rw [Y1.out]; decide), if_neg (by rw [Y2.out]; decide), show (n - b).toNat = n.toNat - b.toNat by omega]
end Go.Proofs.Ytclcconllkfjiaa
