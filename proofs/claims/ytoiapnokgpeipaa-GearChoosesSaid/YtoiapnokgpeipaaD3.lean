/- Build. -/
import Derived.Test.YtoiapnokgpeipaaD2
namespace Go.Proofs.Ytoiapnokgpeipaa
set_option linter.unusedSimpArgs false
open Go.RowKit Go.Maps

theorem tcells {X : World} {b : Nat} {a : Option Addr} {n c : Nat} {i : Int} (h : X.heap[b]? = some (.cells #[.slice a n c, .int .i64 i] 27)) :
    X.cell? ⟨b, 0, none⟩ = some (.slice a n c) ∧ X.cell? ⟨b, 1, none⟩ = some (.int .i64 i) := by
  refine ⟨?_, ?_⟩ <;> simp [World.cell?, h]

set_option maxRecDepth 100000 in
set_option maxHeartbeats 3200000 in
theorem build_any (S : List (Int × Int)) (sv : Value) (t r p o : Int) (same : Bool) (P : List (Int × Int)) (pv : Value) (i : Int) (w : World) (hS : WheelsAt w sv S) (hP : WheelsAt w pv P) (hss : ∀ b off n c, sv = .slice (some ⟨b, off, none⟩) n c → b < w.heap.size) :
    Calls Try.prog 13 #[sv, .agg #[.int .i64 t, .int .i64 r, .bool same, .int .i64 p, .int .i64 o], .agg #[pv, .int .i64 i]] w
      fun e w' => e = .returned (.tuple #[.int .i64 (buildC S t r p o same P i).1, .int .i64 (buildC S t r p o same P i).2]) ∧ Below w.heap.size w w' := by
  obtain ⟨C, hCC⟩ : ∃ C, C = buildC S t r p o same P i := ⟨_, rfl⟩
  rw [← hCC]
  have HCC := Lib.hid hCC
  clear hCC
  obtain ⟨N, cap, sa, rfl, hNl⟩ : ∃ N cap sa, pv = .slice sa N cap ∧ N = P.length := by
    obtain ⟨_, ⟨rfl, a, cap, rfl⟩ | ⟨b, off, cap, rfl, _⟩⟩ := hP
    · exact ⟨0, cap, a, rfl, rfl⟩
    · exact ⟨_, cap, _, rfl, rfl⟩
  obtain ⟨M, scap, ss, rfl, hMl⟩ : ∃ M cap sa, sv = .slice sa M cap ∧ M = S.length := by
    obtain ⟨_, ⟨rfl, a, cap, rfl⟩ | ⟨b, off, cap, rfl, _⟩⟩ := hS
    · exact ⟨0, cap, a, rfl, rfl⟩
    · exact ⟨_, cap, _, rfl, rfl⟩
  have HN := Lib.hid hNl
  clear hNl hMl
  obtain ⟨W0, hW0⟩ : ∃ W0, W0 = (w.alloc (.cells #[.int .i64 t, .int .i64 r, .bool same, .int .i64 p, .int .i64 o] 24)).alloc (.cells #[.slice sa N cap, .int .i64 i] 27) := ⟨_, rfl⟩
  have hg0 : Below w.heap.size w W0 := by rw [hW0]; exact ((Below.refl _ _).alloc (Nat.le_refl _) _).alloc (by simp) _
  have hG0 : W0.heap[w.heap.size]? = some (.cells #[.int .i64 t, .int .i64 r, .bool same, .int .i64 p, .int .i64 o] 24) := by rw [hW0, Below.heap_alloc _ _ _ (by simp)]; exact (MapKept.heap_alloc w _).1
  have hR0 : W0.heap[w.heap.size + 1]? = some (.cells #[.slice sa N cap, .int .i64 i] 27) := by
    have := (MapKept.heap_alloc (w.alloc (.cells #[.int .i64 t, .int .i64 r, .bool same, .int .i64 p, .int .i64 o] 24)) (.cells #[.slice sa N cap, .int .i64 i] 27)).1
    rw [hW0]; simpa using this
  have hz0 : W0.heap.size = w.heap.size + 2 := by rw [hW0]; simp
  go_enter Try.func13, Try.ntmps13
  go_wp2_with fail
  rw [← hW0]
  clear hW0
  refine (isStock_any S _ _ (hS.below hg0)).mono ?_
  rintro e w1 ⟨rfl, hb1⟩
  have hG1 := (hb1.block w.heap.size (by omega)).trans hG0
  have hR1 := (hb1.block (w.heap.size + 1) (by omega)).trans hR0
  have hbw1 : Below w.heap.size w w1 := hg0.trans (hb1.mono (by omega))
  have hz1 : w.heap.size + 2 ≤ w1.heap.size := by have := hb1.size; omega
  clear hG0 hR0 hb1 hg0 hz0
  by_cases hst : stockB S = true
  case neg =>
    replace hst : stockB S = false := by simpa using hst
    have HC : RowKit.Hid (C = (0, 1)) := Lib.hid (by rw [HCC.out]; unfold buildC; rw [hst]; rfl)
    rw [hst]
    clear HCC hG1 hR1 hS hP hst
    go_wp2
    refine bodyPost_ret (v := .tuple #[.int .i64 0, .int .i64 1]) (by simp [results, Try.results13, go_sem]) rfl ⟨by rw [HC.out], hbw1⟩
  rw [hst]
  obtain ⟨e0, e1, e2, e3, e4⟩ := gcells hG1
  go_wp2_with fail
  refine (isGearing_any t r p o same _).mono ?_
  rintro e w2 ⟨rfl, hb2⟩
  clear e0 e1 e2 e3 e4
  have hG2 := (hb2.block w.heap.size (by omega)).trans hG1
  have hR2 := (hb2.block (w.heap.size + 1) (by omega)).trans hR1
  have hbw2 : Below w.heap.size w w2 := hbw1.trans (hb2.mono (by omega))
  have hz2 : w.heap.size + 2 ≤ w2.heap.size := by have := hb2.size; omega
  clear hG1 hR1 hb2 hbw1 hz1
  by_cases hge : gearB t r p o = true
  case neg =>
    replace hge : gearB t r p o = false := by simpa using hge
    have HC : RowKit.Hid (C = (0, 1)) := Lib.hid (by rw [HCC.out]; unfold buildC; rw [hge, Bool.and_false]; rfl)
    rw [hge]
    clear HCC hG2 hR2 hS hP hge hst
    go_wp2
    refine bodyPost_ret (v := .tuple #[.int .i64 0, .int .i64 1]) (by simp [results, Try.results13, go_sem]) rfl ⟨by rw [HC.out], hbw2⟩
  rw [hge]
  have hgi := gearB_iff.1 hge
  have hC1 : C = if pairsErr P p o ≠ 0 then ((0 : Int), pairsErr P p o)
    else if i ≠ 0 ∧ P.length = 0 then (0, 6)
    else if i ≠ 0 ∧ teethB i = false then (0, 2)
    else if fitsB S (fun _ => 0) (usedL P i) = false then (0, 10)
    else if turnsB P.length i ≠ same then (0, 7)
    else if (prodW (drvs P) * t - prodW (drns P) * r == 0) = false then (0, 11)
    else (((usedL P i).length : Int), (0 : Int)) := by rw [HCC.out]; unfold buildC; rw [hst, hge]; rfl
  have HC1 := Lib.hid hC1
  clear HCC hC1
  obtain ⟨e0, e1, e2, e3, e4⟩ := gcells hG2
  obtain ⟨f0, f1⟩ := tcells hR2
  go_wp2_with fail
  refine (pairsError_any P _ t r p o same _ (hP.below hbw2) ⟨hgi.2.2.2.2.1, hgi.2.2.2.2.2.1⟩).mono ?_
  rintro e w3 ⟨rfl, hb3⟩
  clear e0 e1 e2 e3 e4 f0 f1
  have hG3 := (hb3.block w.heap.size (by omega)).trans hG2
  have hR3 := (hb3.block (w.heap.size + 1) (by omega)).trans hR2
  have hbw3 : Below w.heap.size w w3 := hbw2.trans (hb3.mono (by omega))
  have hz3 : w.heap.size + 2 ≤ w3.heap.size := by have := hb3.size; omega
  clear hG2 hR2 hb3 hbw2 hz2
  by_cases hpe : pairsErr P p o = 0
  case neg =>
    have HC : RowKit.Hid (C = (0, pairsErr P p o)) := Lib.hid (by rw [HC1.out, if_pos hpe])
    clear HC1 hG3 hR3 hS hP hge hst
    go_wp2
    refine bodyPost_ret (v := .tuple #[.int .i64 0, .int .i64 (pairsErr P p o)]) (by simp [results, Try.results13, go_sem]) rfl ⟨by rw [HC.out], hbw3⟩
  rw [hpe]
  obtain ⟨hpl, hpt⟩ := pairsErr_zero hpe
  obtain ⟨f0, f1⟩ := tcells hR3
  go_wp2_with fail
  refine (wheelsOf_any P _ i _ (hP.below hbw3) (by omega)).mono ?_
  rintro e w4 ⟨uv, rfl, hb4, hu4⟩
  clear f0 f1
  have hG4 := (hb4.block w.heap.size (by omega)).trans hG3
  have hR4 := (hb4.block (w.heap.size + 1) (by omega)).trans hR3
  have hbw4 : Below w.heap.size w w4 := hbw3.trans (hb4.mono (by omega))
  have hz4 : w3.heap.size ≤ w4.heap.size := hb4.size
  clear hG3 hR3 hb4 hbw3
  obtain ⟨f0, f1⟩ := tcells hR4
  have hC2 : C = if i ≠ 0 ∧ P.length = 0 then ((0 : Int), (6 : Int))
    else if i ≠ 0 ∧ teethB i = false then (0, 2)
    else if fitsB S (fun _ => 0) (usedL P i) = false then (0, 10)
    else if turnsB P.length i ≠ same then (0, 7)
    else if (prodW (drvs P) * t - prodW (drns P) * r == 0) = false then (0, 11)
    else (((usedL P i).length : Int), (0 : Int)) := by rw [HC1.out, if_neg (by simpa using hpe)]
  have HC2 := Lib.hid hC2
  have hNP := HN.out
  clear hC2 HC1
  by_cases hcA : i ≠ 0 ∧ N = 0
  · have HC : RowKit.Hid (C = (0, 6)) := Lib.hid (by rw [HC2.out, if_pos ⟨hcA.1, by omega⟩])
    obtain ⟨hi0, hn0⟩ := hcA
    clear HC2 hG4 hR4 hS hP hge hst hu4 hNP hpl hpt hpe
    go_wp2
    refine bodyPost_ret (v := .tuple #[.int .i64 0, .int .i64 6]) (by simp [results, Try.results13, go_sem]) rfl ⟨by rw [HC.out], hbw4⟩
  have hC3 := HC2.out
  rw [if_neg (by omega)] at hC3
  have HC3 := Lib.hid hC3
  clear hC3 HC2
  by_cases hcB : i ≠ 0 ∧ teethB i = false
  · have HC : RowKit.Hid (C = (0, 2)) := Lib.hid (by rw [HC3.out, if_pos hcB])
    obtain ⟨hi0, htf⟩ := hcB
    have hn0 : ¬ N = 0 := fun e => hcA ⟨hi0, e⟩
    have hn1 : ((N : Int) == 0) = false := by simpa using hn0
    have hi1 : (i == 0) = false := by simpa using hi0
    clear HC3 hG4 hR4 hS hP hge hst hu4 hNP hpl hpt hpe hcA
    go_wp2_with (go_at_call 36; refine Calls.mono (isTeeth_any _ _) ?_; rintro e w5 ⟨rfl, rfl⟩; rw [htf])
    refine bodyPost_ret (v := .tuple #[.int .i64 0, .int .i64 2]) (by simp [results, Try.results13, go_sem]) rfl ⟨by rw [HC.out], hbw4⟩
  have hC4 := HC3.out
  rw [if_neg hcB] at hC4
  have HC4 := Lib.hid hC4
  have hit : i = 0 ∨ teethB i = true := by
    by_cases h0 : i = 0
    · exact .inl h0
    · exact .inr (by simpa [h0] using hcB)
  have hut : ∀ y ∈ usedL P i, 6 ≤ y ∧ y ≤ 100 := usedL_teeth (fun x hx => ⟨(hpt x hx).1, (hpt x hx).2.1⟩) hit
  have hul := usedL_len P i
  clear hC4 HC3
  have hIA := ints_own hu4 (by omega)
  have huo := hu4.lt
  obtain ⟨L, hL⟩ : ∃ L, L = (usedL P i).length := ⟨_, rfl⟩
  obtain ⟨ua, ucap, rfl⟩ : ∃ ua ucap, uv = .slice ua L ucap := by
    rcases hu4.2 with ⟨h1, h2⟩ | ⟨g, cap, cur, h1, _⟩
    · rw [hL, h2]; exact ⟨_, _, h1⟩
    · rw [hL]; exact ⟨_, _, h1⟩
  have HL := Lib.hid hL
  have hNM : i = 0 ∨ (N == 0) = false := by
    by_cases h0 : i = 0
    · exact .inl h0
    · exact .inr (by simpa using fun e => hcA ⟨h0, e⟩)
  have HUT := Lib.hid hut
  have HPT := Lib.hid hpt
  clear hL hNP hut hpt hcA hcB
  cases hi0 : (i != 0) with
  | false =>
    have hi : i = 0 := by simpa using hi0
    subst hi
    clear hi0
    go_wp2_with fail
    refine (newShelf_any ss M scap w4).mono ?_
    rintro e w5 ⟨rfl, hm5, hb5⟩
    have hG5 := (hb5.block w.heap.size (by omega)).trans hG4
    have hR5 := (hb5.block (w.heap.size + 1) (by omega)).trans hR4
    have hbw5 : Below w.heap.size w w5 := hbw4.trans (hb5.mono (by omega))
    have hz5 : w4.heap.size ≤ w5.heap.size := hb5.size
    have hIA5 := hIA.below hb5
    clear hG4 hR4 f0 f1 hu4 hIA
    have htk := take_any S (usedL P 0) (.slice ua L ucap) (.slice ss M scap) _ _ w5 (hS.below hbw5) hIA5 hm5 (fun x => ⟨Int.le_refl _, by decide⟩) (by omega) HUT.out (by intro b off cap e; simp only [Value.slice.injEq] at e; have := huo b (by rw [e.1]; rfl); omega) (by intro b off n cap e; have := hss b off n cap e; omega)
    go_wp2_with fail
    refine htk.mono ?_
    rintro e w6 ⟨rfl, hm6, hg6⟩
    have hbw6 : Below w.heap.size w w6 := hbw5.grown hg6 (by omega) (fun q hq => by have := Option.some.inj hq; omega)
    have hz6 : w5.heap.size ≤ w6.heap.size := hg6.size
    have hG6 := (hg6.block w.heap.size (by omega) (fun e => by have := Option.some.inj e; omega)).trans hG5
    have hR6 := (hg6.block (w.heap.size + 1) (by omega) (fun e => by have := Option.some.inj e; omega)).trans hR5
    clear htk hm5 hb5 hG5 hR5 hIA5 hm6 hg6 hbw5
    cases hfi : fitsB S (fun _ => 0) (usedL P 0) with
    | false =>
      have HC : RowKit.Hid (C = (0, 10)) := Lib.hid (by rw [HC4.out, if_pos hfi])
      clear HC4 hG6 hR6 hS hP hge hst hpl hpe hfi
      go_wp2
      refine bodyPost_ret (v := .tuple #[.int .i64 0, .int .i64 10]) (by simp [results, Try.results13, go_sem]) rfl ⟨by rw [HC.out], hbw6⟩
    | true =>
      have hC5 := HC4.out
      rw [if_neg (by rw [hfi]; simp)] at hC5
      have HC5 := Lib.hid hC5
      clear hC5 HC4 hfi
      obtain ⟨e0, e1, e2, e3, e4⟩ := gcells hG6
      obtain ⟨f0, f1⟩ := tcells hR6
      go_wp2_with fail
      have hP3 : P.length ≤ 3 := by omega
      have HNi : (N : Int) ≤ 3 := by have := HN.out; omega
      have hts := fun X : World => turnsSame_any (N : Int) 0 X (by omega) (by omega)
      obtain ⟨tb, htb⟩ : ∃ tb, turnsB (N : Int) 0 = tb := ⟨_, rfl⟩
      rw [htb] at hts
      have HTB := Lib.hid htb
      clear htb
      clear e0 e1 e2 e3 e4 f0 f1
      have HG6 := Lib.hid hG6
      have HR6 := Lib.hid hR6
      clear hG6 hR6
      refine wp_region_held_drew (S := fun w' => w'.heap[w.heap.size]? = some (.cells #[.int .i64 t, .int .i64 r, .bool same, .int .i64 p, .int .i64 o] 24) ∧ w'.heap[w.heap.size + 1]? = some (.cells #[.slice sa N cap, .int .i64 0] 27)) (by kernel_rfl) ⟨HG6.out, HR6.out⟩ (fun hHeld => ?_)
      refine wpAnyH_take (i := 0) (oi := _) (v := ?_) rfl (by kernel_rfl) (by kernel_rfl) (by kernel_rfl) (fun _ _ _ h => h) (Or.inl ⟨by rfl, ?_⟩) hHeld ?_
      rotate_left
      · intro w1 hSw
        replace hSw : w1.heap[w.heap.size]? = some (.cells #[.int .i64 t, .int .i64 r, .bool same, .int .i64 p, .int .i64 o] 24) ∧ w1.heap[w.heap.size + 1]? = some (.cells #[.slice sa N cap, .int .i64 0] 27) := hSw
        obtain ⟨hSg, hSr⟩ := hSw
        obtain ⟨e0, e1, e2, e3, e4⟩ := gcells hSg
        obtain ⟨f0, f1⟩ := tcells hSr
        clear hSg hSr
        go_simp; with_reducible rfl
      simp only [List.getElem_toArray, List.getElem_cons_succ, List.getElem_cons_zero, Act.put, List.setIfInBounds_toArray, List.set_cons_zero, List.set_cons_succ]
      refine wpAnyH_take (i := 1) (oi := _) (v := ?_) rfl (by kernel_rfl) (by kernel_rfl) (by kernel_rfl) (fun _ _ _ h => h) (Or.inl ⟨by rfl, ?_⟩) hHeld ?_
      rotate_left
      · intro w1 hSw
        replace hSw : w1.heap[w.heap.size]? = some (.cells #[.int .i64 t, .int .i64 r, .bool same, .int .i64 p, .int .i64 o] 24) ∧ w1.heap[w.heap.size + 1]? = some (.cells #[.slice sa N cap, .int .i64 0] 27) := hSw
        obtain ⟨hSg, hSr⟩ := hSw
        obtain ⟨e0, e1, e2, e3, e4⟩ := gcells hSg
        obtain ⟨f0, f1⟩ := tcells hSr
        clear hSg hSr
        go_simp; with_reducible rfl
      simp only [List.getElem_toArray, List.getElem_cons_succ, List.getElem_cons_zero, Act.put, List.setIfInBounds_toArray, List.set_cons_zero, List.set_cons_succ]
      refine wpAnyH_take (i := 3) (oi := _) (v := ?_) rfl (by kernel_rfl) (by kernel_rfl) (by kernel_rfl) (fun _ _ _ h => h) (Or.inl ⟨by rfl, ?_⟩) hHeld ?_
      rotate_left
      · intro w1 hSw
        replace hSw : w1.heap[w.heap.size]? = some (.cells #[.int .i64 t, .int .i64 r, .bool same, .int .i64 p, .int .i64 o] 24) ∧ w1.heap[w.heap.size + 1]? = some (.cells #[.slice sa N cap, .int .i64 0] 27) := hSw
        obtain ⟨hSg, hSr⟩ := hSw
        obtain ⟨e0, e1, e2, e3, e4⟩ := gcells hSg
        obtain ⟨f0, f1⟩ := tcells hSr
        clear hSg hSr
        go_simp; with_reducible rfl
      simp only [List.getElem_toArray, List.getElem_cons_succ, List.getElem_cons_zero, Act.put, List.setIfInBounds_toArray, List.set_cons_zero, List.set_cons_succ]
      refine wpAnyH_take (i := 4) (oi := _) (v := ?_) rfl (by kernel_rfl) (by kernel_rfl) (by kernel_rfl) (fun _ _ _ h => h) (Or.inl ⟨by rfl, ?_⟩) hHeld ?_
      rotate_left
      · intro w1 hSw
        replace hSw : w1.heap[w.heap.size]? = some (.cells #[.int .i64 t, .int .i64 r, .bool same, .int .i64 p, .int .i64 o] 24) ∧ w1.heap[w.heap.size + 1]? = some (.cells #[.slice sa N cap, .int .i64 0] 27) := hSw
        obtain ⟨hSg, hSr⟩ := hSw
        obtain ⟨e0, e1, e2, e3, e4⟩ := gcells hSg
        obtain ⟨f0, f1⟩ := tcells hSr
        clear hSg hSr
        go_simp; with_reducible rfl
      simp only [List.getElem_toArray, List.getElem_cons_succ, List.getElem_cons_zero, Act.put, List.setIfInBounds_toArray, List.set_cons_zero, List.set_cons_succ]
      refine wpAnyH_take (i := 6) (oi := _) (v := ?_) rfl (by kernel_rfl) (by kernel_rfl) (by kernel_rfl) (fun _ _ _ h => h) (Or.inl ⟨by rfl, ?_⟩) hHeld ?_
      rotate_left
      · intro w1 hSw
        replace hSw : w1.heap[w.heap.size]? = some (.cells #[.int .i64 t, .int .i64 r, .bool same, .int .i64 p, .int .i64 o] 24) ∧ w1.heap[w.heap.size + 1]? = some (.cells #[.slice sa N cap, .int .i64 0] 27) := hSw
        obtain ⟨hSg, hSr⟩ := hSw
        obtain ⟨e0, e1, e2, e3, e4⟩ := gcells hSg
        obtain ⟨f0, f1⟩ := tcells hSr
        clear hSg hSr
        go_simp; with_reducible rfl
      simp only [List.getElem_toArray, List.getElem_cons_succ, List.getElem_cons_zero, Act.put, List.setIfInBounds_toArray, List.set_cons_zero, List.set_cons_succ]
      refine wpAnyH_take (i := 7) (oi := _) (v := ?_) rfl (by kernel_rfl) (by kernel_rfl) (by kernel_rfl) (fun _ _ _ h => h) (Or.inl ⟨by rfl, ?_⟩) hHeld ?_
      rotate_left
      · intro w1 hSw
        replace hSw : w1.heap[w.heap.size]? = some (.cells #[.int .i64 t, .int .i64 r, .bool same, .int .i64 p, .int .i64 o] 24) ∧ w1.heap[w.heap.size + 1]? = some (.cells #[.slice sa N cap, .int .i64 0] 27) := hSw
        obtain ⟨hSg, hSr⟩ := hSw
        obtain ⟨e0, e1, e2, e3, e4⟩ := gcells hSg
        obtain ⟨f0, f1⟩ := tcells hSr
        clear hSg hSr
        go_simp; with_reducible rfl
      simp only [List.getElem_toArray, List.getElem_cons_succ, List.getElem_cons_zero, Act.put, List.setIfInBounds_toArray, List.set_cons_zero, List.set_cons_succ]
      refine wpAnyH_take (i := 2) (oi := _) (v := ?_) rfl (by kernel_rfl) (by kernel_rfl) (by kernel_rfl) (fun _ _ _ h => h) (Or.inl ⟨by rfl, ?_⟩) hHeld ?_
      rotate_left
      · intro w1 hSw
        replace hSw : w1.heap[w.heap.size]? = some (.cells #[.int .i64 t, .int .i64 r, .bool same, .int .i64 p, .int .i64 o] 24) ∧ w1.heap[w.heap.size + 1]? = some (.cells #[.slice sa N cap, .int .i64 0] 27) := hSw
        obtain ⟨hSg, hSr⟩ := hSw
        obtain ⟨e0, e1, e2, e3, e4⟩ := gcells hSg
        obtain ⟨f0, f1⟩ := tcells hSr
        clear hSg hSr
        go_simp; with_reducible rfl
      simp only [List.getElem_toArray, List.getElem_cons_succ, List.getElem_cons_zero, Act.put, List.setIfInBounds_toArray, List.set_cons_zero, List.set_cons_succ]
      refine wpAnyH_all (rs := [5]) (by kernel_rfl) (by simp) ?_
      intro i hi; obtain rfl := List.mem_singleton.1 hi; clear hi
      refine wpOp_step rfl (fun K3 hK3 => ?_)
      have HK3 := Lib.hid hK3
      clear hK3
      rw [if_pos (by rfl)]
      go_simp
      refine (hts _).mono ?_
      rintro e w7 ⟨rfl, rfl⟩
      refine HK3.out _ _ ⟨⟨HG6.out, HR6.out⟩, ?_⟩
      clear HK3 K3
      try simp only [List.getElem_toArray, List.getElem_cons_succ, List.getElem_cons_zero, Act.put, List.setIfInBounds_toArray, List.set_cons_zero, List.set_cons_succ]
      clear hts
      refine wpAnyH_take (i := 8) (oi := _) (v := ?_) rfl (by kernel_rfl) (by kernel_rfl) (by kernel_rfl) (fun _ _ _ h => h) (Or.inl ⟨by rfl, ?_⟩) hHeld ?_
      rotate_left
      · intro w1 hSw
        replace hSw : w1.heap[w.heap.size]? = some (.cells #[.int .i64 t, .int .i64 r, .bool same, .int .i64 p, .int .i64 o] 24) ∧ w1.heap[w.heap.size + 1]? = some (.cells #[.slice sa N cap, .int .i64 0] 27) := hSw
        obtain ⟨hSg, hSr⟩ := hSw
        obtain ⟨e0, e1, e2, e3, e4⟩ := gcells hSg
        obtain ⟨f0, f1⟩ := tcells hSr
        clear hSg hSr
        go_simp; with_reducible rfl
      simp only [List.getElem_toArray, List.getElem_cons_succ, List.getElem_cons_zero, Act.put, List.setIfInBounds_toArray, List.set_cons_zero, List.set_cons_succ]
      refine wpAnyH_take (i := 9) (oi := _) (v := ?_) rfl (by kernel_rfl) (by kernel_rfl) (by kernel_rfl) (fun _ _ _ h => h) (Or.inl ⟨by rfl, ?_⟩) hHeld ?_
      rotate_left
      · intro w1 hSw
        replace hSw : w1.heap[w.heap.size]? = some (.cells #[.int .i64 t, .int .i64 r, .bool same, .int .i64 p, .int .i64 o] 24) ∧ w1.heap[w.heap.size + 1]? = some (.cells #[.slice sa N cap, .int .i64 0] 27) := hSw
        obtain ⟨hSg, hSr⟩ := hSw
        obtain ⟨e0, e1, e2, e3, e4⟩ := gcells hSg
        obtain ⟨f0, f1⟩ := tcells hSr
        clear hSg hSr
        go_simp; with_reducible rfl
      simp only [List.getElem_toArray, List.getElem_cons_succ, List.getElem_cons_zero, Act.put, List.setIfInBounds_toArray, List.set_cons_zero, List.set_cons_succ]
      refine wpAnyH_done (by kernel_rfl) ?_ _
      have hC6 := HC5.out
      rw [← HN.out, HTB.out] at hC6
      have HC6 := Lib.hid hC6
      clear hC6 HC5 HTB
      cases hbs : (tb == same) with
      | false =>
        have HC : RowKit.Hid (C = (0, 7)) := Lib.hid (by rw [HC6.out, if_pos (by simpa using hbs)])
        clear HC6 hS hP hge hst hpl hpe hHeld hgi hit hNM
        go_wp2
        refine bodyPost_ret (v := .tuple #[.int .i64 0, .int .i64 7]) (by simp [results, Try.results13, go_sem]) rfl ⟨by rw [HC.out], hbw6.drew⟩
      | true =>
        have hC7 := HC6.out
        rw [if_neg (by simpa using hbs)] at hC7
        have HC7 := Lib.hid hC7
        clear hC7 HC6 hHeld
        go_wp2_with fail
        have hmem : ∀ z ∈ P, (6 ≤ z.1 ∧ z.1 ≤ 100) ∧ (6 ≤ z.2 ∧ z.2 ≤ 100) := fun z hz => ⟨(HPT.out z hz).1, (HPT.out z hz).2.1⟩
        have hd := prodW_bd (drvs P) (by intro z hz; obtain ⟨q, hq, rfl⟩ := List.mem_map.1 hz; exact (hmem q hq).1) (by simpa [drvs] using hP3)
        have hn := prodW_bd (drns P) (by intro z hz; obtain ⟨q, hq, rfl⟩ := List.mem_map.1 hz; exact (hmem q hq).2) (by simpa [drns] using hP3)
        have hrt := fun (X : World) (hX : WheelsAt X (.slice sa N cap) P) => ratioOf_any P (.slice sa N cap) X hX (by omega)
        generalize prodW (drvs P) = dv at *
        generalize prodW (drns P) = nv at *
        clear hmem
        refine wp_region_held_drew (S := fun w' => w'.heap[w.heap.size]? = some (.cells #[.int .i64 t, .int .i64 r, .bool same, .int .i64 p, .int .i64 o] 24) ∧ w'.heap[w.heap.size + 1]? = some (.cells #[.slice sa N cap, .int .i64 0] 27)) (by kernel_rfl) ⟨HG6.out, HR6.out⟩ (fun hHeld => ?_)
        refine wpAnyH_take (i := 0) (oi := _) (v := ?_) rfl (by kernel_rfl) (by kernel_rfl) (by kernel_rfl) (fun _ _ _ h => h) (Or.inl ⟨by rfl, ?_⟩) hHeld ?_
        rotate_left
        · intro w1 hSw
          replace hSw : w1.heap[w.heap.size]? = some (.cells #[.int .i64 t, .int .i64 r, .bool same, .int .i64 p, .int .i64 o] 24) ∧ w1.heap[w.heap.size + 1]? = some (.cells #[.slice sa N cap, .int .i64 0] 27) := hSw
          obtain ⟨hSg, hSr⟩ := hSw
          obtain ⟨e0, e1, e2, e3, e4⟩ := gcells hSg
          obtain ⟨f0, f1⟩ := tcells hSr
          clear hSg hSr
          go_simp; with_reducible rfl
        simp only [List.getElem_toArray, List.getElem_cons_succ, List.getElem_cons_zero, Act.put, List.setIfInBounds_toArray, List.set_cons_zero, List.set_cons_succ]
        refine wpAnyH_take (i := 2) (oi := _) (v := ?_) rfl (by kernel_rfl) (by kernel_rfl) (by kernel_rfl) (fun _ _ _ h => h) (Or.inl ⟨by rfl, ?_⟩) hHeld ?_
        rotate_left
        · intro w1 hSw
          replace hSw : w1.heap[w.heap.size]? = some (.cells #[.int .i64 t, .int .i64 r, .bool same, .int .i64 p, .int .i64 o] 24) ∧ w1.heap[w.heap.size + 1]? = some (.cells #[.slice sa N cap, .int .i64 0] 27) := hSw
          obtain ⟨hSg, hSr⟩ := hSw
          obtain ⟨e0, e1, e2, e3, e4⟩ := gcells hSg
          obtain ⟨f0, f1⟩ := tcells hSr
          clear hSg hSr
          go_simp; with_reducible rfl
        simp only [List.getElem_toArray, List.getElem_cons_succ, List.getElem_cons_zero, Act.put, List.setIfInBounds_toArray, List.set_cons_zero, List.set_cons_succ]
        refine wpAnyH_take (i := 3) (oi := _) (v := ?_) rfl (by kernel_rfl) (by kernel_rfl) (by kernel_rfl) (fun _ _ _ h => h) (Or.inl ⟨by rfl, ?_⟩) hHeld ?_
        rotate_left
        · intro w1 hSw
          replace hSw : w1.heap[w.heap.size]? = some (.cells #[.int .i64 t, .int .i64 r, .bool same, .int .i64 p, .int .i64 o] 24) ∧ w1.heap[w.heap.size + 1]? = some (.cells #[.slice sa N cap, .int .i64 0] 27) := hSw
          obtain ⟨hSg, hSr⟩ := hSw
          obtain ⟨e0, e1, e2, e3, e4⟩ := gcells hSg
          obtain ⟨f0, f1⟩ := tcells hSr
          clear hSg hSr
          go_simp; with_reducible rfl
        simp only [List.getElem_toArray, List.getElem_cons_succ, List.getElem_cons_zero, Act.put, List.setIfInBounds_toArray, List.set_cons_zero, List.set_cons_succ]
        refine wpAnyH_all (rs := [1]) (by kernel_rfl) (by simp) ?_
        intro i hi; obtain rfl := List.mem_singleton.1 hi; clear hi
        refine wpOp_step rfl (fun K3 hK3 => ?_)
        have HK3 := Lib.hid hK3
        clear hK3
        rw [if_pos (by rfl)]
        go_simp
        refine (aimOf_any t r p o same _).mono ?_
        rintro e w7 ⟨rfl, hb7⟩
        have HG7 := Lib.hid ((hb7.block w.heap.size (by first | omega | (simp; omega))).trans HG6.out)
        have HR7 := Lib.hid ((hb7.block (w.heap.size + 1) (by first | omega | (simp; omega))).trans HR6.out)
        have hbw7 : Below w.heap.size w w7 := hbw6.drew.drew.trans (hb7.mono (by first | omega | (simp; omega)))
        have hz7 : w6.heap.size ≤ w7.heap.size := hb7.size
        clear hb7
        refine HK3.out _ _ ⟨⟨HG7.out, HR7.out⟩, ?_⟩
        clear HK3 K3
        try simp only [List.getElem_toArray, List.getElem_cons_succ, List.getElem_cons_zero, Act.put, List.setIfInBounds_toArray, List.set_cons_zero, List.set_cons_succ]
        refine wpAnyH_all (rs := [4]) (by kernel_rfl) (by simp) ?_
        intro i hi; obtain rfl := List.mem_singleton.1 hi; clear hi
        refine wpOp_step rfl (fun K3 hK3 => ?_)
        have HK3 := Lib.hid hK3
        clear hK3
        rw [if_pos (by rfl)]
        go_simp
        refine (hrt _ (hP.below (by first | exact hbw7 | exact hbw7.drew))).mono ?_
        rintro e w8 ⟨rfl, hb8⟩
        have HG8 := Lib.hid ((hb8.block w.heap.size (by first | omega | (simp; omega))).trans HG7.out)
        have HR8 := Lib.hid ((hb8.block (w.heap.size + 1) (by first | omega | (simp; omega))).trans HR7.out)
        have hbw8 : Below w.heap.size w w8 := hbw7.trans (hb8.mono (by first | omega | (simp; omega)))
        have hz8 : w7.heap.size ≤ w8.heap.size := hb8.size
        clear hb8
        refine HK3.out _ _ ⟨⟨HG8.out, HR8.out⟩, ?_⟩
        clear HK3 K3
        try simp only [List.getElem_toArray, List.getElem_cons_succ, List.getElem_cons_zero, Act.put, List.setIfInBounds_toArray, List.set_cons_zero, List.set_cons_succ]
        refine wpAnyH_all (rs := [5]) (by kernel_rfl) (by simp) ?_
        intro i hi; obtain rfl := List.mem_singleton.1 hi; clear hi
        refine wpOp_step rfl (fun K3 hK3 => ?_)
        have HK3 := Lib.hid hK3
        clear hK3
        rw [if_pos (by rfl)]
        go_simp
        refine (exact_any t r dv nv _ ⟨hgi.1, hgi.2.1⟩ ⟨hgi.2.2.1, hgi.2.2.2.1⟩ hd hn).mono ?_
        rintro e w9 ⟨rfl, hb9⟩
        have HG9 := Lib.hid ((hb9.block w.heap.size (by first | omega | (simp; omega))).trans HG8.out)
        have HR9 := Lib.hid ((hb9.block (w.heap.size + 1) (by first | omega | (simp; omega))).trans HR8.out)
        have hbw9 : Below w.heap.size w w9 := hbw8.trans (hb9.mono (by first | omega | (simp; omega)))
        have hz9 : w8.heap.size ≤ w9.heap.size := hb9.size
        clear hb9
        obtain ⟨ex, hex⟩ : ∃ ex, (dv * t - nv * r == 0) = ex := ⟨_, rfl⟩
        rw [hex]
        have hC8 := HC7.out
        rw [hex, ← HL.out] at hC8
        have HC8 := Lib.hid hC8
        clear hC8 HC7 hex
        refine HK3.out _ _ ⟨⟨HG9.out, HR9.out⟩, ?_⟩
        clear HK3 K3
        try simp only [List.getElem_toArray, List.getElem_cons_succ, List.getElem_cons_zero, Act.put, List.setIfInBounds_toArray, List.set_cons_zero, List.set_cons_succ]
        refine wpAnyH_take (i := 6) (oi := _) (v := ?_) rfl (by kernel_rfl) (by kernel_rfl) (by kernel_rfl) (fun _ _ _ h => h) (Or.inl ⟨by rfl, ?_⟩) ⟨HG9.out, HR9.out⟩ ?_
        rotate_left
        · intro w1 hSw
          replace hSw : w1.heap[w.heap.size]? = some (.cells #[.int .i64 t, .int .i64 r, .bool same, .int .i64 p, .int .i64 o] 24) ∧ w1.heap[w.heap.size + 1]? = some (.cells #[.slice sa N cap, .int .i64 0] 27) := hSw
          obtain ⟨hSg, hSr⟩ := hSw
          obtain ⟨e0, e1, e2, e3, e4⟩ := gcells hSg
          obtain ⟨f0, f1⟩ := tcells hSr
          clear hSg hSr
          go_simp; with_reducible rfl
        simp only [List.getElem_toArray, List.getElem_cons_succ, List.getElem_cons_zero, Act.put, List.setIfInBounds_toArray, List.set_cons_zero, List.set_cons_succ]
        refine wpAnyH_take (i := 7) (oi := _) (v := ?_) rfl (by kernel_rfl) (by kernel_rfl) (by kernel_rfl) (fun _ _ _ h => h) (Or.inl ⟨by rfl, ?_⟩) ⟨HG9.out, HR9.out⟩ ?_
        rotate_left
        · intro w1 hSw
          replace hSw : w1.heap[w.heap.size]? = some (.cells #[.int .i64 t, .int .i64 r, .bool same, .int .i64 p, .int .i64 o] 24) ∧ w1.heap[w.heap.size + 1]? = some (.cells #[.slice sa N cap, .int .i64 0] 27) := hSw
          obtain ⟨hSg, hSr⟩ := hSw
          obtain ⟨e0, e1, e2, e3, e4⟩ := gcells hSg
          obtain ⟨f0, f1⟩ := tcells hSr
          clear hSg hSr
          go_simp; with_reducible rfl
        simp only [List.getElem_toArray, List.getElem_cons_succ, List.getElem_cons_zero, Act.put, List.setIfInBounds_toArray, List.set_cons_zero, List.set_cons_succ]
        refine wpAnyH_done (by kernel_rfl) ?_ _
        clear hS hP hge hst hpl hpe hHeld hgi hit hNM
        cases ex with
        | false =>
          have HC : RowKit.Hid (C = (0, 11)) := Lib.hid (by rw [HC8.out]; rfl)
          clear HC8
          go_wp2
          refine bodyPost_ret (v := .tuple #[.int .i64 0, .int .i64 11]) (by simp [results, Try.results13, go_sem]) rfl ⟨by rw [HC.out], by first | exact hbw9 | exact hbw9.drew⟩
        | true =>
          have HC : RowKit.Hid (C = ((L : Int), 0)) := Lib.hid (by rw [HC8.out]; rfl)
          clear HC8
          go_wp2
          refine bodyPost_ret (v := .tuple #[.int .i64 (L : Int), .int .i64 0]) (by simp [results, Try.results13, go_sem]) rfl ⟨by rw [HC.out], by first | exact hbw9 | exact hbw9.drew⟩
  | true =>
    have hin : i ≠ 0 := by simpa using hi0
    have htt : teethB i = true := hit.resolve_left hin
    have hn1 : (N == 0) = false := hNM.resolve_left hin
    have hn2 : ((N : Int) == 0) = false := by have : N ≠ 0 := by simpa using hn1
                                              simp; omega
    have hi1 : (i == 0) = false := by simpa using hin
    have HI := Lib.hid hin
    clear hi0 hit hNM hin
    go_wp2_with (go_at_call 36; refine Calls.mono (isTeeth_any _ _) ?_; rintro e w5 ⟨rfl, rfl⟩; rw [htt])
    refine (newShelf_any ss M scap w4).mono ?_
    rintro e w5 ⟨rfl, hm5, hb5⟩
    have hG5 := (hb5.block w.heap.size (by omega)).trans hG4
    have hR5 := (hb5.block (w.heap.size + 1) (by omega)).trans hR4
    have hbw5 : Below w.heap.size w w5 := hbw4.trans (hb5.mono (by omega))
    have hz5 : w4.heap.size ≤ w5.heap.size := hb5.size
    have hIA5 := hIA.below hb5
    clear hG4 hR4 f0 f1 hu4 hIA
    have htk := take_any S (usedL P i) (.slice ua L ucap) (.slice ss M scap) _ _ w5 (hS.below hbw5) hIA5 hm5 (fun x => ⟨Int.le_refl _, by decide⟩) (by omega) HUT.out (by intro b off cap e; simp only [Value.slice.injEq] at e; have := huo b (by rw [e.1]; rfl); omega) (by intro b off n cap e; have := hss b off n cap e; omega)
    go_wp2_with fail
    refine htk.mono ?_
    rintro e w6 ⟨rfl, hm6, hg6⟩
    have hbw6 : Below w.heap.size w w6 := hbw5.grown hg6 (by omega) (fun q hq => by have := Option.some.inj hq; omega)
    have hz6 : w5.heap.size ≤ w6.heap.size := hg6.size
    have hG6 := (hg6.block w.heap.size (by omega) (fun e => by have := Option.some.inj e; omega)).trans hG5
    have hR6 := (hg6.block (w.heap.size + 1) (by omega) (fun e => by have := Option.some.inj e; omega)).trans hR5
    clear htk hm5 hb5 hG5 hR5 hIA5 hm6 hg6 hbw5
    cases hfi : fitsB S (fun _ => 0) (usedL P i) with
    | false =>
      have HC : RowKit.Hid (C = (0, 10)) := Lib.hid (by rw [HC4.out, if_pos hfi])
      clear HC4 hG6 hR6 hS hP hge hst hpl hpe hfi
      go_wp2
      refine bodyPost_ret (v := .tuple #[.int .i64 0, .int .i64 10]) (by simp [results, Try.results13, go_sem]) rfl ⟨by rw [HC.out], hbw6⟩
    | true =>
      have hC5 := HC4.out
      rw [if_neg (by rw [hfi]; simp)] at hC5
      have HC5 := Lib.hid hC5
      clear hC5 HC4 hfi
      obtain ⟨e0, e1, e2, e3, e4⟩ := gcells hG6
      obtain ⟨f0, f1⟩ := tcells hR6
      go_wp2_with fail
      have hP3 : P.length ≤ 3 := by omega
      have HNi : (N : Int) ≤ 3 := by have := HN.out; omega
      have hts := fun X : World => turnsSame_any (N : Int) i X (by omega) (by omega)
      obtain ⟨tb, htb⟩ : ∃ tb, turnsB (N : Int) i = tb := ⟨_, rfl⟩
      rw [htb] at hts
      have HTB := Lib.hid htb
      clear htb
      clear e0 e1 e2 e3 e4 f0 f1
      have HG6 := Lib.hid hG6
      have HR6 := Lib.hid hR6
      clear hG6 hR6
      refine wp_region_held_drew (S := fun w' => w'.heap[w.heap.size]? = some (.cells #[.int .i64 t, .int .i64 r, .bool same, .int .i64 p, .int .i64 o] 24) ∧ w'.heap[w.heap.size + 1]? = some (.cells #[.slice sa N cap, .int .i64 i] 27)) (by kernel_rfl) ⟨HG6.out, HR6.out⟩ (fun hHeld => ?_)
      refine wpAnyH_take (i := 0) (oi := _) (v := ?_) rfl (by kernel_rfl) (by kernel_rfl) (by kernel_rfl) (fun _ _ _ h => h) (Or.inl ⟨by rfl, ?_⟩) hHeld ?_
      rotate_left
      · intro w1 hSw
        replace hSw : w1.heap[w.heap.size]? = some (.cells #[.int .i64 t, .int .i64 r, .bool same, .int .i64 p, .int .i64 o] 24) ∧ w1.heap[w.heap.size + 1]? = some (.cells #[.slice sa N cap, .int .i64 i] 27) := hSw
        obtain ⟨hSg, hSr⟩ := hSw
        obtain ⟨e0, e1, e2, e3, e4⟩ := gcells hSg
        obtain ⟨f0, f1⟩ := tcells hSr
        clear hSg hSr
        go_simp; with_reducible rfl
      simp only [List.getElem_toArray, List.getElem_cons_succ, List.getElem_cons_zero, Act.put, List.setIfInBounds_toArray, List.set_cons_zero, List.set_cons_succ]
      refine wpAnyH_take (i := 1) (oi := _) (v := ?_) rfl (by kernel_rfl) (by kernel_rfl) (by kernel_rfl) (fun _ _ _ h => h) (Or.inl ⟨by rfl, ?_⟩) hHeld ?_
      rotate_left
      · intro w1 hSw
        replace hSw : w1.heap[w.heap.size]? = some (.cells #[.int .i64 t, .int .i64 r, .bool same, .int .i64 p, .int .i64 o] 24) ∧ w1.heap[w.heap.size + 1]? = some (.cells #[.slice sa N cap, .int .i64 i] 27) := hSw
        obtain ⟨hSg, hSr⟩ := hSw
        obtain ⟨e0, e1, e2, e3, e4⟩ := gcells hSg
        obtain ⟨f0, f1⟩ := tcells hSr
        clear hSg hSr
        go_simp; with_reducible rfl
      simp only [List.getElem_toArray, List.getElem_cons_succ, List.getElem_cons_zero, Act.put, List.setIfInBounds_toArray, List.set_cons_zero, List.set_cons_succ]
      refine wpAnyH_take (i := 3) (oi := _) (v := ?_) rfl (by kernel_rfl) (by kernel_rfl) (by kernel_rfl) (fun _ _ _ h => h) (Or.inl ⟨by rfl, ?_⟩) hHeld ?_
      rotate_left
      · intro w1 hSw
        replace hSw : w1.heap[w.heap.size]? = some (.cells #[.int .i64 t, .int .i64 r, .bool same, .int .i64 p, .int .i64 o] 24) ∧ w1.heap[w.heap.size + 1]? = some (.cells #[.slice sa N cap, .int .i64 i] 27) := hSw
        obtain ⟨hSg, hSr⟩ := hSw
        obtain ⟨e0, e1, e2, e3, e4⟩ := gcells hSg
        obtain ⟨f0, f1⟩ := tcells hSr
        clear hSg hSr
        go_simp; with_reducible rfl
      simp only [List.getElem_toArray, List.getElem_cons_succ, List.getElem_cons_zero, Act.put, List.setIfInBounds_toArray, List.set_cons_zero, List.set_cons_succ]
      refine wpAnyH_take (i := 4) (oi := _) (v := ?_) rfl (by kernel_rfl) (by kernel_rfl) (by kernel_rfl) (fun _ _ _ h => h) (Or.inl ⟨by rfl, ?_⟩) hHeld ?_
      rotate_left
      · intro w1 hSw
        replace hSw : w1.heap[w.heap.size]? = some (.cells #[.int .i64 t, .int .i64 r, .bool same, .int .i64 p, .int .i64 o] 24) ∧ w1.heap[w.heap.size + 1]? = some (.cells #[.slice sa N cap, .int .i64 i] 27) := hSw
        obtain ⟨hSg, hSr⟩ := hSw
        obtain ⟨e0, e1, e2, e3, e4⟩ := gcells hSg
        obtain ⟨f0, f1⟩ := tcells hSr
        clear hSg hSr
        go_simp; with_reducible rfl
      simp only [List.getElem_toArray, List.getElem_cons_succ, List.getElem_cons_zero, Act.put, List.setIfInBounds_toArray, List.set_cons_zero, List.set_cons_succ]
      refine wpAnyH_take (i := 6) (oi := _) (v := ?_) rfl (by kernel_rfl) (by kernel_rfl) (by kernel_rfl) (fun _ _ _ h => h) (Or.inl ⟨by rfl, ?_⟩) hHeld ?_
      rotate_left
      · intro w1 hSw
        replace hSw : w1.heap[w.heap.size]? = some (.cells #[.int .i64 t, .int .i64 r, .bool same, .int .i64 p, .int .i64 o] 24) ∧ w1.heap[w.heap.size + 1]? = some (.cells #[.slice sa N cap, .int .i64 i] 27) := hSw
        obtain ⟨hSg, hSr⟩ := hSw
        obtain ⟨e0, e1, e2, e3, e4⟩ := gcells hSg
        obtain ⟨f0, f1⟩ := tcells hSr
        clear hSg hSr
        go_simp; with_reducible rfl
      simp only [List.getElem_toArray, List.getElem_cons_succ, List.getElem_cons_zero, Act.put, List.setIfInBounds_toArray, List.set_cons_zero, List.set_cons_succ]
      refine wpAnyH_take (i := 7) (oi := _) (v := ?_) rfl (by kernel_rfl) (by kernel_rfl) (by kernel_rfl) (fun _ _ _ h => h) (Or.inl ⟨by rfl, ?_⟩) hHeld ?_
      rotate_left
      · intro w1 hSw
        replace hSw : w1.heap[w.heap.size]? = some (.cells #[.int .i64 t, .int .i64 r, .bool same, .int .i64 p, .int .i64 o] 24) ∧ w1.heap[w.heap.size + 1]? = some (.cells #[.slice sa N cap, .int .i64 i] 27) := hSw
        obtain ⟨hSg, hSr⟩ := hSw
        obtain ⟨e0, e1, e2, e3, e4⟩ := gcells hSg
        obtain ⟨f0, f1⟩ := tcells hSr
        clear hSg hSr
        go_simp; with_reducible rfl
      simp only [List.getElem_toArray, List.getElem_cons_succ, List.getElem_cons_zero, Act.put, List.setIfInBounds_toArray, List.set_cons_zero, List.set_cons_succ]
      refine wpAnyH_take (i := 2) (oi := _) (v := ?_) rfl (by kernel_rfl) (by kernel_rfl) (by kernel_rfl) (fun _ _ _ h => h) (Or.inl ⟨by rfl, ?_⟩) hHeld ?_
      rotate_left
      · intro w1 hSw
        replace hSw : w1.heap[w.heap.size]? = some (.cells #[.int .i64 t, .int .i64 r, .bool same, .int .i64 p, .int .i64 o] 24) ∧ w1.heap[w.heap.size + 1]? = some (.cells #[.slice sa N cap, .int .i64 i] 27) := hSw
        obtain ⟨hSg, hSr⟩ := hSw
        obtain ⟨e0, e1, e2, e3, e4⟩ := gcells hSg
        obtain ⟨f0, f1⟩ := tcells hSr
        clear hSg hSr
        go_simp; with_reducible rfl
      simp only [List.getElem_toArray, List.getElem_cons_succ, List.getElem_cons_zero, Act.put, List.setIfInBounds_toArray, List.set_cons_zero, List.set_cons_succ]
      refine wpAnyH_all (rs := [5]) (by kernel_rfl) (by simp) ?_
      intro i hi; obtain rfl := List.mem_singleton.1 hi; clear hi
      refine wpOp_step rfl (fun K3 hK3 => ?_)
      have HK3 := Lib.hid hK3
      clear hK3
      rw [if_pos (by rfl)]
      go_simp
      refine (hts _).mono ?_
      rintro e w7 ⟨rfl, rfl⟩
      refine HK3.out _ _ ⟨⟨HG6.out, HR6.out⟩, ?_⟩
      clear HK3 K3
      try simp only [List.getElem_toArray, List.getElem_cons_succ, List.getElem_cons_zero, Act.put, List.setIfInBounds_toArray, List.set_cons_zero, List.set_cons_succ]
      clear hts
      refine wpAnyH_take (i := 8) (oi := _) (v := ?_) rfl (by kernel_rfl) (by kernel_rfl) (by kernel_rfl) (fun _ _ _ h => h) (Or.inl ⟨by rfl, ?_⟩) hHeld ?_
      rotate_left
      · intro w1 hSw
        replace hSw : w1.heap[w.heap.size]? = some (.cells #[.int .i64 t, .int .i64 r, .bool same, .int .i64 p, .int .i64 o] 24) ∧ w1.heap[w.heap.size + 1]? = some (.cells #[.slice sa N cap, .int .i64 i] 27) := hSw
        obtain ⟨hSg, hSr⟩ := hSw
        obtain ⟨e0, e1, e2, e3, e4⟩ := gcells hSg
        obtain ⟨f0, f1⟩ := tcells hSr
        clear hSg hSr
        go_simp; with_reducible rfl
      simp only [List.getElem_toArray, List.getElem_cons_succ, List.getElem_cons_zero, Act.put, List.setIfInBounds_toArray, List.set_cons_zero, List.set_cons_succ]
      refine wpAnyH_take (i := 9) (oi := _) (v := ?_) rfl (by kernel_rfl) (by kernel_rfl) (by kernel_rfl) (fun _ _ _ h => h) (Or.inl ⟨by rfl, ?_⟩) hHeld ?_
      rotate_left
      · intro w1 hSw
        replace hSw : w1.heap[w.heap.size]? = some (.cells #[.int .i64 t, .int .i64 r, .bool same, .int .i64 p, .int .i64 o] 24) ∧ w1.heap[w.heap.size + 1]? = some (.cells #[.slice sa N cap, .int .i64 i] 27) := hSw
        obtain ⟨hSg, hSr⟩ := hSw
        obtain ⟨e0, e1, e2, e3, e4⟩ := gcells hSg
        obtain ⟨f0, f1⟩ := tcells hSr
        clear hSg hSr
        go_simp; with_reducible rfl
      simp only [List.getElem_toArray, List.getElem_cons_succ, List.getElem_cons_zero, Act.put, List.setIfInBounds_toArray, List.set_cons_zero, List.set_cons_succ]
      refine wpAnyH_done (by kernel_rfl) ?_ _
      have hC6 := HC5.out
      rw [← HN.out, HTB.out] at hC6
      have HC6 := Lib.hid hC6
      clear hC6 HC5 HTB
      cases hbs : (tb == same) with
      | false =>
        have HC : RowKit.Hid (C = (0, 7)) := Lib.hid (by rw [HC6.out, if_pos (by simpa using hbs)])
        clear HC6 hS hP hge hst hpl hpe hHeld hgi htt hn1
        go_wp2
        refine bodyPost_ret (v := .tuple #[.int .i64 0, .int .i64 7]) (by simp [results, Try.results13, go_sem]) rfl ⟨by rw [HC.out], hbw6.drew⟩
      | true =>
        have hC7 := HC6.out
        rw [if_neg (by simpa using hbs)] at hC7
        have HC7 := Lib.hid hC7
        clear hC7 HC6 hHeld
        go_wp2_with fail
        have hmem : ∀ z ∈ P, (6 ≤ z.1 ∧ z.1 ≤ 100) ∧ (6 ≤ z.2 ∧ z.2 ≤ 100) := fun z hz => ⟨(HPT.out z hz).1, (HPT.out z hz).2.1⟩
        have hd := prodW_bd (drvs P) (by intro z hz; obtain ⟨q, hq, rfl⟩ := List.mem_map.1 hz; exact (hmem q hq).1) (by simpa [drvs] using hP3)
        have hn := prodW_bd (drns P) (by intro z hz; obtain ⟨q, hq, rfl⟩ := List.mem_map.1 hz; exact (hmem q hq).2) (by simpa [drns] using hP3)
        have hrt := fun (X : World) (hX : WheelsAt X (.slice sa N cap) P) => ratioOf_any P (.slice sa N cap) X hX (by omega)
        generalize prodW (drvs P) = dv at *
        generalize prodW (drns P) = nv at *
        clear hmem
        refine wp_region_held_drew (S := fun w' => w'.heap[w.heap.size]? = some (.cells #[.int .i64 t, .int .i64 r, .bool same, .int .i64 p, .int .i64 o] 24) ∧ w'.heap[w.heap.size + 1]? = some (.cells #[.slice sa N cap, .int .i64 i] 27)) (by kernel_rfl) ⟨HG6.out, HR6.out⟩ (fun hHeld => ?_)
        refine wpAnyH_take (i := 0) (oi := _) (v := ?_) rfl (by kernel_rfl) (by kernel_rfl) (by kernel_rfl) (fun _ _ _ h => h) (Or.inl ⟨by rfl, ?_⟩) hHeld ?_
        rotate_left
        · intro w1 hSw
          replace hSw : w1.heap[w.heap.size]? = some (.cells #[.int .i64 t, .int .i64 r, .bool same, .int .i64 p, .int .i64 o] 24) ∧ w1.heap[w.heap.size + 1]? = some (.cells #[.slice sa N cap, .int .i64 i] 27) := hSw
          obtain ⟨hSg, hSr⟩ := hSw
          obtain ⟨e0, e1, e2, e3, e4⟩ := gcells hSg
          obtain ⟨f0, f1⟩ := tcells hSr
          clear hSg hSr
          go_simp; with_reducible rfl
        simp only [List.getElem_toArray, List.getElem_cons_succ, List.getElem_cons_zero, Act.put, List.setIfInBounds_toArray, List.set_cons_zero, List.set_cons_succ]
        refine wpAnyH_take (i := 2) (oi := _) (v := ?_) rfl (by kernel_rfl) (by kernel_rfl) (by kernel_rfl) (fun _ _ _ h => h) (Or.inl ⟨by rfl, ?_⟩) hHeld ?_
        rotate_left
        · intro w1 hSw
          replace hSw : w1.heap[w.heap.size]? = some (.cells #[.int .i64 t, .int .i64 r, .bool same, .int .i64 p, .int .i64 o] 24) ∧ w1.heap[w.heap.size + 1]? = some (.cells #[.slice sa N cap, .int .i64 i] 27) := hSw
          obtain ⟨hSg, hSr⟩ := hSw
          obtain ⟨e0, e1, e2, e3, e4⟩ := gcells hSg
          obtain ⟨f0, f1⟩ := tcells hSr
          clear hSg hSr
          go_simp; with_reducible rfl
        simp only [List.getElem_toArray, List.getElem_cons_succ, List.getElem_cons_zero, Act.put, List.setIfInBounds_toArray, List.set_cons_zero, List.set_cons_succ]
        refine wpAnyH_take (i := 3) (oi := _) (v := ?_) rfl (by kernel_rfl) (by kernel_rfl) (by kernel_rfl) (fun _ _ _ h => h) (Or.inl ⟨by rfl, ?_⟩) hHeld ?_
        rotate_left
        · intro w1 hSw
          replace hSw : w1.heap[w.heap.size]? = some (.cells #[.int .i64 t, .int .i64 r, .bool same, .int .i64 p, .int .i64 o] 24) ∧ w1.heap[w.heap.size + 1]? = some (.cells #[.slice sa N cap, .int .i64 i] 27) := hSw
          obtain ⟨hSg, hSr⟩ := hSw
          obtain ⟨e0, e1, e2, e3, e4⟩ := gcells hSg
          obtain ⟨f0, f1⟩ := tcells hSr
          clear hSg hSr
          go_simp; with_reducible rfl
        simp only [List.getElem_toArray, List.getElem_cons_succ, List.getElem_cons_zero, Act.put, List.setIfInBounds_toArray, List.set_cons_zero, List.set_cons_succ]
        refine wpAnyH_all (rs := [1]) (by kernel_rfl) (by simp) ?_
        intro i hi; obtain rfl := List.mem_singleton.1 hi; clear hi
        refine wpOp_step rfl (fun K3 hK3 => ?_)
        have HK3 := Lib.hid hK3
        clear hK3
        rw [if_pos (by rfl)]
        go_simp
        refine (aimOf_any t r p o same _).mono ?_
        rintro e w7 ⟨rfl, hb7⟩
        have HG7 := Lib.hid ((hb7.block w.heap.size (by first | omega | (simp; omega))).trans HG6.out)
        have HR7 := Lib.hid ((hb7.block (w.heap.size + 1) (by first | omega | (simp; omega))).trans HR6.out)
        have hbw7 : Below w.heap.size w w7 := hbw6.drew.drew.trans (hb7.mono (by first | omega | (simp; omega)))
        have hz7 : w6.heap.size ≤ w7.heap.size := hb7.size
        clear hb7
        refine HK3.out _ _ ⟨⟨HG7.out, HR7.out⟩, ?_⟩
        clear HK3 K3
        try simp only [List.getElem_toArray, List.getElem_cons_succ, List.getElem_cons_zero, Act.put, List.setIfInBounds_toArray, List.set_cons_zero, List.set_cons_succ]
        refine wpAnyH_all (rs := [4]) (by kernel_rfl) (by simp) ?_
        intro i hi; obtain rfl := List.mem_singleton.1 hi; clear hi
        refine wpOp_step rfl (fun K3 hK3 => ?_)
        have HK3 := Lib.hid hK3
        clear hK3
        rw [if_pos (by rfl)]
        go_simp
        refine (hrt _ (hP.below (by first | exact hbw7 | exact hbw7.drew))).mono ?_
        rintro e w8 ⟨rfl, hb8⟩
        have HG8 := Lib.hid ((hb8.block w.heap.size (by first | omega | (simp; omega))).trans HG7.out)
        have HR8 := Lib.hid ((hb8.block (w.heap.size + 1) (by first | omega | (simp; omega))).trans HR7.out)
        have hbw8 : Below w.heap.size w w8 := hbw7.trans (hb8.mono (by first | omega | (simp; omega)))
        have hz8 : w7.heap.size ≤ w8.heap.size := hb8.size
        clear hb8
        refine HK3.out _ _ ⟨⟨HG8.out, HR8.out⟩, ?_⟩
        clear HK3 K3
        try simp only [List.getElem_toArray, List.getElem_cons_succ, List.getElem_cons_zero, Act.put, List.setIfInBounds_toArray, List.set_cons_zero, List.set_cons_succ]
        refine wpAnyH_all (rs := [5]) (by kernel_rfl) (by simp) ?_
        intro i hi; obtain rfl := List.mem_singleton.1 hi; clear hi
        refine wpOp_step rfl (fun K3 hK3 => ?_)
        have HK3 := Lib.hid hK3
        clear hK3
        rw [if_pos (by rfl)]
        go_simp
        refine (exact_any t r dv nv _ ⟨hgi.1, hgi.2.1⟩ ⟨hgi.2.2.1, hgi.2.2.2.1⟩ hd hn).mono ?_
        rintro e w9 ⟨rfl, hb9⟩
        have HG9 := Lib.hid ((hb9.block w.heap.size (by first | omega | (simp; omega))).trans HG8.out)
        have HR9 := Lib.hid ((hb9.block (w.heap.size + 1) (by first | omega | (simp; omega))).trans HR8.out)
        have hbw9 : Below w.heap.size w w9 := hbw8.trans (hb9.mono (by first | omega | (simp; omega)))
        have hz9 : w8.heap.size ≤ w9.heap.size := hb9.size
        clear hb9
        obtain ⟨ex, hex⟩ : ∃ ex, (dv * t - nv * r == 0) = ex := ⟨_, rfl⟩
        rw [hex]
        have hC8 := HC7.out
        rw [hex, ← HL.out] at hC8
        have HC8 := Lib.hid hC8
        clear hC8 HC7 hex
        refine HK3.out _ _ ⟨⟨HG9.out, HR9.out⟩, ?_⟩
        clear HK3 K3
        try simp only [List.getElem_toArray, List.getElem_cons_succ, List.getElem_cons_zero, Act.put, List.setIfInBounds_toArray, List.set_cons_zero, List.set_cons_succ]
        refine wpAnyH_take (i := 6) (oi := _) (v := ?_) rfl (by kernel_rfl) (by kernel_rfl) (by kernel_rfl) (fun _ _ _ h => h) (Or.inl ⟨by rfl, ?_⟩) ⟨HG9.out, HR9.out⟩ ?_
        rotate_left
        · intro w1 hSw
          replace hSw : w1.heap[w.heap.size]? = some (.cells #[.int .i64 t, .int .i64 r, .bool same, .int .i64 p, .int .i64 o] 24) ∧ w1.heap[w.heap.size + 1]? = some (.cells #[.slice sa N cap, .int .i64 i] 27) := hSw
          obtain ⟨hSg, hSr⟩ := hSw
          obtain ⟨e0, e1, e2, e3, e4⟩ := gcells hSg
          obtain ⟨f0, f1⟩ := tcells hSr
          clear hSg hSr
          go_simp; with_reducible rfl
        simp only [List.getElem_toArray, List.getElem_cons_succ, List.getElem_cons_zero, Act.put, List.setIfInBounds_toArray, List.set_cons_zero, List.set_cons_succ]
        refine wpAnyH_take (i := 7) (oi := _) (v := ?_) rfl (by kernel_rfl) (by kernel_rfl) (by kernel_rfl) (fun _ _ _ h => h) (Or.inl ⟨by rfl, ?_⟩) ⟨HG9.out, HR9.out⟩ ?_
        rotate_left
        · intro w1 hSw
          replace hSw : w1.heap[w.heap.size]? = some (.cells #[.int .i64 t, .int .i64 r, .bool same, .int .i64 p, .int .i64 o] 24) ∧ w1.heap[w.heap.size + 1]? = some (.cells #[.slice sa N cap, .int .i64 i] 27) := hSw
          obtain ⟨hSg, hSr⟩ := hSw
          obtain ⟨e0, e1, e2, e3, e4⟩ := gcells hSg
          obtain ⟨f0, f1⟩ := tcells hSr
          clear hSg hSr
          go_simp; with_reducible rfl
        simp only [List.getElem_toArray, List.getElem_cons_succ, List.getElem_cons_zero, Act.put, List.setIfInBounds_toArray, List.set_cons_zero, List.set_cons_succ]
        refine wpAnyH_done (by kernel_rfl) ?_ _
        clear hS hP hge hst hpl hpe hHeld hgi htt hn1
        cases ex with
        | false =>
          have HC : RowKit.Hid (C = (0, 11)) := Lib.hid (by rw [HC8.out]; rfl)
          clear HC8
          go_wp2
          refine bodyPost_ret (v := .tuple #[.int .i64 0, .int .i64 11]) (by simp [results, Try.results13, go_sem]) rfl ⟨by rw [HC.out], by first | exact hbw9 | exact hbw9.drew⟩
        | true =>
          have HC : RowKit.Hid (C = ((L : Int), 0)) := Lib.hid (by rw [HC8.out]; rfl)
          clear HC8
          go_wp2
          refine bodyPost_ret (v := .tuple #[.int .i64 (L : Int), .int .i64 0]) (by simp [results, Try.results13, go_sem]) rfl ⟨by rw [HC.out], by first | exact hbw9 | exact hbw9.drew⟩
end Go.Proofs.Ytoiapnokgpeipaa
