/- Contracts: Places and Run of the program. -/
import Derived.Test.YtmcndecmnfbggaaD6
import Derived.Deep.RegionHeld3
import Derived.Outline
namespace Go.Proofs.Ytmcndecmnfbggaa
set_option linter.unusedSimpArgs false
open Go.RowKit

/-- a row of ints of the call's own, and an error -/
def ListRes (w : World) (l : List Int) (err : Int) (e : Ending) (w' : World) : Prop := ∃ v, e = .returned (.tuple #[v, .int .i64 err]) ∧ w'.ownsRow w.heap.size 3 1 v l.length (l.map (Value.int .i64)) ∧ Below w.heap.size w w'
def placesErr (d s t : Int) : Int := if regB d s = false then 1 else if totB t d = false then 2 else 0
def placesRes (d s t : Int) : List Int := if placesErr d s t = 0 then placesL t d.toNat else []
theorem regB_bd {d s : Int} (h : regB d s = true) : (1 ≤ d ∧ d ≤ 6) ∧ 0 ≤ s ∧ s < turnP d ∧ s ≤ 1000000000 := by
  unfold regB totB at h
  simp only [Bool.and_eq_true, decide_eq_true_eq] at h
  have := turnP_bd d h.1.2
  omega
theorem totB_bd {t d : Int} (h : totB t d = true) (hd : d ≤ 6) : 0 ≤ t ∧ t ≤ 1000000000 := by
  unfold totB at h
  simp only [decide_eq_true_eq] at h
  have := turnP_bd d hd
  omega
set_option maxRecDepth 100000 in
set_option maxHeartbeats 3200000 in
theorem places_any (d s t : Int) (w : World) : Calls Try.prog 10 #[.agg #[.int .i64 d, .int .i64 s], .int .i64 t] w (ListRes w (placesRes d s t) (placesErr d s t)) := by
  obtain ⟨W0, hW0⟩ : ∃ X, X = w.alloc (.cells #[.int .i64 d, .int .i64 s] 23) := ⟨_, rfl⟩
  have hb0 : Below w.heap.size w W0 := by rw [hW0]; exact (Below.refl _ _).alloc (Nat.le_refl _) _
  have hr0 : W0.heap[w.heap.size]? = some (.cells #[.int .i64 d, .int .i64 s] 23 (0, 0)) := by rw [hW0]; exact (MapKept.heap_alloc w _).1
  have hz0 : W0.heap.size = w.heap.size + 1 := by rw [hW0]; simp
  obtain ⟨c0, c1⟩ := regcells hr0
  obtain ⟨L, hL⟩ : ∃ L, placesRes d s t = L := ⟨_, rfl⟩
  obtain ⟨E, hE⟩ : ∃ E, placesErr d s t = E := ⟨_, rfl⟩
  obtain ⟨R, hR⟩ : ∃ R, regB d s = R := ⟨_, rfl⟩
  have hr := isRegister_any d s W0
  rw [hR] at hr
  rw [hL, hE]
  have HL := Lib.hid hL
  have HE := Lib.hid hE
  have HR := Lib.hid hR
  have HRR := Lib.hid hr
  have HC := Lib.hid hr0
  have hz := Lib.hid hz0
  clear hL hE hR hr hr0 hz0
  go_enter Try.func10, Try.ntmps10
  go_wp2_with fail
  rw [← hW0]
  clear hW0
  go_wp2_with fail
  refine HRR.out.mono ?_
  rintro e w1 ⟨rfl, hb1⟩
  have hbw1 := hb0.trans (hb1.mono hb0.size)
  have hr1 := (hb1.block w.heap.size (by rw [hz.out]; omega)).trans HC.out
  clear c0 c1 hb1 HRR
  cases R with
  | false =>
    have H1 := Lib.hid (show E = 1 by rw [← HE.out]; unfold placesErr; rw [if_pos HR.out])
    have H2 := Lib.hid (show L = [] by rw [← HL.out]; unfold placesRes; rw [HE.out, H1.out]; rfl)
    go_wp2
    go_ret2
    exact ⟨_, by rw [H1.out]; rfl, by rw [H2.out]; exact World.ownsRow_nil _ _ _ _, hbw1⟩
  | true =>
  obtain ⟨hd, hs0, hs1, hs2⟩ := regB_bd HR.out
  obtain ⟨T, hT⟩ : ∃ T, totB t d = T := ⟨_, rfl⟩
  have ht := isTotal_any t d w1 hd.2
  rw [hT] at ht
  have HT := Lib.hid hT
  have HTT := Lib.hid ht
  clear hT ht
  obtain ⟨c0, c1⟩ := regcells hr1
  go_wp2_with fail
  refine HTT.out.mono ?_
  rintro e w2 ⟨rfl, rfl⟩
  cases T with
  | false =>
    have H1 := Lib.hid (show E = 2 by rw [← HE.out]; unfold placesErr; rw [if_neg (by rw [HR.out]; simp), if_pos HT.out])
    have H2 := Lib.hid (show L = [] by rw [← HL.out]; unfold placesRes; rw [HE.out, H1.out]; rfl)
    go_wp2
    go_ret2
    exact ⟨_, by rw [H1.out]; rfl, by rw [H2.out]; exact World.ownsRow_nil _ _ _ _, hbw1⟩
  | true =>
  have H1 := Lib.hid (show E = 0 by rw [← HE.out]; unfold placesErr; rw [if_neg (by rw [HR.out]; simp), if_neg (by rw [HT.out]; simp)])
  have H2 := Lib.hid (show L = placesL t d.toNat by rw [← HL.out]; unfold placesRes; rw [HE.out, H1.out]; rfl)
  obtain ⟨ht0, ht1⟩ := totB_bd HT.out hd.2
  obtain ⟨B, hB⟩ : ∃ B, w.heap.size = B := ⟨_, rfl⟩
  have hBl : B < w1.heap.size := by have := hbw1.size; have := (Array.getElem?_eq_some_iff.1 hr1).1; omega
  go_wp2_with fail
  rw [hB] at hr1
  have HBB := Lib.hid hB
  clear hB c0 c1
  refine wp_region_held_drew (S := fun w' => w'.heap[B]? = some (.cells #[.int .i64 d, .int .i64 s] 23)) (by kernel_rfl) hr1 (fun hHeld => ?_)
  obtain ⟨X0, hX0⟩ : ∃ X0, X0 = w1.drew := ⟨_, rfl⟩
  have hbX : Below w.heap.size w X0 := by rw [hX0]; exact below_drewN' hbw1 1
  have hR := Lib.hid hHeld
  rw [← hX0] at hR ⊢
  clear hX0 hHeld
  refine wpAnyH_take (i := 0) (oi := _) (v := ?_) rfl (by kernel_rfl) (by kernel_rfl) (by kernel_rfl) (fun _ _ _ h => h) (Or.inl ⟨by rfl, ?_⟩) hR.out ?_
  rotate_left
  · intro w1 hSw
    replace hSw : w1.heap[B]? = some (.cells #[.int .i64 d, .int .i64 s] 23) := hSw
    obtain ⟨q0, q1⟩ := regcells hSw
    clear hSw
    go_simp; with_reducible rfl
  simp only [List.getElem_toArray, List.getElem_cons_succ, List.getElem_cons_zero, Act.put, List.setIfInBounds_toArray, List.set_cons_zero, List.set_cons_succ]
  refine wpAnyH_take (i := 2) (oi := _) (v := ?_) rfl (by kernel_rfl) (by kernel_rfl) (by kernel_rfl) (fun _ _ _ h => h) (Or.inl ⟨by rfl, ?_⟩) hR.out ?_
  rotate_left
  · intro w1 hSw
    replace hSw : w1.heap[B]? = some (.cells #[.int .i64 d, .int .i64 s] 23) := hSw
    obtain ⟨q0, q1⟩ := regcells hSw
    clear hSw
    go_simp; with_reducible rfl
  simp only [List.getElem_toArray, List.getElem_cons_succ, List.getElem_cons_zero, Act.put, List.setIfInBounds_toArray, List.set_cons_zero, List.set_cons_succ]
  refine wpAnyH_take (i := 3) (oi := _) (v := ?_) rfl (by kernel_rfl) (by kernel_rfl) (by kernel_rfl) (fun _ _ _ h => h) (Or.inl ⟨by rfl, ?_⟩) hR.out ?_
  rotate_left
  · intro w1 hSw
    replace hSw : w1.heap[B]? = some (.cells #[.int .i64 d, .int .i64 s] 23) := hSw
    obtain ⟨q0, q1⟩ := regcells hSw
    clear hSw
    go_simp; with_reducible rfl
  simp only [List.getElem_toArray, List.getElem_cons_succ, List.getElem_cons_zero, Act.put, List.setIfInBounds_toArray, List.set_cons_zero, List.set_cons_succ]
  refine wpAnyH_all (rs := [1]) (by kernel_rfl) (by simp) ?_
  intro i hi; obtain rfl := List.mem_singleton.1 hi; clear hi
  refine wpOp_step rfl (fun K3 hK3 => ?_)
  have HK3 := Lib.hid hK3
  clear hK3
  rw [if_pos (by rfl)]
  go_simp
  refine (drumsAt_any t _ ht0 ht1).mono ?_
  rintro e x1 ⟨rfl, hy1⟩
  replace hR := Lib.hid ((hy1.block B (Array.getElem?_eq_some_iff.1 hR.out).1).trans hR.out)
  replace hbX := hbX.trans (hy1.mono hbX.size)
  clear hy1
  refine HK3.out _ _ ⟨hR.out, ?_⟩
  clear HK3 K3
  try simp only [List.getElem_toArray, List.getElem_cons_succ, List.getElem_cons_zero, Act.put, List.setIfInBounds_toArray, List.set_cons_zero, List.set_cons_succ]
  refine wpAnyH_all (rs := [4]) (by kernel_rfl) (by simp) ?_
  intro i hi; obtain rfl := List.mem_singleton.1 hi; clear hi
  refine wpOp_step rfl (fun K3 hK3 => ?_)
  have HK3 := Lib.hid hK3
  clear hK3
  rw [if_pos (by rfl)]
  go_simp
  refine (tellPlace_any d t _ hd).mono ?_
  rintro e x2 ⟨v, rfl, hv, hy2⟩
  have hR2 := Lib.hid ((hy2.block B (Array.getElem?_eq_some_iff.1 hR.out).1).trans hR.out)
  have hbX2 := hbX.trans (hy2.mono hbX.size)
  have hv2 := ownsRow_mono' hv hbX.size
  clear hy2 hv
  refine HK3.out _ _ ⟨hR2.out, ?_⟩
  clear HK3 K3
  try simp only [List.getElem_toArray, List.getElem_cons_succ, List.getElem_cons_zero, Act.put, List.setIfInBounds_toArray, List.set_cons_zero, List.set_cons_succ]
  refine wpAnyH_take (i := 5) (oi := _) (v := ?_) rfl (by kernel_rfl) (by kernel_rfl) (by kernel_rfl) (fun _ _ _ h => h) (Or.inl ⟨by rfl, ?_⟩) hR2.out ?_
  rotate_left
  · intro w1 hSw
    replace hSw : w1.heap[B]? = some (.cells #[.int .i64 d, .int .i64 s] 23) := hSw
    obtain ⟨q0, q1⟩ := regcells hSw
    clear hSw
    go_simp; with_reducible rfl
  simp only [List.getElem_toArray, List.getElem_cons_succ, List.getElem_cons_zero, Act.put, List.setIfInBounds_toArray, List.set_cons_zero, List.set_cons_succ]
  refine wpAnyH_take (i := 6) (oi := _) (v := ?_) rfl (by kernel_rfl) (by kernel_rfl) (by kernel_rfl) (fun _ _ _ h => h) (Or.inl ⟨by rfl, ?_⟩) hR2.out ?_
  rotate_left
  · intro w1 hSw
    replace hSw : w1.heap[B]? = some (.cells #[.int .i64 d, .int .i64 s] 23) := hSw
    obtain ⟨q0, q1⟩ := regcells hSw
    clear hSw
    go_simp; with_reducible rfl
  simp only [List.getElem_toArray, List.getElem_cons_succ, List.getElem_cons_zero, Act.put, List.setIfInBounds_toArray, List.set_cons_zero, List.set_cons_succ]
  refine wpAnyH_done (by kernel_rfl) ?_ _
  go_wp2
  go_ret2
  exact ⟨v, by rw [H1.out]; rfl, by rw [H2.out, placesL_len] at *; first | exact hv2 | (rw [placesL_len] at hv2; exact hv2), hbX2⟩
/-- a number, a row of ints of the call's own, and an error -/
def RunRes (w : World) (n : Int) (l : List Int) (err : Int) (e : Ending) (w' : World) : Prop := ∃ v, e = .returned (.tuple #[.int .i64 n, v, .int .i64 err]) ∧ w'.ownsRow w.heap.size 3 1 v l.length (l.map (Value.int .i64)) ∧ Below w.heap.size w w'
def runTot (d s : Int) (l : List Int) : Int := if runsErr d s l = 0 then totalP d s l else 0
def runFigs (d s : Int) (l : List Int) : List Int := if runsErr d s l = 0 then figsL (totalP d s l) d.toNat else []
theorem runsErr_zero {d s : Int} {l : List Int} (h : runsErr d s l = 0) : regB d s = true ∧ l.length ≤ 32 ∧ l.any runBad = false := by
  unfold runsErr at h
  split at h
  · omega
  · rename_i h1
    split at h
    · omega
    · split at h
      · omega
      · rename_i h2 h3
        exact ⟨by simpa using h1, by omega, by simpa using h3⟩
theorem totalP_bd (d s : Int) (l : List Int) (hd : d ≤ 6) : 0 ≤ totalP d s l ∧ totalP d s l < turnP d ∧ totalP d s l ≤ 1000000000 := by
  unfold totalP
  have h := turnP_bd d hd
  have := Int.emod_nonneg (s + l.sum) (show turnP d ≠ 0 by omega)
  have := Int.emod_lt_of_pos (s + l.sum) (show 0 < turnP d by omega)
  omega
set_option maxRecDepth 100000 in
set_option maxHeartbeats 3200000 in
theorem run_any (d s : Int) (l : List Int) (v : Value) (w : World) (hl : IntsAt w v l) : Calls Try.prog 12 #[.agg #[.int .i64 d, .int .i64 s], v] w (RunRes w (runTot d s l) (runFigs d s l) (runsErr d s l)) := by
  obtain ⟨a, c, rfl⟩ := hl.shape
  obtain ⟨W0, hW0⟩ : ∃ X, X = w.alloc (.cells #[.int .i64 d, .int .i64 s] 23) := ⟨_, rfl⟩
  have hb0 : Below w.heap.size w W0 := by rw [hW0]; exact (Below.refl _ _).alloc (Nat.le_refl _) _
  have hr0 : W0.heap[w.heap.size]? = some (.cells #[.int .i64 d, .int .i64 s] 23 (0, 0)) := by rw [hW0]; exact (MapKept.heap_alloc w _).1
  have hz0 : W0.heap.size = w.heap.size + 1 := by rw [hW0]; simp
  obtain ⟨c0, c1⟩ := regcells hr0
  obtain ⟨N, hN⟩ : ∃ N, runTot d s l = N := ⟨_, rfl⟩
  obtain ⟨L, hL⟩ : ∃ L, runFigs d s l = L := ⟨_, rfl⟩
  obtain ⟨E, hE⟩ : ∃ E, runsErr d s l = E := ⟨_, rfl⟩
  have hr := runsError_any d s l (.slice a l.length c) W0 (hl.below hb0)
  rw [hE] at hr
  rw [hL, hE, hN]
  have HL := Lib.hid hL
  have HN := Lib.hid hN
  have HE := Lib.hid hE
  have HRR := Lib.hid hr
  have HC := Lib.hid hr0
  have hz := Lib.hid hz0
  clear hL hE hN hr hr0 hz0
  go_enter Try.func12, Try.ntmps12
  go_wp2_with fail
  rw [← hW0]
  clear hW0
  go_wp2_with fail
  refine HRR.out.mono ?_
  rintro e w1 ⟨rfl, hb1⟩
  have hbw1 := hb0.trans (hb1.mono hb0.size)
  have hr1 := (hb1.block w.heap.size (by rw [hz.out]; omega)).trans HC.out
  clear c0 c1 hb1 HRR
  by_cases hE0 : E = 0
  rotate_left
  · have H1 := Lib.hid (show L = [] by rw [← HL.out]; unfold runFigs; rw [if_neg (by rw [HE.out]; exact hE0)])
    have H2 := Lib.hid (show N = 0 by rw [← HN.out]; unfold runTot; rw [if_neg (by rw [HE.out]; exact hE0)])
    go_wp2
    go_ret3
    exact ⟨_, by rw [H2.out]; rfl, by rw [H1.out]; exact World.ownsRow_nil _ _ _ _, hbw1⟩
  have H1 := Lib.hid (show L = figsL (totalP d s l) d.toNat by rw [← HL.out]; unfold runFigs; rw [if_pos (by rw [HE.out]; exact hE0)])
  have H2 := Lib.hid (show N = totalP d s l by rw [← HN.out]; unfold runTot; rw [if_pos (by rw [HE.out]; exact hE0)])
  obtain ⟨z1, z2, z3⟩ := runsErr_zero (HE.out.trans hE0)
  obtain ⟨hd, hs0, hs1, hs2⟩ := regB_bd z1
  obtain ⟨tb0, tb1, tb2⟩ := totalP_bd d s l hd.2
  have hta := totalAfter_any d s l (.slice a l.length c) w1 (hl.below hbw1) hd ⟨hs0, hs2⟩ z2 z3
  subst hE0
  obtain ⟨t, ht⟩ : ∃ t, totalP d s l = t := ⟨_, rfl⟩
  rw [ht] at hta tb0 tb1 tb2 H1 H2
  have HT := Lib.hid ht
  have HTA := Lib.hid hta
  have hr1' := Lib.hid hr1
  obtain ⟨c0, c1⟩ := regcells hr1
  clear hta ht z1 z2 z3 hr1
  go_wp2_with fail
  refine HTA.out.mono ?_
  rintro e w2 ⟨rfl, hb2⟩
  have hr2 := (hb2.block w.heap.size (Array.getElem?_eq_some_iff.1 hr1'.out).1).trans hr1'.out
  have hbw2 := hbw1.trans (hb2.mono hbw1.size)
  obtain ⟨B, hB⟩ : ∃ B, w.heap.size = B := ⟨_, rfl⟩
  clear c0 c1 hb2 hbw1
  go_wp2_with fail
  rw [hB] at hr2
  have HBB := Lib.hid hB
  clear hB
  refine wp_region_held_drew (S := fun w' => w'.heap[B]? = some (.cells #[.int .i64 d, .int .i64 s] 23)) (by kernel_rfl) hr2 (fun hHeld => ?_)
  obtain ⟨X0, hX0⟩ : ∃ X0, X0 = w2.drew := ⟨_, rfl⟩
  have hbX : Below w.heap.size w X0 := by rw [hX0]; exact below_drewN' hbw2 1
  have hR := Lib.hid hHeld
  rw [← hX0] at hR ⊢
  clear hX0 hHeld
  refine wpAnyH_take (i := 0) (oi := _) (v := ?_) rfl (by kernel_rfl) (by kernel_rfl) (by kernel_rfl) (fun _ _ _ h => h) (Or.inl ⟨by rfl, ?_⟩) hR.out ?_
  rotate_left
  · intro w1 hSw
    replace hSw : w1.heap[B]? = some (.cells #[.int .i64 d, .int .i64 s] 23) := hSw
    obtain ⟨q0, q1⟩ := regcells hSw
    clear hSw
    go_simp; with_reducible rfl
  simp only [List.getElem_toArray, List.getElem_cons_succ, List.getElem_cons_zero, Act.put, List.setIfInBounds_toArray, List.set_cons_zero, List.set_cons_succ]
  refine wpAnyH_take (i := 1) (oi := _) (v := ?_) rfl (by kernel_rfl) (by kernel_rfl) (by kernel_rfl) (fun _ _ _ h => h) (Or.inl ⟨by rfl, ?_⟩) hR.out ?_
  rotate_left
  · intro w1 hSw
    replace hSw : w1.heap[B]? = some (.cells #[.int .i64 d, .int .i64 s] 23) := hSw
    obtain ⟨q0, q1⟩ := regcells hSw
    clear hSw
    go_simp; with_reducible rfl
  simp only [List.getElem_toArray, List.getElem_cons_succ, List.getElem_cons_zero, Act.put, List.setIfInBounds_toArray, List.set_cons_zero, List.set_cons_succ]
  refine wpAnyH_take (i := 3) (oi := _) (v := ?_) rfl (by kernel_rfl) (by kernel_rfl) (by kernel_rfl) (fun _ _ _ h => h) (Or.inl ⟨by rfl, ?_⟩) hR.out ?_
  rotate_left
  · intro w1 hSw
    replace hSw : w1.heap[B]? = some (.cells #[.int .i64 d, .int .i64 s] 23) := hSw
    obtain ⟨q0, q1⟩ := regcells hSw
    clear hSw
    go_simp; with_reducible rfl
  simp only [List.getElem_toArray, List.getElem_cons_succ, List.getElem_cons_zero, Act.put, List.setIfInBounds_toArray, List.set_cons_zero, List.set_cons_succ]
  refine wpAnyH_take (i := 4) (oi := _) (v := ?_) rfl (by kernel_rfl) (by kernel_rfl) (by kernel_rfl) (fun _ _ _ h => h) (Or.inl ⟨by rfl, ?_⟩) hR.out ?_
  rotate_left
  · intro w1 hSw
    replace hSw : w1.heap[B]? = some (.cells #[.int .i64 d, .int .i64 s] 23) := hSw
    obtain ⟨q0, q1⟩ := regcells hSw
    clear hSw
    go_simp; with_reducible rfl
  simp only [List.getElem_toArray, List.getElem_cons_succ, List.getElem_cons_zero, Act.put, List.setIfInBounds_toArray, List.set_cons_zero, List.set_cons_succ]
  refine wpAnyH_all (rs := [2]) (by kernel_rfl) (by simp) ?_
  intro i hi; obtain rfl := List.mem_singleton.1 hi; clear hi
  refine wpOp_step rfl (fun K3 hK3 => ?_)
  have HK3 := Lib.hid hK3
  clear hK3
  rw [if_pos (by rfl)]
  go_simp
  refine (drumsAt_any t _ tb0 tb2).mono ?_
  rintro e x1 ⟨rfl, hy1⟩
  replace hR := Lib.hid ((hy1.block B (Array.getElem?_eq_some_iff.1 hR.out).1).trans hR.out)
  replace hbX := hbX.trans (hy1.mono hbX.size)
  clear hy1
  refine HK3.out _ _ ⟨hR.out, ?_⟩
  clear HK3 K3
  try simp only [List.getElem_toArray, List.getElem_cons_succ, List.getElem_cons_zero, Act.put, List.setIfInBounds_toArray, List.set_cons_zero, List.set_cons_succ]
  refine wpAnyH_all (rs := [5]) (by kernel_rfl) (by simp) ?_
  intro i hi; obtain rfl := List.mem_singleton.1 hi; clear hi
  refine wpOp_step rfl (fun K3 hK3 => ?_)
  have HK3 := Lib.hid hK3
  clear hK3
  rw [if_pos (by rfl)]
  go_simp
  refine (tellFigure_any d t _ hd).mono ?_
  rintro e x2 ⟨v, rfl, hv, hy2⟩
  have hR2 := Lib.hid ((hy2.block B (Array.getElem?_eq_some_iff.1 hR.out).1).trans hR.out)
  have hbX2 := hbX.trans (hy2.mono hbX.size)
  have hv2 := ownsRow_mono' hv hbX.size
  clear hy2 hv
  refine HK3.out _ _ ⟨hR2.out, ?_⟩
  clear HK3 K3
  try simp only [List.getElem_toArray, List.getElem_cons_succ, List.getElem_cons_zero, Act.put, List.setIfInBounds_toArray, List.set_cons_zero, List.set_cons_succ]
  refine wpAnyH_take (i := 6) (oi := _) (v := ?_) rfl (by kernel_rfl) (by kernel_rfl) (by kernel_rfl) (fun _ _ _ h => h) (Or.inl ⟨by rfl, ?_⟩) hR2.out ?_
  rotate_left
  · intro w1 hSw
    replace hSw : w1.heap[B]? = some (.cells #[.int .i64 d, .int .i64 s] 23) := hSw
    obtain ⟨q0, q1⟩ := regcells hSw
    clear hSw
    go_simp; with_reducible rfl
  simp only [List.getElem_toArray, List.getElem_cons_succ, List.getElem_cons_zero, Act.put, List.setIfInBounds_toArray, List.set_cons_zero, List.set_cons_succ]
  refine wpAnyH_take (i := 7) (oi := _) (v := ?_) rfl (by kernel_rfl) (by kernel_rfl) (by kernel_rfl) (fun _ _ _ h => h) (Or.inl ⟨by rfl, ?_⟩) hR2.out ?_
  rotate_left
  · intro w1 hSw
    replace hSw : w1.heap[B]? = some (.cells #[.int .i64 d, .int .i64 s] 23) := hSw
    obtain ⟨q0, q1⟩ := regcells hSw
    clear hSw
    go_simp; with_reducible rfl
  simp only [List.getElem_toArray, List.getElem_cons_succ, List.getElem_cons_zero, Act.put, List.setIfInBounds_toArray, List.set_cons_zero, List.set_cons_succ]
  refine wpAnyH_take (i := 8) (oi := _) (v := ?_) rfl (by kernel_rfl) (by kernel_rfl) (by kernel_rfl) (fun _ _ _ h => h) (Or.inl ⟨by rfl, ?_⟩) hR2.out ?_
  rotate_left
  · intro w1 hSw
    replace hSw : w1.heap[B]? = some (.cells #[.int .i64 d, .int .i64 s] 23) := hSw
    obtain ⟨q0, q1⟩ := regcells hSw
    clear hSw
    go_simp; with_reducible rfl
  simp only [List.getElem_toArray, List.getElem_cons_succ, List.getElem_cons_zero, Act.put, List.setIfInBounds_toArray, List.set_cons_zero, List.set_cons_succ]
  refine wpAnyH_done (by kernel_rfl) ?_ _
  go_wp2
  go_ret3
  exact ⟨v, by rw [H2.out]; rfl, by rw [H1.out, figsL_len] at *; first | exact hv2 | (rw [figsL_len] at hv2; exact hv2), hbX2⟩
end Go.Proofs.Ytmcndecmnfbggaa
