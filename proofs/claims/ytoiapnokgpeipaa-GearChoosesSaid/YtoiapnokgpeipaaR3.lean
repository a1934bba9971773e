/- The document's own: Stock, Exact, Rounds. -/
import Derived.Test.YtoiapnokgpeipaaR2
import Derived.Test.YtoiapnokgpeipaaD1
namespace Go.Proofs.Ytoiapnokgpeipaa
set_option linter.unusedSimpArgs false
open Go.RowKit Go.Maps

theorem in_same (n lo hi : Int) (w : World) : Calls Try.prog 46 #[.int .i64 n, .int .i64 lo, .int .i64 hi] w fun e w' => e = .returned (.bool (inB n lo hi)) ∧ w' = w :=
  (in_any n lo hi w).mono fun _ _ h => ⟨h.1, h.2.symm⟩

set_option maxRecDepth 100000 in
set_option maxHeartbeats 3200000 in
theorem refStock_any (S : List (Int × Int)) (v : Value) (w : World) (hS : WheelsAt w v S) :
    Calls Try.prog 25 #[v] w fun e w' => e = .returned (.bool (stockB S)) ∧ Below w.heap.size w w' := by
  obtain ⟨sa, sc, rfl⟩ := hS.shape
  have hsl : S.length ≤ 9223372036854775807 := hS.1
  go_enter Try.func25, Try.ntmps25
  go_wp2
  go_loopw [3] (fun c wr => ∃ k : Nat, k ≤ S.length ∧ c = .int .i64 k ∧ Below w.heap.size w wr ∧ ∀ j, j < k → rowB S j = true) (fun c _ => S.length - (intOf c).toNat)
  case atStart => exact ⟨0, by omega, rfl, Below.refl _ _, fun j hj => by omega⟩
  case round =>
    obtain ⟨k, hk, rfl, hbel, hno⟩ := hrel
    by_cases hlt : k < S.length
    · obtain ⟨b, off, rfl, _, hc1, hc2, hbl, hc⟩ := hS.at rfl (by omega)
      obtain ⟨c0, c1⟩ := hc k hlt
      rw [← hbel.cell (p := ⟨b, _, none⟩) hbl] at c0 c1
      obtain ⟨x, hx⟩ : ∃ x, x = (S.getD k (0, 0)).1 := ⟨_, rfl⟩
      obtain ⟨y, hy⟩ : ∃ y, y = (S.getD k (0, 0)).2 := ⟨_, rfl⟩
      rw [← hx] at c0
      rw [← hy] at c1
      have A : ∀ X, Calls Try.prog 46 #[.int .i64 x, .int .i64 6, .int .i64 100] X fun e w' => e = .returned (.bool (inB x 6 100)) ∧ w' = X := fun X => in_same _ _ _ X
      have B : ∀ X, Calls Try.prog 46 #[.int .i64 y, .int .i64 0, .int .i64 4] X fun e w' => e = .returned (.bool (inB y 0 4)) ∧ w' = X := fun X => in_same _ _ _ X
      obtain ⟨a, ha⟩ : ∃ a, inB x 6 100 = a := ⟨_, rfl⟩
      obtain ⟨b', hb'⟩ : ∃ b', inB y 0 4 = b' := ⟨_, rfl⟩
      rw [ha] at A
      rw [hb'] at B
      have HA := Lib.hid A
      have HB := Lib.hid B
      clear A B
      have i1 : (0 : Int) ≤ (k : Int) := by omega
      have i2 : (k : Int) < (S.length : Int) := by omega
      cases a with
      | false =>
        have H := Lib.hid (stockB_bad hlt (show rowB S k = false by unfold rowB; rw [← hx, ← hy]; exact decide_eq_false (fun hh => by simp [inB] at ha; omega)))
        clear hx hy hc hno ha hb'
        go_wp2
        go_quiet ((go_at_call 46; first | (with_reducible exact Calls.quiet_of_same (HA.out _)) | (with_reducible exact Calls.quiet_of_same (HB.out _))))
        go_wp2
        go_ret
        exact ⟨ret_bool H.out.symm, below_drewN' hbel _⟩
      | true =>
      cases b' with
      | false =>
        have H := Lib.hid (stockB_bad hlt (show rowB S k = false by unfold rowB; rw [← hx, ← hy]; exact decide_eq_false (fun hh => by simp [inB] at hb'; omega)))
        clear hx hy hc hno ha hb'
        go_wp2
        go_quiet ((go_at_call 46; first | (with_reducible exact Calls.quiet_of_same (HA.out _)) | (with_reducible exact Calls.quiet_of_same (HB.out _))))
        go_wp2
        go_ret
        exact ⟨ret_bool H.out.symm, below_drewN' hbel _⟩
      | true =>
      by_cases hk0 : k = 0
      · have H := Lib.hid (show rowB S k = true by unfold rowB; rw [← hx, ← hy]; simp [inB] at ha hb'; exact decide_eq_true ⟨ha.1, ha.2, hb'.1, hb'.2, Or.inl hk0⟩)
        have HN := Lib.hid hno
        have hg : decide (0 < k) = false := by simp; omega
        have hn0 : ¬ 0 < k := by omega
        clear hx hy hc hno ha hb' hk0
        go_wp2
        go_quiet ((go_at_call 46; first | (with_reducible exact Calls.quiet_of_same (HA.out _)) | (with_reducible exact Calls.quiet_of_same (HB.out _))))
        go_wp2
        go_roundw
        case rel => exact ⟨k + 1, by omega, by go_num, below_drewN' hbel _, fun j hj => by by_cases e : j = k; exact e ▸ H.out; exact HN.out j (by omega)⟩
        case measure => simp [intOf]; omega
      · obtain ⟨d0, _⟩ := hc (k - 1) (by omega)
        rw [← hbel.cell (p := ⟨b, _, none⟩) hbl] at d0
        obtain ⟨z, hz⟩ : ∃ z, z = (S.getD (k - 1) (0, 0)).1 := ⟨_, rfl⟩
        rw [← hz] at d0
        have ek : (k : Int) - 1 = ((k - 1 : Nat) : Int) := by omega
        have hg : decide (0 < k) = true := by simp; omega
        have hn0 : 0 < k := by omega
        by_cases hzx : z < x
        · have H := Lib.hid (show rowB S k = true by unfold rowB; rw [← hx, ← hy, ← hz]; simp [inB] at ha hb'; exact decide_eq_true ⟨ha.1, ha.2, hb'.1, hb'.2, Or.inr hzx⟩)
          have HN := Lib.hid hno
          have hle : decide (x ≤ z) = false := by simp; omega
          clear hx hy hc hno ha hb' hz hk0
          go_wp2
          go_quiet ((go_at_call 46; first | (with_reducible exact Calls.quiet_of_same (HA.out _)) | (with_reducible exact Calls.quiet_of_same (HB.out _))))
          go_wp2
          go_roundw
          case rel => exact ⟨k + 1, by omega, by go_num, below_drewN' hbel _, fun j hj => by by_cases e : j = k; exact e ▸ H.out; exact HN.out j (by omega)⟩
          case measure => simp [intOf]; omega
        · have H := Lib.hid (stockB_bad hlt (show rowB S k = false by unfold rowB; rw [← hx, ← hy, ← hz]; exact decide_eq_false (fun hh => by omega)))
          have hle : decide (x ≤ z) = true := by simp; omega
          clear hx hy hc hno ha hb' hz hk0
          go_wp2
          go_quiet ((go_at_call 46; first | (with_reducible exact Calls.quiet_of_same (HA.out _)) | (with_reducible exact Calls.quiet_of_same (HB.out _))))
          go_wp2
          go_ret
          exact ⟨ret_bool H.out.symm, below_drewN' hbel _⟩
    · by_cases h8 : S.length ≤ 8
      · have H := Lib.hid (stockB_good h8 (by omega) hno)
        clear hno
        go_wp2
        go_ret
        exact ⟨by rw [H.out]; simp; omega, hbel⟩
      · have H := Lib.hid (stockB_long (S := S) (by omega))
        clear hno
        go_wp2
        go_ret
        exact ⟨by rw [H.out]; simp; omega, hbel⟩

set_option maxRecDepth 100000 in
set_option maxHeartbeats 1600000 in
theorem refExact_any (P : List (Int × Int)) (v : Value) (t r p o i : Int) (same : Bool) (w : World) (hP : WheelsAt w v P) (ht : 1 ≤ t ∧ t ≤ 1000) (hr : 1 ≤ r ∧ r ≤ 1000)
    (hd : 1 ≤ prodW (drvs P) ∧ prodW (drvs P) ≤ 1000000) (hn : 1 ≤ prodW (drns P) ∧ prodW (drns P) ≤ 1000000) :
    Calls Try.prog 44 #[.agg #[.int .i64 t, .int .i64 r, .bool same, .int .i64 p, .int .i64 o], .agg #[v, .int .i64 i]] w fun e w' => e = .returned (.bool (prodW (drns P) * r == prodW (drvs P) * t)) ∧ Below w.heap.size w w' := by
  obtain ⟨pa, pc, rfl⟩ := hP.shape
  obtain ⟨W0, hW0⟩ : ∃ W0, W0 = (w.alloc (.cells #[.int .i64 t, .int .i64 r, .bool same, .int .i64 p, .int .i64 o] 24)).alloc (.cells #[.slice pa P.length pc, .int .i64 i] 27) := ⟨_, rfl⟩
  have hg0 : Below w.heap.size w W0 := by rw [hW0]; exact ((Below.refl _ _).alloc (Nat.le_refl _) _).alloc (by simp) _
  have hG0 : W0.heap[w.heap.size]? = some (.cells #[.int .i64 t, .int .i64 r, .bool same, .int .i64 p, .int .i64 o] 24) := by rw [hW0, Below.heap_alloc _ _ _ (by simp)]; exact (MapKept.heap_alloc w _).1
  have hz0 : W0.heap.size = w.heap.size + 2 := by rw [hW0]; simp
  have hpr := products_any P (.slice pa P.length pc) i W0 (hP.below hg0)
  generalize prodW (drvs P) = d at *
  generalize prodW (drns P) = n at *
  have p1 := mul_bd (x := d) (y := t) (by omega) hd.2 (by omega) ht.2
  have p2 := mul_bd (x := n) (y := r) (by omega) hn.2 (by omega) hr.2
  have hpl : P.length ≤ 9223372036854775807 := hP.1
  go_enter Try.func44, Try.ntmps44
  go_wp2_with fail
  rw [← hW0]
  clear hW0
  refine hpr.mono ?_
  rintro e w1 ⟨rfl, hb1⟩
  obtain ⟨e0, e1, e2, e3, e4⟩ := gcells ((hb1.block w.heap.size (by omega)).trans hG0)
  have hbw : Below w.heap.size w w1 := hg0.trans (hb1.mono (by omega))
  clear hpr hG0 hb1
  go_wp2
  go_ret
  exact ⟨rfl, hbw⟩

set_option maxRecDepth 100000 in
set_option maxHeartbeats 3200000 in
theorem refRounds_any (P : List (Int × Int)) (v : Value) (i n : Int) (w : World) (hv : WheelsAt w v P) :
    Calls Try.prog 16 #[.agg #[v, .int .i64 i], .int .i64 n] w fun e w' => e = .returned (.tuple #[.int .i64 (roundsC P n).1, .int .i64 (roundsC P n).2]) ∧ Below w.heap.size w w' := by
  obtain ⟨C, hC⟩ : ∃ C, C = roundsC P n := ⟨_, rfl⟩
  rw [← hC]
  have HC := Lib.hid hC
  clear hC
  obtain ⟨pa, pc, rfl⟩ := hv.shape
  have hpl : P.length ≤ 9223372036854775807 := hv.1
  obtain ⟨W0, hW0, hg0, hG0, hz0⟩ := box27 w (.slice pa P.length pc) i
  have HG := Lib.hid hG0
  clear hG0
  by_cases hb1 : 3 < P.length
  · have hCv : RowKit.Hid (C = (0, 2)) := Lib.hid (by rw [HC.out]; unfold roundsC; rw [if_pos (.inl hb1)])
    have dg : decide (3 < P.length) = true := decide_eq_true hb1
    have hW := Lib.hid hW0
    clear hW0
    go_enter Try.func16, Try.ntmps16
    go_wp2
    go_ret2
    exact ⟨by rw [hCv.out]; rfl, by rw [← hW.out]; exact hg0⟩
  have hin := in_any n 0 1073741824
  cases hb2 : inB n 0 1073741824 with
  | false =>
    have hnb : n < 0 ∨ 1073741824 < n := by simp [inB] at hb2; omega
    have hCv : RowKit.Hid (C = (0, 2)) := Lib.hid (by rw [HC.out]; unfold roundsC; rw [if_pos (by omega)])
    rw [hb2] at hin
    have HIN := Lib.hid hin
    have HW := Lib.hid hW0
    clear hin hW0
    go_enter Try.func16, Try.ntmps16
    go_wp2_with fail
    refine (HIN.out _).mono ?_
    rintro e w1 ⟨rfl, rfl⟩
    go_wp2
    go_ret2
    exact ⟨by rw [hCv.out]; rfl, by rw [← HW.out]; exact hg0⟩
  | true =>
  have hnb : 0 ≤ n ∧ n ≤ 1073741824 := by simpa [inB] using hb2
  rw [hb2] at hin
  have HIN := Lib.hid hin
  have hCv : C = if P.all pairOk then (n * prodW (drvs P) / prodW (drns P), 0) else (0, 2) := by rw [HC.out]; unfold roundsC; rw [if_neg (by omega)]
  have HCv := Lib.hid hCv
  clear hin HC hCv hb2
  go_enter Try.func16, Try.ntmps16
  go_wp2_with fail
  rw [← hW0]
  clear hW0
  refine (HIN.out _).mono ?_
  rintro e w1 ⟨rfl, rfl⟩
  clear HIN
  go_wp2
  go_loop [6] (fun c => ∃ k : Nat, k ≤ P.length ∧ c = .int .i64 k ∧ ∀ j, j < k → ∀ h : j < P.length, pairOk P[j] = true) (fun c => P.length - (intOf c).toNat)
  case atStart => exact ⟨0, by omega, rfl, fun j hj => by omega⟩
  case round =>
    obtain ⟨k, hk, rfl, hno⟩ := hrel
    obtain ⟨e0, e1⟩ := tcells HG.out
    by_cases hlt : k < P.length
    · obtain ⟨b, off, rfl, _, hc1, hc2, hbl, hc⟩ := hv.at rfl (by omega)
      obtain ⟨c0, c1⟩ := hc k hlt
      rw [← hg0.cell (p := ⟨b, _, none⟩) hbl] at c0 c1
      have hgd : P.getD k (0, 0) = P[k] := by simp [hlt]
      rw [hgd] at c0 c1
      have hpo : pairOk P[k] = (inB P[k].1 6 100 && inB P[k].2 6 100) := rfl
      obtain ⟨x, hx⟩ : ∃ x, P[k].1 = x := ⟨_, rfl⟩
      obtain ⟨y, hy⟩ : ∃ y, P[k].2 = y := ⟨_, rfl⟩
      rw [hx] at c0 hpo
      rw [hy] at c1 hpo
      have A := in_any x 6 100
      have B := in_any y 6 100
      obtain ⟨tx, htx⟩ : ∃ tx, inB x 6 100 = tx := ⟨_, rfl⟩
      obtain ⟨ty, hty⟩ : ∃ ty, inB y 6 100 = ty := ⟨_, rfl⟩
      rw [htx] at A hpo
      rw [hty] at B hpo
      have HA := Lib.hid A
      have HB := Lib.hid B
      have HP := Lib.hid hpo
      have HN := Lib.hid hno
      clear hgd hc hx hy A B htx hty hpo hno
      cases tx with
      | false =>
        have hCf : RowKit.Hid (C = (0, 2)) := Lib.hid (by rw [HCv.out, pairOk_miss hlt HP.out]; rfl)
        go_wp2_with fail
        refine (HA.out _).mono ?_
        rintro e w1 ⟨rfl, rfl⟩
        go_wp2
        go_ret2
        exact ⟨by rw [hCf.out]; rfl, hg0⟩
      | true =>
      cases ty with
      | false =>
        have hCf : RowKit.Hid (C = (0, 2)) := Lib.hid (by rw [HCv.out, pairOk_miss hlt HP.out]; rfl)
        go_wp2_with fail
        refine (HA.out _).mono ?_
        rintro e w1 ⟨rfl, rfl⟩
        go_wp2_with fail
        refine (HB.out _).mono ?_
        rintro e w1 ⟨rfl, rfl⟩
        go_wp2
        go_ret2
        exact ⟨by rw [hCf.out]; rfl, hg0⟩
      | true =>
        go_wp2_with fail
        refine (HA.out _).mono ?_
        rintro e w1 ⟨rfl, rfl⟩
        go_wp2_with fail
        refine (HB.out _).mono ?_
        rintro e w1 ⟨rfl, rfl⟩
        go_wp2
        go_round
        case rel => exact ⟨k + 1, by omega, by go_num, fun j hj h => by by_cases e : j = k; (subst e; exact HP.out); exact HN.out j (by omega) h⟩
        case measure => simp [intOf]; omega
    · have hall : P.all pairOk = true := by
        rw [List.all_eq_true]
        intro z hz
        obtain ⟨j, hj, rfl⟩ := List.getElem_of_mem hz
        exact hno j (by omega) hj
      have hCt : RowKit.Hid (C = (n * prodW (drvs P) / prodW (drns P), 0)) := Lib.hid (by rw [HCv.out, hall]; rfl)
      have hmem : ∀ z ∈ P, (6 ≤ z.1 ∧ z.1 ≤ 100) ∧ (6 ≤ z.2 ∧ z.2 ≤ 100) := by
        intro z hz
        have := List.all_eq_true.1 hall z hz
        unfold pairOk at this
        rw [Bool.and_eq_true] at this
        exact ⟨of_decide_eq_true this.1, of_decide_eq_true this.2⟩
      have hd := prodW_bd (drvs P) (by intro z hz; obtain ⟨q, hq, rfl⟩ := List.mem_map.1 hz; exact (hmem q hq).1) (by simp [drvs]; omega)
      have hn := prodW_bd (drns P) (by intro z hz; obtain ⟨q, hq, rfl⟩ := List.mem_map.1 hz; exact (hmem q hq).2) (by simp [drns]; omega)
      have hpr := products_any P (.slice pa P.length pc) i W0 (hv.below hg0)
      generalize prodW (drvs P) = dv at *
      generalize prodW (drns P) = nv at *
      have hwd := mul_bd (x := n) (y := dv) hnb.1 hnb.2 (by omega) hd.2
      have hdne : (nv == 0) = false := by simp; omega
      clear HCv hall hmem hno
      go_wp2_with fail
      refine hpr.mono ?_
      rintro e w3 ⟨rfl, hb3⟩
      clear hpr e0 e1
      have hbw3 : Below w.heap.size w w3 := hg0.trans (hb3.mono (by omega))
      go_wp2
      go_ret2
      refine ⟨?_, hbw3⟩
      rw [hCt.out]; rfl
end Go.Proofs.Ytoiapnokgpeipaa
