/- Sound: equal lists. -/
import Derived.Test.YtdbjifpnbghbaaaA19
import Derived.Lib.QuietBelow
namespace Go.Proofs.Ytdbjifpnbghbaaa
set_option linter.unusedSimpArgs false
set_option linter.unusedVariables false
open Go.RowKit Go.Maps Go.BigFrame

theorem eq_not {α : Type} [Inhabited α] [DecidableEq α] {l m : List α} {i : Nat} (h : l.getD i default ≠ m.getD i default) : decide (l = m) = false := by
  rw [decide_eq_false_iff_not]; intro e; rw [e] at h; exact h rfl
theorem eq_all {α : Type} [Inhabited α] [DecidableEq α] {l m : List α} (hl : l.length = m.length) (h : ∀ i, i < l.length → l.getD i default = m.getD i default) : decide (l = m) = true := by
  rw [decide_eq_true_iff]
  refine List.ext_getElem hl (fun i h1 h2 => ?_)
  have := h i h1
  rwa [List.getD, List.getD, List.getElem?_eq_getElem h1, List.getElem?_eq_getElem h2] at this
set_option maxRecDepth 100000 in
set_option maxHeartbeats 3200000 in
theorem Spans_any (L1 L2 : List (Int × Int)) (v1 v2 : Value) (w : World) (h1 : TabAt 2 spC w v1 L1) (h2 : TabAt 2 spC w v2 L2) : Calls Try.prog 17 #[v1, v2] w fun e w' => e = .returned (.bool (decide (L1 = L2))) ∧ Below w.heap.size w w' := by
  obtain ⟨a1, c1, rfl⟩ := h1.shape
  obtain ⟨a2, c2, rfl⟩ := h2.shape
  have m1 : L1.length ≤ 9223372036854775807 := h1.1
  have m2 : L2.length ≤ 9223372036854775807 := h2.1
  have HT1 := Lib.hid h1
  have HT2 := Lib.hid h2
  have hne : ∀ i, L1.getD i default ≠ L2.getD i default → decide (L1 = L2) = false := fun i => eq_not
  have heq : L1.length = L2.length → (∀ i, i < L1.length → L1.getD i default = L2.getD i default) → decide (L1 = L2) = true := eq_all
  have hnl : L1.length ≠ L2.length → decide (L1 = L2) = false := fun h => decide_eq_false (fun e => h (by rw [e]))
  obtain ⟨R, hR⟩ : ∃ b, decide (L1 = L2) = b := ⟨_, rfl⟩
  rw [hR] at hne heq hnl ⊢
  by_cases hlen : L1.length = L2.length
  · have HNE := Lib.hid hne
    have HEQ := Lib.hid (heq hlen)
    have HLEN := Lib.hid hlen
    obtain ⟨n, hn⟩ : ∃ n, L1.length = n := ⟨_, rfl⟩
    have hn2 : L2.length = n := by omega
    have HN := Lib.hid (And.intro hn hn2)
    rw [hn] at m1
    clear h1 h2 hR hne heq hnl hlen m2
    rw [hn, hn2]
    clear hn hn2
    go_enter Try.func17, Try.ntmps17
    go_wp2_with fail
    go_loopw [5] (fun i wr => ∃ j : Nat, j ≤ n ∧ i = .int .i64 j ∧ (∀ b, b < j → L1.getD b default = L2.getD b default) ∧ Below w.heap.size w wr) (fun i _ => n - (intOf i).toNat)
    case atStart => exact ⟨0, by omega, rfl, fun b hb => absurd hb (Nat.not_lt_zero _), Below.refl _ _⟩
    case round =>
      obtain ⟨j, hj, rfl, hfo, hbw⟩ := hrel
      have HFO := Lib.hid hfo
      have HBW := Lib.hid hbw
      clear hfo
      by_cases hlt : j < n
      · obtain ⟨b1, o1, e1, hb1, hx1⟩ := HT1.out.at (by rw [HN.out.1]; omega)
        subst e1
        obtain ⟨b2, o2, e2, hb2, hx2⟩ := HT2.out.at (by rw [HN.out.2]; omega)
        subst e2
        rw [HN.out.1] at hx1
        rw [HN.out.2] at hx2
        have x0 := (hbw.cell (p := ⟨b1, o1 + j * 2 + 0, none⟩) hb1).trans (hx1 j hlt 0 (by omega))
        have u0 := (hbw.cell (p := ⟨b2, o2 + j * 2 + 0, none⟩) hb2).trans (hx2 j hlt 0 (by omega))
        have x1 := (hbw.cell (p := ⟨b1, o1 + j * 2 + 1, none⟩) hb1).trans (hx1 j hlt 1 (by omega))
        have u1 := (hbw.cell (p := ⟨b2, o2 + j * 2 + 1, none⟩) hb2).trans (hx2 j hlt 1 (by omega))
        have hnej := HNE.out j
        have hnx : L1.getD j default = L2.getD j default → ∀ b, b < j + 1 → L1.getD b default = L2.getD b default := fun h b hb => by
          by_cases e : b = j
          · rw [e]; exact h
          · exact HFO.out b (by omega)
        obtain ⟨⟨p0, p1⟩, hr1⟩ : ∃ x : (Int × Int), L1.getD j default = x := ⟨_, rfl⟩
        obtain ⟨⟨q0, q1⟩, hr2⟩ : ∃ x : (Int × Int), L2.getD j default = x := ⟨_, rfl⟩
        rw [hr1] at hnej hnx x0 x1
        rw [hr2] at hnej hnx u0 u1
        simp only [Nat.add_zero, spC] at x0 x1 u0 u1
        have HNJ := Lib.hid hnej
        have HNX := Lib.hid hnx
        have ij0 : (0 : Int) ≤ (j : Int) := by omega
        have ij1 : (j : Int) < (n : Int) := by omega
        have w1 : IntKind.i64.wrap ((j : Int) + 1) = (j : Int) + 1 := IntWalk.i64_in _ (by omega)
        clear hx1 hx2 hb1 hb2 hnej hnx hr1 hr2 hbw
        by_cases hs0 : q0 = p0
        rotate_left
        · have hsb0 : (p0 == q0) = false := by simp; exact fun e => hs0 e.symm
          have k0 := cell_regrown x0
          have k1 := cell_regrown x1
          have k2 := cell_regrown u0
          have k3 := cell_regrown u1
          go_upto_region 6 with fail
          clear x0 x1 u0 u1
          refine wp_region_quiet_below (by kernel_rfl) (by kernel_rfl) ?_
          repeat (go_big_quiet_step (fail))
          refine wpQuiet_nil ?_
          intro Y hw'
          have hbr : Below wr.heap.size wr Y := by obtain ⟨⟨dq, osq⟩, hw''⟩ := hw'; rw [hw'']; exact below_regrown wr dq osq
          have HBY := Lib.hid (HBW.out.trans (hbr.mono HBW.out.size))
          clear hw' hbr k0 k1 k2 k3
          have hrf : R = false := HNJ.out (fun e => by injections; omega)
          subst hrf
          go_wp2
          go_ret
          exact ⟨rfl, HBY.out⟩
        subst hs0
        by_cases hs1 : q1 = p1
        rotate_left
        · have hsb1 : (p1 == q1) = false := by simp; exact fun e => hs1 e.symm
          have k0 := cell_regrown x0
          have k1 := cell_regrown x1
          have k2 := cell_regrown u0
          have k3 := cell_regrown u1
          go_upto_region 6 with fail
          clear x0 x1 u0 u1
          refine wp_region_quiet_below (by kernel_rfl) (by kernel_rfl) ?_
          repeat (go_big_quiet_step (fail))
          refine wpQuiet_nil ?_
          intro Y hw'
          have hbr : Below wr.heap.size wr Y := by obtain ⟨⟨dq, osq⟩, hw''⟩ := hw'; rw [hw'']; exact below_regrown wr dq osq
          have HBY := Lib.hid (HBW.out.trans (hbr.mono HBW.out.size))
          clear hw' hbr k0 k1 k2 k3
          have hrf : R = false := HNJ.out (fun e => by injections; omega)
          subst hrf
          go_wp2
          go_ret
          exact ⟨rfl, HBY.out⟩
        subst hs1
        have k0 := cell_regrown x0
        have k1 := cell_regrown x1
        have k2 := cell_regrown u0
        have k3 := cell_regrown u1
        go_upto_region 6 with fail
        clear x0 x1 u0 u1
        refine wp_region_quiet_below (by kernel_rfl) (by kernel_rfl) ?_
        repeat (go_big_quiet_step (fail))
        refine wpQuiet_nil ?_
        intro Y hw'
        have hbr : Below wr.heap.size wr Y := by obtain ⟨⟨dq, osq⟩, hw''⟩ := hw'; rw [hw'']; exact below_regrown wr dq osq
        have HBY := Lib.hid (HBW.out.trans (hbr.mono HBW.out.size))
        clear hw' hbr k0 k1 k2 k3
        have HNX2 := Lib.hid (HNX.out rfl)
        go_wp2
        go_roundw
        case rel => exact ⟨j + 1, by omega, by go_num, HNX2.out, HBY.out⟩
        case measure => simp [intOf]; omega
      · have i1 : ¬ (j : Int) < (n : Int) := by omega
        have hrt : R = true := HEQ.out (fun i hi => HFO.out i (by have := HN.out; omega))
        subst hrt
        go_wp2
        go_ret
        exact ⟨rfl, HBW.out⟩
  · have hrf := hnl hlen
    subst hrf
    have hl2 : ((L1.length : Int) == (L2.length : Int)) = false := by rw [beq_eq_false_iff_ne]; omega
    have hl3 : ¬ (L1.length : Int) = (L2.length : Int) := by omega
    have hl4 : ¬ L1.length = L2.length := hlen
    clear h1 h2 hR hne heq hnl
    go_enter Try.func17, Try.ntmps17
    go_wp2
    go_ret
    exact ⟨rfl, Below.refl _ _⟩
set_option maxRecDepth 100000 in
set_option maxHeartbeats 3200000 in
theorem Stretches_any (L1 L2 : List St) (v1 v2 : Value) (w : World) (h1 : TabAt 3 stC w v1 L1) (h2 : TabAt 3 stC w v2 L2) : Calls Try.prog 20 #[v1, v2] w fun e w' => e = .returned (.bool (decide (L1 = L2))) ∧ Below w.heap.size w w' := by
  obtain ⟨a1, c1, rfl⟩ := h1.shape
  obtain ⟨a2, c2, rfl⟩ := h2.shape
  have m1 : L1.length ≤ 9223372036854775807 := h1.1
  have m2 : L2.length ≤ 9223372036854775807 := h2.1
  have HT1 := Lib.hid h1
  have HT2 := Lib.hid h2
  have hne : ∀ i, L1.getD i default ≠ L2.getD i default → decide (L1 = L2) = false := fun i => eq_not
  have heq : L1.length = L2.length → (∀ i, i < L1.length → L1.getD i default = L2.getD i default) → decide (L1 = L2) = true := eq_all
  have hnl : L1.length ≠ L2.length → decide (L1 = L2) = false := fun h => decide_eq_false (fun e => h (by rw [e]))
  obtain ⟨R, hR⟩ : ∃ b, decide (L1 = L2) = b := ⟨_, rfl⟩
  rw [hR] at hne heq hnl ⊢
  by_cases hlen : L1.length = L2.length
  · have HNE := Lib.hid hne
    have HEQ := Lib.hid (heq hlen)
    have HLEN := Lib.hid hlen
    obtain ⟨n, hn⟩ : ∃ n, L1.length = n := ⟨_, rfl⟩
    have hn2 : L2.length = n := by omega
    have HN := Lib.hid (And.intro hn hn2)
    rw [hn] at m1
    clear h1 h2 hR hne heq hnl hlen m2
    rw [hn, hn2]
    clear hn hn2
    go_enter Try.func20, Try.ntmps20
    go_wp2_with fail
    go_loopw [5] (fun i wr => ∃ j : Nat, j ≤ n ∧ i = .int .i64 j ∧ (∀ b, b < j → L1.getD b default = L2.getD b default) ∧ Below w.heap.size w wr) (fun i _ => n - (intOf i).toNat)
    case atStart => exact ⟨0, by omega, rfl, fun b hb => absurd hb (Nat.not_lt_zero _), Below.refl _ _⟩
    case round =>
      obtain ⟨j, hj, rfl, hfo, hbw⟩ := hrel
      have HFO := Lib.hid hfo
      have HBW := Lib.hid hbw
      clear hfo
      by_cases hlt : j < n
      · obtain ⟨b1, o1, e1, hb1, hx1⟩ := HT1.out.at (by rw [HN.out.1]; omega)
        subst e1
        obtain ⟨b2, o2, e2, hb2, hx2⟩ := HT2.out.at (by rw [HN.out.2]; omega)
        subst e2
        rw [HN.out.1] at hx1
        rw [HN.out.2] at hx2
        have x0 := (hbw.cell (p := ⟨b1, o1 + j * 3 + 0, none⟩) hb1).trans (hx1 j hlt 0 (by omega))
        have u0 := (hbw.cell (p := ⟨b2, o2 + j * 3 + 0, none⟩) hb2).trans (hx2 j hlt 0 (by omega))
        have x1 := (hbw.cell (p := ⟨b1, o1 + j * 3 + 1, none⟩) hb1).trans (hx1 j hlt 1 (by omega))
        have u1 := (hbw.cell (p := ⟨b2, o2 + j * 3 + 1, none⟩) hb2).trans (hx2 j hlt 1 (by omega))
        have x2 := (hbw.cell (p := ⟨b1, o1 + j * 3 + 2, none⟩) hb1).trans (hx1 j hlt 2 (by omega))
        have u2 := (hbw.cell (p := ⟨b2, o2 + j * 3 + 2, none⟩) hb2).trans (hx2 j hlt 2 (by omega))
        have hnej := HNE.out j
        have hnx : L1.getD j default = L2.getD j default → ∀ b, b < j + 1 → L1.getD b default = L2.getD b default := fun h b hb => by
          by_cases e : b = j
          · rw [e]; exact h
          · exact HFO.out b (by omega)
        obtain ⟨⟨p0, p1, p2⟩, hr1⟩ : ∃ x : St, L1.getD j default = x := ⟨_, rfl⟩
        obtain ⟨⟨q0, q1, q2⟩, hr2⟩ : ∃ x : St, L2.getD j default = x := ⟨_, rfl⟩
        rw [hr1] at hnej hnx x0 x1 x2
        rw [hr2] at hnej hnx u0 u1 u2
        simp only [Nat.add_zero, stC] at x0 x1 x2 u0 u1 u2
        have HNJ := Lib.hid hnej
        have HNX := Lib.hid hnx
        have ij0 : (0 : Int) ≤ (j : Int) := by omega
        have ij1 : (j : Int) < (n : Int) := by omega
        have w1 : IntKind.i64.wrap ((j : Int) + 1) = (j : Int) + 1 := IntWalk.i64_in _ (by omega)
        clear hx1 hx2 hb1 hb2 hnej hnx hr1 hr2 hbw
        by_cases hs0 : q0 = p0
        rotate_left
        · have hsb0 : (p0 == q0) = false := by simp; exact fun e => hs0 e.symm
          have k0 := cell_regrown x0
          have k1 := cell_regrown x1
          have k2 := cell_regrown x2
          have k3 := cell_regrown u0
          have k4 := cell_regrown u1
          have k5 := cell_regrown u2
          go_upto_region 6 with fail
          clear x0 x1 x2 u0 u1 u2
          refine wp_region_quiet_below (by kernel_rfl) (by kernel_rfl) ?_
          repeat (go_big_quiet_step (fail))
          refine wpQuiet_nil ?_
          intro Y hw'
          have hbr : Below wr.heap.size wr Y := by obtain ⟨⟨dq, osq⟩, hw''⟩ := hw'; rw [hw'']; exact below_regrown wr dq osq
          have HBY := Lib.hid (HBW.out.trans (hbr.mono HBW.out.size))
          clear hw' hbr k0 k1 k2 k3 k4 k5
          have hrf : R = false := HNJ.out (fun e => by injections; omega)
          subst hrf
          go_wp2
          go_ret
          exact ⟨rfl, HBY.out⟩
        subst hs0
        by_cases hs1 : q1 = p1
        rotate_left
        · have hsb1 : (p1 == q1) = false := by simp; exact fun e => hs1 e.symm
          have k0 := cell_regrown x0
          have k1 := cell_regrown x1
          have k2 := cell_regrown x2
          have k3 := cell_regrown u0
          have k4 := cell_regrown u1
          have k5 := cell_regrown u2
          go_upto_region 6 with fail
          clear x0 x1 x2 u0 u1 u2
          refine wp_region_quiet_below (by kernel_rfl) (by kernel_rfl) ?_
          repeat (go_big_quiet_step (fail))
          refine wpQuiet_nil ?_
          intro Y hw'
          have hbr : Below wr.heap.size wr Y := by obtain ⟨⟨dq, osq⟩, hw''⟩ := hw'; rw [hw'']; exact below_regrown wr dq osq
          have HBY := Lib.hid (HBW.out.trans (hbr.mono HBW.out.size))
          clear hw' hbr k0 k1 k2 k3 k4 k5
          have hrf : R = false := HNJ.out (fun e => by injections; omega)
          subst hrf
          go_wp2
          go_ret
          exact ⟨rfl, HBY.out⟩
        subst hs1
        by_cases hs2 : q2 = p2
        rotate_left
        · have hsb2 : (p2 == q2) = false := by simp; exact fun e => hs2 e.symm
          have k0 := cell_regrown x0
          have k1 := cell_regrown x1
          have k2 := cell_regrown x2
          have k3 := cell_regrown u0
          have k4 := cell_regrown u1
          have k5 := cell_regrown u2
          go_upto_region 6 with fail
          clear x0 x1 x2 u0 u1 u2
          refine wp_region_quiet_below (by kernel_rfl) (by kernel_rfl) ?_
          repeat (go_big_quiet_step (fail))
          refine wpQuiet_nil ?_
          intro Y hw'
          have hbr : Below wr.heap.size wr Y := by obtain ⟨⟨dq, osq⟩, hw''⟩ := hw'; rw [hw'']; exact below_regrown wr dq osq
          have HBY := Lib.hid (HBW.out.trans (hbr.mono HBW.out.size))
          clear hw' hbr k0 k1 k2 k3 k4 k5
          have hrf : R = false := HNJ.out (fun e => by injections; omega)
          subst hrf
          go_wp2
          go_ret
          exact ⟨rfl, HBY.out⟩
        subst hs2
        have k0 := cell_regrown x0
        have k1 := cell_regrown x1
        have k2 := cell_regrown x2
        have k3 := cell_regrown u0
        have k4 := cell_regrown u1
        have k5 := cell_regrown u2
        go_upto_region 6 with fail
        clear x0 x1 x2 u0 u1 u2
        refine wp_region_quiet_below (by kernel_rfl) (by kernel_rfl) ?_
        repeat (go_big_quiet_step (fail))
        refine wpQuiet_nil ?_
        intro Y hw'
        have hbr : Below wr.heap.size wr Y := by obtain ⟨⟨dq, osq⟩, hw''⟩ := hw'; rw [hw'']; exact below_regrown wr dq osq
        have HBY := Lib.hid (HBW.out.trans (hbr.mono HBW.out.size))
        clear hw' hbr k0 k1 k2 k3 k4 k5
        have HNX2 := Lib.hid (HNX.out rfl)
        go_wp2
        go_roundw
        case rel => exact ⟨j + 1, by omega, by go_num, HNX2.out, HBY.out⟩
        case measure => simp [intOf]; omega
      · have i1 : ¬ (j : Int) < (n : Int) := by omega
        have hrt : R = true := HEQ.out (fun i hi => HFO.out i (by have := HN.out; omega))
        subst hrt
        go_wp2
        go_ret
        exact ⟨rfl, HBW.out⟩
  · have hrf := hnl hlen
    subst hrf
    have hl2 : ((L1.length : Int) == (L2.length : Int)) = false := by rw [beq_eq_false_iff_ne]; omega
    have hl3 : ¬ (L1.length : Int) = (L2.length : Int) := by omega
    have hl4 : ¬ L1.length = L2.length := hlen
    clear h1 h2 hR hne heq hnl
    go_enter Try.func20, Try.ntmps20
    go_wp2
    go_ret
    exact ⟨rfl, Below.refl _ _⟩
end Go.Proofs.Ytdbjifpnbghbaaa
