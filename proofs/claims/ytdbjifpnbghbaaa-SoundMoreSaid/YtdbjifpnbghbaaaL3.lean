/- Sound: the reference's Line; great. -/
import Derived.Test.YtdbjifpnbghbaaaL2
namespace Go.Proofs.Ytdbjifpnbghbaaa
set_option linter.unusedSimpArgs false
set_option linter.unusedVariables false
open Go.RowKit Go.Maps Go.BigFrame

set_option maxRecDepth 100000 in
set_option maxHeartbeats 6400000 in
theorem Line_any (l : List Pi) (v : Value) (w : World) (hl : TabAt 3 piC w v l) : Calls Try.prog 24 #[v] w fun e w' => e = .returned (.bool (lineOk l)) ∧ Below w.heap.size w w' := by
  obtain ⟨a, c, rfl⟩ := hl.shape
  have ml : l.length ≤ 9223372036854775807 := hl.1
  have HL := Lib.hid hl
  have hdef : lineOk l = (inF l.length 1 8 && l.all pipeOk) := rfl
  have hall := all_iff (p := pipeOk) (l := l)
  have K1 := Lib.hid (fun X => in_any (l.length : Int) 1 8 X)
  obtain ⟨b0, hb0⟩ : ∃ b, inF (l.length : Int) 1 8 = b := ⟨_, rfl⟩
  rw [hb0] at hdef
  simp only [hb0] at K1
  have hbadD : ∀ i, i < l.length → pipeOk (l.getD i default) = false → lineOk l = false := fun i hi hp => by
    rw [hdef]
    have : l.all pipeOk = false := by
      rw [← Bool.not_eq_true, hall]; intro h; rw [h i hi] at hp; cases hp
    rw [this, Bool.and_false]
  have hgoodD : (∀ i, i < l.length → pipeOk (l.getD i default) = true) → lineOk l = b0 := fun h => by rw [hdef, hall.2 h, Bool.and_true]
  obtain ⟨R, hR⟩ : ∃ R, lineOk l = R := ⟨_, rfl⟩
  rw [hR] at hbadD hgoodD ⊢
  have HBAD := Lib.hid hbadD
  have HGOOD := Lib.hid hgoodD
  clear hR hb0 hl hdef hall hbadD hgoodD
  go_enter Try.func24, Try.ntmps24
  go_wp2_with fail
  go_loopw [3] (fun i wr => ∃ j : Nat, j ≤ l.length ∧ i = .int .i64 j ∧ (∀ b, b < j → pipeOk (l.getD b default) = true) ∧ Below w.heap.size w wr) (fun i _ => l.length - (intOf i).toNat)
  case atStart => exact ⟨0, by omega, rfl, fun b hb => absurd hb (Nat.not_lt_zero _), Below.refl _ _⟩
  case round =>
    obtain ⟨j, hj, rfl, hfo, hbw⟩ := hrel
    have HFO := Lib.hid hfo
    have HBW := Lib.hid hbw
    clear hfo
    by_cases hlt : j < l.length
    · obtain ⟨lb, lo, e1, hlb, hlx⟩ := HL.out.at (by omega)
      subst e1
      have x0 := (hbw.cell (p := ⟨lb, lo + j * 3 + 0, none⟩) hlb).trans (hlx j hlt 0 (by omega))
      have x1 := (hbw.cell (p := ⟨lb, lo + j * 3 + 1, none⟩) hlb).trans (hlx j hlt 1 (by omega))
      have x2 := (hbw.cell (p := ⟨lb, lo + j * 3 + 2, none⟩) hlb).trans (hlx j hlt 2 (by omega))
      have hbad := HBAD.out j hlt
      have hnx : pipeOk (l.getD j default) = true → ∀ b, b < j + 1 → pipeOk (l.getD b default) = true := fun h b hb => by
        by_cases e : b = j
        · rw [e]; exact h
        · exact HFO.out b (by omega)
      obtain ⟨⟨t0, t1, t2⟩, hrow⟩ : ∃ x : Pi, l.getD j default = x := ⟨_, rfl⟩
      rw [hrow] at x0 x1 x2 hbad hnx
      simp only [Nat.add_zero, piC] at x0 x1 x2
      have hro : pipeOk ⟨t0, t1, t2⟩ = (inF t0 1 100000 && (decide (1 ≤ t1) && (decide (t1 ≤ t2) && decide (t2 ≤ 10000)))) := rfl
      have ki := fun X => in_any t0 1 100000 X
      obtain ⟨b1, hb1⟩ : ∃ b, inF t0 1 100000 = b := ⟨_, rfl⟩
      simp only [hb1] at ki
      rw [hb1] at hro
      rw [hro] at hbad hnx
      have HBA := Lib.hid hbad
      have HNX := Lib.hid hnx
      have k0 := cell_regrown x0
      have k1 := cell_regrown x1
      have k2 := cell_regrown x2
      have C1 := fun d os => Calls.regrown_of (w := wr) (d := d) (os := os) ((ki _).mono (R' := fun e w' => e = .returned (.bool b1) ∧ Below (Sort.grow (redrawn wr d) os).heap.size (Sort.grow (redrawn wr d) os) w') (fun e w' h => ⟨h.1, by rw [← h.2]; exact Below.refl _ _⟩))
      have ij0 : (0 : Int) ≤ (j : Int) := by omega
      have ij1 : (j : Int) < (l.length : Int) := Int.ofNat_lt.2 hlt
      have w1 : IntKind.i64.wrap ((j : Int) + 1) = (j : Int) + 1 := IntWalk.i64_in _ (by omega)
      clear hlx hrow hb1 ki hbad hnx hbw hlb hro
      cases b1 with
      | false =>
        have hrr : R = false := HBA.out rfl
        subst hrr
        go_upto_region 4 with fail
        try simp only [List.append]
        clear x0 x1 x2
        refine wp_region_quiet_below (by kernel_rfl) (by kernel_rfl) ?_
        repeat (go_big_quiet_step (first | with_reducible exact C1 _ _))
        refine wpQuiet_nil ?_
        intro Y hw'
        have hbr : Below wr.heap.size wr Y := by obtain ⟨⟨dq, osq⟩, hw''⟩ := hw'; rw [hw'']; exact below_regrown wr dq osq
        have HBY := Lib.hid (HBW.out.trans (hbr.mono HBW.out.size))
        clear hw' hbr C1 k0 k1 k2
        go_wp2
        go_ret
        exact ⟨rfl, HBY.out⟩
      | true =>
      by_cases g1 : t1 < 1
      · have hrr : R = false := HBA.out (by simp; omega)
        subst hrr
        go_upto_region 4 with fail
        try simp only [List.append]
        clear x0 x1 x2
        refine wp_region_quiet_below (by kernel_rfl) (by kernel_rfl) ?_
        repeat (go_big_quiet_step (first | with_reducible exact C1 _ _))
        refine wpQuiet_nil ?_
        intro Y hw'
        have hbr : Below wr.heap.size wr Y := by obtain ⟨⟨dq, osq⟩, hw''⟩ := hw'; rw [hw'']; exact below_regrown wr dq osq
        have HBY := Lib.hid (HBW.out.trans (hbr.mono HBW.out.size))
        clear hw' hbr C1 k0 k1 k2
        go_wp2
        go_ret
        exact ⟨rfl, HBY.out⟩
      · have g1' : decide (t1 < 1) = false := decide_eq_false g1
        by_cases g2 : t2 < t1
        · have hrr : R = false := HBA.out (by simp; omega)
          subst hrr
          go_upto_region 4 with fail
          try simp only [List.append]
          clear x0 x1 x2
          refine wp_region_quiet_below (by kernel_rfl) (by kernel_rfl) ?_
          repeat (go_big_quiet_step (first | with_reducible exact C1 _ _))
          refine wpQuiet_nil ?_
          intro Y hw'
          have hbr : Below wr.heap.size wr Y := by obtain ⟨⟨dq, osq⟩, hw''⟩ := hw'; rw [hw'']; exact below_regrown wr dq osq
          have HBY := Lib.hid (HBW.out.trans (hbr.mono HBW.out.size))
          clear hw' hbr C1 k0 k1 k2
          go_wp2
          go_ret
          exact ⟨rfl, HBY.out⟩
        · have g2' : decide (t2 < t1) = false := decide_eq_false g2
          by_cases g3 : 10000 < t2
          · have hrr : R = false := HBA.out (by simp; omega)
            subst hrr
            go_upto_region 4 with fail
            try simp only [List.append]
            clear x0 x1 x2
            refine wp_region_quiet_below (by kernel_rfl) (by kernel_rfl) ?_
            repeat (go_big_quiet_step (first | with_reducible exact C1 _ _))
            refine wpQuiet_nil ?_
            intro Y hw'
            have hbr : Below wr.heap.size wr Y := by obtain ⟨⟨dq, osq⟩, hw''⟩ := hw'; rw [hw'']; exact below_regrown wr dq osq
            have HBY := Lib.hid (HBW.out.trans (hbr.mono HBW.out.size))
            clear hw' hbr C1 k0 k1 k2
            go_wp2
            go_ret
            exact ⟨rfl, HBY.out⟩
          · have g3' : decide (10000 < t2) = false := decide_eq_false g3
            have HNX2 := Lib.hid (HNX.out (by simp; omega))
            go_upto_region 4 with fail
            try simp only [List.append]
            clear x0 x1 x2
            refine wp_region_quiet_below (by kernel_rfl) (by kernel_rfl) ?_
            repeat (go_big_quiet_step (first | with_reducible exact C1 _ _))
            refine wpQuiet_nil ?_
            intro Y hw'
            have hbr : Below wr.heap.size wr Y := by obtain ⟨⟨dq, osq⟩, hw''⟩ := hw'; rw [hw'']; exact below_regrown wr dq osq
            have HBY := Lib.hid (HBW.out.trans (hbr.mono HBW.out.size))
            clear hw' hbr C1 k0 k1 k2
            go_wp2
            go_roundw
            case rel => exact ⟨j + 1, by omega, by go_num, HNX2.out, HBY.out⟩
            case measure => simp [intOf]; omega
    · have i1 : ¬ (j : Int) < (l.length : Int) := by omega
      have hjl : j = l.length := by omega
      have hrr := HGOOD.out (by rw [← hjl]; exact HFO.out)
      subst hrr
      go_wp2_with (go_at_call 37; (with_reducible refine (K1.out _).mono ?_); rintro e w2 ⟨rfl, rfl⟩)
      go_ret
      exact ⟨rfl, HBW.out⟩
/-- a line that a statement does not look at -/
def greatB (l : List Pi) (far : Int) : Bool := decide (12 < (l.length : Int)) || (lineOk l && decide (far < endF l))
set_option maxRecDepth 100000 in
set_option maxHeartbeats 3200000 in
theorem great_any (l : List Pi) (v : Value) (far : Int) (w : World) (hl : TabAt 3 piC w v l) : Calls Try.prog 11 #[v, .int .i64 far] w fun e w' => e = .returned (.bool (greatB l far)) ∧ Below w.heap.size w w' := by
  obtain ⟨a, c, rfl⟩ := hl.shape
  have HL := Lib.hid hl
  have hdef : greatB l far = (decide (12 < (l.length : Int)) || (lineOk l && decide (far < endF l))) := rfl
  have KL := Lib.hid (Line_any l (.slice a l.length c) w hl)
  obtain ⟨ok, hok⟩ : ∃ b, lineOk l = b := ⟨_, rfl⟩
  rw [hok] at KL hdef
  obtain ⟨R, hR⟩ : ∃ b, greatB l far = b := ⟨_, rfl⟩
  rw [hR] at hdef ⊢
  clear hR hl
  by_cases h12 : (12 : Int) < (l.length : Int)
  · have hrr : R = true := by rw [hdef, decide_eq_true h12]; rfl
    subst hrr
    clear hdef
    go_enter Try.func11, Try.ntmps11
    go_wp2
    go_ret
    exact ⟨rfl, Below.refl _ _⟩
  · have g12 : decide ((12 : Int) < (l.length : Int)) = false := decide_eq_false h12
    have g12b : decide (12 < l.length) = false := decide_eq_false (by omega)
    rw [g12, Bool.false_or] at hdef
    cases ok with
    | false =>
      have hrr : R = false := by rw [hdef]; rfl
      subst hrr
      clear hdef
      go_enter Try.func11, Try.ntmps11
      go_wp2_with (go_at_call 24; fail)
      refine KL.out.mono ?_
      rintro e w2 ⟨rfl, hb2⟩
      go_wp2
      go_ret
      exact ⟨rfl, hb2⟩
    | true =>
      have hrr : R = decide (far < endF l) := by rw [hdef]; rfl
      subst hrr
      have KE := Lib.hid (fun X hX => End_any l (.slice a l.length c) X hX (fun i hi => by have := pos_small hok hi; omega))
      clear hdef
      go_enter Try.func11, Try.ntmps11
      go_wp2_with (go_at_call 24; fail)
      refine KL.out.mono ?_
      rintro e w2 ⟨rfl, hb2⟩
      have HB2 := Lib.hid hb2
      have KE2 := Lib.hid (KE.out w2 (HL.out.below hb2))
      clear hb2
      go_wp2_with (go_at_call 25; (with_reducible refine KE2.out.mono ?_); rintro e w3 ⟨rfl, rfl⟩)
      go_ret
      exact ⟨rfl, HB2.out⟩
end Go.Proofs.Ytdbjifpnbghbaaa
