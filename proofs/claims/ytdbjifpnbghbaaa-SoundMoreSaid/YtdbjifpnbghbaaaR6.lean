/- Sound: the reference Hearing, Allows. -/
import Derived.Test.YtdbjifpnbghbaaaR5
import Derived.Test.YtdbjifpnbghbaaaA14
namespace Go.Proofs.Ytdbjifpnbghbaaa
set_option linter.unusedSimpArgs false
set_option linter.unusedVariables false
open Go.RowKit Go.Maps Go.BigFrame

theorem hearOk_ref (l : List Pi) (x y lo hi : Int) : hearOk l ⟨x, y, lo, hi⟩ = (inF y 0 (endF l) && (inF x 0 y && (decide (-1099511627776 ≤ lo) && (decide (lo ≤ hi) && decide (hi ≤ 1099511627776))))) := by
  rw [Bool.eq_iff_iff]
  unfold hearOk
  simp only [Bool.and_eq_true, earsF_iff, withinF_iff, inF_iff, decide_eq_true_eq]
  omega
set_option maxRecDepth 100000 in
set_option maxHeartbeats 3200000 in
theorem rHearing_any (l : List Pi) (hok : lineOk l = true) (v : Value) (h : He) (w : World) (hl : TabAt 3 piC w v l) : Calls Try.prog 29 #[v, heV h] w fun e w' => e = .returned (.bool (hearOk l h)) ∧ Below w.heap.size w w' := by
  obtain ⟨a, cp, rfl⟩ := hl.shape
  obtain ⟨x, y, lo, hi⟩ := h
  unfold heV
  simp only []
  have hdef := hearOk_ref l x y lo hi
  obtain ⟨W0, hW0⟩ : ∃ X, X = w.alloc (.cells #[.int .i64 x, .int .i64 y, .int .i64 lo, .int .i64 hi] 26) := ⟨_, rfl⟩
  have hb0 : Below w.heap.size w W0 := by rw [hW0]; exact (Below.refl _ _).alloc (Nat.le_refl _) _
  have hr0 : W0.heap[w.heap.size]? = some (.cells #[.int .i64 x, .int .i64 y, .int .i64 lo, .int .i64 hi] 26 (0, 0)) := by rw [hW0]; exact alloc_heap w _
  obtain ⟨P, hP⟩ : ∃ x, w.heap.size = x := ⟨_, rfl⟩
  rw [hP] at hr0
  have hl0 := hl.below hb0
  have HB0 := Lib.hid hb0
  obtain ⟨y0, y1, y2, y3⟩ := four_cells hr0
  have ke := fun X hX => End_any l (.slice a l.length cp) X hX (fun i hi => by have := pos_small hok hi; omega)
  obtain ⟨E, hE⟩ : ∃ z, endF l = z := ⟨_, rfl⟩
  rw [hE] at hdef
  simp only [hE] at ke
  have ki1 := fun X => in_any y 0 E X
  have ki2 := fun X => in_any x 0 y X
  obtain ⟨b1, hb1⟩ : ∃ b, inF y 0 E = b := ⟨_, rfl⟩
  obtain ⟨b2, hb2⟩ : ∃ b, inF x 0 y = b := ⟨_, rfl⟩
  obtain ⟨R, hR⟩ : ∃ b, hearOk l ⟨x, y, lo, hi⟩ = b := ⟨_, rfl⟩
  simp only [hb1] at ki1
  simp only [hb2] at ki2
  rw [hb1, hb2, hR] at hdef
  rw [hR]
  have C1 := fun d os => Calls.regrown_of (w := W0) (d := d) (os := os) ((ke _ (hl0.below (below_regrown W0 d os))).mono (R' := fun e w' => e = .returned (.int .i64 E) ∧ Below (Sort.grow (redrawn W0 d) os).heap.size (Sort.grow (redrawn W0 d) os) w') (fun e w' h => ⟨h.1, by rw [← h.2]; exact Below.refl _ _⟩))
  have C2 := fun d os => Calls.regrown_of (w := W0) (d := d) (os := os) ((ki1 _).mono (R' := fun e w' => e = .returned (.bool b1) ∧ Below (Sort.grow (redrawn W0 d) os).heap.size (Sort.grow (redrawn W0 d) os) w') (fun e w' h => ⟨h.1, by rw [← h.2]; exact Below.refl _ _⟩))
  have C3 := fun d os => Calls.regrown_of (w := W0) (d := d) (os := os) ((ki2 _).mono (R' := fun e w' => e = .returned (.bool b2) ∧ Below (Sort.grow (redrawn W0 d) os).heap.size (Sort.grow (redrawn W0 d) os) w') (fun e w' h => ⟨h.1, by rw [← h.2]; exact Below.refl _ _⟩))
  have k0 := cell_regrown y0
  have k1 := cell_regrown y1
  have k2 := cell_regrown y2
  have k3 := cell_regrown y3
  clear hl hb0 hr0 hl0 ke ki1 ki2 hE hb1 hb2 hR y0 y1 y2 y3
  cases b1 with
  | false =>
    have hrr : R = false := by rw [hdef]; rfl
    subst hrr
    clear hdef
    go_enter Try.func29, Try.ntmps29
    go_upto_region 1 with fail
    rw [← hW0]
    try rw [hP]
    try simp only [List.append]
    clear hW0 hP
    refine wp_region_quiet_below (by kernel_rfl) (by kernel_rfl) ?_
    repeat (go_big_quiet_step (first | with_reducible exact C1 _ _ | with_reducible exact C2 _ _ | with_reducible exact C3 _ _))
    refine wpQuiet_nil ?_
    intro Y hw'
    have hbr : Below W0.heap.size W0 Y := by obtain ⟨⟨dq, osq⟩, hw''⟩ := hw'; rw [hw'']; exact below_regrown W0 dq osq
    have HBY := Lib.hid (HB0.out.trans (hbr.mono HB0.out.size))
    clear hw' hbr C1 C2 C3 k0 k1 k2 k3
    go_wp2
    go_ret
    exact ⟨rfl, HBY.out⟩
  | true =>
    cases b2 with
    | false =>
      have hrr : R = false := by rw [hdef]; rfl
      subst hrr
      clear hdef
      go_enter Try.func29, Try.ntmps29
      go_upto_region 1 with fail
      rw [← hW0]
      try rw [hP]
      try simp only [List.append]
      clear hW0 hP
      refine wp_region_quiet_below (by kernel_rfl) (by kernel_rfl) ?_
      repeat (go_big_quiet_step (first | with_reducible exact C1 _ _ | with_reducible exact C2 _ _ | with_reducible exact C3 _ _))
      refine wpQuiet_nil ?_
      intro Y hw'
      have hbr : Below W0.heap.size W0 Y := by obtain ⟨⟨dq, osq⟩, hw''⟩ := hw'; rw [hw'']; exact below_regrown W0 dq osq
      have HBY := Lib.hid (HB0.out.trans (hbr.mono HB0.out.size))
      clear hw' hbr C1 C2 C3 k0 k1 k2 k3
      go_wp2
      go_ret
      exact ⟨rfl, HBY.out⟩
    | true =>
      by_cases h3 : -1099511627776 ≤ lo
      · have g3 : decide (-1099511627776 ≤ lo) = true := decide_eq_true h3
        rw [g3] at hdef
        by_cases h4 : lo ≤ hi
        · have g4 : decide (lo ≤ hi) = true := decide_eq_true h4
          rw [g4] at hdef
          by_cases h5 : hi ≤ 1099511627776
          · have g5 : decide (hi ≤ 1099511627776) = true := decide_eq_true h5
            rw [g5] at hdef
            have hrr : R = true := by rw [hdef]; rfl
            subst hrr
            clear hdef
            go_enter Try.func29, Try.ntmps29
            go_upto_region 1 with fail
            rw [← hW0]
            try rw [hP]
            try simp only [List.append]
            clear hW0 hP
            refine wp_region_quiet_below (by kernel_rfl) (by kernel_rfl) ?_
            repeat (go_big_quiet_step (first | with_reducible exact C1 _ _ | with_reducible exact C2 _ _ | with_reducible exact C3 _ _))
            refine wpQuiet_nil ?_
            intro Y hw'
            have hbr : Below W0.heap.size W0 Y := by obtain ⟨⟨dq, osq⟩, hw''⟩ := hw'; rw [hw'']; exact below_regrown W0 dq osq
            have HBY := Lib.hid (HB0.out.trans (hbr.mono HB0.out.size))
            clear hw' hbr C1 C2 C3 k0 k1 k2 k3
            go_wp2
            go_ret
            exact ⟨rfl, HBY.out⟩
          · have g5 : decide (hi ≤ 1099511627776) = false := decide_eq_false h5
            rw [g5] at hdef
            have hrr : R = false := by rw [hdef]; rfl
            subst hrr
            clear hdef
            go_enter Try.func29, Try.ntmps29
            go_upto_region 1 with fail
            rw [← hW0]
            try rw [hP]
            try simp only [List.append]
            clear hW0 hP
            refine wp_region_quiet_below (by kernel_rfl) (by kernel_rfl) ?_
            repeat (go_big_quiet_step (first | with_reducible exact C1 _ _ | with_reducible exact C2 _ _ | with_reducible exact C3 _ _))
            refine wpQuiet_nil ?_
            intro Y hw'
            have hbr : Below W0.heap.size W0 Y := by obtain ⟨⟨dq, osq⟩, hw''⟩ := hw'; rw [hw'']; exact below_regrown W0 dq osq
            have HBY := Lib.hid (HB0.out.trans (hbr.mono HB0.out.size))
            clear hw' hbr C1 C2 C3 k0 k1 k2 k3
            go_wp2
            go_ret
            exact ⟨rfl, HBY.out⟩
        · have g4 : decide (lo ≤ hi) = false := decide_eq_false h4
          rw [g4] at hdef
          have hrr : R = false := by rw [hdef]; rfl
          subst hrr
          clear hdef
          go_enter Try.func29, Try.ntmps29
          go_upto_region 1 with fail
          rw [← hW0]
          try rw [hP]
          try simp only [List.append]
          clear hW0 hP
          refine wp_region_quiet_below (by kernel_rfl) (by kernel_rfl) ?_
          repeat (go_big_quiet_step (first | with_reducible exact C1 _ _ | with_reducible exact C2 _ _ | with_reducible exact C3 _ _))
          refine wpQuiet_nil ?_
          intro Y hw'
          have hbr : Below W0.heap.size W0 Y := by obtain ⟨⟨dq, osq⟩, hw''⟩ := hw'; rw [hw'']; exact below_regrown W0 dq osq
          have HBY := Lib.hid (HB0.out.trans (hbr.mono HB0.out.size))
          clear hw' hbr C1 C2 C3 k0 k1 k2 k3
          go_wp2
          go_ret
          exact ⟨rfl, HBY.out⟩
      · have g3 : decide (-1099511627776 ≤ lo) = false := decide_eq_false h3
        rw [g3] at hdef
        have hrr : R = false := by rw [hdef]; rfl
        subst hrr
        clear hdef
        go_enter Try.func29, Try.ntmps29
        go_upto_region 1 with fail
        rw [← hW0]
        try rw [hP]
        try simp only [List.append]
        clear hW0 hP
        refine wp_region_quiet_below (by kernel_rfl) (by kernel_rfl) ?_
        repeat (go_big_quiet_step (first | with_reducible exact C1 _ _ | with_reducible exact C2 _ _ | with_reducible exact C3 _ _))
        refine wpQuiet_nil ?_
        intro Y hw'
        have hbr : Below W0.heap.size W0 Y := by obtain ⟨⟨dq, osq⟩, hw''⟩ := hw'; rw [hw'']; exact below_regrown W0 dq osq
        have HBY := Lib.hid (HB0.out.trans (hbr.mono HB0.out.size))
        clear hw' hbr C1 C2 C3 k0 k1 k2 k3
        go_wp2
        go_ret
        exact ⟨rfl, HBY.out⟩
end Go.Proofs.Ytdbjifpnbghbaaa
