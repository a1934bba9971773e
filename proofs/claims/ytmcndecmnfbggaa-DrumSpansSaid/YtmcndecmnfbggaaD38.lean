/- DrumSpans returns true for all inputs: the walk. -/
import Derived.Test.YtmcndecmnfbggaaM4
import Derived.Test.YtmcndecmnfbggaaD32
import Derived.Lib.QuietBelow
import Derived.Deep.DeepCutAuto
import Derived.Outline
namespace Go.Proofs.Ytmcndecmnfbggaa
set_option linter.unusedSimpArgs false
set_option linter.unusedVariables false
open Go.RowKit Go.Sort

theorem fitP_iff {figs : List Int} {wi t : Int} (h0 : 0 ≤ t) (h1 : t < turnP figs.length) : FitP figs wi t ↔ fitsB figs t wi = true := by
  rw [fitsB_iff]
  exact ⟨fun h => h.2.2, fun h => ⟨h0, h1, h⟩⟩
/-- what the law asks of a span of those that are told -/
theorem span_facts {figs : List Int} {wi : Int} {L : List (Int × Int)} (h : Canon (fun t => fitOk figs wi ∧ FitP figs wi t) L) (j : Nat) (hj : j < L.length) (x1 x2 : Int) (hx : L.getD j (0, 0) = (x1, x2)) :
    0 ≤ x1 ∧ x1 ≤ x2 ∧ x2 < turnP figs.length ∧ (∀ t, x1 ≤ t → t ≤ x2 → fitsB figs t wi = true) ∧ (0 < x1 → fitsB figs (x1 - 1) wi = false) ∧ (x2 + 1 < turnP figs.length → fitsB figs (x2 + 1) wi = false) := by
  have hm : (x1, x2) ∈ L := by rw [← hx]; exact getD_mem hj
  obtain ⟨a, b, c, d⟩ := canon_ends h hm
  simp only [] at a b c d
  obtain ⟨ok, p1, p2, p3⟩ := b x1 (Int.le_refl _) a
  obtain ⟨_, q1, q2, q3⟩ := b x2 a (Int.le_refl _)
  refine ⟨p1, a, q2, fun t h1 h2 => (fitsB_iff ..).2 (b t h1 h2).2.2.2, fun h0 => ?_, fun h0 => ?_⟩
  · rw [Bool.eq_false_iff]
    intro hf
    exact c ⟨ok, by omega, by omega, (fitsB_iff ..).1 hf⟩
  · rw [Bool.eq_false_iff]
    intro hf
    exact d ⟨ok, by omega, by omega, (fitsB_iff ..).1 hf⟩
theorem in_any_iff {figs : List Int} {wi t : Int} {L : List (Int × Int)} (h : Canon (fun t => fitOk figs wi ∧ FitP figs wi t) L) (ok : fitOk figs wi) (h0 : 0 ≤ t) (h1 : t < turnP figs.length) : inAny L t = fitsB figs t wi := by
  rw [Bool.eq_iff_iff, inAny_iff h]
  exact ⟨fun hp => (fitsB_iff ..).2 hp.2.2.2, fun hf => ⟨ok, h0, h1, (fitsB_iff ..).1 hf⟩⟩
theorem fits_regrown (figs : List Int) (t wi : Int) (v : Value) (X : World) (hl : IntsAt X v figs) (h6 : figs.length ≤ 6) (h9 : ∀ k, k < figs.length → 0 ≤ figs.getD k 0 ∧ figs.getD k 0 ≤ 9) (ht : 0 ≤ t ∧ t ≤ 1000000000) (hw : 0 ≤ wi ∧ wi ≤ 999) :
    ∀ dd os, Calls Try.prog 21 #[v, .int .i64 t, .int .i64 wi] (grow (redrawn X dd) os) fun e w'' => e = .returned (.bool (fitsB figs t wi)) ∧ ∃ p : Regrown, w'' = grow (redrawn X p.d) p.os := fun dd os =>
  Calls.regrown_of (fits_any figs t wi _ _ (hl.below (below_regrown X dd os)) h6 h9 ht hw)
set_option maxRecDepth 100000 in
set_option maxHeartbeats 1600000 in
theorem drumSpans_any (figs : List Int) (wi mo y : Int) (v : Value) (w : World) (hl : IntsAt w v figs) (hy : 0 ≤ y ∧ y ≤ 4294967295) : Calls Try.prog 6 #[v, .int .i64 wi, .int .i64 mo, .int .u32 y] w fun e w' => e = .returned (.bool true) ∧ Below w.heap.size w w' := by
  obtain ⟨va, vc, rfl⟩ := hl.shape
  have hlm : figs.length ≤ 9223372036854775807 := hl.1
  by_cases h20 : 20 < figs.length
  · have h20' : (20 : Int) < (figs.length : Int) := by omega
    go_enter Try.func6, Try.ntmps6
    go_wp2_with fail
    refine (awake_any _).mono ?_
    rintro e w1 ⟨rfl, hb1⟩
    go_wp2
    go_ret
    exact ⟨rfl, hb1⟩
  have h20' : ¬ (20 : Int) < (figs.length : Int) := by omega
  go_enter Try.func6, Try.ntmps6
  go_wp2_with fail
  refine (fit_any figs wi _ _ hl).mono ?_
  rintro e w1 ⟨sv, L, rfl, hcan, hlen, ho, hb1⟩
  have s1 := spans_own ho hlen
  obtain ⟨sa, sc, rfl⟩ := s1.shape
  have hl1 := hl.below hb1
  obtain ⟨E, hE⟩ : ∃ x, fitErr figs wi L = x := ⟨_, rfl⟩
  rw [hE]
  have HE := Lib.hid hE
  have HC := Lib.hid hcan
  have ff := fun X h => refFigures_any figs (.slice va figs.length vc) X h
  obtain ⟨FB, hFB⟩ : ∃ x, figsB figs = x := ⟨_, rfl⟩
  rw [hFB] at ff
  have HFB := Lib.hid hFB
  have HFF := Lib.hid ff
  clear hE hcan ho hl hFB ff
  by_cases hL : L = []
  · -- nothing is told
    have he : fitErr figs wi L ≠ 0 := by unfold fitErr; rw [if_pos hL]; split; · decide
                                         split <;> decide
    rw [HE.out] at he
    have hlen0 : L.length = 0 := by rw [hL]; rfl
    rw [hlen0]
    have he1 : (E != 0) = true := by rw [bne_iff_ne]; exact he
    have hev : E = if figsB figs = false then 1 else if wi < 0 ∨ 1000 ≤ wi then 2 else 4 := by
      rw [← HE.out]; unfold fitErr; rw [if_pos hL]
    rw [HFB.out] at hev
    have HEV := Lib.hid hev
    clear he hlen0 hev
    cases FB with
    | false =>
      have e1 : E = 1 := by rw [HEV.out]; rfl
      subst e1
      go_wp2_with fail
      refine (HFF.out _ hl1).mono ?_
      rintro e w2 ⟨rfl, rfl⟩
      go_wp2_with fail
      refine (awake_any _).mono ?_
      rintro e w3 ⟨rfl, hb3⟩
      have hbw := hb1.trans (hb3.mono hb1.size)
      go_wp2
      go_ret
      exact ⟨rfl, hbw⟩
    | true =>
      by_cases h0 : 0 ≤ wi
      · by_cases h9 : wi ≤ 999
        · have e1 : E = 4 := by rw [HEV.out, if_neg (by simp), if_neg (by omega)]
          subst e1
          go_wp2_with fail
          refine (HFF.out _ hl1).mono ?_
          rintro e w2 ⟨rfl, rfl⟩
          go_wp2_with fail
          refine (awake_any _).mono ?_
          rintro e w3 ⟨rfl, hb3⟩
          have hbw := hb1.trans (hb3.mono hb1.size)
          go_wp2
          go_ret
          exact ⟨rfl, hbw⟩
        · have e1 : E = 2 := by rw [HEV.out, if_neg (by simp), if_pos (by omega)]
          have hd9 : decide (wi ≤ 999) = false := by simpa using h9
          subst e1
          clear h9
          go_wp2_with fail
          refine (HFF.out _ hl1).mono ?_
          rintro e w2 ⟨rfl, rfl⟩
          go_wp2_with fail
          refine (awake_any _).mono ?_
          rintro e w3 ⟨rfl, hb3⟩
          have hbw := hb1.trans (hb3.mono hb1.size)
          go_wp2
          go_ret
          exact ⟨rfl, hbw⟩
      · have e1 : E = 2 := by rw [HEV.out, if_neg (by simp), if_pos (by omega)]
        subst e1
        go_wp2_with fail
        refine (HFF.out _ hl1).mono ?_
        rintro e w2 ⟨rfl, rfl⟩
        go_wp2_with fail
        refine (awake_any _).mono ?_
        rintro e w3 ⟨rfl, hb3⟩
        have hbw := hb1.trans (hb3.mono hb1.size)
        go_wp2
        go_ret
        exact ⟨rfl, hbw⟩
  · obtain ⟨x0, hx0⟩ := List.exists_mem_of_ne_nil L hL
    have ok : fitOk figs wi := ((HC.out.2.2 x0.1).1 ⟨x0, hx0, Int.le_refl _, HC.out.1 x0 hx0⟩).1
    have hF1 : FB = true := by rw [← HFB.out]; exact ok.1
    subst hF1
    have he : E = 0 := by rw [← HE.out]; unfold fitErr; rw [if_neg (by rw [HFB.out]; simp), if_neg (by have := ok.2; omega), if_neg hL]
    subst he
    have hfb := HFB.out
    unfold figsB at hfb
    simp only [Bool.and_eq_true, decide_eq_true_eq, List.all_eq_true] at hfb
    obtain ⟨⟨hl1', hl6⟩, hf9⟩ := hfb
    have h9 : ∀ k, k < figs.length → 0 ≤ figs.getD k 0 ∧ figs.getD k 0 ≤ 9 := fun k hk => by
      have := hf9 (figs.getD k 0) (by simp [List.getD, hk])
      exact this
    have hn1 : 0 < L.length := List.length_pos_iff.2 hL
    have htb := turnP_bd figs.length (by omega)
    have hw := ok.2
    have OK := Lib.hid ok
    have H9 := Lib.hid h9
    have hT := fun X => turn_any (figs.length : Int) X (by omega)
    obtain ⟨U, hU⟩ : ∃ U, turnP figs.length = U := ⟨_, rfl⟩
    rw [hU] at htb hT
    obtain ⟨htb0, htb1⟩ := htb
    have HU := Lib.hid hU
    have HTT := Lib.hid hT
    obtain ⟨n, hn⟩ : ∃ n, L.length = n := ⟨_, rfl⟩
    rw [hn] at hlen hn1 s1 ⊢
    have HN := Lib.hid hn
    have hn0 : ((n : Int) == 0) = false := by rw [beq_eq_false_iff_ne]; omega
    have hnb : n ≤ 9223372036854775807 := by omega
    have HX0 := Lib.hid hx0
    clear hU hT h9 hf9 ok hn hL hx0
    go_wp2_with fail
    refine (HFF.out _ hl1).mono ?_
    rintro e w2 ⟨rfl, rfl⟩
    go_wp2_with fail
    refine (HTT.out _).mono ?_
    rintro e w2 ⟨rfl, rfl⟩
    go_wp2_with fail
    go_loopw [13] (fun i wr => ∃ j : Nat, j ≤ n ∧ i = .int .i64 j ∧ Below w1.heap.size w1 wr) (fun i _ => n - (intOf i).toNat)
    case atStart => exact ⟨0, by omega, rfl, Below.refl _ _⟩
    case round =>
      obtain ⟨j, hj, rfl, hbel⟩ := hrel
      by_cases hlt : j < n
      · have HSb := s1.below hbel
        have HLb := hl1.below hbel
        have hjl : j < L.length := by rw [HN.out]; exact hlt
        obtain ⟨b1, off1, e1, l1, hc1⟩ := HSb.at (by rw [HN.out]; omega)
        subst e1
        obtain ⟨d1, d2⟩ := hc1 j hjl
        obtain ⟨⟨x1, x2⟩, hx⟩ : ∃ x, L.getD j (0, 0) = x := ⟨_, rfl⟩
        obtain ⟨f1, f2, f3, f4, f5, f6⟩ := span_facts HC.out j hjl x1 x2 hx
        rw [HU.out] at f3 f6
        rw [hx] at d1 d2
        simp only [] at d1 d2
        rw [Nat.mul_comm 2 j] at d1 d2
        have F4 := Lib.hid f4
        have F5 := Lib.hid f5
        have F6 := Lib.hid f6
        have HLB := Lib.hid HLb
        have HSB := Lib.hid HSb
        have HC1 := Lib.hid hc1
        have HX := Lib.hid hx
        have ij0 : (0 : Int) ≤ (j : Int) := by omega
        have ij1 : (j : Int) < (n : Int) := by omega
        clear f4 f5 f6 HLb HSb hc1 hx
        go_upto_region 14 with fail
        obtain ⟨X, hX⟩ : ∃ X, wr.alloc (.cells #[.int .i64 x1, .int .i64 x2] 45) = X := ⟨_, rfl⟩
        have hbx : Below wr.heap.size wr X := by rw [← hX]; exact (Below.refl _ _).alloc (Nat.le_refl _) _
        have hp0 : X.heap[wr.heap.size]? = some (.cells #[.int .i64 x1, .int .i64 x2] 45 (0, 0)) := by rw [← hX]; exact (MapKept.heap_alloc wr _).1
        obtain ⟨P, hP⟩ : ∃ P, wr.heap.size = P := ⟨_, rfl⟩
        rw [hX, hP]
        rw [hP] at hp0
        have hp := hp0
        obtain ⟨p0, p1⟩ := two_cells hp
        have hbw := hb1.trans ((hbel.trans (hbx.mono hbel.size)).mono hb1.size)
        have hbel2 := hbel.trans (hbx.mono hbel.size)
        have HLX := Lib.hid (HLB.out.below hbx)
        have HP0 := Lib.hid hp0
        have hfr : ∀ o, X.frozen? ⟨P, o, none⟩ = false := frozen_of hp0
        have g1 : ¬ x1 < 0 := by omega
        have g2 : ¬ x2 < x1 := by omega
        have g3 : ¬ U ≤ x2 := by omega
        obtain ⟨d, hd⟩ : ∃ d : Int, x2 - x1 + 1 = d := ⟨_, rfl⟩
        have hd1 : 1 ≤ d ∧ d ≤ 1000000000 := by omega
        obtain ⟨r, hr⟩ : ∃ r, y % d = r := ⟨_, rfl⟩
        have hr1 : 0 ≤ r ∧ r < d := by rw [← hr]; exact ⟨Int.emod_nonneg _ (by omega), Int.emod_lt_of_pos _ (by omega)⟩
        have HR := Lib.hid hr
        have HD := Lib.hid hd
        have HBX := Lib.hid hbx
        clear hp0 hX hr hd hP hbx hbel d1 d2
        go_cut [109] (fun v wc => v = .bool false ∧ Below X.heap.size X wc)
        case first =>
          cases j with
          | zero =>
            go_quiet (fail)
            go_wp2
            go_meet
            exact ⟨rfl, below_drewN' (Below.refl _ _) _⟩
          | succ m =>
            obtain ⟨y1, y2⟩ := HC1.out m (by omega)
            obtain ⟨⟨z1, z2⟩, hz⟩ : ∃ x, L.getD m (0, 0) = x := ⟨_, rfl⟩
            have hnx := canon_next HC.out m hjl
            rw [hz, HX.out] at hnx
            rw [hz] at y2
            simp only [] at y2 hnx
            have y3 : X.cell? ⟨b1, off1 + m * 2 + 1, none⟩ = some (.int .i64 z2) := by rw [Nat.mul_comm 2 m] at y2; exact (HBX.out.cell (p := ⟨b1, _, none⟩) l1).trans y2
            have hm : ((m + 1 : Nat) : Int) - 1 = (m : Int) := by omega
            have hm2 : (m : Int) < (n : Int) := by omega
            have hm3 : (0 : Int) ≤ (m : Int) := by omega
            have g4 : ¬ x1 ≤ z2 + 1 := by omega
            have g5 : z2 ≤ 1000000000 := by omega
            have g6 : (-1000000000 : Int) ≤ z2 := by
              obtain ⟨a1, a2, _⟩ := span_facts HC.out m (by omega) z1 z2 hz
              omega
            clear y1 y2 hz hnx
            go_quiet (fail)
            go_wp2
            go_meet
            exact ⟨rfl, below_drewN' (Below.refl _ _) _⟩
        case rest =>
        obtain ⟨rfl, hbc⟩ := hcut
        have hp2 := box_step (w0 := w) HP0.out hbc
        obtain ⟨p0, p1⟩ := two_cells hp2
        have HLC := Lib.hid (HLX.out.below hbc)
        have hbw2 := hbw.trans (hbc.mono hbw.size)
        have hbel3 := hbel2.trans (hbc.mono hbel2.size)
        have C1 := fits_regrown figs x1 wi _ wc HLC.out hl6 H9.out ⟨f1, by omega⟩ hw
        have C2 := fits_regrown figs x2 wi _ wc HLC.out hl6 H9.out ⟨by omega, by omega⟩ hw
        have C3 := fits_regrown figs (x1 + r) wi _ wc HLC.out hl6 H9.out ⟨by omega, by have := HD.out; omega⟩ hw
        rw [F4.out x1 (Int.le_refl _) f2] at C1
        rw [F4.out x2 f2 (Int.le_refl _)] at C2
        rw [F4.out (x1 + r) (by omega) (by have := HD.out; omega)] at C3
        have hd := HD.out
        have hr2 : y.tmod d = r := by rw [Int.tmod_eq_emod_of_nonneg hy.1]; exact HR.out
        have hd0 : ¬ d = 0 := by omega
        have w1q : IntKind.i64.wrap (x2 - x1) = x2 - x1 := IntWalk.i64_in _ (by omega)
        have w2q : IntKind.i64.wrap d = d := IntWalk.i64_in _ (by omega)
        have w3q : IntKind.i64.wrap y = y := IntWalk.i64_in _ (by omega)
        have w4q : IntKind.i64.wrap r = r := IntWalk.i64_in _ (by omega)
        have w5q : IntKind.i64.wrap (x1 + r) = x1 + r := IntWalk.i64_in _ (by omega)
        have k0 := cell_regrown p0
        have k1 := cell_regrown p1
        clear hbw hbel2 hbc p0 p1
        go_wp2_with fail
        go_cut [141] (fun v wd => v = .bool false ∧ Below wc.heap.size wc wd)
        case first =>
          refine wp_region_quiet_below (by kernel_rfl) (by kernel_rfl) ?_
          repeat (quiet_step (first | with_reducible exact C1 _ _ | with_reducible exact C2 _ _ | with_reducible exact C3 _ _))
          refine wpQuiet_nil ?_
          intro _ hw'
          obtain ⟨⟨dq, osq⟩, hw''⟩ := hw'
          subst hw''
          go_wp2
          go_meet
          exact ⟨rfl, below_regrown wc dq osq⟩
        case rest =>
        obtain ⟨rfl, hbd⟩ := hcut
        have hp3 := box_step (w0 := w) hp2 hbd
        obtain ⟨p0, p1⟩ := two_cells hp3
        have HLD := Lib.hid (HLC.out.below hbd)
        have hbw3 := hbw2.trans (hbd.mono hbw2.size)
        have hbel4 := Lib.hid (hbel3.trans (hbd.mono hbel3.size))
        have C1 := fun h1 h2 X (hX : IntsAt X (.slice va figs.length vc) figs) => fits_any figs (x1 - 1) wi _ X hX hl6 H9.out ⟨h1, h2⟩ hw
        have C2 := fun h1 h2 X (hX : IntsAt X (.slice va figs.length vc) figs) => fits_any figs (x2 + 1) wi _ X hX hl6 H9.out ⟨h1, h2⟩ hw
        have CC1 := Lib.hid C1
        have CC2 := Lib.hid C2
        clear C1 C2 hp2 hbw2 hbel3 hbd k0 k1
        by_cases hx1 : 0 < x1
        · rw [F5.out hx1] at CC1
          by_cases hx2 : x2 + 1 < U
          · rw [F6.out hx2] at CC2
            go_wp2_with fail
            refine (CC1.out (by omega) (by omega) _ HLD.out).mono ?_
            rintro e w5 ⟨rfl, hb5⟩
            have hp4 := box_step (w0 := w) hp3 hb5
            obtain ⟨p0, p1⟩ := two_cells hp4
            have hl5 := HLD.out.below hb5
            go_wp2_with fail
            refine (CC2.out (by omega) (by omega) _ hl5).mono ?_
            rintro e w6 ⟨rfl, hb6⟩
            have hb7 := hbel4.out.trans ((hb5.trans (hb6.mono hb5.size)).mono hbel4.out.size)
            go_wp2
            go_roundw
            case rel => exact ⟨j + 1, by omega, by go_num, hb7⟩
            case measure => simp [intOf]; omega
          · go_wp2_with fail
            refine (CC1.out (by omega) (by omega) _ HLD.out).mono ?_
            rintro e w5 ⟨rfl, hb5⟩
            have hp4 := box_step (w0 := w) hp3 hb5
            obtain ⟨p0, p1⟩ := two_cells hp4
            have hb7 := hbel4.out.trans (hb5.mono hbel4.out.size)
            go_wp2
            go_roundw
            case rel => exact ⟨j + 1, by omega, by go_num, hb7⟩
            case measure => simp [intOf]; omega
        · by_cases hx2 : x2 + 1 < U
          · rw [F6.out hx2] at CC2
            go_wp2_with fail
            refine (CC2.out (by omega) (by omega) _ HLD.out).mono ?_
            rintro e w6 ⟨rfl, hb6⟩
            have hb7 := hbel4.out.trans (hb6.mono hbel4.out.size)
            go_wp2
            go_roundw
            case rel => exact ⟨j + 1, by omega, by go_num, hb7⟩
            case measure => simp [intOf]; omega
          · have hb7 := hbel4.out
            go_wp2
            go_roundw
            case rel => exact ⟨j + 1, by omega, by go_num, hb7⟩
            case measure => simp [intOf]; omega
      · have hjn : j = n := by omega
        subst hjn
        have i1 : ¬ (j : Int) < (j : Int) := by omega
        have HBL := Lib.hid hbel
        have hbw := hb1.trans (hbel.mono hb1.size)
        have HLW := Lib.hid (hl1.below hbel)
        have HSW := Lib.hid (s1.below hbel)
        obtain ⟨t, ht⟩ : ∃ t, y % U = t := ⟨_, rfl⟩
        have ht1 : 0 ≤ t ∧ t < U := by rw [← ht]; exact ⟨Int.emod_nonneg _ (by omega), Int.emod_lt_of_pos _ (by omega)⟩
        have hr2 : y.tmod U = t := by rw [Int.tmod_eq_emod_of_nonneg hy.1]; exact ht
        have w3q : IntKind.i64.wrap y = y := IntWalk.i64_in _ (by omega)
        have hU0 : ¬ U = 0 := by omega
        have hin := in_any_iff HC.out OK.out (t := t) ht1.1 (by rw [HU.out]; exact ht1.2)
        have HIN := Lib.hid hin
        have HBW := Lib.hid hbw
        clear ht hbel hbw hl1 s1 hb1 hin hlt hj
        obtain ⟨wo, hwo⟩ : ∃ wo : World, wo = wr := ⟨_, rfl⟩
        subst hwo
        go_wp2_with fail
        go_loopw [16, 17] (fun f i wx => ∃ k : Nat, k ≤ j ∧ i = .int .i64 k ∧ f = .bool (inAny (L.take k) t) ∧ Below wo.heap.size wo wx) (fun _ i _ => j - (intOf i).toNat)
        case atStart => exact ⟨0, by omega, rfl, by simp [inAny], Below.refl _ _⟩
        case round =>
          obtain ⟨k, hk, rfl, rfl, hbx⟩ := hrel
          by_cases hlt : k < j
          · have HSb := HSW.out.below hbx
            have hjl : k < L.length := by rw [HN.out]; exact hlt
            have hsn := inAny_snoc L t k hjl
            obtain ⟨b1, off1, e1, l1, hc1⟩ := HSb.at (by rw [HN.out]; omega)
            subst e1
            obtain ⟨d1, d2⟩ := hc1 k hjl
            obtain ⟨⟨x1, x2⟩, hx⟩ : ∃ x, L.getD k (0, 0) = x := ⟨_, rfl⟩
            rw [hx] at d1 d2 hsn
            simp only [] at d1 d2 hsn
            rw [Nat.mul_comm 2 k] at d1 d2
            have ij0 : (0 : Int) ≤ (k : Int) := by omega
            have ij1 : (k : Int) < (j : Int) := by omega
            obtain ⟨A, hA⟩ : ∃ A, inAny (L.take k) t = A := ⟨_, rfl⟩
            rw [hA] at hsn ⊢
            have HSN := Lib.hid hsn
            clear hsn hA hc1 hx HSb hjl
            cases A with
            | true =>
              go_wp2
              go_roundw
              case rel => exact ⟨k + 1, by omega, by go_num, by rw [HSN.out]; rfl, hbx⟩
              case measure => simp [intOf]; omega
            | false =>
              by_cases h1 : x1 ≤ t
              · by_cases h2 : t ≤ x2
                · go_wp2
                  go_roundw
                  case rel => exact ⟨k + 1, by omega, by go_num, by rw [HSN.out]; simp [h1, h2], hbx⟩
                  case measure => simp [intOf]; omega
                · go_wp2
                  go_roundw
                  case rel => exact ⟨k + 1, by omega, by go_num, by rw [HSN.out]; simp [h1, h2], hbx⟩
                  case measure => simp [intOf]; omega
              · go_wp2
                go_roundw
                case rel => exact ⟨k + 1, by omega, by go_num, by rw [HSN.out]; simp [h1], hbx⟩
                case measure => simp [intOf]; omega
          · have hkj : k = j := by omega
            subst hkj
            have i1 : ¬ (k : Int) < (k : Int) := by omega
            have hIe : inAny (L.take k) t = fitsB figs t wi := by rw [← HN.out, List.take_length]; exact HIN.out
            rw [hIe]
            have hfit := fits_any figs t wi _ wr (HLW.out.below hbx) hl6 H9.out ⟨ht1.1, by omega⟩ hw
            obtain ⟨R, hR⟩ : ∃ R, fitsB figs t wi = R := ⟨_, rfl⟩
            rw [hR] at hfit ⊢
            have HFIT := Lib.hid hfit
            have HBX := Lib.hid hbx
            have hRR : (R != R) = false := by simp
            clear hIe hR hfit hlt hk hbx HIN
            go_wp2_with fail
            refine HFIT.out.mono ?_
            rintro e w5 ⟨rfl, hb5⟩
            have hb15 := HBX.out.trans (hb5.mono HBX.out.size)
            have hbw5 := HBW.out.trans (hb15.mono HBW.out.size)
            have hl5 := HLW.out.below hb15
            have hs5 := HSW.out.below hb15
            clear hb5 HFIT HBX HLW HSW
            by_cases hm1 : mo < wi
            · go_wp2_with fail
              refine (awake_any _).mono ?_
              rintro e w6 ⟨rfl, hb6⟩
              have hbw6 := hbw5.trans (hb6.mono hbw5.size)
              go_wp2
              go_ret
              exact ⟨rfl, hbw6⟩
            by_cases hm2 : 999 < mo
            · go_wp2_with fail
              refine (awake_any _).mono ?_
              rintro e w6 ⟨rfl, hb6⟩
              have hbw6 := hbw5.trans (hb6.mono hbw5.size)
              go_wp2
              go_ret
              exact ⟨rfl, hbw6⟩
            go_wp2_with fail
            refine (fit_any figs mo _ _ hl5).mono ?_
            rintro e w6 ⟨mv, M, rfl, hcan2, hlen2, ho2, hb6⟩
            have s6 := spans_own ho2 hlen2
            obtain ⟨ma, mc, rfl⟩ := s6.shape
            have hs6 := hs5.below hb6
            have hbw6 := hbw5.trans (hb6.mono hbw5.size)
            have hcov : ∀ x ∈ L, covers M x = true := fun x hx => covers_all HC.out hcan2 (fun t h => ⟨⟨h.1.1, by omega, by omega⟩, fitP_mono h.2 (by omega)⟩) hx
            have hM : M ≠ [] := by
              intro e
              have := hcov x0 HX0.out
              rw [e] at this
              cases this
            have he2 : fitErr figs mo M = 0 := by unfold fitErr; rw [if_neg (by rw [HFB.out]; simp), if_neg (by omega), if_neg hM]
            rw [he2]
            have HCOV := Lib.hid hcov
            have HS6 := Lib.hid hs6
            have HM6 := Lib.hid s6
            clear hcov hM he2 hcan2 ho2 hb6 hl5 hs5 hbw5 s6 hs6
            go_wp2_with fail
            obtain ⟨N, hN⟩ : ∃ N, M.length = N := ⟨_, rfl⟩
            rw [hN] at hlen2 HM6 ⊢
            have HMN := Lib.hid hN
            have hNb : N ≤ 9223372036854775807 := by omega
            clear hN i1 hRR
            go_loopw [20] (fun i wx => ∃ p : Nat, p ≤ k ∧ i = .int .i64 p ∧ Below w6.heap.size w6 wx) (fun i _ => k - (intOf i).toNat)
            case atStart => exact ⟨0, by omega, rfl, Below.refl _ _⟩
            case round =>
              obtain ⟨p, hp, rfl, hby⟩ := hrel
              obtain ⟨wq, hwq⟩ : ∃ wq : World, wq = wr := ⟨_, rfl⟩
              subst hwq
              by_cases hlt : p < k
              · have hpl : p < L.length := by rw [HN.out]; exact hlt
                obtain ⟨b1, off1, e1, l1, hc1⟩ := (HS6.out.below hby).at (by rw [HN.out]; omega)
                subst e1
                obtain ⟨d1, d2⟩ := hc1 p hpl
                have hcv := HCOV.out _ (getD_mem hpl)
                obtain ⟨⟨x1, x2⟩, hx⟩ : ∃ x, L.getD p (0, 0) = x := ⟨_, rfl⟩
                rw [hx] at d1 d2 hcv
                simp only [] at d1 d2
                rw [Nat.mul_comm 2 p] at d1 d2
                have ip0 : (0 : Int) ≤ (p : Int) := by omega
                have ip1 : (p : Int) < (k : Int) := by omega
                have HCV := Lib.hid hcv
                have HD1 := Lib.hid d1
                have HD2 := Lib.hid d2
                have HBY := Lib.hid hby
                clear hc1 hx hcv d1 d2 hby
                go_wp2_with fail
                go_loopw [21, 22] (fun f i wx => ∃ q : Nat, q ≤ N ∧ i = .int .i64 q ∧ f = .bool (covers (M.take q) (x1, x2)) ∧ Below wq.heap.size wq wx) (fun _ i _ => N - (intOf i).toNat)
                case atStart => exact ⟨0, by omega, rfl, by simp [covers], Below.refl _ _⟩
                case round =>
                  obtain ⟨q, hq, rfl, rfl, hbz⟩ := hrel
                  by_cases hlq : q < N
                  · have hql : q < M.length := by rw [HMN.out]; exact hlq
                    have hsn := covers_snoc M (x1, x2) q hql
                    obtain ⟨b2, off2, e2, l2, hc2⟩ := ((HM6.out.below HBY.out).below hbz).at (by rw [HMN.out]; omega)
                    subst e2
                    obtain ⟨c1, c2⟩ := hc2 q hql
                    obtain ⟨⟨z1, z2⟩, hz⟩ : ∃ x, M.getD q (0, 0) = x := ⟨_, rfl⟩
                    rw [hz] at c1 c2 hsn
                    simp only [] at c1 c2 hsn
                    rw [Nat.mul_comm 2 q] at c1 c2
                    have d1 := (hbz.cell (p := ⟨b1, off1 + p * 2, none⟩) l1).trans HD1.out
                    have d2 := (hbz.cell (p := ⟨b1, off1 + p * 2 + 1, none⟩) l1).trans HD2.out
                    have iq0 : (0 : Int) ≤ (q : Int) := by omega
                    have iq1 : (q : Int) < (N : Int) := by omega
                    obtain ⟨A, hA⟩ : ∃ A, covers (M.take q) (x1, x2) = A := ⟨_, rfl⟩
                    rw [hA] at hsn ⊢
                    have HSN := Lib.hid hsn
                    clear hsn hA hc2 hz hql
                    cases A with
                    | true =>
                      go_wp2_with fail
                      go_quiet (fail)
                      go_wp2
                      go_roundw
                      case rel => exact ⟨q + 1, by omega, by go_num, by rw [HSN.out]; rfl, below_drewN' hbz _⟩
                      case measure => simp [intOf]; omega
                    | false =>
                      by_cases h1 : z1 ≤ x1
                      · have hd1 : decide (z1 ≤ x1) = true := by simpa using h1
                        by_cases h2 : x2 ≤ z2
                        · have hd2 : decide (x2 ≤ z2) = true := by simpa using h2
                          go_wp2_with fail
                          go_quiet (fail)
                          go_wp2
                          go_roundw
                          case rel => exact ⟨q + 1, by omega, by go_num, by rw [HSN.out]; simp [h1, h2], below_drewN' hbz _⟩
                          case measure => simp [intOf]; omega
                        · have hd2 : decide (x2 ≤ z2) = false := by simpa using h2
                          have HE2 := Lib.hid h2
                          clear h2
                          go_wp2_with fail
                          go_quiet (fail)
                          go_wp2
                          go_roundw
                          case rel => exact ⟨q + 1, by omega, by go_num, by rw [HSN.out]; simp; have := HE2.out; omega, below_drewN' hbz _⟩
                          case measure => simp [intOf]; omega
                      · have hd1 : decide (z1 ≤ x1) = false := by simpa using h1
                        have HE1 := Lib.hid h1
                        clear h1
                        go_wp2_with fail
                        go_quiet (fail)
                        go_wp2
                        go_roundw
                        case rel => exact ⟨q + 1, by omega, by go_num, by rw [HSN.out]; simp; have := HE1.out; omega, below_drewN' hbz _⟩
                        case measure => simp [intOf]; omega
                  · have hqn : q = N := by omega
                    subst hqn
                    have i1 : ¬ (q : Int) < (q : Int) := by omega
                    have hIe : covers (M.take q) (x1, x2) = true := by rw [← HMN.out, List.take_length]; exact HCV.out
                    rw [hIe]
                    have hby2 := HBY.out.trans (hbz.mono HBY.out.size)
                    clear hIe hbz
                    go_wp2
                    go_roundw
                    case rel => exact ⟨p + 1, by omega, by go_num, hby2⟩
                    case measure => simp [intOf]; omega
              · have hpk : p = k := by omega
                subst hpk
                have i1 : ¬ (p : Int) < (p : Int) := by omega
                have hbw7 := hbw6.trans (hby.mono hbw6.size)
                clear hlt hp
                go_wp2_with fail
                refine (awake_any _).mono ?_
                rintro e w8 ⟨rfl, hb8⟩
                have hbw8 := hbw7.trans (hb8.mono hbw7.size)
                go_wp2
                go_ret
                exact ⟨rfl, hbw8⟩
end Go.Proofs.Ytmcndecmnfbggaa
