/- DrumPulses returns true for all inputs: the walk. -/
import Derived.Test.YtmcndecmnfbggaaD32
import Derived.Test.YtmcndecmnfbggaaD9
import Derived.Test.YtmcndecmnfbggaaD31
import Derived.Deep.RegionHeld3
import Derived.Deep.DeepCutAuto
import Derived.Outline
namespace Go.Proofs.Ytmcndecmnfbggaa
set_option linter.unusedSimpArgs false
set_option linter.unusedVariables false
open Go.RowKit

theorem turns_len (l : List Int) : ∀ k, k ≤ l.length → 0 ≤ (turnsF (l.take k)).turns ∧ (turnsF (l.take k)).turns ≤ k
  | 0, _ => by unfold turnsF; simp
  | k + 1, hk => by
    have ih := turns_len l k (by omega)
    rw [take_snoc l k (by omega), turns_snoc]
    unfold tstep
    simp only []
    split <;> omega
theorem one_cell {X : World} {b : Nat} {x : Value} {t : TypeId} (h : X.heap[b]? = some (.cells #[x] t)) : X.cell? ⟨b, 0, none⟩ = some x := by
  simp [World.cell?, h]
theorem ne_lr (la x : Int) : (decide (la > 0) != decide (x > 0)) = decide (¬ (la > 0 ↔ x > 0)) := by
  by_cases h1 : la > 0 <;> by_cases h2 : x > 0 <;> simp [h1, h2]
/-- what the law asks of the two counts -/
theorem pulses_law (s c : Int) (l : List Int) (k : Nat) (hk : k = l.length) :
    let p := pulsesF s l c; let t := turnsF (l.take k)
    0 ≤ p.bounces ∧ p.bounces ≤ p.all ∧ p.bounces ≤ t.turns ∧ (t.up = true → p.bounces = 0 ∧ s ≤ s + (l.take k).sum ∧ p.all = untilF c (s + (l.take k).sum) - untilF c s) := by
  subst hk
  rw [List.take_length]
  obtain ⟨h1, h2, h3, h4, h5, h6, h7, h8⟩ := inv_all s c l
  refine ⟨h1, h2, h3, fun hu => ?_⟩
  obtain ⟨u1, u2, u3, u4⟩ := h7 hu
  rw [pulses_end] at u3 u4
  refine ⟨by omega, u3, ?_⟩
  rw [u4]; unfold untilF; omega
theorem pulsesErr_ok {d s c : Int} {l : List Int} (h1 : regB d s = true) (h2 : l.length ≤ 32) (h3 : l.any runBad = false) (hc : 0 ≤ c ∧ c ≤ 9999) : pulsesErr d s c l = 0 := by
  have r : runsErr d s l = 0 := by unfold runsErr; rw [if_neg (by rw [h1]; simp), if_neg (by omega), if_neg (by rw [h3]; simp)]
  unfold pulsesErr
  rw [if_pos r, if_pos hc]
/-- a run that goes on, and the same run back -/
theorem last_facts {d s c x : Int} {l L : List Int} (hlx : l = L ++ [x]) (h1 : regB d s = true) (h2 : l.length < 32) (h3 : l.any runBad = false) (hc : 0 ≤ c ∧ c ≤ 9999) (hx : 0 < x) (he : pulsesErr d s c l = 0) :
    pulsesErr d s c L = 0 ∧ pulsesErr d s c (l ++ [-x]) = 0 ∧ (0 ≤ pulsesAll d s c L ∧ pulsesAll d s c L ≤ 100000000000000) ∧ (0 ≤ pulsesAll d s c (l ++ [-x]) ∧ pulsesAll d s c (l ++ [-x]) ≤ 100000000000000) ∧ (0 ≤ pulsesAll d s c l ∧ pulsesAll d s c l ≤ 100000000000000) ∧
    (0 ≤ pulsesBo d s c L ∧ pulsesBo d s c L ≤ 100) ∧ (0 ≤ pulsesBo d s c (l ++ [-x]) ∧ pulsesBo d s c (l ++ [-x]) ≤ 100) ∧ (0 ≤ pulsesBo d s c l ∧ pulsesBo d s c l ≤ 100) ∧
    pulsesAll d s c L - pulsesBo d s c L ≤ pulsesAll d s c l - pulsesBo d s c l ∧ -1 ≤ pulsesAll d s c (l ++ [-x]) - pulsesAll d s c l - (pulsesAll d s c l - pulsesAll d s c L) ∧ pulsesAll d s c (l ++ [-x]) - pulsesAll d s c l - (pulsesAll d s c l - pulsesAll d s c L) ≤ 1 := by
  have hlen : l.length = L.length + 1 := by rw [hlx]; simp
  have hanyL : L.any runBad = false := by
    have := h3
    rw [hlx, List.any_append, Bool.or_eq_false_iff] at this
    exact this.1
  have hxr : runBad x = false := by
    have := h3
    rw [hlx, List.any_append, Bool.or_eq_false_iff] at this
    simpa using this.2
  have hany2 : (l ++ [-x]).any runBad = false := by
    rw [List.any_append, h3, Bool.false_or]
    simp only [List.any_cons, List.any_nil, Bool.or_false]
    unfold runBad at hxr ⊢
    simp only [Bool.or_eq_false_iff, decide_eq_false_iff_not] at hxr ⊢
    omega
  have e1 := pulsesErr_ok (d := d) (s := s) (c := c) h1 (by omega) hanyL hc
  have e2 := pulsesErr_ok (d := d) (s := s) (c := c) (l := l ++ [-x]) h1 (by simp; omega) hany2 hc
  have b1' := pulses_bd s c L hanyL L.length (Nat.le_refl _)
  have b2' := pulses_bd s c (l ++ [-x]) hany2 (l ++ [-x]).length (Nat.le_refl _)
  have b3' := pulses_bd s c l h3 l.length (Nat.le_refl _)
  rw [List.take_length] at b1' b2' b3'
  obtain ⟨-, b1a, b1b⟩ := b1'
  obtain ⟨-, b2a, b2b⟩ := b2'
  obtain ⟨-, b3a, b3b⟩ := b3'
  rw [List.length_append, List.length_singleton] at b2a b2b
  have m1 := pulses_more s L x c
  have m2 := pulses_last s L x c
  have m3 := pulses_last s l (-x) c
  have m4 := clos_and_back (pulsesF s L c).stand x c hx
  rw [← hlx] at m1 m2
  have m5 : (pulsesF s l c).stand = (pulsesF s L c).stand + x := by
    rw [pulses_end, pulses_end, hlx, List.sum_append]; simp; omega
  rw [m5, show (pulsesF s L c).stand + x + -x = (pulsesF s L c).stand by omega] at m3
  have v1 : pulsesAll d s c L = (pulsesF s L c).all := by unfold pulsesAll; rw [if_pos e1]
  have v2 : pulsesBo d s c L = (pulsesF s L c).bounces := by unfold pulsesBo; rw [if_pos e1]
  have v3 : pulsesAll d s c (l ++ [-x]) = (pulsesF s (l ++ [-x]) c).all := by unfold pulsesAll; rw [if_pos e2]
  have v4 : pulsesBo d s c (l ++ [-x]) = (pulsesF s (l ++ [-x]) c).bounces := by unfold pulsesBo; rw [if_pos e2]
  have v5 : pulsesAll d s c l = (pulsesF s l c).all := by unfold pulsesAll; rw [if_pos he]
  have v6 : pulsesBo d s c l = (pulsesF s l c).bounces := by unfold pulsesBo; rw [if_pos he]
  rw [v1, v2, v3, v4, v5, v6]
  exact ⟨e1, e2, by omega, by omega, by omega, by omega, by omega, by omega, m1, by omega, by omega⟩

set_option maxRecDepth 100000 in
set_option maxHeartbeats 6400000 in
theorem drumPulses_any (d s c : Int) (l : List Int) (v : Value) (w : World) (hl : IntsAt w v l) (hnil : NilOk v) : Calls Try.prog 8 #[.agg #[.int .i64 d, .int .i64 s], v, .int .i64 c] w fun e w' => e = .returned (.bool true) ∧ Below w.heap.size w w' := by
  obtain ⟨va, vc, rfl⟩ := hl.shape
  have hlm : l.length ≤ 9223372036854775807 := hl.1
  obtain ⟨W0, hW0⟩ : ∃ X, X = (w.alloc (.cells #[.int .i64 d, .int .i64 s] 23)).alloc (.cells #[.int .i64 c] 3) := ⟨_, rfl⟩
  have hb0 : Below w.heap.size w W0 := by rw [hW0]; exact ((Below.refl _ _).alloc (Nat.le_refl _) _).alloc (by simp) _
  have hr0 : W0.heap[w.heap.size]? = some (.cells #[.int .i64 d, .int .i64 s] 23 (0, 0)) := by rw [hW0, Below.heap_alloc _ _ _ (by simp)]; exact (MapKept.heap_alloc w _).1
  have hs0 : W0.heap[w.heap.size + 1]? = some (.cells #[.int .i64 c] 3 (0, 0)) := by
    rw [hW0]
    have := (MapKept.heap_alloc (w.alloc (.cells #[.int .i64 d, .int .i64 s] 23)) (.cells #[.int .i64 c] 3)).1
    simpa using this
  obtain ⟨B, hB⟩ : ∃ x, w.heap.size = x := ⟨_, rfl⟩
  obtain ⟨C, hC⟩ : ∃ x, B + 1 = x := ⟨_, rfl⟩
  have HB := Lib.hid hB
  have HC := Lib.hid hC
  clear hB hC
  obtain ⟨c0, c1⟩ := regcells hr0
  have c2 := one_cell hs0
  have g0 := Lib.hid hr0
  have g1 := Lib.hid hs0
  have hl0 := hl.below hb0
  have HNIL := Lib.hid hnil
  clear hr0 hs0 hl hnil
  by_cases h40 : 40 < l.length
  · have h40' : (40 : Int) < (l.length : Int) := by omega
    go_enter Try.func8, Try.ntmps8
    go_wp2_with fail
    rw [← hW0]
    clear hW0
    go_wp2_with fail
    refine (awake_any _).mono ?_
    rintro e w1 ⟨rfl, hb1⟩
    have hbw := hb0.trans (hb1.mono hb0.size)
    go_wp2
    go_ret
    exact ⟨rfl, hbw⟩
  have h40' : ¬ (40 : Int) < (l.length : Int) := by omega
  go_enter Try.func8, Try.ntmps8
  go_wp2_with fail
  rw [← hW0]
  clear hW0
  rw [HB.out, HC.out]
  refine (pulses_any d s c l _ _ hl0).mono ?_
  rintro e w1 ⟨rfl, hb1⟩
  have gg0 := box_step (w0 := w) g0.out hb1
  have gg1 := box_step (w0 := w) g1.out hb1
  have hbw1 := hb0.trans (hb1.mono hb0.size)
  have hl1 := hl0.below hb1
  rw [HB.out] at gg0
  rw [HB.out, HC.out] at gg1
  have gg0 := Lib.hid gg0
  have gg1 := Lib.hid gg1
  clear c0 c1 c2 hb1 hl0 hb0 g0 g1
  obtain ⟨F, hF⟩ : ∃ F, pulsesErr d s c l = F := ⟨_, rfl⟩
  obtain ⟨A, hA⟩ : ∃ A, pulsesAll d s c l = A := ⟨_, rfl⟩
  obtain ⟨Bo, hBo⟩ : ∃ A, pulsesBo d s c l = A := ⟨_, rfl⟩
  rw [hF, hA, hBo]
  have HF := Lib.hid hF
  have HA := Lib.hid hA
  have HBo := Lib.hid hBo
  clear hF hA hBo
  by_cases hF0 : F = 0
  rotate_left
  · have e1 : A = 0 := by rw [← HA.out]; unfold pulsesAll; rw [if_neg (by rw [HF.out]; exact hF0)]
    have e2 : Bo = 0 := by rw [← HBo.out]; unfold pulsesBo; rw [if_neg (by rw [HF.out]; exact hF0)]
    subst e1 e2
    have hF1 : (F != 0) = true := by rw [bne_iff_ne]; exact hF0
    clear hF0
    go_wp2_with fail
    refine (awake_any _).mono ?_
    rintro e w2 ⟨rfl, hb2⟩
    have hbw := hbw1.trans (hb2.mono hbw1.size)
    go_wp2
    go_ret
    exact ⟨rfl, hbw⟩
  subst hF0
  have hE := HF.out
  have hz : runsErr d s l = 0 ∧ (0 ≤ c ∧ c ≤ 9999) := by
    unfold pulsesErr at hE
    split at hE
    · rename_i h
      refine ⟨h, ?_⟩
      split at hE
      · rename_i h2; exact h2
      · simp at hE
    · rename_i h; exact absurd hE h
  obtain ⟨hz0, hc0, hc1⟩ := hz
  obtain ⟨z1, z2, z3⟩ := runsErr_zero hz0
  obtain ⟨hd, hs0, hs1, hs2⟩ := regB_bd z1
  have eA : A = (pulsesF s l c).all := by rw [← HA.out]; unfold pulsesAll; rw [if_pos HF.out]
  have eB : Bo = (pulsesF s l c).bounces := by rw [← HBo.out]; unfold pulsesBo; rw [if_pos HF.out]
  have HPE := Lib.hid HF.out
  have HPA := Lib.hid HA.out
  have HPB := Lib.hid HBo.out
  have EA := Lib.hid eA
  have EB := Lib.hid eB
  have Z0 := Lib.hid hz0
  have Z1 := Lib.hid z1
  have Z2 := Lib.hid z2
  have Z3 := Lib.hid z3
  clear HA HBo HF hE hz0 z1 z2 z3 eA eB
  obtain ⟨c0, c1⟩ := regcells gg0.out
  have c2 := one_cell gg1.out
  go_wp2_with fail
  refine (refRegister_any d s _).mono ?_
  rintro e w2 ⟨rfl, hb2⟩
  rw [Z1.out]
  have g2 := box_step (w0 := w) gg0.out hb2
  have s2 := box_step (w0 := w) gg1.out hb2
  have hbw2 := hbw1.trans (hb2.mono hbw1.size)
  have hl2 := hl1.below hb2
  clear c0 c1 c2 hb2 hl1 hbw1 gg0 gg1
  obtain ⟨c0, c1⟩ := regcells g2
  have c2 := one_cell s2
  have G2 := Lib.hid g2
  have S2 := Lib.hid s2
  clear g2 s2
  go_wp2_with fail
  go_quiet (fail)
  go_wp2_with fail
  clear c0 c1 c2
  go_loopw [10, 11, 12, 13, 14] (fun up tu en la i wr => ∃ k : Nat, k ≤ l.length ∧ i = .int .i64 k ∧ up = .bool (turnsF (l.take k)).up ∧ tu = .int .i64 (turnsF (l.take k)).turns ∧ en = .int .i64 (s + (l.take k).sum) ∧ la = .int .i64 (turnsF (l.take k)).last ∧ Below w2.heap.size w2 wr) (fun _ _ _ _ i _ => l.length - (intOf i).toNat)
  case atStart => exact ⟨0, by omega, rfl, rfl, rfl, by simp, rfl, below_drewN' (Below.refl _ _) _⟩
  case round =>
    obtain ⟨k, hk, rfl, rfl, rfl, rfl, rfl, hbr⟩ := hrel
    by_cases hlt : k < l.length
    · obtain ⟨b1, off1, e1, l1, hcl⟩ := (hl2.below hbr).at (by omega)
      subst e1
      have cx := hcl k hlt
      have hxb := runs_bd l Z3.out k hlt
      have hsb := sum_bd l Z3.out k hk
      have htl := turns_len l k hk
      have est := sum_take l k hlt
      have ets := turns_snoc (l.take k) (l.getD k 0)
      rw [← take_snoc l k hlt] at ets
      obtain ⟨x, hx⟩ : ∃ x, l.getD k 0 = x := ⟨_, rfl⟩
      rw [hx] at cx hxb est ets
      obtain ⟨⟨u, tn, la⟩, hts⟩ : ∃ t, turnsF (l.take k) = t := ⟨_, rfl⟩
      obtain ⟨sm, hsm⟩ : ∃ t, (l.take k).sum = t := ⟨_, rfl⟩
      rw [hts] at htl ets ⊢
      rw [hsm] at hsb est ⊢
      simp only [] at htl ets
      obtain ⟨ht0, ht1⟩ := htl
      obtain ⟨hsb0, hsb1⟩ := hsb
      obtain ⟨hx0, hx1⟩ := hxb
      have i0 : (0 : Int) ≤ (k : Int) := by omega
      have i1 : (k : Int) < (l.length : Int) := by omega
      have hk40 : (k : Int) ≤ 40 := by omega
      have EST := Lib.hid est
      have ETS := Lib.hid ets
      clear hx hts hsm est ets hcl hc0 hc1
      have fin : ∀ (u' : Bool) (tn' la' : Int), (⟨u && decide (x ≥ 0), if x ≠ 0 ∧ la ≠ 0 ∧ ¬ (la > 0 ↔ x > 0) then tn + 1 else tn, if x ≠ 0 then x else la⟩ : TS) = ⟨u', tn', la'⟩ → turnsF (l.take (k + 1)) = ⟨u', tn', la'⟩ := fun _ _ _ h => by rw [ETS.out]; exact h
      have FIN := Lib.hid fin
      have hs5 : -1099511627776 * 40 ≤ sm ∧ sm ≤ 1099511627776 * 40 := by omega
      obtain ⟨hs50, hs51⟩ := hs5
      clear fin hsb0 hsb1
      rcases Int.lt_trichotomy x 0 with hx | hx | hx
      · have x0 : ¬ 0 ≤ x := by omega
        have x1 : (x != 0) = true := by rw [bne_iff_ne]; omega
        have x2 : ¬ 0 < x := by omega
        rcases Int.lt_trichotomy la 0 with hla | hla | hla
        · have a1 : (la != 0) = true := by rw [bne_iff_ne]; omega
          have a2 : ¬ 0 < la := by omega
          cases u with
          | true =>
            have H := Lib.hid (FIN.out false tn x (by simp; omega))
            as_aux_lemma =>
              go_wp2
              go_roundw
              case rel => exact ⟨k + 1, by omega, by go_num, by rw [H.out], by rw [H.out], by first | rw [EST.out, Int.add_assoc] | (rw [EST.out]; simp), by rw [H.out], hbr⟩
              case measure => simp [intOf]; omega
          | false =>
            have H := Lib.hid (FIN.out false tn x (by simp; omega))
            as_aux_lemma =>
              go_wp2
              go_roundw
              case rel => exact ⟨k + 1, by omega, by go_num, by rw [H.out], by rw [H.out], by first | rw [EST.out, Int.add_assoc] | (rw [EST.out]; simp), by rw [H.out], hbr⟩
              case measure => simp [intOf]; omega
        · subst hla
          cases u with
          | true =>
            have H := Lib.hid (FIN.out false tn x (by simp; omega))
            as_aux_lemma =>
              go_wp2
              go_roundw
              case rel => exact ⟨k + 1, by omega, by go_num, by rw [H.out], by rw [H.out], by first | rw [EST.out, Int.add_assoc] | (rw [EST.out]; simp), by rw [H.out], hbr⟩
              case measure => simp [intOf]; omega
          | false =>
            have H := Lib.hid (FIN.out false tn x (by simp; omega))
            as_aux_lemma =>
              go_wp2
              go_roundw
              case rel => exact ⟨k + 1, by omega, by go_num, by rw [H.out], by rw [H.out], by first | rw [EST.out, Int.add_assoc] | (rw [EST.out]; simp), by rw [H.out], hbr⟩
              case measure => simp [intOf]; omega
        · have a1 : (la != 0) = true := by rw [bne_iff_ne]; omega
          cases u with
          | true =>
            have H := Lib.hid (FIN.out false (tn + 1) x (by simp; omega))
            as_aux_lemma =>
              go_wp2
              go_roundw
              case rel => exact ⟨k + 1, by omega, by go_num, by rw [H.out], by rw [H.out], by first | rw [EST.out, Int.add_assoc] | (rw [EST.out]; simp), by rw [H.out], hbr⟩
              case measure => simp [intOf]; omega
          | false =>
            have H := Lib.hid (FIN.out false (tn + 1) x (by simp; omega))
            as_aux_lemma =>
              go_wp2
              go_roundw
              case rel => exact ⟨k + 1, by omega, by go_num, by rw [H.out], by rw [H.out], by first | rw [EST.out, Int.add_assoc] | (rw [EST.out]; simp), by rw [H.out], hbr⟩
              case measure => simp [intOf]; omega
      · subst hx
        cases u with
        | true =>
          have H := Lib.hid (FIN.out true tn la (by simp))
          as_aux_lemma =>
            go_wp2
            go_roundw
            case rel => exact ⟨k + 1, by omega, by go_num, by rw [H.out], by rw [H.out], by first | rw [EST.out, Int.add_assoc] | (rw [EST.out]; simp), by rw [H.out], hbr⟩
            case measure => simp [intOf]; omega
        | false =>
          have H := Lib.hid (FIN.out false tn la (by simp))
          as_aux_lemma =>
            go_wp2
            go_roundw
            case rel => exact ⟨k + 1, by omega, by go_num, by rw [H.out], by rw [H.out], by first | rw [EST.out, Int.add_assoc] | (rw [EST.out]; simp), by rw [H.out], hbr⟩
            case measure => simp [intOf]; omega
      · have x0 : 0 ≤ x := by omega
        have x1 : (x != 0) = true := by rw [bne_iff_ne]; omega
        rcases Int.lt_trichotomy la 0 with hla | hla | hla
        · have a1 : (la != 0) = true := by rw [bne_iff_ne]; omega
          have a2 : ¬ 0 < la := by omega
          cases u with
          | true =>
            have H := Lib.hid (FIN.out true (tn + 1) x (by simp; omega))
            as_aux_lemma =>
              go_wp2
              go_roundw
              case rel => exact ⟨k + 1, by omega, by go_num, by rw [H.out], by rw [H.out], by first | rw [EST.out, Int.add_assoc] | (rw [EST.out]; simp), by rw [H.out], hbr⟩
              case measure => simp [intOf]; omega
          | false =>
            have H := Lib.hid (FIN.out false (tn + 1) x (by simp; omega))
            as_aux_lemma =>
              go_wp2
              go_roundw
              case rel => exact ⟨k + 1, by omega, by go_num, by rw [H.out], by rw [H.out], by first | rw [EST.out, Int.add_assoc] | (rw [EST.out]; simp), by rw [H.out], hbr⟩
              case measure => simp [intOf]; omega
        · subst hla
          cases u with
          | true =>
            have H := Lib.hid (FIN.out true tn x (by simp; omega))
            as_aux_lemma =>
              go_wp2
              go_roundw
              case rel => exact ⟨k + 1, by omega, by go_num, by rw [H.out], by rw [H.out], by first | rw [EST.out, Int.add_assoc] | (rw [EST.out]; simp), by rw [H.out], hbr⟩
              case measure => simp [intOf]; omega
          | false =>
            have H := Lib.hid (FIN.out false tn x (by simp; omega))
            as_aux_lemma =>
              go_wp2
              go_roundw
              case rel => exact ⟨k + 1, by omega, by go_num, by rw [H.out], by rw [H.out], by first | rw [EST.out, Int.add_assoc] | (rw [EST.out]; simp), by rw [H.out], hbr⟩
              case measure => simp [intOf]; omega
        · have a1 : (la != 0) = true := by rw [bne_iff_ne]; omega
          cases u with
          | true =>
            have H := Lib.hid (FIN.out true tn x (by simp; omega))
            as_aux_lemma =>
              go_wp2
              go_roundw
              case rel => exact ⟨k + 1, by omega, by go_num, by rw [H.out], by rw [H.out], by first | rw [EST.out, Int.add_assoc] | (rw [EST.out]; simp), by rw [H.out], hbr⟩
              case measure => simp [intOf]; omega
          | false =>
            have H := Lib.hid (FIN.out false tn x (by simp; omega))
            as_aux_lemma =>
              go_wp2
              go_roundw
              case rel => exact ⟨k + 1, by omega, by go_num, by rw [H.out], by rw [H.out], by first | rw [EST.out, Int.add_assoc] | (rw [EST.out]; simp), by rw [H.out], hbr⟩
              case measure => simp [intOf]; omega
    · obtain rfl : k = l.length := by omega
      have i1 : ¬ (l.length : Int) < (l.length : Int) := by omega
      obtain ⟨p0, p1, p2, p3⟩ := pulses_law s c l l.length rfl
      have hbd := pulses_bd s c l Z3.out l.length (Nat.le_refl _)
      rw [List.take_length] at hbd
      obtain ⟨-, hbd1, hbd2⟩ := hbd
      have htl := turns_len l l.length (Nat.le_refl _)
      have hsb := sum_bd l Z3.out l.length (Nat.le_refl _)
      rw [← EA.out] at p1 p3 hbd1
      rw [← EB.out] at p0 p1 p2 p3 hbd2
      obtain ⟨⟨u, tn, la⟩, hts⟩ : ∃ t, turnsF (l.take l.length) = t := ⟨_, rfl⟩
      obtain ⟨en, hen⟩ : ∃ e, s + (l.take l.length).sum = e := ⟨_, rfl⟩
      rw [hts] at p2 p3 htl ⊢
      rw [hen] at p3 ⊢
      simp only [] at p2 p3 htl
      obtain ⟨t0, t1⟩ := htl
      have HEN := Lib.hid hen
      have hen1 : en ≤ 1000000000000000 := by omega
      have P3 := Lib.hid p3
      have q0 : ¬ A - Bo < 0 := by omega
      have q1 : ¬ A < A - Bo := by omega
      have q2 : ¬ tn < A - (A - Bo) := by omega
      clear hts hen p3 hsb
      have k0 := Lib.hid p0
      have k1 := Lib.hid p1
      have k2 := Lib.hid p2
      clear p0 p1 p2
      obtain ⟨wo, hwo⟩ : ∃ wo : World, wo = wr := ⟨_, rfl⟩
      subst hwo
      have g3 := box_step (w0 := w) G2.out hbr
      have s3 := box_step (w0 := w) S2.out hbr
      have hl3 := hl2.below hbr
      have hbw3 := hbw2.trans (hbr.mono hbw2.size)
      obtain ⟨c0, c1⟩ := regcells g3
      have c2 := one_cell s3
      go_wp2_with fail
      go_cut [138] (fun v wx => v = .bool false ∧ Below wo.heap.size wo wx)
      case first =>
        cases u with
        | false =>
          go_quiet (fail)
          go_wp2_with fail
          go_meet
          exact ⟨rfl, below_drewN' (Below.refl _ _) _⟩
        | true =>
          obtain ⟨e0, e1, e2⟩ := P3.out rfl
          have q3 : (A - Bo != A) = false := by rw [e0]; simp
          have q4 : (A != untilF c en - untilF c s) = false := by rw [← e2]; simp
          have q5 : 0 ≤ untilF c en ∧ untilF c en ≤ 1000000000000000 := by unfold untilF; omega
          have q6 : 0 ≤ untilF c s ∧ untilF c s ≤ 1000000000000000 := by unfold untilF; omega
          have hen0 : 0 ≤ en := by omega
          obtain ⟨q50, q51⟩ := q5
          obtain ⟨q60, q61⟩ := q6
          clear e0 e1 e2
          refine wp_region_held_drew (S := fun w' => w'.heap[B]? = some (.cells #[.int .i64 d, .int .i64 s] 23 (0, 0)) ∧ w'.heap[C]? = some (.cells #[.int .i64 c] 3 (0, 0)) ∧ Below wo.heap.size wo w') (by as_aux_lemma => kernel_rfl) ⟨g3, s3, (Below.refl _ _).drew⟩ (fun hHeld => ?_)
          obtain ⟨X0, hX0⟩ : ∃ X0, X0 = wo.drew := ⟨_, rfl⟩
          have hS := Lib.hid hHeld
          rw [← hX0] at hS ⊢
          clear hX0 hHeld
          refine wpAnyH_take (i := 0) (oi := _) (v := ?_) rfl (by as_aux_lemma => kernel_rfl) (by as_aux_lemma => kernel_rfl) (by as_aux_lemma => kernel_rfl) (fun _ _ _ h => h) (Or.inl ⟨by rfl, ?_⟩) hS.out ?_
          rotate_left
          · intro w1 hSw
            replace hSw : w1.heap[B]? = some (.cells #[.int .i64 d, .int .i64 s] 23 (0, 0)) ∧ w1.heap[C]? = some (.cells #[.int .i64 c] 3 (0, 0)) ∧ Below wo.heap.size wo w1 := hSw
            obtain ⟨s1, s2, s3⟩ := hSw
            obtain ⟨r0, r1⟩ := regcells s1
            have r2 := one_cell s2
            go_simp; with_reducible rfl
          simp only [List.getElem_toArray, List.getElem_cons_succ, List.getElem_cons_zero, Act.put, List.setIfInBounds_toArray, List.set_cons_zero, List.set_cons_succ]
          refine wpAnyH_take (i := 1) (oi := _) (v := ?_) rfl (by as_aux_lemma => kernel_rfl) (by as_aux_lemma => kernel_rfl) (by as_aux_lemma => kernel_rfl) (fun _ _ _ h => h) (Or.inl ⟨by rfl, ?_⟩) hS.out ?_
          rotate_left
          · intro w1 hSw
            replace hSw : w1.heap[B]? = some (.cells #[.int .i64 d, .int .i64 s] 23 (0, 0)) ∧ w1.heap[C]? = some (.cells #[.int .i64 c] 3 (0, 0)) ∧ Below wo.heap.size wo w1 := hSw
            obtain ⟨s1, s2, s3⟩ := hSw
            obtain ⟨r0, r1⟩ := regcells s1
            have r2 := one_cell s2
            go_simp; with_reducible rfl
          simp only [List.getElem_toArray, List.getElem_cons_succ, List.getElem_cons_zero, Act.put, List.setIfInBounds_toArray, List.set_cons_zero, List.set_cons_succ]
          refine wpAnyH_take (i := 2) (oi := _) (v := ?_) rfl (by as_aux_lemma => kernel_rfl) (by as_aux_lemma => kernel_rfl) (by as_aux_lemma => kernel_rfl) (fun _ _ _ h => h) (Or.inl ⟨by rfl, ?_⟩) hS.out ?_
          rotate_left
          · intro w1 hSw
            replace hSw : w1.heap[B]? = some (.cells #[.int .i64 d, .int .i64 s] 23 (0, 0)) ∧ w1.heap[C]? = some (.cells #[.int .i64 c] 3 (0, 0)) ∧ Below wo.heap.size wo w1 := hSw
            obtain ⟨s1, s2, s3⟩ := hSw
            obtain ⟨r0, r1⟩ := regcells s1
            have r2 := one_cell s2
            go_simp; with_reducible rfl
          simp only [List.getElem_toArray, List.getElem_cons_succ, List.getElem_cons_zero, Act.put, List.setIfInBounds_toArray, List.set_cons_zero, List.set_cons_succ]
          refine wpAnyH_take (i := 3) (oi := _) (v := ?_) rfl (by as_aux_lemma => kernel_rfl) (by as_aux_lemma => kernel_rfl) (by as_aux_lemma => kernel_rfl) (fun _ _ _ h => h) (Or.inl ⟨by rfl, ?_⟩) hS.out ?_
          rotate_left
          · intro w1 hSw
            replace hSw : w1.heap[B]? = some (.cells #[.int .i64 d, .int .i64 s] 23 (0, 0)) ∧ w1.heap[C]? = some (.cells #[.int .i64 c] 3 (0, 0)) ∧ Below wo.heap.size wo w1 := hSw
            obtain ⟨s1, s2, s3⟩ := hSw
            obtain ⟨r0, r1⟩ := regcells s1
            have r2 := one_cell s2
            go_simp; with_reducible rfl
          simp only [List.getElem_toArray, List.getElem_cons_succ, List.getElem_cons_zero, Act.put, List.setIfInBounds_toArray, List.set_cons_zero, List.set_cons_succ]
          refine wpAnyH_take (i := 4) (oi := _) (v := ?_) rfl (by as_aux_lemma => kernel_rfl) (by as_aux_lemma => kernel_rfl) (by as_aux_lemma => kernel_rfl) (fun _ _ _ h => h) (Or.inl ⟨by rfl, ?_⟩) hS.out ?_
          rotate_left
          · intro w1 hSw
            replace hSw : w1.heap[B]? = some (.cells #[.int .i64 d, .int .i64 s] 23 (0, 0)) ∧ w1.heap[C]? = some (.cells #[.int .i64 c] 3 (0, 0)) ∧ Below wo.heap.size wo w1 := hSw
            obtain ⟨s1, s2, s3⟩ := hSw
            obtain ⟨r0, r1⟩ := regcells s1
            have r2 := one_cell s2
            go_simp; with_reducible rfl
          simp only [List.getElem_toArray, List.getElem_cons_succ, List.getElem_cons_zero, Act.put, List.setIfInBounds_toArray, List.set_cons_zero, List.set_cons_succ]
          refine wpAnyH_take (i := 5) (oi := _) (v := ?_) rfl (by as_aux_lemma => kernel_rfl) (by as_aux_lemma => kernel_rfl) (by as_aux_lemma => kernel_rfl) (fun _ _ _ h => h) (Or.inl ⟨by rfl, ?_⟩) hS.out ?_
          rotate_left
          · intro w1 hSw
            replace hSw : w1.heap[B]? = some (.cells #[.int .i64 d, .int .i64 s] 23 (0, 0)) ∧ w1.heap[C]? = some (.cells #[.int .i64 c] 3 (0, 0)) ∧ Below wo.heap.size wo w1 := hSw
            obtain ⟨s1, s2, s3⟩ := hSw
            obtain ⟨r0, r1⟩ := regcells s1
            have r2 := one_cell s2
            go_simp; with_reducible rfl
          simp only [List.getElem_toArray, List.getElem_cons_succ, List.getElem_cons_zero, Act.put, List.setIfInBounds_toArray, List.set_cons_zero, List.set_cons_succ]
          refine wpAnyH_take (i := 6) (oi := _) (v := ?_) rfl (by as_aux_lemma => kernel_rfl) (by as_aux_lemma => kernel_rfl) (by as_aux_lemma => kernel_rfl) (fun _ _ _ h => h) (Or.inl ⟨by rfl, ?_⟩) hS.out ?_
          rotate_left
          · intro w1 hSw
            replace hSw : w1.heap[B]? = some (.cells #[.int .i64 d, .int .i64 s] 23 (0, 0)) ∧ w1.heap[C]? = some (.cells #[.int .i64 c] 3 (0, 0)) ∧ Below wo.heap.size wo w1 := hSw
            obtain ⟨s1, s2, s3⟩ := hSw
            obtain ⟨r0, r1⟩ := regcells s1
            have r2 := one_cell s2
            go_simp; with_reducible rfl
          simp only [List.getElem_toArray, List.getElem_cons_succ, List.getElem_cons_zero, Act.put, List.setIfInBounds_toArray, List.set_cons_zero, List.set_cons_succ]
          refine wpAnyH_take (i := 7) (oi := _) (v := ?_) rfl (by as_aux_lemma => kernel_rfl) (by as_aux_lemma => kernel_rfl) (by as_aux_lemma => kernel_rfl) (fun _ _ _ h => h) (Or.inl ⟨by rfl, ?_⟩) hS.out ?_
          rotate_left
          · intro w1 hSw
            replace hSw : w1.heap[B]? = some (.cells #[.int .i64 d, .int .i64 s] 23 (0, 0)) ∧ w1.heap[C]? = some (.cells #[.int .i64 c] 3 (0, 0)) ∧ Below wo.heap.size wo w1 := hSw
            obtain ⟨s1, s2, s3⟩ := hSw
            obtain ⟨r0, r1⟩ := regcells s1
            have r2 := one_cell s2
            go_simp; with_reducible rfl
          simp only [List.getElem_toArray, List.getElem_cons_succ, List.getElem_cons_zero, Act.put, List.setIfInBounds_toArray, List.set_cons_zero, List.set_cons_succ]
          refine wpAnyH_take (i := 8) (oi := _) (v := ?_) rfl (by as_aux_lemma => kernel_rfl) (by as_aux_lemma => kernel_rfl) (by as_aux_lemma => kernel_rfl) (fun _ _ _ h => h) (Or.inl ⟨by rfl, ?_⟩) hS.out ?_
          rotate_left
          · intro w1 hSw
            replace hSw : w1.heap[B]? = some (.cells #[.int .i64 d, .int .i64 s] 23 (0, 0)) ∧ w1.heap[C]? = some (.cells #[.int .i64 c] 3 (0, 0)) ∧ Below wo.heap.size wo w1 := hSw
            obtain ⟨s1, s2, s3⟩ := hSw
            obtain ⟨r0, r1⟩ := regcells s1
            have r2 := one_cell s2
            go_simp; with_reducible rfl
          simp only [List.getElem_toArray, List.getElem_cons_succ, List.getElem_cons_zero, Act.put, List.setIfInBounds_toArray, List.set_cons_zero, List.set_cons_succ]
          refine wpAnyH_take (i := 10) (oi := _) (v := ?_) rfl (by as_aux_lemma => kernel_rfl) (by as_aux_lemma => kernel_rfl) (by as_aux_lemma => kernel_rfl) (fun _ _ _ h => h) (Or.inl ⟨by rfl, ?_⟩) hS.out ?_
          rotate_left
          · intro w1 hSw
            replace hSw : w1.heap[B]? = some (.cells #[.int .i64 d, .int .i64 s] 23 (0, 0)) ∧ w1.heap[C]? = some (.cells #[.int .i64 c] 3 (0, 0)) ∧ Below wo.heap.size wo w1 := hSw
            obtain ⟨s1, s2, s3⟩ := hSw
            obtain ⟨r0, r1⟩ := regcells s1
            have r2 := one_cell s2
            go_simp; with_reducible rfl
          simp only [List.getElem_toArray, List.getElem_cons_succ, List.getElem_cons_zero, Act.put, List.setIfInBounds_toArray, List.set_cons_zero, List.set_cons_succ]
          refine wpAnyH_take (i := 11) (oi := _) (v := ?_) rfl (by as_aux_lemma => kernel_rfl) (by as_aux_lemma => kernel_rfl) (by as_aux_lemma => kernel_rfl) (fun _ _ _ h => h) (Or.inl ⟨by rfl, ?_⟩) hS.out ?_
          rotate_left
          · intro w1 hSw
            replace hSw : w1.heap[B]? = some (.cells #[.int .i64 d, .int .i64 s] 23 (0, 0)) ∧ w1.heap[C]? = some (.cells #[.int .i64 c] 3 (0, 0)) ∧ Below wo.heap.size wo w1 := hSw
            obtain ⟨s1, s2, s3⟩ := hSw
            obtain ⟨r0, r1⟩ := regcells s1
            have r2 := one_cell s2
            go_simp; with_reducible rfl
          simp only [List.getElem_toArray, List.getElem_cons_succ, List.getElem_cons_zero, Act.put, List.setIfInBounds_toArray, List.set_cons_zero, List.set_cons_succ]
          refine wpAnyH_take (i := 12) (oi := _) (v := ?_) rfl (by as_aux_lemma => kernel_rfl) (by as_aux_lemma => kernel_rfl) (by as_aux_lemma => kernel_rfl) (fun _ _ _ h => h) (Or.inl ⟨by rfl, ?_⟩) hS.out ?_
          rotate_left
          · intro w1 hSw
            replace hSw : w1.heap[B]? = some (.cells #[.int .i64 d, .int .i64 s] 23 (0, 0)) ∧ w1.heap[C]? = some (.cells #[.int .i64 c] 3 (0, 0)) ∧ Below wo.heap.size wo w1 := hSw
            obtain ⟨s1, s2, s3⟩ := hSw
            obtain ⟨r0, r1⟩ := regcells s1
            have r2 := one_cell s2
            go_simp; with_reducible rfl
          simp only [List.getElem_toArray, List.getElem_cons_succ, List.getElem_cons_zero, Act.put, List.setIfInBounds_toArray, List.set_cons_zero, List.set_cons_succ]
          refine wpAnyH_all (rs := [9]) (by as_aux_lemma => kernel_rfl) (by simp) ?_
          intro i hi; obtain rfl := List.mem_singleton.1 hi; clear hi
          refine wpOp_step rfl (fun K3 hK3 => ?_)
          have HK3 := Lib.hid hK3
          clear hK3
          rw [if_pos (by rfl)]
          go_simp
          refine (until_any en c C _ (by omega) ⟨hc0, hc1⟩ (one_cell hS.out.2.1)).mono ?_
          rintro e x9 ⟨rfl, rfl⟩
          refine HK3.out _ _ ⟨hS.out, ?_⟩
          clear HK3 K3
          try simp only [List.getElem_toArray, List.getElem_cons_succ, List.getElem_cons_zero, Act.put, List.setIfInBounds_toArray, List.set_cons_zero, List.set_cons_succ]
          refine wpAnyH_all (rs := [13]) (by as_aux_lemma => kernel_rfl) (by simp) ?_
          intro i hi; obtain rfl := List.mem_singleton.1 hi; clear hi
          refine wpOp_step rfl (fun K3 hK3 => ?_)
          have HK3 := Lib.hid hK3
          clear hK3
          rw [if_pos (by rfl)]
          go_simp
          refine (until_any s c C _ (by omega) ⟨hc0, hc1⟩ (one_cell hS.out.2.1)).mono ?_
          rintro e x13 ⟨rfl, rfl⟩
          refine HK3.out _ _ ⟨hS.out, ?_⟩
          clear HK3 K3
          try simp only [List.getElem_toArray, List.getElem_cons_succ, List.getElem_cons_zero, Act.put, List.setIfInBounds_toArray, List.set_cons_zero, List.set_cons_succ]
          refine wpAnyH_take (i := 14) (oi := _) (v := ?_) rfl (by as_aux_lemma => kernel_rfl) (by as_aux_lemma => kernel_rfl) (by as_aux_lemma => kernel_rfl) (fun _ _ _ h => h) (Or.inl ⟨by rfl, ?_⟩) hS.out ?_
          rotate_left
          · intro w1 hSw
            replace hSw : w1.heap[B]? = some (.cells #[.int .i64 d, .int .i64 s] 23 (0, 0)) ∧ w1.heap[C]? = some (.cells #[.int .i64 c] 3 (0, 0)) ∧ Below wo.heap.size wo w1 := hSw
            obtain ⟨s1, s2, s3⟩ := hSw
            obtain ⟨r0, r1⟩ := regcells s1
            have r2 := one_cell s2
            go_simp; with_reducible rfl
          simp only [List.getElem_toArray, List.getElem_cons_succ, List.getElem_cons_zero, Act.put, List.setIfInBounds_toArray, List.set_cons_zero, List.set_cons_succ]
          refine wpAnyH_take (i := 15) (oi := _) (v := ?_) rfl (by as_aux_lemma => kernel_rfl) (by as_aux_lemma => kernel_rfl) (by as_aux_lemma => kernel_rfl) (fun _ _ _ h => h) (Or.inl ⟨by rfl, ?_⟩) hS.out ?_
          rotate_left
          · intro w1 hSw
            replace hSw : w1.heap[B]? = some (.cells #[.int .i64 d, .int .i64 s] 23 (0, 0)) ∧ w1.heap[C]? = some (.cells #[.int .i64 c] 3 (0, 0)) ∧ Below wo.heap.size wo w1 := hSw
            obtain ⟨s1, s2, s3⟩ := hSw
            obtain ⟨r0, r1⟩ := regcells s1
            have r2 := one_cell s2
            go_simp; with_reducible rfl
          simp only [List.getElem_toArray, List.getElem_cons_succ, List.getElem_cons_zero, Act.put, List.setIfInBounds_toArray, List.set_cons_zero, List.set_cons_succ]
          refine wpAnyH_take (i := 16) (oi := _) (v := ?_) rfl (by as_aux_lemma => kernel_rfl) (by as_aux_lemma => kernel_rfl) (by as_aux_lemma => kernel_rfl) (fun _ _ _ h => h) (Or.inl ⟨by rfl, ?_⟩) hS.out ?_
          rotate_left
          · intro w1 hSw
            replace hSw : w1.heap[B]? = some (.cells #[.int .i64 d, .int .i64 s] 23 (0, 0)) ∧ w1.heap[C]? = some (.cells #[.int .i64 c] 3 (0, 0)) ∧ Below wo.heap.size wo w1 := hSw
            obtain ⟨s1, s2, s3⟩ := hSw
            obtain ⟨r0, r1⟩ := regcells s1
            have r2 := one_cell s2
            go_simp; with_reducible rfl
          simp only [List.getElem_toArray, List.getElem_cons_succ, List.getElem_cons_zero, Act.put, List.setIfInBounds_toArray, List.set_cons_zero, List.set_cons_succ]
          refine wpAnyH_take (i := 17) (oi := _) (v := ?_) rfl (by as_aux_lemma => kernel_rfl) (by as_aux_lemma => kernel_rfl) (by as_aux_lemma => kernel_rfl) (fun _ _ _ h => h) (Or.inl ⟨by rfl, ?_⟩) hS.out ?_
          rotate_left
          · intro w1 hSw
            replace hSw : w1.heap[B]? = some (.cells #[.int .i64 d, .int .i64 s] 23 (0, 0)) ∧ w1.heap[C]? = some (.cells #[.int .i64 c] 3 (0, 0)) ∧ Below wo.heap.size wo w1 := hSw
            obtain ⟨s1, s2, s3⟩ := hSw
            obtain ⟨r0, r1⟩ := regcells s1
            have r2 := one_cell s2
            go_simp; with_reducible rfl
          simp only [List.getElem_toArray, List.getElem_cons_succ, List.getElem_cons_zero, Act.put, List.setIfInBounds_toArray, List.set_cons_zero, List.set_cons_succ]
          refine wpAnyH_done (by as_aux_lemma => kernel_rfl) ?_ _
          go_wp2_with fail
          go_meet
          exact ⟨by rw [IntWalk.i64_in _ (by omega), q4], hS.out.2.2⟩
      case rest =>
      obtain ⟨rfl, hbc⟩ := hcut
      have gD := Lib.hid (box_step (w0 := w) g3 hbc)
      have sD := Lib.hid (box_step (w0 := w) s3 hbc)
      have hlD := hl3.below hbc
      have hbwD := hbw3.trans (hbc.mono hbw3.size)
      clear c0 c1 c2 g3 s3 hl3 hbw3 hbc hl2 hbr G2 S2 gg0 gg1 hbw2 q0 q1 q2 hbd1 hbd2 P3 k0 k1 k2 HEN hen1
      have hlt' := hlt
      clear hlt
      by_cases h32 : 32 ≤ l.length
      · have h32' : (32 : Int) ≤ (l.length : Int) := by omega
        go_wp2_with fail
        refine (awake_any _).mono ?_
        rintro e w5 ⟨rfl, hb5⟩
        have hbw := hbwD.trans (hb5.mono hbwD.size)
        go_wp2
        go_ret
        exact ⟨rfl, hbw⟩
      have h32' : ¬ (32 : Int) ≤ (l.length : Int) := by omega
      by_cases hl0 : l.length = 0
      · have hl0' : (((l.length : Nat) : Int) == 0) = true := by rw [hl0]; rfl
        go_wp2_with fail
        refine (awake_any _).mono ?_
        rintro e w5 ⟨rfl, hb5⟩
        have hbw := hbwD.trans (hb5.mono hbwD.size)
        go_wp2
        go_ret
        exact ⟨rfl, hbw⟩
      have hl0' : (((l.length : Nat) : Int) == 0) = false := by rw [beq_eq_false_iff_ne]; omega
      obtain ⟨b1, off1, e1, hb1l, hcl⟩ := hlD.at (by omega)
      subst e1
      obtain ⟨N, hN⟩ : ∃ N, l.length = N + 1 := ⟨l.length - 1, by omega⟩
      have cx := hcl N (by omega)
      obtain ⟨x, hx⟩ : ∃ x, l.getD N 0 = x := ⟨_, rfl⟩
      rw [hx] at cx
      have HN := Lib.hid hN
      have HX := Lib.hid hx
      have hxb := runs_bd l Z3.out N (by omega)
      rw [hx] at hxb
      obtain ⟨hx0, hx1⟩ := hxb
      have ex : ((l.length : Nat) : Int) - 1 = (N : Int) := by omega
      have i2 : (0 : Int) ≤ (N : Int) := by omega
      have i3 : (N : Int) < (l.length : Int) := by omega
      have h32n : (l.length : Int) ≤ 40 := by omega
      have hvc : (N : Int) ≤ (vc : Int) := by
        obtain ⟨_, ⟨h, _⟩ | ⟨_, _, _, e, h, _⟩⟩ := hlD
        · rw [h] at hN; simp at hN
        · simp only [Value.slice.injEq] at e; omega
      clear hcl hN hx h32 hl0
      by_cases hxp : x ≤ 0
      · go_wp2_with fail
        refine (awake_any _).mono ?_
        rintro e w5 ⟨rfl, hb5⟩
        have hbw := hbwD.trans (hb5.mono hbwD.size)
        go_wp2
        go_ret
        exact ⟨rfl, hbw⟩
      have hxp' : 0 < x := by omega
      have hlx : l = l.take N ++ [x] := by
        have := take_snoc l N (by have := HN.out; omega)
        rw [HX.out] at this
        rw [← this, List.take_of_length_le (by have := HN.out; omega)]
      obtain ⟨L, hL⟩ : ∃ L, l.take N = L := ⟨_, rfl⟩
      have hLt := IntsAt.take hlD N (by have := HN.out; omega)
      rw [hL] at hLt hlx
      have hLl : L.length = N := by rw [← hL, List.length_take]; have := HN.out; omega
      have he0 := HPE.out
      have hfacts := last_facts hlx Z1.out (by omega) Z3.out ⟨hc0, hc1⟩ hxp' he0
      obtain ⟨A1, v1⟩ : ∃ A, pulsesAll d s c L = A := ⟨_, rfl⟩
      obtain ⟨B1, v2⟩ : ∃ A, pulsesBo d s c L = A := ⟨_, rfl⟩
      obtain ⟨A2, v3⟩ : ∃ A, pulsesAll d s c (l ++ [-x]) = A := ⟨_, rfl⟩
      obtain ⟨B2, v4⟩ : ∃ A, pulsesBo d s c (l ++ [-x]) = A := ⟨_, rfl⟩
      rw [v1, v2, v3, v4, HPA.out, HPB.out] at hfacts
      obtain ⟨e1, e2, ⟨k20, k21⟩, ⟨k30, k31⟩, ⟨k10, k11⟩, ⟨k40, k41⟩, ⟨k50, k51⟩, ⟨k60, k61⟩, w1', w20, w21⟩ := hfacts
      have V1 := Lib.hid v1
      have V2 := Lib.hid v2
      have V3 := Lib.hid v3
      have V4 := Lib.hid v4
      have E1 := Lib.hid e1
      have E2 := Lib.hid e2
      have HLN := Lib.hid hLl
      have HLX := Lib.hid hlx
      clear v1 v2 v3 v4 e1 e2 hLl hlx hL he0 EA EB hxp
      have ew : IntKind.i64.wrap (N : Int) = (N : Int) := IntWalk.i64_in _ (by omega)
      go_wp2_with fail
      refine wp_region_held_drew (S := fun w' => Below wc.heap.size wc w') (by as_aux_lemma => kernel_rfl) (Below.refl _ _).drew (fun hHeld => ?_)
      obtain ⟨X0, hX0⟩ : ∃ X0, X0 = wc.drew := ⟨_, rfl⟩
      have hS := Lib.hid hHeld
      rw [← hX0] at hS ⊢
      clear hX0 hHeld
      refine wpAnyH_take (i := 0) (oi := _) (v := ?_) rfl (by as_aux_lemma => kernel_rfl) (by as_aux_lemma => kernel_rfl) (by as_aux_lemma => kernel_rfl) (fun _ _ _ h => h) (Or.inl ⟨by rfl, ?_⟩) hS.out ?_
      rotate_left
      · intro w1 hSw
        replace hSw : Below wc.heap.size wc w1 := hSw
        obtain ⟨r0, r1⟩ := regcells (box_step (w0 := w) gD.out hSw)
        have r2 := one_cell (box_step (w0 := w) sD.out hSw)
        have r3 := (hSw.cell (p := ⟨b1, off1 + N, none⟩) hb1l).trans cx
        go_simp; with_reducible rfl
      simp only [List.getElem_toArray, List.getElem_cons_succ, List.getElem_cons_zero, Act.put, List.setIfInBounds_toArray, List.set_cons_zero, List.set_cons_succ]
      refine wpAnyH_take (i := 1) (oi := _) (v := ?_) rfl (by as_aux_lemma => kernel_rfl) (by as_aux_lemma => kernel_rfl) (by as_aux_lemma => kernel_rfl) (fun _ _ _ h => h) (Or.inl ⟨by rfl, ?_⟩) hS.out ?_
      rotate_left
      · intro w1 hSw
        replace hSw : Below wc.heap.size wc w1 := hSw
        obtain ⟨r0, r1⟩ := regcells (box_step (w0 := w) gD.out hSw)
        have r2 := one_cell (box_step (w0 := w) sD.out hSw)
        have r3 := (hSw.cell (p := ⟨b1, off1 + N, none⟩) hb1l).trans cx
        go_simp; with_reducible rfl
      simp only [List.getElem_toArray, List.getElem_cons_succ, List.getElem_cons_zero, Act.put, List.setIfInBounds_toArray, List.set_cons_zero, List.set_cons_succ]
      refine wpAnyH_take (i := 2) (oi := _) (v := ?_) rfl (by as_aux_lemma => kernel_rfl) (by as_aux_lemma => kernel_rfl) (by as_aux_lemma => kernel_rfl) (fun _ _ _ h => h) (Or.inl ⟨by rfl, ?_⟩) hS.out ?_
      rotate_left
      · intro w1 hSw
        replace hSw : Below wc.heap.size wc w1 := hSw
        obtain ⟨r0, r1⟩ := regcells (box_step (w0 := w) gD.out hSw)
        have r2 := one_cell (box_step (w0 := w) sD.out hSw)
        have r3 := (hSw.cell (p := ⟨b1, off1 + N, none⟩) hb1l).trans cx
        go_simp; with_reducible rfl
      simp only [List.getElem_toArray, List.getElem_cons_succ, List.getElem_cons_zero, Act.put, List.setIfInBounds_toArray, List.set_cons_zero, List.set_cons_succ]
      refine wpAnyH_take (i := 3) (oi := _) (v := ?_) rfl (by as_aux_lemma => kernel_rfl) (by as_aux_lemma => kernel_rfl) (by as_aux_lemma => kernel_rfl) (fun _ _ _ h => h) (Or.inl ⟨by rfl, ?_⟩) hS.out ?_
      rotate_left
      · intro w1 hSw
        replace hSw : Below wc.heap.size wc w1 := hSw
        obtain ⟨r0, r1⟩ := regcells (box_step (w0 := w) gD.out hSw)
        have r2 := one_cell (box_step (w0 := w) sD.out hSw)
        have r3 := (hSw.cell (p := ⟨b1, off1 + N, none⟩) hb1l).trans cx
        go_simp; with_reducible rfl
      simp only [List.getElem_toArray, List.getElem_cons_succ, List.getElem_cons_zero, Act.put, List.setIfInBounds_toArray, List.set_cons_zero, List.set_cons_succ]
      refine wpAnyH_take (i := 4) (oi := _) (v := ?_) rfl (by as_aux_lemma => kernel_rfl) (by as_aux_lemma => kernel_rfl) (by as_aux_lemma => kernel_rfl) (fun _ _ _ h => h) (Or.inl ⟨by rfl, ?_⟩) hS.out ?_
      rotate_left
      · intro w1 hSw
        replace hSw : Below wc.heap.size wc w1 := hSw
        obtain ⟨r0, r1⟩ := regcells (box_step (w0 := w) gD.out hSw)
        have r2 := one_cell (box_step (w0 := w) sD.out hSw)
        have r3 := (hSw.cell (p := ⟨b1, off1 + N, none⟩) hb1l).trans cx
        go_simp; with_reducible rfl
      simp only [List.getElem_toArray, List.getElem_cons_succ, List.getElem_cons_zero, Act.put, List.setIfInBounds_toArray, List.set_cons_zero, List.set_cons_succ]
      refine wpAnyH_take (i := 5) (oi := _) (v := ?_) rfl (by as_aux_lemma => kernel_rfl) (by as_aux_lemma => kernel_rfl) (by as_aux_lemma => kernel_rfl) (fun _ _ _ h => h) (Or.inl ⟨by rfl, ?_⟩) hS.out ?_
      rotate_left
      · intro w1 hSw
        replace hSw : Below wc.heap.size wc w1 := hSw
        obtain ⟨r0, r1⟩ := regcells (box_step (w0 := w) gD.out hSw)
        have r2 := one_cell (box_step (w0 := w) sD.out hSw)
        have r3 := (hSw.cell (p := ⟨b1, off1 + N, none⟩) hb1l).trans cx
        go_simp; with_reducible rfl
      simp only [List.getElem_toArray, List.getElem_cons_succ, List.getElem_cons_zero, Act.put, List.setIfInBounds_toArray, List.set_cons_zero, List.set_cons_succ]
      refine wpAnyH_take (i := 6) (oi := _) (v := ?_) rfl (by as_aux_lemma => kernel_rfl) (by as_aux_lemma => kernel_rfl) (by as_aux_lemma => kernel_rfl) (fun _ _ _ h => h) (Or.inl ⟨by rfl, ?_⟩) hS.out ?_
      rotate_left
      · intro w1 hSw
        replace hSw : Below wc.heap.size wc w1 := hSw
        obtain ⟨r0, r1⟩ := regcells (box_step (w0 := w) gD.out hSw)
        have r2 := one_cell (box_step (w0 := w) sD.out hSw)
        have r3 := (hSw.cell (p := ⟨b1, off1 + N, none⟩) hb1l).trans cx
        go_simp; with_reducible rfl
      simp only [List.getElem_toArray, List.getElem_cons_succ, List.getElem_cons_zero, Act.put, List.setIfInBounds_toArray, List.set_cons_zero, List.set_cons_succ]
      refine wpAnyH_all (rs := [7]) (by as_aux_lemma => kernel_rfl) (by simp) ?_
      intro i hi; obtain rfl := List.mem_singleton.1 hi; clear hi
      refine wpOp_step rfl (fun K3 hK3 => ?_)
      have HK3 := Lib.hid hK3
      clear hK3
      rw [if_pos (by rfl)]
      go_simp
      refine (pulses_any d s c L _ _ (hLt.below hS.out)).mono ?_
      rintro e x7 ⟨rfl, hy7⟩
      rw [V1.out, V2.out, E1.out]
      have hS7 := Lib.hid (hS.out.trans (hy7.mono hS.out.size))
      clear hy7
      refine HK3.out _ _ ⟨hS7.out, ?_⟩
      clear HK3 K3
      try simp only [List.getElem_toArray, List.getElem_cons_succ, List.getElem_cons_zero, Act.put, List.setIfInBounds_toArray, List.set_cons_zero, List.set_cons_succ]
      refine wpAnyH_take (i := 8) (oi := _) (v := ?_) rfl (by as_aux_lemma => kernel_rfl) (by as_aux_lemma => kernel_rfl) (by as_aux_lemma => kernel_rfl) (fun _ _ _ h => h) (Or.inl ⟨by rfl, ?_⟩) hS7.out ?_
      rotate_left
      · intro w1 hSw
        replace hSw : Below wc.heap.size wc w1 := hSw
        obtain ⟨r0, r1⟩ := regcells (box_step (w0 := w) gD.out hSw)
        have r2 := one_cell (box_step (w0 := w) sD.out hSw)
        have r3 := (hSw.cell (p := ⟨b1, off1 + N, none⟩) hb1l).trans cx
        go_simp; with_reducible rfl
      simp only [List.getElem_toArray, List.getElem_cons_succ, List.getElem_cons_zero, Act.put, List.setIfInBounds_toArray, List.set_cons_zero, List.set_cons_succ]
      refine wpAnyH_take (i := 9) (oi := _) (v := ?_) rfl (by as_aux_lemma => kernel_rfl) (by as_aux_lemma => kernel_rfl) (by as_aux_lemma => kernel_rfl) (fun _ _ _ h => h) (Or.inl ⟨by rfl, ?_⟩) hS7.out ?_
      rotate_left
      · intro w1 hSw
        replace hSw : Below wc.heap.size wc w1 := hSw
        obtain ⟨r0, r1⟩ := regcells (box_step (w0 := w) gD.out hSw)
        have r2 := one_cell (box_step (w0 := w) sD.out hSw)
        have r3 := (hSw.cell (p := ⟨b1, off1 + N, none⟩) hb1l).trans cx
        go_simp; with_reducible rfl
      simp only [List.getElem_toArray, List.getElem_cons_succ, List.getElem_cons_zero, Act.put, List.setIfInBounds_toArray, List.set_cons_zero, List.set_cons_succ]
      refine wpAnyH_take (i := 10) (oi := _) (v := ?_) rfl (by as_aux_lemma => kernel_rfl) (by as_aux_lemma => kernel_rfl) (by as_aux_lemma => kernel_rfl) (fun _ _ _ h => h) (Or.inl ⟨by rfl, ?_⟩) hS7.out ?_
      rotate_left
      · intro w1 hSw
        replace hSw : Below wc.heap.size wc w1 := hSw
        obtain ⟨r0, r1⟩ := regcells (box_step (w0 := w) gD.out hSw)
        have r2 := one_cell (box_step (w0 := w) sD.out hSw)
        have r3 := (hSw.cell (p := ⟨b1, off1 + N, none⟩) hb1l).trans cx
        go_simp; with_reducible rfl
      simp only [List.getElem_toArray, List.getElem_cons_succ, List.getElem_cons_zero, Act.put, List.setIfInBounds_toArray, List.set_cons_zero, List.set_cons_succ]
      refine wpAnyH_take (i := 11) (oi := _) (v := ?_) rfl (by as_aux_lemma => kernel_rfl) (by as_aux_lemma => kernel_rfl) (by as_aux_lemma => kernel_rfl) (fun _ _ _ h => h) (Or.inl ⟨by rfl, ?_⟩) hS7.out ?_
      rotate_left
      · intro w1 hSw
        replace hSw : Below wc.heap.size wc w1 := hSw
        obtain ⟨r0, r1⟩ := regcells (box_step (w0 := w) gD.out hSw)
        have r2 := one_cell (box_step (w0 := w) sD.out hSw)
        have r3 := (hSw.cell (p := ⟨b1, off1 + N, none⟩) hb1l).trans cx
        go_simp; with_reducible rfl
      simp only [List.getElem_toArray, List.getElem_cons_succ, List.getElem_cons_zero, Act.put, List.setIfInBounds_toArray, List.set_cons_zero, List.set_cons_succ]
      refine wpAnyH_take (i := 12) (oi := _) (v := ?_) rfl (by as_aux_lemma => kernel_rfl) (by as_aux_lemma => kernel_rfl) (by as_aux_lemma => kernel_rfl) (fun _ _ _ h => h) (Or.inl ⟨by rfl, ?_⟩) hS7.out ?_
      rotate_left
      · intro w1 hSw
        replace hSw : Below wc.heap.size wc w1 := hSw
        obtain ⟨r0, r1⟩ := regcells (box_step (w0 := w) gD.out hSw)
        have r2 := one_cell (box_step (w0 := w) sD.out hSw)
        have r3 := (hSw.cell (p := ⟨b1, off1 + N, none⟩) hb1l).trans cx
        go_simp; with_reducible rfl
      simp only [List.getElem_toArray, List.getElem_cons_succ, List.getElem_cons_zero, Act.put, List.setIfInBounds_toArray, List.set_cons_zero, List.set_cons_succ]
      refine wpAnyH_take (i := 13) (oi := _) (v := ?_) rfl (by as_aux_lemma => kernel_rfl) (by as_aux_lemma => kernel_rfl) (by as_aux_lemma => kernel_rfl) (fun _ _ _ h => h) (Or.inl ⟨by rfl, ?_⟩) hS7.out ?_
      rotate_left
      · intro w1 hSw
        replace hSw : Below wc.heap.size wc w1 := hSw
        obtain ⟨r0, r1⟩ := regcells (box_step (w0 := w) gD.out hSw)
        have r2 := one_cell (box_step (w0 := w) sD.out hSw)
        have r3 := (hSw.cell (p := ⟨b1, off1 + N, none⟩) hb1l).trans cx
        go_simp; with_reducible rfl
      simp only [List.getElem_toArray, List.getElem_cons_succ, List.getElem_cons_zero, Act.put, List.setIfInBounds_toArray, List.set_cons_zero, List.set_cons_succ]
      refine wpAnyH_take (i := 14) (oi := _) (v := ?_) rfl (by as_aux_lemma => kernel_rfl) (by as_aux_lemma => kernel_rfl) (by as_aux_lemma => kernel_rfl) (fun _ _ _ h => h) (Or.inl ⟨by rfl, ?_⟩) hS7.out ?_
      rotate_left
      · intro w1 hSw
        replace hSw : Below wc.heap.size wc w1 := hSw
        obtain ⟨r0, r1⟩ := regcells (box_step (w0 := w) gD.out hSw)
        have r2 := one_cell (box_step (w0 := w) sD.out hSw)
        have r3 := (hSw.cell (p := ⟨b1, off1 + N, none⟩) hb1l).trans cx
        go_simp; with_reducible rfl
      simp only [List.getElem_toArray, List.getElem_cons_succ, List.getElem_cons_zero, Act.put, List.setIfInBounds_toArray, List.set_cons_zero, List.set_cons_succ]
      refine wpAnyH_done (by as_aux_lemma => kernel_rfl) ?_ _
      go_wp2_with fail
      have gE := Lib.hid (box_step (w0 := w) gD.out hS7.out)
      have sE := Lib.hid (box_step (w0 := w) sD.out hS7.out)
      have hlE := hlD.below hS7.out
      have hLE := hLt.below hS7.out
      have hbwE := hbwD.trans (hS7.out.mono hbwD.size)
      have cxE := (hS7.out.cell (p := ⟨b1, off1 + N, none⟩) hb1l).trans cx
      have hb1E : b1 < x7.heap.size := Nat.lt_of_lt_of_le hb1l hS7.out.size
      have en : IntKind.i64.wrap (-x) = -x := IntWalk.i64_in _ (by omega)
      clear hS hS7 gD sD hlD hLt hbwD cx hb1l
      go_cut [19, 20, 21] (fun v19 v20 v21 wx => v19 = .int .i64 (A2 - B2) ∧ v20 = .int .i64 A2 ∧ v21 = .int .i64 0 ∧ Below x7.heap.size x7 wx)
      case first =>
        refine wp_region_held_drew (S := fun w' => Below x7.heap.size x7 w') (by as_aux_lemma => kernel_rfl) (Below.refl _ _).drew (fun hHeld => ?_)
        obtain ⟨y0, hy0⟩ : ∃ y0, y0 = x7.drew := ⟨_, rfl⟩
        have hT := Two.start x7
        rw [← hy0] at hT ⊢
        clear hy0 hHeld
        refine wpAnyH_take (i := 0) (oi := _) (v := ?_) rfl (by as_aux_lemma => kernel_rfl) (by as_aux_lemma => kernel_rfl) (by as_aux_lemma => kernel_rfl) (fun _ _ _ h => h) (Or.inl ⟨by rfl, ?_⟩) hT.below ?_
        rotate_left
        · intro w1 hSw
          replace hSw : Below x7.heap.size x7 w1 := hSw
          obtain ⟨r0, r1⟩ := regcells (box_step (w0 := w) gE.out hSw)
          have r2 := one_cell (box_step (w0 := w) sE.out hSw)
          have r3 := (hSw.cell (p := ⟨b1, off1 + N, none⟩) hb1E).trans cxE
          go_simp; with_reducible rfl
        simp only [List.getElem_toArray, List.getElem_cons_succ, List.getElem_cons_zero, Act.put, List.setIfInBounds_toArray, List.set_cons_zero, List.set_cons_succ]
        refine wpAnyH_take (i := 2) (oi := _) (v := ?_) rfl (by as_aux_lemma => kernel_rfl) (by as_aux_lemma => kernel_rfl) (by as_aux_lemma => kernel_rfl) (fun _ _ _ h => h) (Or.inl ⟨by rfl, ?_⟩) hT.below ?_
        rotate_left
        · intro w1 hSw
          replace hSw : Below x7.heap.size x7 w1 := hSw
          obtain ⟨r0, r1⟩ := regcells (box_step (w0 := w) gE.out hSw)
          have r2 := one_cell (box_step (w0 := w) sE.out hSw)
          have r3 := (hSw.cell (p := ⟨b1, off1 + N, none⟩) hb1E).trans cxE
          go_simp; with_reducible rfl
        simp only [List.getElem_toArray, List.getElem_cons_succ, List.getElem_cons_zero, Act.put, List.setIfInBounds_toArray, List.set_cons_zero, List.set_cons_succ]
        refine wpAnyH_take (i := 4) (oi := _) (v := ?_) rfl (by as_aux_lemma => kernel_rfl) (by as_aux_lemma => kernel_rfl) (by as_aux_lemma => kernel_rfl) (fun _ _ _ h => h) (Or.inl ⟨by rfl, ?_⟩) hT.below ?_
        rotate_left
        · intro w1 hSw
          replace hSw : Below x7.heap.size x7 w1 := hSw
          obtain ⟨r0, r1⟩ := regcells (box_step (w0 := w) gE.out hSw)
          have r2 := one_cell (box_step (w0 := w) sE.out hSw)
          have r3 := (hSw.cell (p := ⟨b1, off1 + N, none⟩) hb1E).trans cxE
          go_simp; with_reducible rfl
        simp only [List.getElem_toArray, List.getElem_cons_succ, List.getElem_cons_zero, Act.put, List.setIfInBounds_toArray, List.set_cons_zero, List.set_cons_succ]
        refine wpAnyH_take (i := 5) (oi := _) (v := ?_) rfl (by as_aux_lemma => kernel_rfl) (by as_aux_lemma => kernel_rfl) (by as_aux_lemma => kernel_rfl) (fun _ _ _ h => h) (Or.inl ⟨by rfl, ?_⟩) hT.below ?_
        rotate_left
        · intro w1 hSw
          replace hSw : Below x7.heap.size x7 w1 := hSw
          obtain ⟨r0, r1⟩ := regcells (box_step (w0 := w) gE.out hSw)
          have r2 := one_cell (box_step (w0 := w) sE.out hSw)
          have r3 := (hSw.cell (p := ⟨b1, off1 + N, none⟩) hb1E).trans cxE
          go_simp; with_reducible rfl
        simp only [List.getElem_toArray, List.getElem_cons_succ, List.getElem_cons_zero, Act.put, List.setIfInBounds_toArray, List.set_cons_zero, List.set_cons_succ]
        refine wpAnyH_take (i := 6) (oi := _) (v := ?_) rfl (by as_aux_lemma => kernel_rfl) (by as_aux_lemma => kernel_rfl) (by as_aux_lemma => kernel_rfl) (fun _ _ _ h => h) (Or.inl ⟨by rfl, ?_⟩) hT.below ?_
        rotate_left
        · intro w1 hSw
          replace hSw : Below x7.heap.size x7 w1 := hSw
          obtain ⟨r0, r1⟩ := regcells (box_step (w0 := w) gE.out hSw)
          have r2 := one_cell (box_step (w0 := w) sE.out hSw)
          have r3 := (hSw.cell (p := ⟨b1, off1 + N, none⟩) hb1E).trans cxE
          go_simp; with_reducible rfl
        simp only [List.getElem_toArray, List.getElem_cons_succ, List.getElem_cons_zero, Act.put, List.setIfInBounds_toArray, List.set_cons_zero, List.set_cons_succ]
        refine wpAnyH_take (i := 7) (oi := _) (v := ?_) rfl (by as_aux_lemma => kernel_rfl) (by as_aux_lemma => kernel_rfl) (by as_aux_lemma => kernel_rfl) (fun _ _ _ h => h) (Or.inl ⟨by rfl, ?_⟩) hT.below ?_
        rotate_left
        · intro w1 hSw
          replace hSw : Below x7.heap.size x7 w1 := hSw
          obtain ⟨r0, r1⟩ := regcells (box_step (w0 := w) gE.out hSw)
          have r2 := one_cell (box_step (w0 := w) sE.out hSw)
          have r3 := (hSw.cell (p := ⟨b1, off1 + N, none⟩) hb1E).trans cxE
          go_simp; with_reducible rfl
        simp only [List.getElem_toArray, List.getElem_cons_succ, List.getElem_cons_zero, Act.put, List.setIfInBounds_toArray, List.set_cons_zero, List.set_cons_succ]
        refine wpAnyH_take (i := 8) (oi := _) (v := ?_) rfl (by as_aux_lemma => kernel_rfl) (by as_aux_lemma => kernel_rfl) (by as_aux_lemma => kernel_rfl) (fun _ _ _ h => h) (Or.inl ⟨by rfl, ?_⟩) hT.below ?_
        rotate_left
        · intro w1 hSw
          replace hSw : Below x7.heap.size x7 w1 := hSw
          obtain ⟨r0, r1⟩ := regcells (box_step (w0 := w) gE.out hSw)
          have r2 := one_cell (box_step (w0 := w) sE.out hSw)
          have r3 := (hSw.cell (p := ⟨b1, off1 + N, none⟩) hb1E).trans cxE
          go_simp; with_reducible rfl
        simp only [List.getElem_toArray, List.getElem_cons_succ, List.getElem_cons_zero, Act.put, List.setIfInBounds_toArray, List.set_cons_zero, List.set_cons_succ]
        refine wpAnyH_take (i := 9) (oi := _) (v := ?_) rfl (by as_aux_lemma => kernel_rfl) (by as_aux_lemma => kernel_rfl) (by as_aux_lemma => kernel_rfl) (fun _ _ _ h => h) (Or.inl ⟨by rfl, ?_⟩) hT.below ?_
        rotate_left
        · intro w1 hSw
          replace hSw : Below x7.heap.size x7 w1 := hSw
          obtain ⟨r0, r1⟩ := regcells (box_step (w0 := w) gE.out hSw)
          have r2 := one_cell (box_step (w0 := w) sE.out hSw)
          have r3 := (hSw.cell (p := ⟨b1, off1 + N, none⟩) hb1E).trans cxE
          go_simp; with_reducible rfl
        simp only [List.getElem_toArray, List.getElem_cons_succ, List.getElem_cons_zero, Act.put, List.setIfInBounds_toArray, List.set_cons_zero, List.set_cons_succ]
        refine wpAnyH_take (i := 10) (oi := _) (v := ?_) rfl (by as_aux_lemma => kernel_rfl) (by as_aux_lemma => kernel_rfl) (by as_aux_lemma => kernel_rfl) (fun _ _ _ h => h) (Or.inl ⟨by rfl, ?_⟩) hT.below ?_
        rotate_left
        · intro w1 hSw
          replace hSw : Below x7.heap.size x7 w1 := hSw
          obtain ⟨r0, r1⟩ := regcells (box_step (w0 := w) gE.out hSw)
          have r2 := one_cell (box_step (w0 := w) sE.out hSw)
          have r3 := (hSw.cell (p := ⟨b1, off1 + N, none⟩) hb1E).trans cxE
          go_simp; with_reducible rfl
        simp only [List.getElem_toArray, List.getElem_cons_succ, List.getElem_cons_zero, Act.put, List.setIfInBounds_toArray, List.set_cons_zero, List.set_cons_succ]
        refine wpAnyH_take (i := 13) (oi := _) (v := ?_) rfl (by as_aux_lemma => kernel_rfl) (by as_aux_lemma => kernel_rfl) (by as_aux_lemma => kernel_rfl) (fun _ _ _ h => h) (Or.inl ⟨by rfl, ?_⟩) hT.below ?_
        rotate_left
        · intro w1 hSw
          replace hSw : Below x7.heap.size x7 w1 := hSw
          obtain ⟨r0, r1⟩ := regcells (box_step (w0 := w) gE.out hSw)
          have r2 := one_cell (box_step (w0 := w) sE.out hSw)
          have r3 := (hSw.cell (p := ⟨b1, off1 + N, none⟩) hb1E).trans cxE
          go_simp; with_reducible rfl
        simp only [List.getElem_toArray, List.getElem_cons_succ, List.getElem_cons_zero, Act.put, List.setIfInBounds_toArray, List.set_cons_zero, List.set_cons_succ]
        refine wpAnyH_all (rs := [1, 11]) (by as_aux_lemma => kernel_rfl) (by simp) ?_
        intro i hi
        rcases (by simpa using hi : i = 1 ∨ i = 11) with rfl | rfl <;> clear hi
        ·
          refine wpOp_step rfl (fun K3 hK3 => ?_)
          have HK3 := Lib.hid hK3
          clear hK3
          rw [if_pos (by rfl)]
          go_simp
          replace hT := hT.litA #[] 0 (by decide) rfl
          obtain ⟨g1, eg1⟩ : ∃ g, y0.heap.size = g := ⟨_, rfl⟩
          obtain ⟨y1, eY⟩ : ∃ Y, y0.alloc (.cells #[] 3) = Y := ⟨_, rfl⟩
          rw [eg1, eY] at hT
          rw [eY, eg1]
          clear eY eg1
          refine HK3.out _ _ ⟨hT.below, ?_⟩
          clear HK3 K3
          try simp only [List.getElem_toArray, List.getElem_cons_succ, List.getElem_cons_zero, Act.put, List.setIfInBounds_toArray, List.set_cons_zero, List.set_cons_succ]
          refine wpAnyH_all (rs := [3, 11]) (by as_aux_lemma => kernel_rfl) (by simp) ?_
          intro i hi
          rcases (by simpa using hi : i = 3 ∨ i = 11) with rfl | rfl <;> clear hi
          ·
            refine wpOp_step rfl (fun K3 hK3 => ?_)
            have HK3 := Lib.hid hK3
            clear hK3
            rw [if_pos (by rfl)]
            simp only [List.getElem_toArray, List.getElem_cons_succ, List.getElem_cons_zero]
            refine wp_icopy (.tmp 171) (.tmp 172) (by rfl) (by rfl) hT (by rfl) (hlE.below hT.below) HNIL.out (by omega) (by decide) ?_
            replace hT := Lib.hid hT
            clear hT
            intro v1 y2 hT
            refine HK3.out _ _ ⟨hT.below, ?_⟩
            clear HK3 K3
            try simp only [List.getElem_toArray, List.getElem_cons_succ, List.getElem_cons_zero, Act.put, List.setIfInBounds_toArray, List.set_cons_zero, List.set_cons_succ]
            refine wpAnyH_all (rs := [11]) (by as_aux_lemma => kernel_rfl) (by simp) ?_
            intro i hi; obtain rfl := List.mem_singleton.1 hi; clear hi
            refine wpOp_step rfl (fun K3 hK3 => ?_)
            have HK3 := Lib.hid hK3
            clear hK3
            rw [if_pos (by rfl)]
            go_simp
            replace hT : Two x7 _ _ _ _ 1 _ (([-x] : List Int).map (Value.int .i64)) := hT.litB #[.int .i64 (-x)] 1 (by decide) rfl
            obtain ⟨g2, eg2⟩ : ∃ g, y2.heap.size = g := ⟨_, rfl⟩
            obtain ⟨y3, eY⟩ : ∃ Y, y2.alloc (.cells #[.int .i64 (-x)] 3) = Y := ⟨_, rfl⟩
            rw [eg2, eY] at hT
            rw [eY, eg2]
            clear eY eg2
            refine HK3.out _ _ ⟨hT.below, ?_⟩
            clear HK3 K3
            try simp only [List.getElem_toArray, List.getElem_cons_succ, List.getElem_cons_zero, Act.put, List.setIfInBounds_toArray, List.set_cons_zero, List.set_cons_succ]
            refine wpAnyH_all (rs := [12]) (by as_aux_lemma => kernel_rfl) (by simp) ?_
            intro i hi; obtain rfl := List.mem_singleton.1 hi; clear hi
            refine wpOp_step rfl (fun K3 hK3 => ?_)
            have HK3 := Lib.hid hK3
            clear hK3
            rw [if_pos (by rfl)]
            simp only [List.getElem_toArray, List.getElem_cons_succ, List.getElem_cons_zero]
            refine wp_icopy (.tmp 173) (.tmp 181) (by rfl) (by rfl) hT (by rfl) (ints_own hT.b (by simp)) (nilOk_own hT.b) (by simp) (by omega) ?_
            intro v2 y4 hT2
            have hI : IntsAt y4 v2 (l ++ [-x]) := ints_own (by simpa using hT2.a) (by simp; omega)
            clear hT
            have hT := hT2
            clear hT2
            refine HK3.out _ _ ⟨hT.below, ?_⟩
            clear HK3 K3
            try simp only [List.getElem_toArray, List.getElem_cons_succ, List.getElem_cons_zero, Act.put, List.setIfInBounds_toArray, List.set_cons_zero, List.set_cons_succ]
            refine wpAnyH_all (rs := [14]) (by as_aux_lemma => kernel_rfl) (by simp) ?_
            intro i hi; obtain rfl := List.mem_singleton.1 hi; clear hi
            refine wpOp_step rfl (fun K3 hK3 => ?_)
            have HK3 := Lib.hid hK3
            clear hK3
            rw [if_pos (by rfl)]
            go_simp
            refine (pulses_any d s c (l ++ [-x]) v2 _ hI).mono ?_
            rintro e y5 ⟨rfl, hy⟩
            rw [V3.out, V4.out, E2.out]
            replace hT := hT.call hy
            refine HK3.out _ _ ⟨hT.below, ?_⟩
            clear HK3 K3
            try simp only [List.getElem_toArray, List.getElem_cons_succ, List.getElem_cons_zero, Act.put, List.setIfInBounds_toArray, List.set_cons_zero, List.set_cons_succ]
            refine wpAnyH_take (i := 15) (oi := _) (v := ?_) rfl (by as_aux_lemma => kernel_rfl) (by as_aux_lemma => kernel_rfl) (by as_aux_lemma => kernel_rfl) (fun _ _ _ h => h) (Or.inl ⟨by rfl, ?_⟩) hT.below ?_
            rotate_left
            · intro w1 hSw
              replace hSw : Below x7.heap.size x7 w1 := hSw
              obtain ⟨r0, r1⟩ := regcells (box_step (w0 := w) gE.out hSw)
              have r2 := one_cell (box_step (w0 := w) sE.out hSw)
              have r3 := (hSw.cell (p := ⟨b1, off1 + N, none⟩) hb1E).trans cxE
              go_simp; with_reducible rfl
            simp only [List.getElem_toArray, List.getElem_cons_succ, List.getElem_cons_zero, Act.put, List.setIfInBounds_toArray, List.set_cons_zero, List.set_cons_succ]
            refine wpAnyH_take (i := 16) (oi := _) (v := ?_) rfl (by as_aux_lemma => kernel_rfl) (by as_aux_lemma => kernel_rfl) (by as_aux_lemma => kernel_rfl) (fun _ _ _ h => h) (Or.inl ⟨by rfl, ?_⟩) hT.below ?_
            rotate_left
            · intro w1 hSw
              replace hSw : Below x7.heap.size x7 w1 := hSw
              obtain ⟨r0, r1⟩ := regcells (box_step (w0 := w) gE.out hSw)
              have r2 := one_cell (box_step (w0 := w) sE.out hSw)
              have r3 := (hSw.cell (p := ⟨b1, off1 + N, none⟩) hb1E).trans cxE
              go_simp; with_reducible rfl
            simp only [List.getElem_toArray, List.getElem_cons_succ, List.getElem_cons_zero, Act.put, List.setIfInBounds_toArray, List.set_cons_zero, List.set_cons_succ]
            refine wpAnyH_take (i := 17) (oi := _) (v := ?_) rfl (by as_aux_lemma => kernel_rfl) (by as_aux_lemma => kernel_rfl) (by as_aux_lemma => kernel_rfl) (fun _ _ _ h => h) (Or.inl ⟨by rfl, ?_⟩) hT.below ?_
            rotate_left
            · intro w1 hSw
              replace hSw : Below x7.heap.size x7 w1 := hSw
              obtain ⟨r0, r1⟩ := regcells (box_step (w0 := w) gE.out hSw)
              have r2 := one_cell (box_step (w0 := w) sE.out hSw)
              have r3 := (hSw.cell (p := ⟨b1, off1 + N, none⟩) hb1E).trans cxE
              go_simp; with_reducible rfl
            simp only [List.getElem_toArray, List.getElem_cons_succ, List.getElem_cons_zero, Act.put, List.setIfInBounds_toArray, List.set_cons_zero, List.set_cons_succ]
            refine wpAnyH_take (i := 18) (oi := _) (v := ?_) rfl (by as_aux_lemma => kernel_rfl) (by as_aux_lemma => kernel_rfl) (by as_aux_lemma => kernel_rfl) (fun _ _ _ h => h) (Or.inl ⟨by rfl, ?_⟩) hT.below ?_
            rotate_left
            · intro w1 hSw
              replace hSw : Below x7.heap.size x7 w1 := hSw
              obtain ⟨r0, r1⟩ := regcells (box_step (w0 := w) gE.out hSw)
              have r2 := one_cell (box_step (w0 := w) sE.out hSw)
              have r3 := (hSw.cell (p := ⟨b1, off1 + N, none⟩) hb1E).trans cxE
              go_simp; with_reducible rfl
            simp only [List.getElem_toArray, List.getElem_cons_succ, List.getElem_cons_zero, Act.put, List.setIfInBounds_toArray, List.set_cons_zero, List.set_cons_succ]
            refine wpAnyH_take (i := 19) (oi := _) (v := ?_) rfl (by as_aux_lemma => kernel_rfl) (by as_aux_lemma => kernel_rfl) (by as_aux_lemma => kernel_rfl) (fun _ _ _ h => h) (Or.inl ⟨by rfl, ?_⟩) hT.below ?_
            rotate_left
            · intro w1 hSw
              replace hSw : Below x7.heap.size x7 w1 := hSw
              obtain ⟨r0, r1⟩ := regcells (box_step (w0 := w) gE.out hSw)
              have r2 := one_cell (box_step (w0 := w) sE.out hSw)
              have r3 := (hSw.cell (p := ⟨b1, off1 + N, none⟩) hb1E).trans cxE
              go_simp; with_reducible rfl
            simp only [List.getElem_toArray, List.getElem_cons_succ, List.getElem_cons_zero, Act.put, List.setIfInBounds_toArray, List.set_cons_zero, List.set_cons_succ]
            refine wpAnyH_take (i := 20) (oi := _) (v := ?_) rfl (by as_aux_lemma => kernel_rfl) (by as_aux_lemma => kernel_rfl) (by as_aux_lemma => kernel_rfl) (fun _ _ _ h => h) (Or.inl ⟨by rfl, ?_⟩) hT.below ?_
            rotate_left
            · intro w1 hSw
              replace hSw : Below x7.heap.size x7 w1 := hSw
              obtain ⟨r0, r1⟩ := regcells (box_step (w0 := w) gE.out hSw)
              have r2 := one_cell (box_step (w0 := w) sE.out hSw)
              have r3 := (hSw.cell (p := ⟨b1, off1 + N, none⟩) hb1E).trans cxE
              go_simp; with_reducible rfl
            simp only [List.getElem_toArray, List.getElem_cons_succ, List.getElem_cons_zero, Act.put, List.setIfInBounds_toArray, List.set_cons_zero, List.set_cons_succ]
            refine wpAnyH_take (i := 21) (oi := _) (v := ?_) rfl (by as_aux_lemma => kernel_rfl) (by as_aux_lemma => kernel_rfl) (by as_aux_lemma => kernel_rfl) (fun _ _ _ h => h) (Or.inl ⟨by rfl, ?_⟩) hT.below ?_
            rotate_left
            · intro w1 hSw
              replace hSw : Below x7.heap.size x7 w1 := hSw
              obtain ⟨r0, r1⟩ := regcells (box_step (w0 := w) gE.out hSw)
              have r2 := one_cell (box_step (w0 := w) sE.out hSw)
              have r3 := (hSw.cell (p := ⟨b1, off1 + N, none⟩) hb1E).trans cxE
              go_simp; with_reducible rfl
            simp only [List.getElem_toArray, List.getElem_cons_succ, List.getElem_cons_zero, Act.put, List.setIfInBounds_toArray, List.set_cons_zero, List.set_cons_succ]
            refine wpAnyH_done (by as_aux_lemma => kernel_rfl) ?_ _
            go_wp2_with fail
            go_meet
            exact ⟨rfl, rfl, rfl, hT.below⟩
          ·
            refine wpOp_step rfl (fun K3 hK3 => ?_)
            have HK3 := Lib.hid hK3
            clear hK3
            rw [if_pos (by rfl)]
            go_simp
            replace hT : Two x7 _ _ _ _ 1 _ (([-x] : List Int).map (Value.int .i64)) := hT.litB #[.int .i64 (-x)] 1 (by decide) rfl
            obtain ⟨g2, eg2⟩ : ∃ g, y1.heap.size = g := ⟨_, rfl⟩
            obtain ⟨y2, eY⟩ : ∃ Y, y1.alloc (.cells #[.int .i64 (-x)] 3) = Y := ⟨_, rfl⟩
            rw [eg2, eY] at hT
            rw [eY, eg2]
            clear eY eg2
            refine HK3.out _ _ ⟨hT.below, ?_⟩
            clear HK3 K3
            try simp only [List.getElem_toArray, List.getElem_cons_succ, List.getElem_cons_zero, Act.put, List.setIfInBounds_toArray, List.set_cons_zero, List.set_cons_succ]
            refine wpAnyH_all (rs := [3]) (by as_aux_lemma => kernel_rfl) (by simp) ?_
            intro i hi; obtain rfl := List.mem_singleton.1 hi; clear hi
            refine wpOp_step rfl (fun K3 hK3 => ?_)
            have HK3 := Lib.hid hK3
            clear hK3
            rw [if_pos (by rfl)]
            simp only [List.getElem_toArray, List.getElem_cons_succ, List.getElem_cons_zero]
            refine wp_icopy (.tmp 171) (.tmp 172) (by rfl) (by rfl) hT (by rfl) (hlE.below hT.below) HNIL.out (by omega) (by decide) ?_
            replace hT := Lib.hid hT
            clear hT
            intro v1 y3 hT
            refine HK3.out _ _ ⟨hT.below, ?_⟩
            clear HK3 K3
            try simp only [List.getElem_toArray, List.getElem_cons_succ, List.getElem_cons_zero, Act.put, List.setIfInBounds_toArray, List.set_cons_zero, List.set_cons_succ]
            refine wpAnyH_all (rs := [12]) (by as_aux_lemma => kernel_rfl) (by simp) ?_
            intro i hi; obtain rfl := List.mem_singleton.1 hi; clear hi
            refine wpOp_step rfl (fun K3 hK3 => ?_)
            have HK3 := Lib.hid hK3
            clear hK3
            rw [if_pos (by rfl)]
            simp only [List.getElem_toArray, List.getElem_cons_succ, List.getElem_cons_zero]
            refine wp_icopy (.tmp 173) (.tmp 181) (by rfl) (by rfl) hT (by rfl) (ints_own hT.b (by simp)) (nilOk_own hT.b) (by simp) (by omega) ?_
            intro v2 y4 hT2
            have hI : IntsAt y4 v2 (l ++ [-x]) := ints_own (by simpa using hT2.a) (by simp; omega)
            clear hT
            have hT := hT2
            clear hT2
            refine HK3.out _ _ ⟨hT.below, ?_⟩
            clear HK3 K3
            try simp only [List.getElem_toArray, List.getElem_cons_succ, List.getElem_cons_zero, Act.put, List.setIfInBounds_toArray, List.set_cons_zero, List.set_cons_succ]
            refine wpAnyH_all (rs := [14]) (by as_aux_lemma => kernel_rfl) (by simp) ?_
            intro i hi; obtain rfl := List.mem_singleton.1 hi; clear hi
            refine wpOp_step rfl (fun K3 hK3 => ?_)
            have HK3 := Lib.hid hK3
            clear hK3
            rw [if_pos (by rfl)]
            go_simp
            refine (pulses_any d s c (l ++ [-x]) v2 _ hI).mono ?_
            rintro e y5 ⟨rfl, hy⟩
            rw [V3.out, V4.out, E2.out]
            replace hT := hT.call hy
            refine HK3.out _ _ ⟨hT.below, ?_⟩
            clear HK3 K3
            try simp only [List.getElem_toArray, List.getElem_cons_succ, List.getElem_cons_zero, Act.put, List.setIfInBounds_toArray, List.set_cons_zero, List.set_cons_succ]
            refine wpAnyH_take (i := 15) (oi := _) (v := ?_) rfl (by as_aux_lemma => kernel_rfl) (by as_aux_lemma => kernel_rfl) (by as_aux_lemma => kernel_rfl) (fun _ _ _ h => h) (Or.inl ⟨by rfl, ?_⟩) hT.below ?_
            rotate_left
            · intro w1 hSw
              replace hSw : Below x7.heap.size x7 w1 := hSw
              obtain ⟨r0, r1⟩ := regcells (box_step (w0 := w) gE.out hSw)
              have r2 := one_cell (box_step (w0 := w) sE.out hSw)
              have r3 := (hSw.cell (p := ⟨b1, off1 + N, none⟩) hb1E).trans cxE
              go_simp; with_reducible rfl
            simp only [List.getElem_toArray, List.getElem_cons_succ, List.getElem_cons_zero, Act.put, List.setIfInBounds_toArray, List.set_cons_zero, List.set_cons_succ]
            refine wpAnyH_take (i := 16) (oi := _) (v := ?_) rfl (by as_aux_lemma => kernel_rfl) (by as_aux_lemma => kernel_rfl) (by as_aux_lemma => kernel_rfl) (fun _ _ _ h => h) (Or.inl ⟨by rfl, ?_⟩) hT.below ?_
            rotate_left
            · intro w1 hSw
              replace hSw : Below x7.heap.size x7 w1 := hSw
              obtain ⟨r0, r1⟩ := regcells (box_step (w0 := w) gE.out hSw)
              have r2 := one_cell (box_step (w0 := w) sE.out hSw)
              have r3 := (hSw.cell (p := ⟨b1, off1 + N, none⟩) hb1E).trans cxE
              go_simp; with_reducible rfl
            simp only [List.getElem_toArray, List.getElem_cons_succ, List.getElem_cons_zero, Act.put, List.setIfInBounds_toArray, List.set_cons_zero, List.set_cons_succ]
            refine wpAnyH_take (i := 17) (oi := _) (v := ?_) rfl (by as_aux_lemma => kernel_rfl) (by as_aux_lemma => kernel_rfl) (by as_aux_lemma => kernel_rfl) (fun _ _ _ h => h) (Or.inl ⟨by rfl, ?_⟩) hT.below ?_
            rotate_left
            · intro w1 hSw
              replace hSw : Below x7.heap.size x7 w1 := hSw
              obtain ⟨r0, r1⟩ := regcells (box_step (w0 := w) gE.out hSw)
              have r2 := one_cell (box_step (w0 := w) sE.out hSw)
              have r3 := (hSw.cell (p := ⟨b1, off1 + N, none⟩) hb1E).trans cxE
              go_simp; with_reducible rfl
            simp only [List.getElem_toArray, List.getElem_cons_succ, List.getElem_cons_zero, Act.put, List.setIfInBounds_toArray, List.set_cons_zero, List.set_cons_succ]
            refine wpAnyH_take (i := 18) (oi := _) (v := ?_) rfl (by as_aux_lemma => kernel_rfl) (by as_aux_lemma => kernel_rfl) (by as_aux_lemma => kernel_rfl) (fun _ _ _ h => h) (Or.inl ⟨by rfl, ?_⟩) hT.below ?_
            rotate_left
            · intro w1 hSw
              replace hSw : Below x7.heap.size x7 w1 := hSw
              obtain ⟨r0, r1⟩ := regcells (box_step (w0 := w) gE.out hSw)
              have r2 := one_cell (box_step (w0 := w) sE.out hSw)
              have r3 := (hSw.cell (p := ⟨b1, off1 + N, none⟩) hb1E).trans cxE
              go_simp; with_reducible rfl
            simp only [List.getElem_toArray, List.getElem_cons_succ, List.getElem_cons_zero, Act.put, List.setIfInBounds_toArray, List.set_cons_zero, List.set_cons_succ]
            refine wpAnyH_take (i := 19) (oi := _) (v := ?_) rfl (by as_aux_lemma => kernel_rfl) (by as_aux_lemma => kernel_rfl) (by as_aux_lemma => kernel_rfl) (fun _ _ _ h => h) (Or.inl ⟨by rfl, ?_⟩) hT.below ?_
            rotate_left
            · intro w1 hSw
              replace hSw : Below x7.heap.size x7 w1 := hSw
              obtain ⟨r0, r1⟩ := regcells (box_step (w0 := w) gE.out hSw)
              have r2 := one_cell (box_step (w0 := w) sE.out hSw)
              have r3 := (hSw.cell (p := ⟨b1, off1 + N, none⟩) hb1E).trans cxE
              go_simp; with_reducible rfl
            simp only [List.getElem_toArray, List.getElem_cons_succ, List.getElem_cons_zero, Act.put, List.setIfInBounds_toArray, List.set_cons_zero, List.set_cons_succ]
            refine wpAnyH_take (i := 20) (oi := _) (v := ?_) rfl (by as_aux_lemma => kernel_rfl) (by as_aux_lemma => kernel_rfl) (by as_aux_lemma => kernel_rfl) (fun _ _ _ h => h) (Or.inl ⟨by rfl, ?_⟩) hT.below ?_
            rotate_left
            · intro w1 hSw
              replace hSw : Below x7.heap.size x7 w1 := hSw
              obtain ⟨r0, r1⟩ := regcells (box_step (w0 := w) gE.out hSw)
              have r2 := one_cell (box_step (w0 := w) sE.out hSw)
              have r3 := (hSw.cell (p := ⟨b1, off1 + N, none⟩) hb1E).trans cxE
              go_simp; with_reducible rfl
            simp only [List.getElem_toArray, List.getElem_cons_succ, List.getElem_cons_zero, Act.put, List.setIfInBounds_toArray, List.set_cons_zero, List.set_cons_succ]
            refine wpAnyH_take (i := 21) (oi := _) (v := ?_) rfl (by as_aux_lemma => kernel_rfl) (by as_aux_lemma => kernel_rfl) (by as_aux_lemma => kernel_rfl) (fun _ _ _ h => h) (Or.inl ⟨by rfl, ?_⟩) hT.below ?_
            rotate_left
            · intro w1 hSw
              replace hSw : Below x7.heap.size x7 w1 := hSw
              obtain ⟨r0, r1⟩ := regcells (box_step (w0 := w) gE.out hSw)
              have r2 := one_cell (box_step (w0 := w) sE.out hSw)
              have r3 := (hSw.cell (p := ⟨b1, off1 + N, none⟩) hb1E).trans cxE
              go_simp; with_reducible rfl
            simp only [List.getElem_toArray, List.getElem_cons_succ, List.getElem_cons_zero, Act.put, List.setIfInBounds_toArray, List.set_cons_zero, List.set_cons_succ]
            refine wpAnyH_done (by as_aux_lemma => kernel_rfl) ?_ _
            go_wp2_with fail
            go_meet
            exact ⟨rfl, rfl, rfl, hT.below⟩
        ·
          refine wpOp_step rfl (fun K3 hK3 => ?_)
          have HK3 := Lib.hid hK3
          clear hK3
          rw [if_pos (by rfl)]
          go_simp
          replace hT : Two x7 _ _ _ _ 1 _ (([-x] : List Int).map (Value.int .i64)) := hT.litB #[.int .i64 (-x)] 1 (by decide) rfl
          obtain ⟨g2, eg2⟩ : ∃ g, y0.heap.size = g := ⟨_, rfl⟩
          obtain ⟨y1, eY⟩ : ∃ Y, y0.alloc (.cells #[.int .i64 (-x)] 3) = Y := ⟨_, rfl⟩
          rw [eg2, eY] at hT
          rw [eY, eg2]
          clear eY eg2
          refine HK3.out _ _ ⟨hT.below, ?_⟩
          clear HK3 K3
          try simp only [List.getElem_toArray, List.getElem_cons_succ, List.getElem_cons_zero, Act.put, List.setIfInBounds_toArray, List.set_cons_zero, List.set_cons_succ]
          refine wpAnyH_all (rs := [1]) (by as_aux_lemma => kernel_rfl) (by simp) ?_
          intro i hi; obtain rfl := List.mem_singleton.1 hi; clear hi
          refine wpOp_step rfl (fun K3 hK3 => ?_)
          have HK3 := Lib.hid hK3
          clear hK3
          rw [if_pos (by rfl)]
          go_simp
          replace hT := hT.litA #[] 0 (by decide) rfl
          obtain ⟨g1, eg1⟩ : ∃ g, y1.heap.size = g := ⟨_, rfl⟩
          obtain ⟨y2, eY⟩ : ∃ Y, y1.alloc (.cells #[] 3) = Y := ⟨_, rfl⟩
          rw [eg1, eY] at hT
          rw [eY, eg1]
          clear eY eg1
          refine HK3.out _ _ ⟨hT.below, ?_⟩
          clear HK3 K3
          try simp only [List.getElem_toArray, List.getElem_cons_succ, List.getElem_cons_zero, Act.put, List.setIfInBounds_toArray, List.set_cons_zero, List.set_cons_succ]
          refine wpAnyH_all (rs := [3]) (by as_aux_lemma => kernel_rfl) (by simp) ?_
          intro i hi; obtain rfl := List.mem_singleton.1 hi; clear hi
          refine wpOp_step rfl (fun K3 hK3 => ?_)
          have HK3 := Lib.hid hK3
          clear hK3
          rw [if_pos (by rfl)]
          simp only [List.getElem_toArray, List.getElem_cons_succ, List.getElem_cons_zero]
          refine wp_icopy (.tmp 171) (.tmp 172) (by rfl) (by rfl) hT (by rfl) (hlE.below hT.below) HNIL.out (by omega) (by decide) ?_
          replace hT := Lib.hid hT
          clear hT
          intro v1 y3 hT
          refine HK3.out _ _ ⟨hT.below, ?_⟩
          clear HK3 K3
          try simp only [List.getElem_toArray, List.getElem_cons_succ, List.getElem_cons_zero, Act.put, List.setIfInBounds_toArray, List.set_cons_zero, List.set_cons_succ]
          refine wpAnyH_all (rs := [12]) (by as_aux_lemma => kernel_rfl) (by simp) ?_
          intro i hi; obtain rfl := List.mem_singleton.1 hi; clear hi
          refine wpOp_step rfl (fun K3 hK3 => ?_)
          have HK3 := Lib.hid hK3
          clear hK3
          rw [if_pos (by rfl)]
          simp only [List.getElem_toArray, List.getElem_cons_succ, List.getElem_cons_zero]
          refine wp_icopy (.tmp 173) (.tmp 181) (by rfl) (by rfl) hT (by rfl) (ints_own hT.b (by simp)) (nilOk_own hT.b) (by simp) (by omega) ?_
          intro v2 y4 hT2
          have hI : IntsAt y4 v2 (l ++ [-x]) := ints_own (by simpa using hT2.a) (by simp; omega)
          clear hT
          have hT := hT2
          clear hT2
          refine HK3.out _ _ ⟨hT.below, ?_⟩
          clear HK3 K3
          try simp only [List.getElem_toArray, List.getElem_cons_succ, List.getElem_cons_zero, Act.put, List.setIfInBounds_toArray, List.set_cons_zero, List.set_cons_succ]
          refine wpAnyH_all (rs := [14]) (by as_aux_lemma => kernel_rfl) (by simp) ?_
          intro i hi; obtain rfl := List.mem_singleton.1 hi; clear hi
          refine wpOp_step rfl (fun K3 hK3 => ?_)
          have HK3 := Lib.hid hK3
          clear hK3
          rw [if_pos (by rfl)]
          go_simp
          refine (pulses_any d s c (l ++ [-x]) v2 _ hI).mono ?_
          rintro e y5 ⟨rfl, hy⟩
          rw [V3.out, V4.out, E2.out]
          replace hT := hT.call hy
          refine HK3.out _ _ ⟨hT.below, ?_⟩
          clear HK3 K3
          try simp only [List.getElem_toArray, List.getElem_cons_succ, List.getElem_cons_zero, Act.put, List.setIfInBounds_toArray, List.set_cons_zero, List.set_cons_succ]
          refine wpAnyH_take (i := 15) (oi := _) (v := ?_) rfl (by as_aux_lemma => kernel_rfl) (by as_aux_lemma => kernel_rfl) (by as_aux_lemma => kernel_rfl) (fun _ _ _ h => h) (Or.inl ⟨by rfl, ?_⟩) hT.below ?_
          rotate_left
          · intro w1 hSw
            replace hSw : Below x7.heap.size x7 w1 := hSw
            obtain ⟨r0, r1⟩ := regcells (box_step (w0 := w) gE.out hSw)
            have r2 := one_cell (box_step (w0 := w) sE.out hSw)
            have r3 := (hSw.cell (p := ⟨b1, off1 + N, none⟩) hb1E).trans cxE
            go_simp; with_reducible rfl
          simp only [List.getElem_toArray, List.getElem_cons_succ, List.getElem_cons_zero, Act.put, List.setIfInBounds_toArray, List.set_cons_zero, List.set_cons_succ]
          refine wpAnyH_take (i := 16) (oi := _) (v := ?_) rfl (by as_aux_lemma => kernel_rfl) (by as_aux_lemma => kernel_rfl) (by as_aux_lemma => kernel_rfl) (fun _ _ _ h => h) (Or.inl ⟨by rfl, ?_⟩) hT.below ?_
          rotate_left
          · intro w1 hSw
            replace hSw : Below x7.heap.size x7 w1 := hSw
            obtain ⟨r0, r1⟩ := regcells (box_step (w0 := w) gE.out hSw)
            have r2 := one_cell (box_step (w0 := w) sE.out hSw)
            have r3 := (hSw.cell (p := ⟨b1, off1 + N, none⟩) hb1E).trans cxE
            go_simp; with_reducible rfl
          simp only [List.getElem_toArray, List.getElem_cons_succ, List.getElem_cons_zero, Act.put, List.setIfInBounds_toArray, List.set_cons_zero, List.set_cons_succ]
          refine wpAnyH_take (i := 17) (oi := _) (v := ?_) rfl (by as_aux_lemma => kernel_rfl) (by as_aux_lemma => kernel_rfl) (by as_aux_lemma => kernel_rfl) (fun _ _ _ h => h) (Or.inl ⟨by rfl, ?_⟩) hT.below ?_
          rotate_left
          · intro w1 hSw
            replace hSw : Below x7.heap.size x7 w1 := hSw
            obtain ⟨r0, r1⟩ := regcells (box_step (w0 := w) gE.out hSw)
            have r2 := one_cell (box_step (w0 := w) sE.out hSw)
            have r3 := (hSw.cell (p := ⟨b1, off1 + N, none⟩) hb1E).trans cxE
            go_simp; with_reducible rfl
          simp only [List.getElem_toArray, List.getElem_cons_succ, List.getElem_cons_zero, Act.put, List.setIfInBounds_toArray, List.set_cons_zero, List.set_cons_succ]
          refine wpAnyH_take (i := 18) (oi := _) (v := ?_) rfl (by as_aux_lemma => kernel_rfl) (by as_aux_lemma => kernel_rfl) (by as_aux_lemma => kernel_rfl) (fun _ _ _ h => h) (Or.inl ⟨by rfl, ?_⟩) hT.below ?_
          rotate_left
          · intro w1 hSw
            replace hSw : Below x7.heap.size x7 w1 := hSw
            obtain ⟨r0, r1⟩ := regcells (box_step (w0 := w) gE.out hSw)
            have r2 := one_cell (box_step (w0 := w) sE.out hSw)
            have r3 := (hSw.cell (p := ⟨b1, off1 + N, none⟩) hb1E).trans cxE
            go_simp; with_reducible rfl
          simp only [List.getElem_toArray, List.getElem_cons_succ, List.getElem_cons_zero, Act.put, List.setIfInBounds_toArray, List.set_cons_zero, List.set_cons_succ]
          refine wpAnyH_take (i := 19) (oi := _) (v := ?_) rfl (by as_aux_lemma => kernel_rfl) (by as_aux_lemma => kernel_rfl) (by as_aux_lemma => kernel_rfl) (fun _ _ _ h => h) (Or.inl ⟨by rfl, ?_⟩) hT.below ?_
          rotate_left
          · intro w1 hSw
            replace hSw : Below x7.heap.size x7 w1 := hSw
            obtain ⟨r0, r1⟩ := regcells (box_step (w0 := w) gE.out hSw)
            have r2 := one_cell (box_step (w0 := w) sE.out hSw)
            have r3 := (hSw.cell (p := ⟨b1, off1 + N, none⟩) hb1E).trans cxE
            go_simp; with_reducible rfl
          simp only [List.getElem_toArray, List.getElem_cons_succ, List.getElem_cons_zero, Act.put, List.setIfInBounds_toArray, List.set_cons_zero, List.set_cons_succ]
          refine wpAnyH_take (i := 20) (oi := _) (v := ?_) rfl (by as_aux_lemma => kernel_rfl) (by as_aux_lemma => kernel_rfl) (by as_aux_lemma => kernel_rfl) (fun _ _ _ h => h) (Or.inl ⟨by rfl, ?_⟩) hT.below ?_
          rotate_left
          · intro w1 hSw
            replace hSw : Below x7.heap.size x7 w1 := hSw
            obtain ⟨r0, r1⟩ := regcells (box_step (w0 := w) gE.out hSw)
            have r2 := one_cell (box_step (w0 := w) sE.out hSw)
            have r3 := (hSw.cell (p := ⟨b1, off1 + N, none⟩) hb1E).trans cxE
            go_simp; with_reducible rfl
          simp only [List.getElem_toArray, List.getElem_cons_succ, List.getElem_cons_zero, Act.put, List.setIfInBounds_toArray, List.set_cons_zero, List.set_cons_succ]
          refine wpAnyH_take (i := 21) (oi := _) (v := ?_) rfl (by as_aux_lemma => kernel_rfl) (by as_aux_lemma => kernel_rfl) (by as_aux_lemma => kernel_rfl) (fun _ _ _ h => h) (Or.inl ⟨by rfl, ?_⟩) hT.below ?_
          rotate_left
          · intro w1 hSw
            replace hSw : Below x7.heap.size x7 w1 := hSw
            obtain ⟨r0, r1⟩ := regcells (box_step (w0 := w) gE.out hSw)
            have r2 := one_cell (box_step (w0 := w) sE.out hSw)
            have r3 := (hSw.cell (p := ⟨b1, off1 + N, none⟩) hb1E).trans cxE
            go_simp; with_reducible rfl
          simp only [List.getElem_toArray, List.getElem_cons_succ, List.getElem_cons_zero, Act.put, List.setIfInBounds_toArray, List.set_cons_zero, List.set_cons_succ]
          refine wpAnyH_done (by as_aux_lemma => kernel_rfl) ?_ _
          go_wp2_with fail
          go_meet
          exact ⟨rfl, rfl, rfl, hT.below⟩
      case rest =>
      obtain ⟨rfl, rfl, rfl, hbF⟩ := hcut
      have gD := Lib.hid (box_step (w0 := w) gE.out hbF)
      have sD := Lib.hid (box_step (w0 := w) sE.out hbF)
      have hLt := hLE.below hbF
      have hbwD := hbwE.trans (hbF.mono hbwE.size)
      have cx := (hbF.cell (p := ⟨b1, off1 + N, none⟩) hb1E).trans cxE
      have hb1l : b1 < wc.heap.size := Nat.lt_of_lt_of_le hb1E hbF.size
      clear gE sE hLE hbwE cxE hb1E hbF
      go_wp2_with fail
      refine wp_region_held_drew (S := fun w' => Below wc.heap.size wc w') (by as_aux_lemma => kernel_rfl) (Below.refl _ _).drew (fun hHeld => ?_)
      obtain ⟨X0, hX0⟩ : ∃ X0, X0 = wc.drew := ⟨_, rfl⟩
      have hS := Lib.hid hHeld
      rw [← hX0] at hS ⊢
      clear hX0 hHeld
      refine wpAnyH_take (i := 0) (oi := _) (v := ?_) rfl (by as_aux_lemma => kernel_rfl) (by as_aux_lemma => kernel_rfl) (by as_aux_lemma => kernel_rfl) (fun _ _ _ h => h) (Or.inl ⟨by rfl, ?_⟩) hS.out ?_
      rotate_left
      · intro w1 hSw
        replace hSw : Below wc.heap.size wc w1 := hSw
        obtain ⟨r0, r1⟩ := regcells (box_step (w0 := w) gD.out hSw)
        have r2 := one_cell (box_step (w0 := w) sD.out hSw)
        have r3 := (hSw.cell (p := ⟨b1, off1 + N, none⟩) hb1l).trans cx
        go_simp; with_reducible rfl
      simp only [List.getElem_toArray, List.getElem_cons_succ, List.getElem_cons_zero, Act.put, List.setIfInBounds_toArray, List.set_cons_zero, List.set_cons_succ]
      refine wpAnyH_take (i := 1) (oi := _) (v := ?_) rfl (by as_aux_lemma => kernel_rfl) (by as_aux_lemma => kernel_rfl) (by as_aux_lemma => kernel_rfl) (fun _ _ _ h => h) (Or.inl ⟨by rfl, ?_⟩) hS.out ?_
      rotate_left
      · intro w1 hSw
        replace hSw : Below wc.heap.size wc w1 := hSw
        obtain ⟨r0, r1⟩ := regcells (box_step (w0 := w) gD.out hSw)
        have r2 := one_cell (box_step (w0 := w) sD.out hSw)
        have r3 := (hSw.cell (p := ⟨b1, off1 + N, none⟩) hb1l).trans cx
        go_simp; with_reducible rfl
      simp only [List.getElem_toArray, List.getElem_cons_succ, List.getElem_cons_zero, Act.put, List.setIfInBounds_toArray, List.set_cons_zero, List.set_cons_succ]
      refine wpAnyH_take (i := 2) (oi := _) (v := ?_) rfl (by as_aux_lemma => kernel_rfl) (by as_aux_lemma => kernel_rfl) (by as_aux_lemma => kernel_rfl) (fun _ _ _ h => h) (Or.inl ⟨by rfl, ?_⟩) hS.out ?_
      rotate_left
      · intro w1 hSw
        replace hSw : Below wc.heap.size wc w1 := hSw
        obtain ⟨r0, r1⟩ := regcells (box_step (w0 := w) gD.out hSw)
        have r2 := one_cell (box_step (w0 := w) sD.out hSw)
        have r3 := (hSw.cell (p := ⟨b1, off1 + N, none⟩) hb1l).trans cx
        go_simp; with_reducible rfl
      simp only [List.getElem_toArray, List.getElem_cons_succ, List.getElem_cons_zero, Act.put, List.setIfInBounds_toArray, List.set_cons_zero, List.set_cons_succ]
      refine wpAnyH_take (i := 3) (oi := _) (v := ?_) rfl (by as_aux_lemma => kernel_rfl) (by as_aux_lemma => kernel_rfl) (by as_aux_lemma => kernel_rfl) (fun _ _ _ h => h) (Or.inl ⟨by rfl, ?_⟩) hS.out ?_
      rotate_left
      · intro w1 hSw
        replace hSw : Below wc.heap.size wc w1 := hSw
        obtain ⟨r0, r1⟩ := regcells (box_step (w0 := w) gD.out hSw)
        have r2 := one_cell (box_step (w0 := w) sD.out hSw)
        have r3 := (hSw.cell (p := ⟨b1, off1 + N, none⟩) hb1l).trans cx
        go_simp; with_reducible rfl
      simp only [List.getElem_toArray, List.getElem_cons_succ, List.getElem_cons_zero, Act.put, List.setIfInBounds_toArray, List.set_cons_zero, List.set_cons_succ]
      refine wpAnyH_take (i := 4) (oi := _) (v := ?_) rfl (by as_aux_lemma => kernel_rfl) (by as_aux_lemma => kernel_rfl) (by as_aux_lemma => kernel_rfl) (fun _ _ _ h => h) (Or.inl ⟨by rfl, ?_⟩) hS.out ?_
      rotate_left
      · intro w1 hSw
        replace hSw : Below wc.heap.size wc w1 := hSw
        obtain ⟨r0, r1⟩ := regcells (box_step (w0 := w) gD.out hSw)
        have r2 := one_cell (box_step (w0 := w) sD.out hSw)
        have r3 := (hSw.cell (p := ⟨b1, off1 + N, none⟩) hb1l).trans cx
        go_simp; with_reducible rfl
      simp only [List.getElem_toArray, List.getElem_cons_succ, List.getElem_cons_zero, Act.put, List.setIfInBounds_toArray, List.set_cons_zero, List.set_cons_succ]
      refine wpAnyH_take (i := 5) (oi := _) (v := ?_) rfl (by as_aux_lemma => kernel_rfl) (by as_aux_lemma => kernel_rfl) (by as_aux_lemma => kernel_rfl) (fun _ _ _ h => h) (Or.inl ⟨by rfl, ?_⟩) hS.out ?_
      rotate_left
      · intro w1 hSw
        replace hSw : Below wc.heap.size wc w1 := hSw
        obtain ⟨r0, r1⟩ := regcells (box_step (w0 := w) gD.out hSw)
        have r2 := one_cell (box_step (w0 := w) sD.out hSw)
        have r3 := (hSw.cell (p := ⟨b1, off1 + N, none⟩) hb1l).trans cx
        go_simp; with_reducible rfl
      simp only [List.getElem_toArray, List.getElem_cons_succ, List.getElem_cons_zero, Act.put, List.setIfInBounds_toArray, List.set_cons_zero, List.set_cons_succ]
      refine wpAnyH_take (i := 6) (oi := _) (v := ?_) rfl (by as_aux_lemma => kernel_rfl) (by as_aux_lemma => kernel_rfl) (by as_aux_lemma => kernel_rfl) (fun _ _ _ h => h) (Or.inl ⟨by rfl, ?_⟩) hS.out ?_
      rotate_left
      · intro w1 hSw
        replace hSw : Below wc.heap.size wc w1 := hSw
        obtain ⟨r0, r1⟩ := regcells (box_step (w0 := w) gD.out hSw)
        have r2 := one_cell (box_step (w0 := w) sD.out hSw)
        have r3 := (hSw.cell (p := ⟨b1, off1 + N, none⟩) hb1l).trans cx
        go_simp; with_reducible rfl
      simp only [List.getElem_toArray, List.getElem_cons_succ, List.getElem_cons_zero, Act.put, List.setIfInBounds_toArray, List.set_cons_zero, List.set_cons_succ]
      refine wpAnyH_all (rs := [7]) (by as_aux_lemma => kernel_rfl) (by simp) ?_
      intro i hi; obtain rfl := List.mem_singleton.1 hi; clear hi
      refine wpOp_step rfl (fun K3 hK3 => ?_)
      have HK3 := Lib.hid hK3
      clear hK3
      rw [if_pos (by rfl)]
      go_simp
      refine (pulses_any d s c L _ _ (hLt.below hS.out)).mono ?_
      rintro e x7 ⟨rfl, hy7⟩
      rw [V1.out, V2.out, E1.out]
      have hS7 := Lib.hid (hS.out.trans (hy7.mono hS.out.size))
      clear hy7
      refine HK3.out _ _ ⟨hS7.out, ?_⟩
      clear HK3 K3
      try simp only [List.getElem_toArray, List.getElem_cons_succ, List.getElem_cons_zero, Act.put, List.setIfInBounds_toArray, List.set_cons_zero, List.set_cons_succ]
      refine wpAnyH_take (i := 8) (oi := _) (v := ?_) rfl (by as_aux_lemma => kernel_rfl) (by as_aux_lemma => kernel_rfl) (by as_aux_lemma => kernel_rfl) (fun _ _ _ h => h) (Or.inl ⟨by rfl, ?_⟩) hS7.out ?_
      rotate_left
      · intro w1 hSw
        replace hSw : Below wc.heap.size wc w1 := hSw
        obtain ⟨r0, r1⟩ := regcells (box_step (w0 := w) gD.out hSw)
        have r2 := one_cell (box_step (w0 := w) sD.out hSw)
        have r3 := (hSw.cell (p := ⟨b1, off1 + N, none⟩) hb1l).trans cx
        go_simp; with_reducible rfl
      simp only [List.getElem_toArray, List.getElem_cons_succ, List.getElem_cons_zero, Act.put, List.setIfInBounds_toArray, List.set_cons_zero, List.set_cons_succ]
      refine wpAnyH_take (i := 9) (oi := _) (v := ?_) rfl (by as_aux_lemma => kernel_rfl) (by as_aux_lemma => kernel_rfl) (by as_aux_lemma => kernel_rfl) (fun _ _ _ h => h) (Or.inl ⟨by rfl, ?_⟩) hS7.out ?_
      rotate_left
      · intro w1 hSw
        replace hSw : Below wc.heap.size wc w1 := hSw
        obtain ⟨r0, r1⟩ := regcells (box_step (w0 := w) gD.out hSw)
        have r2 := one_cell (box_step (w0 := w) sD.out hSw)
        have r3 := (hSw.cell (p := ⟨b1, off1 + N, none⟩) hb1l).trans cx
        go_simp; with_reducible rfl
      simp only [List.getElem_toArray, List.getElem_cons_succ, List.getElem_cons_zero, Act.put, List.setIfInBounds_toArray, List.set_cons_zero, List.set_cons_succ]
      refine wpAnyH_take (i := 10) (oi := _) (v := ?_) rfl (by as_aux_lemma => kernel_rfl) (by as_aux_lemma => kernel_rfl) (by as_aux_lemma => kernel_rfl) (fun _ _ _ h => h) (Or.inl ⟨by rfl, ?_⟩) hS7.out ?_
      rotate_left
      · intro w1 hSw
        replace hSw : Below wc.heap.size wc w1 := hSw
        obtain ⟨r0, r1⟩ := regcells (box_step (w0 := w) gD.out hSw)
        have r2 := one_cell (box_step (w0 := w) sD.out hSw)
        have r3 := (hSw.cell (p := ⟨b1, off1 + N, none⟩) hb1l).trans cx
        go_simp; with_reducible rfl
      simp only [List.getElem_toArray, List.getElem_cons_succ, List.getElem_cons_zero, Act.put, List.setIfInBounds_toArray, List.set_cons_zero, List.set_cons_succ]
      refine wpAnyH_take (i := 11) (oi := _) (v := ?_) rfl (by as_aux_lemma => kernel_rfl) (by as_aux_lemma => kernel_rfl) (by as_aux_lemma => kernel_rfl) (fun _ _ _ h => h) (Or.inl ⟨by rfl, ?_⟩) hS7.out ?_
      rotate_left
      · intro w1 hSw
        replace hSw : Below wc.heap.size wc w1 := hSw
        obtain ⟨r0, r1⟩ := regcells (box_step (w0 := w) gD.out hSw)
        have r2 := one_cell (box_step (w0 := w) sD.out hSw)
        have r3 := (hSw.cell (p := ⟨b1, off1 + N, none⟩) hb1l).trans cx
        go_simp; with_reducible rfl
      simp only [List.getElem_toArray, List.getElem_cons_succ, List.getElem_cons_zero, Act.put, List.setIfInBounds_toArray, List.set_cons_zero, List.set_cons_succ]
      refine wpAnyH_take (i := 12) (oi := _) (v := ?_) rfl (by as_aux_lemma => kernel_rfl) (by as_aux_lemma => kernel_rfl) (by as_aux_lemma => kernel_rfl) (fun _ _ _ h => h) (Or.inl ⟨by rfl, ?_⟩) hS7.out ?_
      rotate_left
      · intro w1 hSw
        replace hSw : Below wc.heap.size wc w1 := hSw
        obtain ⟨r0, r1⟩ := regcells (box_step (w0 := w) gD.out hSw)
        have r2 := one_cell (box_step (w0 := w) sD.out hSw)
        have r3 := (hSw.cell (p := ⟨b1, off1 + N, none⟩) hb1l).trans cx
        go_simp; with_reducible rfl
      simp only [List.getElem_toArray, List.getElem_cons_succ, List.getElem_cons_zero, Act.put, List.setIfInBounds_toArray, List.set_cons_zero, List.set_cons_succ]
      refine wpAnyH_take (i := 13) (oi := _) (v := ?_) rfl (by as_aux_lemma => kernel_rfl) (by as_aux_lemma => kernel_rfl) (by as_aux_lemma => kernel_rfl) (fun _ _ _ h => h) (Or.inl ⟨by rfl, ?_⟩) hS7.out ?_
      rotate_left
      · intro w1 hSw
        replace hSw : Below wc.heap.size wc w1 := hSw
        obtain ⟨r0, r1⟩ := regcells (box_step (w0 := w) gD.out hSw)
        have r2 := one_cell (box_step (w0 := w) sD.out hSw)
        have r3 := (hSw.cell (p := ⟨b1, off1 + N, none⟩) hb1l).trans cx
        go_simp; with_reducible rfl
      simp only [List.getElem_toArray, List.getElem_cons_succ, List.getElem_cons_zero, Act.put, List.setIfInBounds_toArray, List.set_cons_zero, List.set_cons_succ]
      refine wpAnyH_take (i := 14) (oi := _) (v := ?_) rfl (by as_aux_lemma => kernel_rfl) (by as_aux_lemma => kernel_rfl) (by as_aux_lemma => kernel_rfl) (fun _ _ _ h => h) (Or.inl ⟨by rfl, ?_⟩) hS7.out ?_
      rotate_left
      · intro w1 hSw
        replace hSw : Below wc.heap.size wc w1 := hSw
        obtain ⟨r0, r1⟩ := regcells (box_step (w0 := w) gD.out hSw)
        have r2 := one_cell (box_step (w0 := w) sD.out hSw)
        have r3 := (hSw.cell (p := ⟨b1, off1 + N, none⟩) hb1l).trans cx
        go_simp; with_reducible rfl
      simp only [List.getElem_toArray, List.getElem_cons_succ, List.getElem_cons_zero, Act.put, List.setIfInBounds_toArray, List.set_cons_zero, List.set_cons_succ]
      refine wpAnyH_done (by as_aux_lemma => kernel_rfl) ?_ _
      go_wp2_with fail
      refine (awake_any _).mono ?_
      rintro e w5 ⟨rfl, hb5⟩
      have hbw := hbwD.trans ((hS7.out.trans (hb5.mono hS7.out.size)).mono hbwD.size)
      go_wp2
      go_ret
      exact ⟨rfl, hbw⟩
end Go.Proofs.Ytmcndecmnfbggaa
