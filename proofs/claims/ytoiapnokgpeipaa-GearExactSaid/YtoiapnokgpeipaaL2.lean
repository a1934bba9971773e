/- GearExact: the walk. -/
import Derived.Test.YtoiapnokgpeipaaS4
namespace Go.Proofs.Ytoiapnokgpeipaa
set_option linter.unusedSimpArgs false
open Go.RowKit Go.Maps

theorem box24 (w : World) (t r p o : Int) (same : Bool) : ∃ W0, W0 = w.alloc (.cells #[.int .i64 t, .int .i64 r, .bool same, .int .i64 p, .int .i64 o] 24) ∧ Below w.heap.size w W0 ∧ W0.heap[w.heap.size]? = some (.cells #[.int .i64 t, .int .i64 r, .bool same, .int .i64 p, .int .i64 o] 24) ∧ W0.heap.size = w.heap.size + 1 :=
  ⟨_, rfl, (Below.refl _ _).alloc (Nat.le_refl _) _, (MapKept.heap_alloc w _).1, by simp⟩
theorem same_none (w : World) (a : Option Addr) (cap : Nat) : Calls Try.prog 21 #[.agg #[.slice a 0 cap, .int .i64 0], .agg #[.slice none 0 0, .int .i64 0]] w fun e w' => e = .returned (.bool true) ∧ Below w.heap.size w w' :=
  same_any [] [] (.slice a 0 cap) (.slice none 0 0) 0 0 w ⟨by decide, .inl ⟨rfl, _, _, rfl⟩⟩ ⟨by decide, .inl ⟨rfl, _, _, rfl⟩⟩

set_option maxRecDepth 100000 in
set_option maxHeartbeats 12800000 in
theorem exactLaw_any (S : List (Int × Int)) (sv : Value) (t r p o k m : Int) (same : Bool) (w : World) (hS : WheelsAt w sv S) (hss : ∀ b off n c, sv = .slice (some ⟨b, off, none⟩) n c → b < w.heap.size) (hk : 0 ≤ k ∧ k ≤ 65535) (hm : 0 ≤ m ∧ m ≤ 65535) :
    Calls Try.prog 6 #[sv, .agg #[.int .i64 t, .int .i64 r, .bool same, .int .i64 p, .int .i64 o], .int .u16 k, .int .u16 m] w
      fun e w' => e = .returned (.bool true) ∧ Below w.heap.size w w' := by
  obtain ⟨sa, sc, rfl⟩ := hS.shape
  have hsl : S.length ≤ 9223372036854775807 := hS.1
  obtain ⟨W0, hW0, hg0, hG0, hz0⟩ := box24 w t r p o same
  have hgr := great_any sa S.length sc 6 W0 hsl
  obtain ⟨gr, hgre⟩ : ∃ gr, greatB S.length 6 = gr := ⟨_, rfl⟩
  rw [hgre] at hgr
  clear hgre
  have ha := fun X => alive_any X
  have HA := Lib.hid ha
  clear ha
  go_enter Try.func6, Try.ntmps6
  go_wp2_with fail
  rw [← hW0]
  clear hW0
  refine hgr.mono ?_
  rintro e w1 ⟨rfl, rfl⟩
  clear hgr
  cases gr with
  | true =>
    clear hG0
    go_wp2_with fail
    refine (HA.out _).mono ?_
    rintro e w1 ⟨rfl, hb1⟩
    go_wp2
    go_ret
    exact ⟨rfl, hg0.trans (hb1.mono (by omega))⟩
  | false =>
  obtain ⟨P, i, nw, ne, hrow⟩ := rowOf_any (chooseC S t r p o same)
  have hfacts := choose_facts hrow
  have hch := chose_gen hrow (hS.below hg0) (fun b off e => Nat.lt_of_lt_of_le (hss b off S.length sc (by rw [e])) hg0.size)
  have HF := Lib.hid hfacts
  have HCH := Lib.hid hch
  clear hrow hfacts hch
  obtain ⟨e0, e1, e2, e3, e4⟩ := gcells hG0
  go_wp2_with fail
  refine HCH.out.mono ?_
  rintro e w1 ⟨a, cap, rfl, hown, hb1⟩
  clear HCH e0 e1 e2 e3 e4
  have hG1 := (hb1.block w.heap.size (by omega)).trans hG0
  have hbw1 : Below w.heap.size w w1 := hg0.trans (hb1.mono (by omega))
  have hz1 : w.heap.size + 1 ≤ w1.heap.size := by have := hb1.size; omega
  clear hG0 hb1 hg0 hz0
  obtain ⟨W2, hW2, hb2, hT2, hz2⟩ := box27 w1 (.slice a P.length cap) i
  have hG2 := (hb2.block w.heap.size (by omega)).trans hG1
  have hbw2 : Below w.heap.size w W2 := hbw1.trans (hb2.mono (by omega))
  obtain ⟨B, hB⟩ : ∃ B, B = w1.heap.size := ⟨_, rfl⟩
  rw [← hB] at hz2 hT2 hz1
  rcases HF.out with ⟨rfl, hnw, hcs, _⟩ | ⟨rfl, rfl, rfl, hc⟩
  case inr =>
    simp only [List.length_nil] at hW2 hT2 hown
    clear HF
    rcases hc with ⟨rfl, hv⟩ | ⟨rfl, hv, _⟩
    · cases hst : stockB S with
      | false =>
        clear hv
        have hrs := refStock_any S (.slice sa S.length sc)
        rw [hst] at hrs
        have HRS := Lib.hid hrs
        clear hrs hst
        go_wp2_with fail
        rw [← hW2]
        clear hW2 hown hT2
        refine (same_none W2 a cap).mono ?_
        rintro e w3 ⟨rfl, hb3⟩
        have hG3 := (hb3.block w.heap.size (by omega)).trans hG2
        have hbw3 : Below w.heap.size w w3 := hbw2.trans (hb3.mono (by omega))
        have hz3 : w.heap.size + 1 ≤ w3.heap.size := by have := hb3.size; omega
        go_wp2_with fail
        refine (HRS.out w3 (hS.below hbw3)).mono ?_
        rintro e w4 ⟨rfl, hb4⟩
        clear HRS
        have hbw4 : Below w.heap.size w w4 := hbw3.trans (hb4.mono (by omega))
        have hz4 : w.heap.size + 1 ≤ w4.heap.size := by have := hb4.size; omega
        obtain ⟨e0, e1, e2, e3, e4⟩ := gcells ((hb4.block w.heap.size (by omega)).trans hG3)
        clear hG1 hG2 hG3 hb2 hb3 hb4
        have hbw5 := hbw4
        clear e0 e1 e2 e3 e4
        go_wp2_with fail
        refine (HA.out _).mono ?_
        rintro e w6 ⟨rfl, hb6⟩
        go_wp2
        go_ret
        exact ⟨rfl, hbw5.trans (hb6.mono hbw5.size)⟩
      | true =>
        have hge : gearB t r p o = false := by rw [hst] at hv; simpa using hv
        clear hv
        have hrs := refStock_any S (.slice sa S.length sc)
        rw [hst] at hrs
        have HRS := Lib.hid hrs
        clear hrs hst
        go_wp2_with fail
        rw [← hW2]
        clear hW2 hown hT2
        refine (same_none W2 a cap).mono ?_
        rintro e w3 ⟨rfl, hb3⟩
        have hG3 := (hb3.block w.heap.size (by omega)).trans hG2
        have hbw3 : Below w.heap.size w w3 := hbw2.trans (hb3.mono (by omega))
        have hz3 : w.heap.size + 1 ≤ w3.heap.size := by have := hb3.size; omega
        go_wp2_with fail
        refine (HRS.out w3 (hS.below hbw3)).mono ?_
        rintro e w4 ⟨rfl, hb4⟩
        clear HRS
        have hbw4 : Below w.heap.size w w4 := hbw3.trans (hb4.mono (by omega))
        have hz4 : w.heap.size + 1 ≤ w4.heap.size := by have := hb4.size; omega
        obtain ⟨e0, e1, e2, e3, e4⟩ := gcells ((hb4.block w.heap.size (by omega)).trans hG3)
        clear hG1 hG2 hG3 hb2 hb3 hb4
        go_wp2_with fail
        have hrg := refGearing_any t r p o same w4
        rw [hge] at hrg
        have HRG := Lib.hid hrg
        clear hrg hge
        refine HRG.out.mono ?_
        rintro e w5 ⟨rfl, hb5⟩
        clear HRG e0 e1 e2 e3 e4
        have hbw5 : Below w.heap.size w w5 := hbw4.trans (hb5.mono (by omega))
        go_wp2_with fail
        refine (HA.out _).mono ?_
        rintro e w6 ⟨rfl, hb6⟩
        go_wp2
        go_ret
        exact ⟨rfl, hbw5.trans (hb6.mono hbw5.size)⟩
    · obtain ⟨hst, hge⟩ : stockB S = true ∧ gearB t r p o = true := by simpa using hv
      clear hv
      have hrs := refStock_any S (.slice sa S.length sc)
      rw [hst] at hrs
      have HRS := Lib.hid hrs
      clear hrs hst
      go_wp2_with fail
      rw [← hW2]
      clear hW2 hown hT2
      refine (same_none W2 a cap).mono ?_
      rintro e w3 ⟨rfl, hb3⟩
      have hG3 := (hb3.block w.heap.size (by omega)).trans hG2
      have hbw3 : Below w.heap.size w w3 := hbw2.trans (hb3.mono (by omega))
      have hz3 : w.heap.size + 1 ≤ w3.heap.size := by have := hb3.size; omega
      go_wp2_with fail
      refine (HRS.out w3 (hS.below hbw3)).mono ?_
      rintro e w4 ⟨rfl, hb4⟩
      clear HRS
      have hbw4 : Below w.heap.size w w4 := hbw3.trans (hb4.mono (by omega))
      have hz4 : w.heap.size + 1 ≤ w4.heap.size := by have := hb4.size; omega
      obtain ⟨e0, e1, e2, e3, e4⟩ := gcells ((hb4.block w.heap.size (by omega)).trans hG3)
      clear hG1 hG2 hG3 hb2 hb3 hb4
      go_wp2_with fail
      have hrg := refGearing_any t r p o same w4
      rw [hge] at hrg
      have HRG := Lib.hid hrg
      clear hrg hge
      refine HRG.out.mono ?_
      rintro e w5 ⟨rfl, hb5⟩
      clear HRG e0 e1 e2 e3 e4
      have hbw5 : Below w.heap.size w w5 := hbw4.trans (hb5.mono (by omega))
      go_wp2_with fail
      refine (HA.out _).mono ?_
      rintro e w6 ⟨rfl, hb6⟩
      go_wp2
      go_ret
      exact ⟨rfl, hbw5.trans (hb6.mono hbw5.size)⟩
  case inl =>
    obtain ⟨⟨hst, hge⟩, hab, hex, hso⟩ := hcs
    have hgi := gearB_iff.1 hge
    have haz := ableC_zero hab
    have hpl := pairsErr_zero haz.1
    have hl3 : P.length ≤ 3 := by omega
    obtain ⟨hd, hn⟩ := prods_bd (by omega) haz.1
    have hall := pairOk_all haz.1
    have hbu : buildC S t r p o same P i = (wheelsN P i, 0) := by
      rw [build_eq]; unfold refBuildC
      rw [hst, hge, hab]
      simp [hex]
    have ht2 : 1 ≤ t ∧ t ≤ 1000 := ⟨hgi.1, hgi.2.1⟩
    have hr2 : 1 ≤ r ∧ r ≤ 1000 := ⟨hgi.2.2.1, hgi.2.2.2.1⟩
    have hmt : 0 ≤ m % t ∧ m % t < t := ⟨Int.emod_nonneg _ (by omega), Int.emod_lt_of_pos _ (by omega)⟩
    obtain ⟨hR1, b, hR2, hb1', hb2'⟩ := rounds_exact (k := k) (m := m % t) hall hl3 hd.1 hn.1 hex ht2 (by omega) hmt
    obtain ⟨hR3, _⟩ := rounds_exact (k := k + 1) (m := 0) hall hl3 hd.1 hn.1 hex ht2 (by omega) (by omega)
    have hkt := mul_bd hk.1 hk.2 (by omega : 0 ≤ t) ht2.2
    have hkr := mul_bd hk.1 hk.2 (by omega : 0 ≤ r) hr2.2
    have hkt1 := mul_bd (x := k + 1) (X := 65536) (by omega) (by omega) (by omega : 0 ≤ t) ht2.2
    have hk1r : (k + 1) * r = k * r + r := by rw [Int.add_mul]; omega
    rw [hk1r] at hR3
    have hP2 : WheelsAt w1 (.slice a P.length cap) P := wheels_own hown (by omega)
    have hbA := build_any S (.slice sa S.length sc) t r p o same P (.slice a P.length cap) i W2 (hS.below hbw2) (hP2.below hb2) (fun b off n c e => Nat.lt_of_lt_of_le (hss b off n c e) hbw2.size)
    rw [hbu] at hbA
    obtain ⟨wn, hwn⟩ : ∃ wn, wheelsN P i = wn := ⟨_, rfl⟩
    rw [hwn] at hbA hnw
    subst hnw
    have HBA := Lib.hid hbA
    have HWN := Lib.hid hwn
    have HR1 := Lib.hid hR1
    have HR2 := Lib.hid hR2
    have HR3 := Lib.hid hR3
    have HSO := Lib.hid hso
    have HGE := Lib.hid hge
    clear hbA hwn hR1 hR2 hR3 hso hge hst hab hex haz hpl hd hn hall hbu HF hk1r hgi
    have hPW := hP2.below hb2
    obtain ⟨e0', e1', e2', e3', e4'⟩ := gcells hG1
    have e0 := cell_al e0' (.cells #[.slice a P.length cap, .int .i64 i] 27)
    have e1 := cell_al e1' (.cells #[.slice a P.length cap, .int .i64 i] 27)
    have e2 := cell_al e2' (.cells #[.slice a P.length cap, .int .i64 i] 27)
    have e3 := cell_al e3' (.cells #[.slice a P.length cap, .int .i64 i] 27)
    have e4 := cell_al e4' (.cells #[.slice a P.length cap, .int .i64 i] 27)
    clear e0' e1' e2' e3' e4'
    have HW2 := Lib.hid hW2
    have HB := Lib.hid hB
    clear hW2 hB
    go_wp2_with fail
    rw [← HW2.out, ← HB.out]
    clear hown hG1 e0 e1 e2 e3 e4
    refine HBA.out.mono ?_
    rintro e w3 ⟨rfl, hb3⟩
    have hG3 := (hb3.block w.heap.size (by omega)).trans hG2
    have hT3 := (hb3.block B (by omega)).trans hT2
    have hbw3 : Below w.heap.size w w3 := hbw2.trans (hb3.mono (by omega))
    have hz3 : B + 1 ≤ w3.heap.size := by have := hb3.size; omega
    have hP3 := hPW.below hb3
    clear HBA HW2 HB hG2 hT2 hb3 hbw2 hbw1 hb2 hPW hP2 hz2
    obtain ⟨f0, f1⟩ := tcells hT3
    have hwh := wheels_any P a cap P.length i w3 rfl (by omega)
    rw [HWN.out] at hwh
    have HWH := Lib.hid hwh
    clear hwh
    go_wp2_with fail
    refine HWH.out.mono ?_
    rintro e w4 ⟨rfl, hb4⟩
    clear f0 f1 HWH HWN
    have hG4 := (hb4.block w.heap.size (by omega)).trans hG3
    have hT4 := (hb4.block B (by omega)).trans hT3
    have hbw4 : Below w.heap.size w w4 := hbw3.trans (hb4.mono (by omega))
    have hz4 : B + 1 ≤ w4.heap.size := by have := hb4.size; omega
    have hP4 := hP3.below hb4
    clear hG3 hT3 hb4 hbw3 hP3 hz3
    obtain ⟨e0, e1, e2, e3, e4⟩ := gcells hG4
    have hrg := refGearing_any t r p o same w4
    rw [HGE.out] at hrg
    have HRG := Lib.hid hrg
    clear hrg HGE
    go_wp2_with fail
    refine HRG.out.mono ?_
    rintro e w5 ⟨rfl, hb5⟩
    clear e0 e1 e2 e3 e4 HRG
    have hG5 := (hb5.block w.heap.size (by omega)).trans hG4
    have hT5 := (hb5.block B (by omega)).trans hT4
    have hbw5 : Below w.heap.size w w5 := hbw4.trans (hb5.mono (by omega))
    have hz5 : B + 1 ≤ w5.heap.size := by have := hb5.size; omega
    have hP5 := hP4.below hb5
    clear hG4 hT4 hb5 hbw4 hP4 hz4
    obtain ⟨f0, f1⟩ := tcells hT5
    go_wp2_with fail
    clear f0 f1
    go_loopw [92] (fun c wr => ∃ j : Nat, j ≤ P.length ∧ c = .int .i64 j ∧ Below w5.heap.size w5 wr) (fun c _ => P.length - (intOf c).toNat)
    case atStart => exact ⟨0, by omega, rfl, Below.refl _ _⟩
    case round =>
      obtain ⟨j, hj, rfl, hbel⟩ := hrel
      have hzz := hbel.size
      obtain ⟨f0, f1⟩ := tcells ((hbel.block B (by omega)).trans hT5)
      by_cases hlt : j < P.length
      · obtain ⟨b', off, rfl, _, hc1, hc2, hbl, hc⟩ := hP5.at rfl (by omega)
        obtain ⟨c0, c1⟩ := hc j hlt
        rw [← hbel.cell (p := ⟨b', _, none⟩) hbl] at c0 c1
        obtain ⟨⟨x, y⟩, hx⟩ : ∃ x, P.getD j (0, 0) = x := ⟨_, rfl⟩
        rw [hx] at c0 c1
        have i1 : (0 : Int) ≤ (j : Int) := by omega
        have i2 : (j : Int) < (P.length : Int) := by omega
        by_cases hj0 : j = 0
        · have hg : decide (0 < j) = false := by simp; omega
          have hn0 : ¬ 0 < j := by omega
          clear hx hc hj0
          go_wp2
          go_quiet (fail)
          go_wp2
          go_roundw
          case rel => exact ⟨j + 1, by omega, by go_num, below_drewN' hbel _⟩
          case measure => simp [intOf]; omega
        · obtain ⟨d0, d1⟩ := hc (j - 1) (by omega)
          rw [← hbel.cell (p := ⟨b', _, none⟩) hbl] at d0 d1
          obtain ⟨⟨x', y'⟩, hx'⟩ : ∃ x, P.getD (j - 1) (0, 0) = x := ⟨_, rfl⟩
          rw [hx'] at d0 d1
          have hso := HSO.out (j - 1) (by omega)
          rw [show j - 1 + 1 = j by omega, hx, hx'] at hso
          have hso' : ¬ (x < x' ∨ x = x' ∧ y < y') := of_decide_eq_false hso
          have ek : (j : Int) - 1 = ((j - 1 : Nat) : Int) := by omega
          have hg : decide (0 < j) = true := by simp; omega
          have hn0 : 0 < j := by omega
          have hl1 : decide (x < x') = false := by simp; omega
          clear hx hx' hc hj0 hso
          by_cases he : x = x'
          · have hb0 : (x == x') = true := by simp [he]
            have hl2 : decide (y < y') = false := by simp; omega
            clear he hso'
            go_wp2
            go_quiet (fail)
            go_wp2
            go_roundw
            case rel => exact ⟨j + 1, by omega, by go_num, below_drewN' hbel _⟩
            case measure => simp [intOf]; omega
          · have hb0 : (x == x') = false := by simp [he]
            clear he hso'
            go_wp2
            go_quiet (fail)
            go_wp2
            go_roundw
            case rel => exact ⟨j + 1, by omega, by go_num, below_drewN' hbel _⟩
            case measure => simp [intOf]; omega
      · have hPr := hP5.below hbel
        obtain ⟨wz, rfl⟩ : ∃ wz, wz = wr := ⟨_, rfl⟩
        obtain ⟨e0, e1, e2, e3, e4⟩ := gcells ((hbel.block w.heap.size (by omega)).trans hG5)
        have hbwz : Below w.heap.size w wz := hbw5.trans (hbel.mono (by omega))
        have hGz := (hbel.block w.heap.size (by omega)).trans hG5
        have hTz := (hbel.block B (by omega)).trans hT5
        clear hG5 hT5 hbel hbw5
        have h15 := rounds_any P (.slice a P.length cap) i (k * t) wz hPr
        rw [HR1.out] at h15
        have H15 := Lib.hid h15
        clear h15 HR1
        obtain ⟨f0, f1⟩ := tcells hTz
        have hwz : B + 1 ≤ wz.heap.size := by omega
        go_wp2_with fail
        refine H15.out.mono ?_
        rintro e w6 ⟨rfl, hb6⟩
        clear e0 e1 e2 e3 e4 f0 f1 H15
        have hG6 := (hb6.block w.heap.size (by omega)).trans hGz
        have hT6 := (hb6.block B (by omega)).trans hTz
        have hbw6 : Below w.heap.size w w6 := hbwz.trans (hb6.mono (by omega))
        have hz6 : B + 1 ≤ w6.heap.size := by have := hb6.size; omega
        have hP6 := hPr.below hb6
        clear hGz hTz hb6 hbwz hPr
        have q1 : IntKind.i64.wrap (k * t) = k * t := IntWalk.i64_in _ (by omega)
        have q2 : m.tmod t = m % t := Int.tmod_eq_emod_of_nonneg (by omega)
        have q3 : IntKind.i64.wrap (k * t + m % t) = k * t + m % t := IntWalk.i64_in _ (by omega)
        have q4 : ¬ t = 0 := by omega
        have q5 : IntKind.i64.wrap k = k := IntWalk.i64_in _ (by omega)
        have q6 : IntKind.i64.wrap m = m := IntWalk.i64_in _ (by omega)
        have q7 : IntKind.i64.wrap (m % t) = m % t := IntWalk.i64_in _ (by omega)
        go_wp2_with fail
        refine wp_region_held_drew (S := fun w' => w'.heap[w.heap.size]? = some (.cells #[.int .i64 t, .int .i64 r, .bool same, .int .i64 p, .int .i64 o] 24) ∧ w'.heap[B]? = some (.cells #[.slice a P.length cap, .int .i64 i] 27)) (by kernel_rfl) ⟨hG6, hT6⟩ (fun hHeld => ?_)
        refine wpAnyH_take (i := 0) (oi := _) (v := ?_) rfl (by kernel_rfl) (by kernel_rfl) (by kernel_rfl) (fun _ _ _ h => h) (Or.inl ⟨by rfl, ?_⟩) hHeld ?_
        rotate_left
        · intro w1 hSw
          replace hSw : w1.heap[w.heap.size]? = some (.cells #[.int .i64 t, .int .i64 r, .bool same, .int .i64 p, .int .i64 o] 24) ∧ w1.heap[B]? = some (.cells #[.slice a P.length cap, .int .i64 i] 27) := hSw
          obtain ⟨hSg, hSr⟩ := hSw
          obtain ⟨e0, e1, e2, e3, e4⟩ := gcells hSg
          obtain ⟨f0, f1⟩ := tcells hSr
          clear hSg hSr
          go_simp; with_reducible rfl
        simp only [List.getElem_toArray, List.getElem_cons_succ, List.getElem_cons_zero, Act.put, List.setIfInBounds_toArray, List.set_cons_zero, List.set_cons_succ]
        refine wpAnyH_take (i := 1) (oi := _) (v := ?_) rfl (by kernel_rfl) (by kernel_rfl) (by kernel_rfl) (fun _ _ _ h => h) (Or.inl ⟨by rfl, ?_⟩) hHeld ?_
        rotate_left
        · intro w1 hSw
          replace hSw : w1.heap[w.heap.size]? = some (.cells #[.int .i64 t, .int .i64 r, .bool same, .int .i64 p, .int .i64 o] 24) ∧ w1.heap[B]? = some (.cells #[.slice a P.length cap, .int .i64 i] 27) := hSw
          obtain ⟨hSg, hSr⟩ := hSw
          obtain ⟨e0, e1, e2, e3, e4⟩ := gcells hSg
          obtain ⟨f0, f1⟩ := tcells hSr
          clear hSg hSr
          go_simp; with_reducible rfl
        simp only [List.getElem_toArray, List.getElem_cons_succ, List.getElem_cons_zero, Act.put, List.setIfInBounds_toArray, List.set_cons_zero, List.set_cons_succ]
        refine wpAnyH_take (i := 2) (oi := _) (v := ?_) rfl (by kernel_rfl) (by kernel_rfl) (by kernel_rfl) (fun _ _ _ h => h) (Or.inl ⟨by rfl, ?_⟩) hHeld ?_
        rotate_left
        · intro w1 hSw
          replace hSw : w1.heap[w.heap.size]? = some (.cells #[.int .i64 t, .int .i64 r, .bool same, .int .i64 p, .int .i64 o] 24) ∧ w1.heap[B]? = some (.cells #[.slice a P.length cap, .int .i64 i] 27) := hSw
          obtain ⟨hSg, hSr⟩ := hSw
          obtain ⟨e0, e1, e2, e3, e4⟩ := gcells hSg
          obtain ⟨f0, f1⟩ := tcells hSr
          clear hSg hSr
          go_simp; with_reducible rfl
        simp only [List.getElem_toArray, List.getElem_cons_succ, List.getElem_cons_zero, Act.put, List.setIfInBounds_toArray, List.set_cons_zero, List.set_cons_succ]
        refine wpAnyH_take (i := 3) (oi := _) (v := ?_) rfl (by kernel_rfl) (by kernel_rfl) (by kernel_rfl) (fun _ _ _ h => h) (Or.inl ⟨by rfl, ?_⟩) hHeld ?_
        rotate_left
        · intro w1 hSw
          replace hSw : w1.heap[w.heap.size]? = some (.cells #[.int .i64 t, .int .i64 r, .bool same, .int .i64 p, .int .i64 o] 24) ∧ w1.heap[B]? = some (.cells #[.slice a P.length cap, .int .i64 i] 27) := hSw
          obtain ⟨hSg, hSr⟩ := hSw
          obtain ⟨e0, e1, e2, e3, e4⟩ := gcells hSg
          obtain ⟨f0, f1⟩ := tcells hSr
          clear hSg hSr
          go_simp; with_reducible rfl
        simp only [List.getElem_toArray, List.getElem_cons_succ, List.getElem_cons_zero, Act.put, List.setIfInBounds_toArray, List.set_cons_zero, List.set_cons_succ]
        refine wpAnyH_take (i := 4) (oi := _) (v := ?_) rfl (by kernel_rfl) (by kernel_rfl) (by kernel_rfl) (fun _ _ _ h => h) (Or.inl ⟨by rfl, ?_⟩) hHeld ?_
        rotate_left
        · intro w1 hSw
          replace hSw : w1.heap[w.heap.size]? = some (.cells #[.int .i64 t, .int .i64 r, .bool same, .int .i64 p, .int .i64 o] 24) ∧ w1.heap[B]? = some (.cells #[.slice a P.length cap, .int .i64 i] 27) := hSw
          obtain ⟨hSg, hSr⟩ := hSw
          obtain ⟨e0, e1, e2, e3, e4⟩ := gcells hSg
          obtain ⟨f0, f1⟩ := tcells hSr
          clear hSg hSr
          go_simp; with_reducible rfl
        simp only [List.getElem_toArray, List.getElem_cons_succ, List.getElem_cons_zero, Act.put, List.setIfInBounds_toArray, List.set_cons_zero, List.set_cons_succ]
        refine wpAnyH_take (i := 5) (oi := _) (v := ?_) rfl (by kernel_rfl) (by kernel_rfl) (by kernel_rfl) (fun _ _ _ h => h) (Or.inl ⟨by rfl, ?_⟩) hHeld ?_
        rotate_left
        · intro w1 hSw
          replace hSw : w1.heap[w.heap.size]? = some (.cells #[.int .i64 t, .int .i64 r, .bool same, .int .i64 p, .int .i64 o] 24) ∧ w1.heap[B]? = some (.cells #[.slice a P.length cap, .int .i64 i] 27) := hSw
          obtain ⟨hSg, hSr⟩ := hSw
          obtain ⟨e0, e1, e2, e3, e4⟩ := gcells hSg
          obtain ⟨f0, f1⟩ := tcells hSr
          clear hSg hSr
          go_simp; with_reducible rfl
        simp only [List.getElem_toArray, List.getElem_cons_succ, List.getElem_cons_zero, Act.put, List.setIfInBounds_toArray, List.set_cons_zero, List.set_cons_succ]
        refine wpAnyH_take (i := 6) (oi := _) (v := ?_) rfl (by kernel_rfl) (by kernel_rfl) (by kernel_rfl) (fun _ _ _ h => h) (Or.inl ⟨by rfl, ?_⟩) hHeld ?_
        rotate_left
        · intro w1 hSw
          replace hSw : w1.heap[w.heap.size]? = some (.cells #[.int .i64 t, .int .i64 r, .bool same, .int .i64 p, .int .i64 o] 24) ∧ w1.heap[B]? = some (.cells #[.slice a P.length cap, .int .i64 i] 27) := hSw
          obtain ⟨hSg, hSr⟩ := hSw
          obtain ⟨e0, e1, e2, e3, e4⟩ := gcells hSg
          obtain ⟨f0, f1⟩ := tcells hSr
          clear hSg hSr
          go_simp; with_reducible rfl
        simp only [List.getElem_toArray, List.getElem_cons_succ, List.getElem_cons_zero, Act.put, List.setIfInBounds_toArray, List.set_cons_zero, List.set_cons_succ]
        refine wpAnyH_take (i := 7) (oi := _) (v := ?_) rfl (by kernel_rfl) (by kernel_rfl) (by kernel_rfl) (fun _ _ _ h => h) (Or.inl ⟨by rfl, ?_⟩) hHeld ?_
        rotate_left
        · intro w1 hSw
          replace hSw : w1.heap[w.heap.size]? = some (.cells #[.int .i64 t, .int .i64 r, .bool same, .int .i64 p, .int .i64 o] 24) ∧ w1.heap[B]? = some (.cells #[.slice a P.length cap, .int .i64 i] 27) := hSw
          obtain ⟨hSg, hSr⟩ := hSw
          obtain ⟨e0, e1, e2, e3, e4⟩ := gcells hSg
          obtain ⟨f0, f1⟩ := tcells hSr
          clear hSg hSr
          go_simp; with_reducible rfl
        simp only [List.getElem_toArray, List.getElem_cons_succ, List.getElem_cons_zero, Act.put, List.setIfInBounds_toArray, List.set_cons_zero, List.set_cons_succ]
        refine wpAnyH_take (i := 8) (oi := _) (v := ?_) rfl (by kernel_rfl) (by kernel_rfl) (by kernel_rfl) (fun _ _ _ h => h) (Or.inl ⟨by rfl, ?_⟩) hHeld ?_
        rotate_left
        · intro w1 hSw
          replace hSw : w1.heap[w.heap.size]? = some (.cells #[.int .i64 t, .int .i64 r, .bool same, .int .i64 p, .int .i64 o] 24) ∧ w1.heap[B]? = some (.cells #[.slice a P.length cap, .int .i64 i] 27) := hSw
          obtain ⟨hSg, hSr⟩ := hSw
          obtain ⟨e0, e1, e2, e3, e4⟩ := gcells hSg
          obtain ⟨f0, f1⟩ := tcells hSr
          clear hSg hSr
          go_simp; with_reducible rfl
        simp only [List.getElem_toArray, List.getElem_cons_succ, List.getElem_cons_zero, Act.put, List.setIfInBounds_toArray, List.set_cons_zero, List.set_cons_succ]
        refine wpAnyH_take (i := 9) (oi := _) (v := ?_) rfl (by kernel_rfl) (by kernel_rfl) (by kernel_rfl) (fun _ _ _ h => h) (Or.inl ⟨by rfl, ?_⟩) hHeld ?_
        rotate_left
        · intro w1 hSw
          replace hSw : w1.heap[w.heap.size]? = some (.cells #[.int .i64 t, .int .i64 r, .bool same, .int .i64 p, .int .i64 o] 24) ∧ w1.heap[B]? = some (.cells #[.slice a P.length cap, .int .i64 i] 27) := hSw
          obtain ⟨hSg, hSr⟩ := hSw
          obtain ⟨e0, e1, e2, e3, e4⟩ := gcells hSg
          obtain ⟨f0, f1⟩ := tcells hSr
          clear hSg hSr
          go_simp; with_reducible rfl
        simp only [List.getElem_toArray, List.getElem_cons_succ, List.getElem_cons_zero, Act.put, List.setIfInBounds_toArray, List.set_cons_zero, List.set_cons_succ]
        refine wpAnyH_take (i := 10) (oi := _) (v := ?_) rfl (by kernel_rfl) (by kernel_rfl) (by kernel_rfl) (fun _ _ _ h => h) (Or.inl ⟨by rfl, ?_⟩) hHeld ?_
        rotate_left
        · intro w1 hSw
          replace hSw : w1.heap[w.heap.size]? = some (.cells #[.int .i64 t, .int .i64 r, .bool same, .int .i64 p, .int .i64 o] 24) ∧ w1.heap[B]? = some (.cells #[.slice a P.length cap, .int .i64 i] 27) := hSw
          obtain ⟨hSg, hSr⟩ := hSw
          obtain ⟨e0, e1, e2, e3, e4⟩ := gcells hSg
          obtain ⟨f0, f1⟩ := tcells hSr
          clear hSg hSr
          go_simp; with_reducible rfl
        simp only [List.getElem_toArray, List.getElem_cons_succ, List.getElem_cons_zero, Act.put, List.setIfInBounds_toArray, List.set_cons_zero, List.set_cons_succ]
        refine wpAnyH_all (rs := [11]) (by kernel_rfl) (by simp) ?_
        intro i hi; obtain rfl := List.mem_singleton.1 hi; clear hi
        refine wpOp_step rfl (fun K3 hK3 => ?_)
        have HK3 := Lib.hid hK3
        clear hK3
        rw [if_pos (by rfl)]
        go_simp
        have h16 := rounds_any P (.slice a P.length cap) i (k * t + m % t) w6.drew (hP6.below (Below.refl _ _).drew)
        rw [HR2.out] at h16
        refine h16.mono ?_
        rintro e w7 ⟨rfl, hb7⟩
        have hG7 := (hb7.block w.heap.size (by first | omega | (simp; omega))).trans hG6
        have hT7 := (hb7.block B (by first | omega | (simp; omega))).trans hT6
        have hbw7 : Below w.heap.size w w7 := hbw6.drew.trans (hb7.mono (by first | omega | (simp; omega)))
        have hz7 : B + 1 ≤ w7.heap.size := Nat.le_trans hz6 hb7.size
        have hP7 : WheelsAt w7 (.slice a P.length cap) P := hP6.below ((Below.refl _ _).drew.trans hb7)
        clear hb7 h16
        refine HK3.out _ _ ⟨⟨hG7, hT7⟩, ?_⟩
        clear HK3 K3
        try simp only [List.getElem_toArray, List.getElem_cons_succ, List.getElem_cons_zero, Act.put, List.setIfInBounds_toArray, List.set_cons_zero, List.set_cons_succ]
        refine wpAnyH_take (i := 12) (oi := _) (v := ?_) rfl (by kernel_rfl) (by kernel_rfl) (by kernel_rfl) (fun _ _ _ h => h) (Or.inl ⟨by rfl, ?_⟩) ⟨hG7, hT7⟩ ?_
        rotate_left
        · intro w1 hSw
          replace hSw : w1.heap[w.heap.size]? = some (.cells #[.int .i64 t, .int .i64 r, .bool same, .int .i64 p, .int .i64 o] 24) ∧ w1.heap[B]? = some (.cells #[.slice a P.length cap, .int .i64 i] 27) := hSw
          obtain ⟨hSg, hSr⟩ := hSw
          obtain ⟨e0, e1, e2, e3, e4⟩ := gcells hSg
          obtain ⟨f0, f1⟩ := tcells hSr
          clear hSg hSr
          go_simp; with_reducible rfl
        simp only [List.getElem_toArray, List.getElem_cons_succ, List.getElem_cons_zero, Act.put, List.setIfInBounds_toArray, List.set_cons_zero, List.set_cons_succ]
        refine wpAnyH_take (i := 13) (oi := _) (v := ?_) rfl (by kernel_rfl) (by kernel_rfl) (by kernel_rfl) (fun _ _ _ h => h) (Or.inl ⟨by rfl, ?_⟩) ⟨hG7, hT7⟩ ?_
        rotate_left
        · intro w1 hSw
          replace hSw : w1.heap[w.heap.size]? = some (.cells #[.int .i64 t, .int .i64 r, .bool same, .int .i64 p, .int .i64 o] 24) ∧ w1.heap[B]? = some (.cells #[.slice a P.length cap, .int .i64 i] 27) := hSw
          obtain ⟨hSg, hSr⟩ := hSw
          obtain ⟨e0, e1, e2, e3, e4⟩ := gcells hSg
          obtain ⟨f0, f1⟩ := tcells hSr
          clear hSg hSr
          go_simp; with_reducible rfl
        simp only [List.getElem_toArray, List.getElem_cons_succ, List.getElem_cons_zero, Act.put, List.setIfInBounds_toArray, List.set_cons_zero, List.set_cons_succ]
        refine wpAnyH_take (i := 14) (oi := _) (v := ?_) rfl (by kernel_rfl) (by kernel_rfl) (by kernel_rfl) (fun _ _ _ h => h) (Or.inl ⟨by rfl, ?_⟩) ⟨hG7, hT7⟩ ?_
        rotate_left
        · intro w1 hSw
          replace hSw : w1.heap[w.heap.size]? = some (.cells #[.int .i64 t, .int .i64 r, .bool same, .int .i64 p, .int .i64 o] 24) ∧ w1.heap[B]? = some (.cells #[.slice a P.length cap, .int .i64 i] 27) := hSw
          obtain ⟨hSg, hSr⟩ := hSw
          obtain ⟨e0, e1, e2, e3, e4⟩ := gcells hSg
          obtain ⟨f0, f1⟩ := tcells hSr
          clear hSg hSr
          go_simp; with_reducible rfl
        simp only [List.getElem_toArray, List.getElem_cons_succ, List.getElem_cons_zero, Act.put, List.setIfInBounds_toArray, List.set_cons_zero, List.set_cons_succ]
        refine wpAnyH_take (i := 15) (oi := _) (v := ?_) rfl (by kernel_rfl) (by kernel_rfl) (by kernel_rfl) (fun _ _ _ h => h) (Or.inl ⟨by rfl, ?_⟩) ⟨hG7, hT7⟩ ?_
        rotate_left
        · intro w1 hSw
          replace hSw : w1.heap[w.heap.size]? = some (.cells #[.int .i64 t, .int .i64 r, .bool same, .int .i64 p, .int .i64 o] 24) ∧ w1.heap[B]? = some (.cells #[.slice a P.length cap, .int .i64 i] 27) := hSw
          obtain ⟨hSg, hSr⟩ := hSw
          obtain ⟨e0, e1, e2, e3, e4⟩ := gcells hSg
          obtain ⟨f0, f1⟩ := tcells hSr
          clear hSg hSr
          go_simp; with_reducible rfl
        simp only [List.getElem_toArray, List.getElem_cons_succ, List.getElem_cons_zero, Act.put, List.setIfInBounds_toArray, List.set_cons_zero, List.set_cons_succ]
        refine wpAnyH_take (i := 16) (oi := _) (v := ?_) rfl (by kernel_rfl) (by kernel_rfl) (by kernel_rfl) (fun _ _ _ h => h) (Or.inl ⟨by rfl, ?_⟩) ⟨hG7, hT7⟩ ?_
        rotate_left
        · intro w1 hSw
          replace hSw : w1.heap[w.heap.size]? = some (.cells #[.int .i64 t, .int .i64 r, .bool same, .int .i64 p, .int .i64 o] 24) ∧ w1.heap[B]? = some (.cells #[.slice a P.length cap, .int .i64 i] 27) := hSw
          obtain ⟨hSg, hSr⟩ := hSw
          obtain ⟨e0, e1, e2, e3, e4⟩ := gcells hSg
          obtain ⟨f0, f1⟩ := tcells hSr
          clear hSg hSr
          go_simp; with_reducible rfl
        simp only [List.getElem_toArray, List.getElem_cons_succ, List.getElem_cons_zero, Act.put, List.setIfInBounds_toArray, List.set_cons_zero, List.set_cons_succ]
        refine wpAnyH_done (by kernel_rfl) ?_ _
        clear q1 q2 q3 q4 q5 q6 q7 hG6 hT6 hbw6 hP6 HR2 hHeld
        obtain ⟨e0, e1, e2, e3, e4⟩ := gcells hG7
        obtain ⟨f0, f1⟩ := tcells hT7
        have h17 := rounds_any P (.slice a P.length cap) i ((k + 1) * t) w7 hP7
        rw [HR3.out] at h17
        have H17 := Lib.hid h17
        clear h17 HR3
        go_wp2_with fail
        refine H17.out.mono ?_
        rintro e w8 ⟨rfl, hb8⟩
        clear e0 e1 e2 e3 e4 f0 f1 H17
        have hbw8 : Below w.heap.size w w8 := hbw7.trans (hb8.mono (by omega))
        obtain ⟨e0, e1, e2, e3, e4⟩ := gcells ((hb8.block w.heap.size (by omega)).trans hG7)
        clear hG7 hT7 hb8 hP7 hbw7
        have z1 : decide (k * r ≤ b) = true := decide_eq_true hb1'
        have z2 : decide (b < k * r + r + 1) = true := decide_eq_true (by omega)
        go_wp2_with fail
        refine (HA.out _).mono ?_
        rintro e w9 ⟨rfl, hb9⟩
        go_wp2
        go_ret
        exact ⟨rfl, hbw8.trans (hb9.mono hbw8.size)⟩
end Go.Proofs.Ytoiapnokgpeipaa
