/- Size: are sizes valid? -/
import Derived.Test.YtlcmedfjghcigaaA4
import Derived.Lib.QuietBelow
namespace Go.Proofs.Ytlcmedfjghcigaa
set_option linter.unusedSimpArgs false
set_option linter.unusedVariables false
open Go.RowKit

theorem szsOk_iff {l : List Sz} : szsOk l = true ↔ l.length ≤ 12 ∧ ∀ i, i < l.length → SzOkAt l i = true := by
  unfold szsOk
  simp only [Bool.and_eq_true, decide_eq_true_eq, List.all_eq_true, List.mem_range]
theorem szAt_0 {l : List Sz} (h : 0 < l.length) : SzOkAt l 0 = szOk (l.getD 0 default) := by
  unfold SzOkAt; rw [getD_bang l h]; simp
theorem szAt_s {l : List Sz} {i : Nat} (h : i + 1 < l.length) : SzOkAt l (i + 1) = (szOk (l.getD (i + 1) default) && decide ((l.getD i default).full < (l.getD (i + 1) default).full)) := by
  unfold SzOkAt; rw [getD_bang l h, getD_bang l (by omega)]; simp
set_option maxRecDepth 100000 in
set_option maxHeartbeats 6400000 in
theorem areSizes_any (l : List Sz) (v : Value) (w : World) (h : TabAt 4 szC w v l) : Calls Try.prog 55 #[v] w fun e w' => e = .returned (.bool (szsOk l)) ∧ Below w.heap.size w w' := by
  obtain ⟨la, lc, rfl⟩ := h.shape
  have ml : l.length ≤ 9223372036854775807 := h.1
  have HL := Lib.hid h
  have hiff := szsOk_iff (l := l)
  obtain ⟨R, hR⟩ : ∃ b, szsOk l = b := ⟨_, rfl⟩
  rw [hR] at hiff ⊢
  have HIFF := Lib.hid hiff
  clear h hiff hR
  by_cases hn : l.length ≤ 12
  · have hg : decide ((l.length : Int) > 12) = false := by simp; omega
    have hg2 : decide (12 < (l.length : Int)) = false := by simp; omega
    have HN := Lib.hid hn
    clear hn
    go_enter Try.func55, Try.ntmps55
    go_wp2_with fail
    clear hg hg2
    go_loopw [10] (fun i wr => ∃ j : Nat, j ≤ l.length ∧ i = .int .i64 j ∧ (∀ a, a < j → SzOkAt l a = true) ∧ Below w.heap.size w wr) (fun i _ => l.length - (intOf i).toNat)
    case atStart => exact ⟨0, by omega, rfl, fun a ha => absurd ha (Nat.not_lt_zero _), Below.refl _ _⟩
    case round =>
      obtain ⟨j, hj, rfl, hfo, hbw⟩ := hrel
      have HFO := Lib.hid hfo
      have HBW := Lib.hid hbw
      clear hfo
      by_cases hlt : j < l.length
      · obtain ⟨lb, lo, e1, hlb, hlx⟩ := HL.out.at (by omega)
        subst e1
        have hbad : SzOkAt l j = false → R = false := fun h => by
          rw [← Bool.not_eq_true, HIFF.out]
          rintro ⟨_, hh⟩
          have := hh j hlt
          rw [h] at this; cases this
        have hnx : SzOkAt l j = true → ∀ a, a < j + 1 → SzOkAt l a = true := fun h a ha => by
          by_cases e : a = j
          · rw [e]; exact h
          · exact HFO.out a (by omega)
        have x0 := (hbw.cell (p := ⟨lb, lo + j * 4 + 0, none⟩) hlb).trans (hlx j hlt 0 (by omega))
        have x1 := (hbw.cell (p := ⟨lb, lo + j * 4 + 1, none⟩) hlb).trans (hlx j hlt 1 (by omega))
        have x2 := (hbw.cell (p := ⟨lb, lo + j * 4 + 2, none⟩) hlb).trans (hlx j hlt 2 (by omega))
        have x3 := (hbw.cell (p := ⟨lb, lo + j * 4 + 3, none⟩) hlb).trans (hlx j hlt 3 (by omega))
        have hpv : ∀ i : Nat, j = i + 1 → wr.cell? ⟨lb, lo + i * 4 + 1, none⟩ = some (.int .i64 (l.getD i default).full) ∧ SzOkAt l j = (szOk (l.getD j default) && decide ((l.getD i default).full < (l.getD j default).full)) := fun i hi => by
          subst hi
          exact ⟨(hbw.cell (p := ⟨lb, lo + i * 4 + 1, none⟩) hlb).trans (hlx i (by omega) 1 (by omega)), szAt_s hlt⟩
        have hz : j = 0 → SzOkAt l j = szOk (l.getD j default) := fun h => by subst h; exact szAt_0 hlt
        obtain ⟨⟨s0, s1, s2, s3⟩, hrow⟩ : ∃ x : Sz, l.getD j default = x := ⟨_, rfl⟩
        rw [hrow] at x0 x1 x2 x3 hpv hz
        simp only [Nat.add_zero, szC] at x0 x1 x2 x3 hpv
        have ks := fun X => isSize_any ⟨s0, s1, s2, s3⟩ X
        obtain ⟨b, hb⟩ : ∃ b, szOk ⟨s0, s1, s2, s3⟩ = b := ⟨_, rfl⟩
        rw [hb] at hpv hz
        simp only [hb, szV] at ks
        have ij1 : (j : Int) < (l.length : Int) := Int.ofNat_lt.2 hlt
        obtain ⟨W1, hW1⟩ : ∃ X, X = wr.alloc (.cells #[.int .i64 s0, .int .i64 s1, .int .i64 s2, .int .i64 s3] 27) := ⟨_, rfl⟩
        have hr1 : W1.heap[wr.heap.size]? = some (.cells #[.int .i64 s0, .int .i64 s1, .int .i64 s2, .int .i64 s3] 27 (0, 0)) := by rw [hW1]; exact alloc_heap wr _
        have hb1 : Below wr.heap.size wr W1 := by rw [hW1]; exact (Below.refl _ _).alloc (Nat.le_refl _) _
        have HB1 := Lib.hid (HBW.out.trans (hb1.mono hbw.size))
        have hlbr : lb < wr.heap.size := Nat.lt_of_lt_of_le hlb hbw.size
        obtain ⟨d0, d1, d2, d3⟩ := four_cells hr1
        have k0 := cell_regrown d0
        have k1 := cell_regrown d1
        have k2 := cell_regrown d2
        have k3 := cell_regrown d3
        have C1 := fun d os => Calls.regrown_of (w := W1) (d := d) (os := os) (ks _)
        have HBAD := Lib.hid hbad
        have HNX := Lib.hid hnx
        clear hlx hrow hb ks hbad hnx hr1 hbw hlb
        cases b with
        | false =>
          have hrr := HBAD.out (by
            rcases Nat.eq_zero_or_pos j with h | h
            · exact hz h
            · rw [(hpv (j - 1) (by omega)).2]; rfl)
          subst hrr
          clear hpv hz
          go_upto_region 6 with fail
          rw [← hW1]
          obtain ⟨B, hB⟩ : ∃ B, wr.heap.size = B := ⟨_, rfl⟩
          rw [hB] at k0 k1 k2 k3 ⊢
          clear hW1 hB x0 x1 x2 x3 d0 d1 d2 d3 hb1 hlbr
          refine wp_region_quiet_below (by kernel_rfl) (by kernel_rfl) ?_
          repeat (go_big_quiet_step (first | with_reducible exact C1 _ _))
          refine wpQuiet_nil ?_
          intro _ hw'
          obtain ⟨⟨dq, osq⟩, hw''⟩ := hw'
          subst hw''
          go_wp2
          go_ret
          exact ⟨rfl, HB1.out.trans ((below_regrown W1 dq osq).mono HB1.out.size)⟩
        | true =>
          rcases Nat.eq_zero_or_pos j with h0 | h0
          · have HNX2 := Lib.hid (HNX.out (hz h0))
            have ig0 : decide (0 < j) = false := by simp; omega
            clear hpv hz h0
            go_upto_region 6 with fail
            rw [← hW1]
            obtain ⟨B, hB⟩ : ∃ B, wr.heap.size = B := ⟨_, rfl⟩
            rw [hB] at k0 k1 k2 k3 ⊢
            clear hW1 hB x0 x1 x2 x3 d0 d1 d2 d3 hb1 hlbr
            refine wp_region_quiet_below (by kernel_rfl) (by kernel_rfl) ?_
            repeat (go_big_quiet_step (first | with_reducible exact C1 _ _))
            refine wpQuiet_nil ?_
            intro _ hw'
            obtain ⟨⟨dq, osq⟩, hw''⟩ := hw'
            subst hw''
            go_wp2
            go_roundw
            case rel => exact ⟨j + 1, by omega, by go_num, HNX2.out, HB1.out.trans ((below_regrown W1 dq osq).mono HB1.out.size)⟩
            case measure => simp [intOf]; omega
          · obtain ⟨i, hji⟩ : ∃ i, j = i + 1 := ⟨j - 1, by omega⟩
            obtain ⟨hpc, hpe⟩ := hpv i hji
            have hpc1 := cell_regrown ((hb1.cell (p := ⟨lb, lo + i * 4 + 1, none⟩) hlbr).trans hpc)
            obtain ⟨pf, hpf⟩ : ∃ x, (l.getD i default).full = x := ⟨_, rfl⟩
            rw [hpf] at hpc1 hpe
            simp only [Bool.true_and] at hpe
            have ig : (0 : Int) < (j : Int) := by omega
            have ign : 0 < j := by omega
            have wi : IntKind.i64.wrap ((j : Int) - 1) = (i : Int) := by rw [IntWalk.i64_in _ (by omega)]; omega
            have ib0 : (0 : Int) ≤ (i : Int) := by omega
            have ib1 : (i : Int) < (l.length : Int) := by omega
            clear hz hpv hpc hji
            go_upto_region 6 with fail
            rw [← hW1]
            obtain ⟨B, hB⟩ : ∃ B, wr.heap.size = B := ⟨_, rfl⟩
            rw [hB] at k0 k1 k2 k3 ⊢
            clear hW1 hB x0 x1 x2 x3 d0 d1 d2 d3 hb1 hlbr
            by_cases hlt2 : pf < s1
            · have hgd : decide (s1 ≤ pf) = false := by simp; omega
              have HNX2 := Lib.hid (HNX.out (by rw [hpe]; exact decide_eq_true hlt2))
              clear hpe hpf hlt2
              refine wp_region_quiet_below (by kernel_rfl) (by kernel_rfl) ?_
              repeat (go_big_quiet_step (first | with_reducible exact C1 _ _))
              refine wpQuiet_nil ?_
              intro _ hw'
              obtain ⟨⟨dq, osq⟩, hw''⟩ := hw'
              subst hw''
              go_wp2
              go_roundw
              case rel => exact ⟨j + 1, by omega, by go_num, HNX2.out, HB1.out.trans ((below_regrown W1 dq osq).mono HB1.out.size)⟩
              case measure => simp [intOf]; omega
            · have hgd : s1 ≤ pf := by omega
              have hrr := HBAD.out (by rw [hpe]; exact decide_eq_false hlt2)
              subst hrr
              clear hpe hpf hlt2
              refine wp_region_quiet_below (by kernel_rfl) (by kernel_rfl) ?_
              repeat (go_big_quiet_step (first | with_reducible exact C1 _ _))
              refine wpQuiet_nil ?_
              intro _ hw'
              obtain ⟨⟨dq, osq⟩, hw''⟩ := hw'
              subst hw''
              go_wp2
              go_ret
              exact ⟨rfl, HB1.out.trans ((below_regrown W1 dq osq).mono HB1.out.size)⟩
      · have hjl : j = l.length := by omega
        have i1 : ¬ (j : Int) < (l.length : Int) := by omega
        have hrr : R = true := HIFF.out.2 ⟨HN.out, by rw [← hjl]; exact HFO.out⟩
        subst hrr
        clear hjl hlt hj hbw
        go_wp2
        go_ret
        exact ⟨rfl, HBW.out⟩
  · have hrr : R = false := by
      rw [← Bool.not_eq_true, HIFF.out]
      exact fun h => hn h.1
    subst hrr
    have hg : 12 < (l.length : Int) := by omega
    clear hn
    go_enter Try.func55, Try.ntmps55
    go_wp2
    go_ret
    exact ⟨rfl, Below.refl _ _⟩
theorem errF_house {h : Hs} {l : List Sz} (k : hsOk h = false) : errF h l = 1 := by unfold errF; rw [k]; rfl
theorem errF_sizes {h : Hs} {l : List Sz} (k : hsOk h = true) (j : szsOk l = false) : errF h l = 2 := by unfold errF; rw [k, j]; rfl
theorem errF_ok {h : Hs} {l : List Sz} (k : hsOk h = true) (j : szsOk l = true) : errF h l = 0 := by unfold errF; rw [k, j]; rfl
theorem sizesError_any (h : Hs) (a1 : Option Addr) (c1 : Nat) (a2 : Option Addr) (c2 : Nat) (l : List Sz) (v : Value) (w : World) (hh : HsAt w h a1 c1 a2 c2) (hl : TabAt 4 szC w v l) : Calls Try.prog 41 #[hsV h a1 c1 a2 c2, v] w fun e w' => e = .returned (.int .i64 (errF h l)) ∧ Below w.heap.size w w' := by
  obtain ⟨la, lc, rfl⟩ := hl.shape
  obtain ⟨W0, hW0⟩ : ∃ X, X = w.alloc (.cells #[.int .i64 h.head, .int .i64 h.drip, .slice a1 h.tp.length c1, .slice a2 h.rl.length c2] 25) := ⟨_, rfl⟩
  have hal : W0 = al w [(.cells #[.int .i64 h.head, .int .i64 h.drip, .slice a1 h.tp.length c1, .slice a2 h.rl.length c2] 25)] := hW0
  have hb0 : Below w.heap.size w W0 := by rw [hal]; exact al_below w _ (Nat.le_refl _)
  have hs0 : W0.heap.size = w.heap.size + 1 := by rw [hal]; exact al_size w _
  have hr0 : W0.heap[w.heap.size]? = some (.cells #[.int .i64 h.head, .int .i64 h.drip, .slice a1 h.tp.length c1, .slice a2 h.rl.length c2] 25 (0, 0)) := by rw [hal]; exact al_get w _ 0 _ rfl
  obtain ⟨P, hP0⟩ : ∃ x, w.heap.size = x := ⟨_, rfl⟩
  rw [hP0] at hr0 hs0
  clear hal
  rw [hP0] at hb0
  have HS := Lib.hid (show w.heap.size = P ∧ W0.heap.size = P + 1 from ⟨by omega, by omega⟩)
  have HB := Lib.hid hb0
  have HK := Lib.hid (isHouse_any h a1 c1 a2 c2 W0 (hh.below (by rw [hP0]; exact hb0)))
  have HL := Lib.hid (hl.below (by rw [hP0]; exact hb0))
  obtain ⟨y0, y1, y2, y3⟩ := four_cells hr0
  obtain ⟨b, hb⟩ : ∃ b, hsOk h = b := ⟨_, rfl⟩
  have e1 := errF_house (h := h) (l := l)
  have e2 := errF_sizes (h := h) (l := l)
  have e3 := errF_ok (h := h) (l := l)
  obtain ⟨b2, hb2⟩ : ∃ b, szsOk l = b := ⟨_, rfl⟩
  rw [hb] at e1 e2 e3 HK
  rw [hb2] at e2 e3
  obtain ⟨E, hE⟩ : ∃ E, errF h l = E := ⟨_, rfl⟩
  rw [hE] at e1 e2 e3 ⊢
  have HB2 := Lib.hid hb2
  have E1 := Lib.hid e1
  have E2 := Lib.hid e2
  have E3 := Lib.hid e3
  clear hb hb2 e1 e2 e3 hE hb0 hr0 hs0 hh hl
  unfold hsV at *
  cases b with
  | false =>
    have hee := E1.out rfl
    subst hee
    go_enter Try.func41, Try.ntmps41
    go_upto_region 1 with fail
    rw [← hW0]
    clear hW0 hP0
    go_wp2_with (go_at_call 35; fail)
    refine HK.out.mono ?_
    rintro e w2 ⟨rfl, hb2⟩
    go_wp2
    go_ret
    exact ⟨rfl, by rw [HS.out.1]; exact HB.out.trans (hb2.mono (by have := HS.out; omega))⟩
  | true =>
    go_enter Try.func41, Try.ntmps41
    go_upto_region 1 with fail
    rw [← hW0]
    clear hW0 hP0
    go_wp2_with (go_at_call 35; fail)
    refine HK.out.mono ?_
    rintro e w2 ⟨rfl, hb2⟩
    have K2 := Lib.hid (areSizes_any l _ w2 (HL.out.below hb2))
    rw [HB2.out] at K2
    have HB3 := Lib.hid (HB.out.trans (hb2.mono (by have := HS.out; omega)))
    clear hb2 y0 y1 y2 y3
    cases b2 with
    | false =>
      have hee := E2.out (by simp) rfl
      subst hee
      go_wp2_with (go_at_call 55; fail)
      refine K2.out.mono ?_
      rintro e w3 ⟨rfl, hb3⟩
      go_wp2
      go_ret
      exact ⟨rfl, by rw [HS.out.1]; exact HB3.out.trans (hb3.mono (by have := HB3.out.size; have := HS.out; omega))⟩
    | true =>
      have hee := E3.out (by simp) rfl
      subst hee
      go_wp2_with (go_at_call 55; fail)
      refine K2.out.mono ?_
      rintro e w3 ⟨rfl, hb3⟩
      go_wp2
      go_ret
      exact ⟨rfl, by rw [HS.out.1]; exact HB3.out.trans (hb3.mono (by have := HB3.out.size; have := HS.out; omega))⟩
end Go.Proofs.Ytlcmedfjghcigaa
