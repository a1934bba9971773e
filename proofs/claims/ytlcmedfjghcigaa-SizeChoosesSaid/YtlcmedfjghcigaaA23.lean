/- Size: the reference: are sizes valid? -/
import Derived.Test.YtlcmedfjghcigaaA22
namespace Go.Proofs.Ytlcmedfjghcigaa
set_option linter.unusedSimpArgs false
set_option linter.unusedVariables false
open Go.RowKit Go.Maps

set_option maxRecDepth 100000 in
set_option maxHeartbeats 6400000 in
theorem Sizes_any (l : List Sz) (v : Value) (w : World) (h : TabAt 4 szC w v l) : Calls Try.prog 29 #[v] w fun e w' => e = .returned (.bool (szsOk l)) ∧ Below w.heap.size w w' := by
  obtain ⟨la, lc, rfl⟩ := h.shape
  have ml : l.length ≤ 9223372036854775807 := h.1
  have HL := Lib.hid h
  have hiff := szsOk_iff (l := l)
  obtain ⟨R, hR⟩ : ∃ b, szsOk l = b := ⟨_, rfl⟩
  rw [hR] at hiff ⊢
  have HIFF := Lib.hid hiff
  clear h hiff hR
  go_enter Try.func29, Try.ntmps29
  go_wp2_with fail
  go_loopw [3] (fun i wr => ∃ j : Nat, j ≤ l.length ∧ i = .int .i64 j ∧ (∀ a, a < j → SzOkAt l a = true) ∧ Below w.heap.size w wr) (fun i _ => l.length - (intOf i).toNat)
  case atStart => exact ⟨0, by omega, rfl, fun a ha => absurd ha (Nat.not_lt_zero _), Below.refl _ _⟩
  case round =>
    obtain ⟨j, hj, rfl, hfo, hbw⟩ := hrel
    have HFO := Lib.hid hfo
    have HBW := Lib.hid hbw
    clear hfo
    by_cases hlt : j < l.length
    · obtain ⟨lb, lo, e1, hlb, hlx⟩ := HL.out.at (by omega)
      subst e1
      have hbad : SzOkAt l j = false → R = false := fun h => by
        rw [← Bool.not_eq_true, HIFF.out]
        rintro ⟨_, hh⟩
        have := hh j hlt
        rw [h] at this; cases this
      have hnx : SzOkAt l j = true → ∀ a, a < j + 1 → SzOkAt l a = true := fun h a ha => by
        by_cases e : a = j
        · rw [e]; exact h
        · exact HFO.out a (by omega)
      have x0 := (hbw.cell (p := ⟨lb, lo + j * 4 + 0, none⟩) hlb).trans (hlx j hlt 0 (by omega))
      have x1 := (hbw.cell (p := ⟨lb, lo + j * 4 + 1, none⟩) hlb).trans (hlx j hlt 1 (by omega))
      have x2 := (hbw.cell (p := ⟨lb, lo + j * 4 + 2, none⟩) hlb).trans (hlx j hlt 2 (by omega))
      have x3 := (hbw.cell (p := ⟨lb, lo + j * 4 + 3, none⟩) hlb).trans (hlx j hlt 3 (by omega))
      have hpv : ∀ i : Nat, j = i + 1 → wr.cell? ⟨lb, lo + i * 4 + 1, none⟩ = some (.int .i64 (l.getD i default).full) ∧ SzOkAt l j = (szOk (l.getD j default) && decide ((l.getD i default).full < (l.getD j default).full)) := fun i hi => by
        subst hi
        exact ⟨(hbw.cell (p := ⟨lb, lo + i * 4 + 1, none⟩) hlb).trans (hlx i (by omega) 1 (by omega)), szAt_s hlt⟩
      have hz : j = 0 → SzOkAt l j = szOk (l.getD j default) := fun h => by subst h; exact szAt_0 hlt
      obtain ⟨⟨s0, s1, s2, s3⟩, hrow⟩ : ∃ x : Sz, l.getD j default = x := ⟨_, rfl⟩
      rw [hrow] at x0 x1 x2 x3 hpv hz
      simp only [Nat.add_zero, szC] at x0 x1 x2 x3 hpv
      have ks := fun X => rSize_any ⟨s0, s1, s2, s3⟩ X
      obtain ⟨b, hb⟩ : ∃ b, szOk ⟨s0, s1, s2, s3⟩ = b := ⟨_, rfl⟩
      rw [hb] at hpv hz
      simp only [hb, szV] at ks
      have ij0 : (0 : Int) ≤ (j : Int) := by omega
      have ij1 : (j : Int) < (l.length : Int) := Int.ofNat_lt.2 hlt
      have k0 := cell_regrown x0
      have k1 := cell_regrown x1
      have k2 := cell_regrown x2
      have k3 := cell_regrown x3
      have C1 := fun d os => Calls.regrown_of (w := wr) (d := d) (os := os) (ks _)
      have HBAD := Lib.hid hbad
      have HNX := Lib.hid hnx
      clear hlx hrow hb ks hbad hnx hbw hlb
      cases b with
      | false =>
        have hrr := HBAD.out (by
          rcases Nat.eq_zero_or_pos j with h | h
          · exact hz h
          · rw [(hpv (j - 1) (by omega)).2]; rfl)
        subst hrr
        clear hpv hz
        go_upto_region 4 with fail
        clear x0 x1 x2 x3
        refine wp_region_quiet_below (by kernel_rfl) (by kernel_rfl) ?_
        repeat (go_big_quiet_step (first | with_reducible exact C1 _ _))
        refine wpQuiet_nil ?_
        intro Y hw'
        have hbr : Below wr.heap.size wr Y := by obtain ⟨⟨dq, osq⟩, hw''⟩ := hw'; rw [hw'']; exact below_regrown wr dq osq
        clear hw'
        have HY := Lib.hid (HBW.out.trans (hbr.mono HBW.out.size))
        clear hbr
        go_wp2
        go_ret
        exact ⟨rfl, HY.out⟩
      | true =>
        rcases Nat.eq_zero_or_pos j with h0 | h0
        · have HNX2 := Lib.hid (HNX.out (hz h0))
          have ig0 : decide (0 < j) = false := by simp; omega
          clear hpv hz h0
          go_upto_region 4 with fail
          clear x0 x1 x2 x3
          refine wp_region_quiet_below (by kernel_rfl) (by kernel_rfl) ?_
          repeat (go_big_quiet_step (first | with_reducible exact C1 _ _))
          refine wpQuiet_nil ?_
          intro Y hw'
          have hbr : Below wr.heap.size wr Y := by obtain ⟨⟨dq, osq⟩, hw''⟩ := hw'; rw [hw'']; exact below_regrown wr dq osq
          clear hw'
          have HY := Lib.hid (HBW.out.trans (hbr.mono HBW.out.size))
          clear hbr
          go_wp2
          go_roundw
          case rel => exact ⟨j + 1, by omega, by go_num, HNX2.out, HY.out⟩
          case measure => simp [intOf]; omega
        · obtain ⟨i, hji⟩ : ∃ i, j = i + 1 := ⟨j - 1, by omega⟩
          obtain ⟨hpc, hpe⟩ := hpv i hji
          have hpc1 := cell_regrown hpc
          obtain ⟨pf, hpf⟩ : ∃ x, (l.getD i default).full = x := ⟨_, rfl⟩
          rw [hpf] at hpc1 hpe
          simp only [Bool.true_and] at hpe
          have ig : (0 : Int) < (j : Int) := by omega
          have ign : 0 < j := by omega
          have wi : IntKind.i64.wrap ((j : Int) - 1) = (i : Int) := by rw [IntWalk.i64_in _ (by omega)]; omega
          have ib0 : (0 : Int) ≤ (i : Int) := by omega
          have ib1 : (i : Int) < (l.length : Int) := by omega
          clear hz hpv hpc hji
          go_upto_region 4 with fail
          clear x0 x1 x2 x3
          by_cases hlt2 : pf < s1
          · have hgd : decide (s1 ≤ pf) = false := by simp; omega
            have HNX2 := Lib.hid (HNX.out (by rw [hpe]; exact decide_eq_true hlt2))
            clear hpe hpf hlt2
            refine wp_region_quiet_below (by kernel_rfl) (by kernel_rfl) ?_
            repeat (go_big_quiet_step (first | with_reducible exact C1 _ _))
            refine wpQuiet_nil ?_
            intro Y hw'
            have hbr : Below wr.heap.size wr Y := by obtain ⟨⟨dq, osq⟩, hw''⟩ := hw'; rw [hw'']; exact below_regrown wr dq osq
            clear hw'
            have HY := Lib.hid (HBW.out.trans (hbr.mono HBW.out.size))
            clear hbr
            go_wp2
            go_roundw
            case rel => exact ⟨j + 1, by omega, by go_num, HNX2.out, HY.out⟩
            case measure => simp [intOf]; omega
          · have hgd : s1 ≤ pf := by omega
            have hrr := HBAD.out (by rw [hpe]; exact decide_eq_false hlt2)
            subst hrr
            clear hpe hpf hlt2
            refine wp_region_quiet_below (by kernel_rfl) (by kernel_rfl) ?_
            repeat (go_big_quiet_step (first | with_reducible exact C1 _ _))
            refine wpQuiet_nil ?_
            intro Y hw'
            have hbr : Below wr.heap.size wr Y := by obtain ⟨⟨dq, osq⟩, hw''⟩ := hw'; rw [hw'']; exact below_regrown wr dq osq
            clear hw'
            have HY := Lib.hid (HBW.out.trans (hbr.mono HBW.out.size))
            clear hbr
            go_wp2
            go_ret
            exact ⟨rfl, HY.out⟩
    · have hjl : j = l.length := by omega
      have i1 : ¬ (j : Int) < (l.length : Int) := by omega
      by_cases h12 : l.length ≤ 12
      · have hrr : R = true := HIFF.out.2 ⟨h12, by rw [← hjl]; exact HFO.out⟩
        have hg : (l.length : Int) ≤ 12 := by omega
        subst hrr
        clear hjl hlt hj hbw h12
        go_wp2
        go_ret
        exact ⟨rfl, HBW.out⟩
      · have hrr : R = false := by
          rw [← Bool.not_eq_true, HIFF.out]
          exact fun h => h12 h.1
        have hg : decide ((l.length : Int) ≤ 12) = false := by simp; omega
        subst hrr
        clear hjl hlt hj hbw h12
        go_wp2
        go_ret
        exact ⟨rfl, HBW.out⟩
end Go.Proofs.Ytlcmedfjghcigaa
