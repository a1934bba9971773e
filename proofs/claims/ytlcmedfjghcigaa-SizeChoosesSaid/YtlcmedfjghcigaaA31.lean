/- Size: the reference: Pair. -/
import Derived.Test.YtlcmedfjghcigaaA29
import Derived.Test.YtlcmedfjghcigaaM3
import Derived.Test.YtlcmedfjghcigaaA17
namespace Go.Proofs.Ytlcmedfjghcigaa
set_option linter.unusedSimpArgs false
set_option linter.unusedVariables false
open Go.RowKit Go.Maps Go.BigFrame

/-- the pairs that were seen -/
def seenP (n i k : Nat) (y : Nat × Nat) : Prop := y.1 < y.2 ∧ y.2 < n ∧ (y.1 < i ∨ y.1 = i ∧ y.2 < k)
theorem seen_next {n i k : Nat} (h1 : i < k) (h2 : k < n) : (fun y => seenP n i k y ∨ y = (i, k)) = seenP n i (k + 1) := by
  funext ⟨a, b⟩
  unfold seenP
  simp only [Prod.mk.injEq, eq_iff_iff]
  omega
theorem seen_row {n i : Nat} : seenP n i n = seenP n (i + 1) (i + 2) := by
  funext ⟨a, b⟩
  unfold seenP
  simp only [eq_iff_iff]
  omega
theorem seen_none {n : Nat} : ∀ y, ¬ seenP n 0 1 y := fun ⟨a, b⟩ h => by unfold seenP at h; simp only [] at h; omega
theorem seen_lt {n i k : Nat} : ∀ y, seenP n i k y → ltP y (i, k) := fun ⟨a, b⟩ h => by unfold seenP at h; unfold ltP; simp only [] at h ⊢; omega
theorem seen_all {n i k : Nat} (h : n ≤ i) (y : Nat × Nat) (h1 : y.1 < y.2) (h2 : y.2 < n) : seenP n i k y := by unfold seenP; omega
def gL (h : Hs) (l : List Sz) (x : Nat × Nat) : Bool := goodL h l x.1 x.2
def bR : Best → Int × Int × Int × Int
  | some ((i, k), p) => ((i : Nat), (k : Nat), p, 0)
  | none => (0, 0, 0, 4)
theorem pair_best {h : Hs} {l : List Sz} (hh : hsOk h = true) (hl : szsOk l = true) {i k : Nat} (hi : l.length ≤ i) {b : Best} (hb : BestOf (gL h l) (priceF l) (seenP l.length i k) b) : pairR h l = bR b := by
  rcases pair_facts hh hl with ⟨f1, f2⟩ | ⟨si, sk, f1, f2, f3, f4, f5⟩
  · rcases hb with ⟨rfl, _⟩ | ⟨x, g1, g2, g3, _⟩
    · exact f1
    · exfalso
      have := f2 x.1 x.2 (by have := g1.1; have := g1.2.1; omega) g1.2.1
      have g2' : goodL h l x.1 x.2 = true := g2
      rw [this] at g2'; cases g2'
  · have hs := seen_all (k := k) hi (si, sk) f1 f2
    rcases hb with ⟨rfl, g1⟩ | ⟨⟨a, c⟩, g1, g2, g3, g4⟩
    · exfalso
      have := g1 (si, sk) hs
      have f4' : gL h l (si, sk) = true := f4
      rw [this] at f4'; cases f4'
    · have e1 := g4 (si, sk) hs f4
      have e2 := f5 a c (by have := g1.1; have := g1.2.1; simp only [] at *; omega) g1.2.1 g2
      unfold priceF ltP at e1
      simp only [Prod.mk.injEq] at e1
      have hac : a = si ∧ c = sk := by omega
      obtain ⟨rfl, rfl⟩ := hac
      subst g3
      exact f3
def sI : Best → Int | none => -1 | some ((i, _), _) => (i : Nat)
def kI : Best → Int | none => -1 | some ((_, k), _) => (k : Nat)
def pI : Best → Int | none => 0 | some (_, p) => p
set_option maxRecDepth 100000 in
set_option maxHeartbeats 12800000 in
theorem rPair_any (h : Hs) (a1 : Option Addr) (c1 : Nat) (a2 : Option Addr) (c2 : Nat) (l : List Sz) (v : Value) (w : World) (hh : HsAt w h a1 c1 a2 c2) (hl : TabAt 4 szC w v l) : Calls Try.prog 21 #[hsV h a1 c1 a2 c2, v] w (FourR w (pairR h l)) := by
  obtain ⟨la, lc, rfl⟩ := hl.shape
  have mt : h.tp.length ≤ 9223372036854775807 := hh.tp.1
  have ml : l.length ≤ 9223372036854775807 := hl.1
  obtain ⟨⟨r0, r1, r2, r3⟩, hrr⟩ : ∃ x, pairR h l = x := ⟨_, rfl⟩
  rw [hrr]
  have HRR := Lib.hid hrr
  obtain ⟨W0, hW0⟩ : ∃ X, X = w.alloc (.cells #[.int .i64 h.head, .int .i64 h.drip, .slice a1 h.tp.length c1, .slice a2 h.rl.length c2] 25) := ⟨_, rfl⟩
  have hal : W0 = al w [(.cells #[.int .i64 h.head, .int .i64 h.drip, .slice a1 h.tp.length c1, .slice a2 h.rl.length c2] 25)] := hW0
  have hb0 : Below w.heap.size w W0 := by rw [hal]; exact al_below w _ (Nat.le_refl _)
  have hs0 : W0.heap.size = w.heap.size + 1 := by rw [hal]; exact al_size w _
  have hr0 : W0.heap[w.heap.size]? = some (.cells #[.int .i64 h.head, .int .i64 h.drip, .slice a1 h.tp.length c1, .slice a2 h.rl.length c2] 25 (0, 0)) := by rw [hal]; exact al_get w _ 0 _ rfl
  obtain ⟨P, hP0⟩ : ∃ x, w.heap.size = x := ⟨_, rfl⟩
  rw [hP0] at hr0 hs0
  clear hal
  have HB0 := Lib.hid hb0
  have HP0 := Lib.hid hr0
  have hh0 := hh.below hb0
  have HH0 := Lib.hid hh0
  have HL0 := Lib.hid (hl.below hb0)
  have KH := Lib.hid (House_any h a1 c1 a2 c2 W0 hh0)
  obtain ⟨g, hg⟩ : ∃ b, hsOk h = b := ⟨_, rfl⟩
  have EV : hsV h a1 c1 a2 c2 = .agg #[.int .i64 h.head, .int .i64 h.drip, .slice a1 h.tp.length c1, .slice a2 h.rl.length c2] := rfl
  have HEV := Lib.hid EV
  rw [hg] at KH
  rw [EV] at KH ⊢
  have HG := Lib.hid hg
  obtain ⟨y0, y1, y2, y3⟩ := four_cells hr0
  unfold FourR
  clear hb0 hr0 hs0 hh hh0 hl EV hrr hg
  go_enter Try.func21, Try.ntmps21
  go_upto_region 1 with fail
  rw [← hW0]
  clear hW0 hP0
  go_wp2_with (go_at_call 25; fail)
  refine KH.out.mono ?_
  rintro e w2 ⟨rfl, hb2⟩
  have HB2 := Lib.hid (HB0.out.trans (hb2.mono HB0.out.size))
  have H2 := Lib.hid (box_step (w0 := w) HP0.out hb2)
  have HH2 := Lib.hid (HH0.out.below hb2)
  have hl2 := HL0.out.below hb2
  have HL2 := Lib.hid hl2
  clear hb2 y0 y1 y2 y3
  cases g with
  | false =>
    have he : pairR h l = (0, 0, 0, 1) := by
      have e0 : errF h l = 1 := by unfold errF; rw [HG.out]; rfl
      unfold pairR; rw [e0]; rfl
    rw [HRR.out] at he
    simp only [Prod.mk.injEq] at he
    obtain ⟨rfl, rfl, rfl, rfl⟩ := he
    clear hl2
    go_wp2
    exact bodyPost_ret (results_tmp4 rfl _ _ _) rfl ⟨rfl, HB2.out⟩
  | true =>
  have hok := HG.out
  have KE := Lib.hid (Sizes_any l _ w2 hl2)
  obtain ⟨g, hg⟩ : ∃ b, szsOk l = b := ⟨_, rfl⟩
  rw [hg] at KE
  have HZ := Lib.hid hg
  clear hg hl2
  go_wp2_with (go_at_call 29; fail)
  refine KE.out.mono ?_
  rintro e w3 ⟨rfl, hb3⟩
  have HB3 := Lib.hid (HB2.out.trans (hb3.mono HB2.out.size))
  have H3 := Lib.hid (box_step (w0 := w) H2.out hb3)
  have HH3 := Lib.hid (HH2.out.below hb3)
  have HL3 := Lib.hid (HL2.out.below hb3)
  clear hb3
  cases g with
  | false =>
    have he : pairR h l = (0, 0, 0, 2) := by
      have e0 : errF h l = 2 := by unfold errF; rw [HG.out, HZ.out]; rfl
      unfold pairR; rw [e0]; rfl
    rw [HRR.out] at he
    simp only [Prod.mk.injEq] at he
    obtain ⟨rfl, rfl, rfl, rfl⟩ := he
    go_wp2
    exact bodyPost_ret (results_tmp4 rfl _ _ _) rfl ⟨rfl, HB3.out⟩
  | true =>
  have hsz := HZ.out
  have hPw := Lib.hid (show P < w3.heap.size from (Array.getElem?_eq_some_iff.1 H3.out).1)
  go_wp2_with fail
  go_loopw [8, 9, 10, 11] (fun a c p i wr => ∃ (i' : Nat) (b : Best), i' ≤ l.length ∧ i = .int .i64 i' ∧ a = .int .i64 (sI b) ∧ c = .int .i64 (kI b) ∧ p = .int .i64 (pI b) ∧ BestOf (gL h l) (priceF l) (seenP l.length i' (i' + 1)) b ∧ Below w3.heap.size w3 wr) (fun _ _ _ i _ => l.length - (intOf i).toNat)
  case atStart => exact ⟨0, none, by omega, rfl, rfl, rfl, rfl, .inl ⟨rfl, fun y hy => absurd hy (seen_none y)⟩, Below.refl _ _⟩
  case round =>
    obtain ⟨i, b, hi, rfl, rfl, rfl, rfl, hbe, hbw⟩ := hrel
    have HBE := Lib.hid hbe
    have HBW := Lib.hid hbw
    by_cases hlt : i < l.length
    · have w1 : IntKind.i64.wrap ((i : Int) + 1) = (i : Int) + 1 := IntWalk.i64_in _ (by omega)
      have hil : (i : Int) < (l.length : Int) := by omega
      clear hbe hbw
      go_wp2_with fail
      go_loopw [8, 9, 10, 12] (fun a c p k wr => ∃ (k' : Nat) (b : Best), i < k' ∧ k' ≤ l.length ∧ k = .int .i64 k' ∧ a = .int .i64 (sI b) ∧ c = .int .i64 (kI b) ∧ p = .int .i64 (pI b) ∧ BestOf (gL h l) (priceF l) (seenP l.length i k') b ∧ Below w3.heap.size w3 wr) (fun _ _ _ k _ => l.length - (intOf k).toNat)
      case atStart => exact ⟨i + 1, b, by omega, by omega, by go_num, rfl, rfl, rfl, HBE.out, HBW.out⟩
      case round =>
        obtain ⟨k, b, hik, hk, rfl, rfl, rfl, rfl, hbe2, hbw2⟩ := hrel
        have HBE2 := Lib.hid hbe2
        have HBwr2 := Lib.hid hbw2
        by_cases hkl : k < l.length
        · obtain ⟨lb, lo, e1, hlb, hlx⟩ := HL3.out.at (by omega)
          subst e1
          have m0 := (hbw2.cell (p := ⟨lb, lo + i * 4 + 0, none⟩) hlb).trans (hlx i hlt 0 (by omega))
          have m1 := (hbw2.cell (p := ⟨lb, lo + i * 4 + 1, none⟩) hlb).trans (hlx i hlt 1 (by omega))
          have m3 := (hbw2.cell (p := ⟨lb, lo + i * 4 + 3, none⟩) hlb).trans (hlx i hlt 3 (by omega))
          have d0 := (hbw2.cell (p := ⟨lb, lo + k * 4 + 0, none⟩) hlb).trans (hlx k hkl 0 (by omega))
          have d1 := (hbw2.cell (p := ⟨lb, lo + k * 4 + 1, none⟩) hlb).trans (hlx k hkl 1 (by omega))
          have d2 := (hbw2.cell (p := ⟨lb, lo + k * 4 + 2, none⟩) hlb).trans (hlx k hkl 2 (by omega))
          have d3 := (hbw2.cell (p := ⟨lb, lo + k * 4 + 3, none⟩) hlb).trans (hlx k hkl 3 (by omega))
          have hok2 : ∀ y, y < l.length → szOk (l.getD y default) = true := fun y hy => by
            have := (szsOk_iff.1 hsz).2 y hy
            unfold SzOkAt at this
            rw [Bool.and_eq_true] at this
            rw [getD_bang l hy]
            exact this.1
          have hzi := hok2 i hlt
          have hzk := hok2 k hkl
          have hgi := getD_bang l hlt
          have hgk := getD_bang l hkl
          obtain ⟨⟨i0, i1, i2, i3⟩, hri⟩ : ∃ z, l.getD i default = z := ⟨_, rfl⟩
          obtain ⟨⟨s0, s1, s2, s3⟩, hrk⟩ : ∃ z, l.getD k default = z := ⟨_, rfl⟩
          rw [hri] at m0 m1 m3 hzi hgi
          rw [hrk] at d0 d1 d2 d3 hzk hgk
          simp only [Nat.add_zero, szC] at m0 m1 m3 d0 d1 d2 d3
          have KS := fun X hx => starvedR_any h hok a1 c1 a2 c2 ⟨s0, s1, s2, s3⟩ hzk X hx
          have hz0 := starvedP_zero hok hzk
          obtain ⟨⟨sx, sp⟩, hsp⟩ : ∃ x, starvedP h ⟨s0, s1, s2, s3⟩ = x := ⟨_, rfl⟩
          rw [hsp] at KS hz0
          have hgood : gL h l (i, k) = (fullF h ⟨s0, s1, s2, s3⟩ && (decide (i0 ≤ h.drip) && decide (s0 ≤ i1))) := by
            unfold gL goodL
            simp only []
            rw [← hgk, ← hgi, decide_eq_true hik]
            rfl
          have hprice : priceF l (i, k) = i3 + s3 := by
            unfold priceF
            simp only []
            rw [← hgk, ← hgi]
          have hst := best_step HBE2.out (x := (i, k)) seen_lt
          rw [seen_next hik hkl, hgood, hprice] at hst
          obtain ⟨F, hF⟩ : ∃ b, fullF h ⟨s0, s1, s2, s3⟩ = b := ⟨_, rfl⟩
          rw [hF] at hz0 hst
          have HST := Lib.hid hst
          simp only [] at hz0
          unfold szV at KS
          rw [HEV.out] at KS
          simp only [] at KS
          have b1 := (szOk_iff.1 hzi).2.2.2
          have b2 := (szOk_iff.1 hzk).2.2.2
          simp only [] at b1 b2
          have v1 : IntKind.i64.wrap (i3 + s3) = i3 + s3 := IntWalk.i64_in _ (by omega)
          have v2 : IntKind.i64.wrap ((k : Int) + 1) = (k : Int) + 1 := IntWalk.i64_in _ (by omega)
          have hp := box_step (w0 := w) H3.out hbw2
          have hhw := HH3.out.below hbw2
          obtain ⟨y0, yd, y2, y3⟩ := four_cells hp
          have ik0 : (0 : Int) ≤ (k : Int) := by omega
          have ik1 : (k : Int) < (l.length : Int) := Int.ofNat_lt.2 hkl
          have ii0 : (0 : Int) ≤ (i : Int) := by omega
          have C1 := fun d os => Calls.regrown_of (w := wr) (d := d) (os := os) (KS _ (hhw.below (below_regrown wr d os)))
          have HX := Lib.hid (show wr.cell? ⟨lb, lo + i * 4, none⟩ = some (.int .i64 i0) ∧ wr.cell? ⟨lb, lo + i * 4 + 1, none⟩ = some (.int .i64 i1) ∧ wr.cell? ⟨lb, lo + i * 4 + 3, none⟩ = some (.int .i64 i3) ∧ wr.cell? ⟨lb, lo + k * 4, none⟩ = some (.int .i64 s0) ∧ wr.cell? ⟨lb, lo + k * 4 + 3, none⟩ = some (.int .i64 s3) ∧ wr.cell? ⟨P, 1, none⟩ = some (.int .i64 h.drip) from ⟨m0, m1, m3, d0, d3, yd⟩)
          have hlw := Lib.hid (show lb < wr.heap.size from Nat.lt_of_lt_of_le hlb hbw2.size)
          have hPr := Lib.hid (show P < wr.heap.size from Nat.lt_of_lt_of_le hPw.out hbw2.size)
          have HBL := Lib.hid (Below.refl wr.heap.size wr)
          have k0 := cell_regrown y0
          have k2 := cell_regrown y2
          have k3 := cell_regrown y3
          have k4 := cell_regrown d1
          have k5 := cell_regrown d2
          clear hlx hzi hzk hgi hgk hri hrk hsp hgood hprice hst hF hp hhw KS hok2 hlb b1 b2 hbe2 hbw2
          go_upto_region 12 with fail
          have r0 := cell_regrown m0
          have r1 := cell_regrown m1
          have r2 := cell_regrown m3
          have r3 := cell_regrown d0
          have r4 := cell_regrown d3
          have r5 := cell_regrown yd
          clear m0 m1 m3 d0 d3 yd y0 y2 y3 d1 d2
          refine wp_region_quiet_below (by kernel_rfl) (by kernel_rfl) ?_
          repeat (go_big_quiet_step (first | with_reducible exact C1 _ _))
          refine wpQuiet_nil ?_
          intro wA hw2
          have hbrwA : Below wr.heap.size wr wA := by obtain ⟨⟨dq, osq⟩, hw3⟩ := hw2; rw [hw3]; exact below_regrown wr dq osq
          clear hw2 r0 r1 r2 r3 r4 r5
          have HBwA := Lib.hid (hbrwA)
          obtain ⟨q0, q1, q2, q3, q4, q5⟩ := HX.out
          have m0 := (HBwA.out.cell (p := ⟨lb, lo + i * 4, none⟩) hlw.out).trans q0
          have m1 := (HBwA.out.cell (p := ⟨lb, lo + i * 4 + 1, none⟩) hlw.out).trans q1
          have m3 := (HBwA.out.cell (p := ⟨lb, lo + i * 4 + 3, none⟩) hlw.out).trans q2
          have d0 := (HBwA.out.cell (p := ⟨lb, lo + k * 4, none⟩) hlw.out).trans q3
          have d3 := (HBwA.out.cell (p := ⟨lb, lo + k * 4 + 3, none⟩) hlw.out).trans q4
          have yd := (HBwA.out.cell (p := ⟨P, 1, none⟩) hPr.out).trans q5
          clear q0 q1 q2 q3 q4 q5 hbrwA
          clear C1 k0 k2 k3 k4 k5
          cases F with
          | false =>
            have hz1 : (sx != 0) = true := by simpa using hz0
            have hz2 : ¬ sx = 0 := by simpa using hz0
            go_upto_region 13 with fail
            have r0 := cell_regrown m0
            have r1 := cell_regrown m1
            have r2 := cell_regrown m3
            have r3 := cell_regrown d0
            have r4 := cell_regrown d3
            have r5 := cell_regrown yd
            clear m0 m1 m3 d0 d3 yd
            refine wp_region_quiet_below (by kernel_rfl) (by kernel_rfl) ?_
            repeat (go_big_quiet_step (fail))
            refine wpQuiet_nil ?_
            intro wB hw2
            have hbrwB : Below wA.heap.size wA wB := by obtain ⟨⟨dq, osq⟩, hw3⟩ := hw2; rw [hw3]; exact below_regrown wA dq osq
            clear hw2 r0 r1 r2 r3 r4 r5
            have HBwB := Lib.hid (HBwA.out.trans (hbrwB.mono HBwA.out.size))
            obtain ⟨q0, q1, q2, q3, q4, q5⟩ := HX.out
            have m0 := (HBwB.out.cell (p := ⟨lb, lo + i * 4, none⟩) hlw.out).trans q0
            have m1 := (HBwB.out.cell (p := ⟨lb, lo + i * 4 + 1, none⟩) hlw.out).trans q1
            have m3 := (HBwB.out.cell (p := ⟨lb, lo + i * 4 + 3, none⟩) hlw.out).trans q2
            have d0 := (HBwB.out.cell (p := ⟨lb, lo + k * 4, none⟩) hlw.out).trans q3
            have d3 := (HBwB.out.cell (p := ⟨lb, lo + k * 4 + 3, none⟩) hlw.out).trans q4
            have yd := (HBwB.out.cell (p := ⟨P, 1, none⟩) hPr.out).trans q5
            clear q0 q1 q2 q3 q4 q5 hbrwB
            go_wp2
            go_roundw
            case rel => exact ⟨k + 1, b, by omega, by omega, by go_num, rfl, rfl, rfl, HST.out, HBwr2.out.trans (HBwB.out.mono HBwr2.out.size)⟩
            case measure => simp [intOf]; omega
          | true =>
            have hz1 : sx = 0 := by simpa using hz0
            subst hz1
            by_cases g3 : i0 ≤ h.drip
            · have g3b : decide (i0 > h.drip) = false := by simp; omega
              have g3c : decide (h.drip < i0) = false := by simp; omega
              have e3 : decide (i0 ≤ h.drip) = true := decide_eq_true g3
              by_cases g4 : s0 ≤ i1
              · have g4b : decide (s0 > i1) = false := by simp; omega
                have g4c : decide (i1 < s0) = false := by simp; omega
                have e4 : decide (s0 ≤ i1) = true := decide_eq_true g4
                have hst := HST.out
                rw [e3, e4] at hst
                have HS2 := Lib.hid hst
                clear hst e3 e4
                go_upto_region 13 with fail
                have r0 := cell_regrown m0
                have r1 := cell_regrown m1
                have r2 := cell_regrown m3
                have r3 := cell_regrown d0
                have r4 := cell_regrown d3
                have r5 := cell_regrown yd
                clear m0 m1 m3 d0 d3 yd
                refine wp_region_quiet_below (by kernel_rfl) (by kernel_rfl) ?_
                repeat (go_big_quiet_step (fail))
                refine wpQuiet_nil ?_
                intro wB hw2
                have hbrwB : Below wA.heap.size wA wB := by obtain ⟨⟨dq, osq⟩, hw3⟩ := hw2; rw [hw3]; exact below_regrown wA dq osq
                clear hw2 r0 r1 r2 r3 r4 r5
                have HBwB := Lib.hid (HBwA.out.trans (hbrwB.mono HBwA.out.size))
                obtain ⟨q0, q1, q2, q3, q4, q5⟩ := HX.out
                have m0 := (HBwB.out.cell (p := ⟨lb, lo + i * 4, none⟩) hlw.out).trans q0
                have m1 := (HBwB.out.cell (p := ⟨lb, lo + i * 4 + 1, none⟩) hlw.out).trans q1
                have m3 := (HBwB.out.cell (p := ⟨lb, lo + i * 4 + 3, none⟩) hlw.out).trans q2
                have d0 := (HBwB.out.cell (p := ⟨lb, lo + k * 4, none⟩) hlw.out).trans q3
                have d3 := (HBwB.out.cell (p := ⟨lb, lo + k * 4 + 3, none⟩) hlw.out).trans q4
                have yd := (HBwB.out.cell (p := ⟨P, 1, none⟩) hPr.out).trans q5
                clear q0 q1 q2 q3 q4 q5 hbrwB
                clear g3b g3c g4b g4c
                cases b with
                | none =>
                  simp only [sI, kI, pI]
                  go_upto_region 14 with fail
                  have r0 := cell_regrown m0
                  have r1 := cell_regrown m1
                  have r2 := cell_regrown m3
                  have r3 := cell_regrown d0
                  have r4 := cell_regrown d3
                  have r5 := cell_regrown yd
                  clear m0 m1 m3 d0 d3 yd
                  refine wp_region_quiet_below (by kernel_rfl) (by kernel_rfl) ?_
                  repeat (go_big_quiet_step (fail))
                  refine wpQuiet_nil ?_
                  intro wC hw2
                  have hbrwC : Below wB.heap.size wB wC := by obtain ⟨⟨dq, osq⟩, hw3⟩ := hw2; rw [hw3]; exact below_regrown wB dq osq
                  clear hw2 r0 r1 r2 r3 r4 r5
                  have HBwC := Lib.hid (HBwB.out.trans (hbrwC.mono HBwB.out.size))
                  obtain ⟨q0, q1, q2, q3, q4, q5⟩ := HX.out
                  have m0 := (HBwC.out.cell (p := ⟨lb, lo + i * 4, none⟩) hlw.out).trans q0
                  have m1 := (HBwC.out.cell (p := ⟨lb, lo + i * 4 + 1, none⟩) hlw.out).trans q1
                  have m3 := (HBwC.out.cell (p := ⟨lb, lo + i * 4 + 3, none⟩) hlw.out).trans q2
                  have d0 := (HBwC.out.cell (p := ⟨lb, lo + k * 4, none⟩) hlw.out).trans q3
                  have d3 := (HBwC.out.cell (p := ⟨lb, lo + k * 4 + 3, none⟩) hlw.out).trans q4
                  have yd := (HBwC.out.cell (p := ⟨P, 1, none⟩) hPr.out).trans q5
                  clear q0 q1 q2 q3 q4 q5 hbrwC
                  go_wp2
                  go_upto_region 17 with fail
                  have r0 := cell_regrown m0
                  have r1 := cell_regrown m1
                  have r2 := cell_regrown m3
                  have r3 := cell_regrown d0
                  have r4 := cell_regrown d3
                  have r5 := cell_regrown yd
                  clear m0 m1 m3 d0 d3 yd
                  refine wp_region_quiet_below (by kernel_rfl) (by kernel_rfl) ?_
                  repeat (go_big_quiet_step (fail))
                  refine wpQuiet_nil ?_
                  intro wD hw2
                  have hbrwD : Below wC.heap.size wC wD := by obtain ⟨⟨dq, osq⟩, hw3⟩ := hw2; rw [hw3]; exact below_regrown wC dq osq
                  clear hw2 r0 r1 r2 r3 r4 r5
                  have HBwD := Lib.hid (HBwC.out.trans (hbrwD.mono HBwC.out.size))
                  obtain ⟨q0, q1, q2, q3, q4, q5⟩ := HX.out
                  have m0 := (HBwD.out.cell (p := ⟨lb, lo + i * 4, none⟩) hlw.out).trans q0
                  have m1 := (HBwD.out.cell (p := ⟨lb, lo + i * 4 + 1, none⟩) hlw.out).trans q1
                  have m3 := (HBwD.out.cell (p := ⟨lb, lo + i * 4 + 3, none⟩) hlw.out).trans q2
                  have d0 := (HBwD.out.cell (p := ⟨lb, lo + k * 4, none⟩) hlw.out).trans q3
                  have d3 := (HBwD.out.cell (p := ⟨lb, lo + k * 4 + 3, none⟩) hlw.out).trans q4
                  have yd := (HBwD.out.cell (p := ⟨P, 1, none⟩) hPr.out).trans q5
                  clear q0 q1 q2 q3 q4 q5 hbrwD
                  go_wp2
                  go_roundw
                  case rel => exact ⟨k + 1, some ((i, k), i3 + s3), by omega, by omega, by go_num, rfl, rfl, rfl, HS2.out, HBwr2.out.trans (HBwD.out.mono HBwr2.out.size)⟩
                  case measure => simp [intOf]; omega
                | some bb =>
                  obtain ⟨⟨bx, by'⟩, bp⟩ := bb
                  simp only [sI, kI, pI]
                  have g5 : decide ((bx : Int) < 0) = false := by simp
                  have g5b : ¬ (bx : Int) < 0 := by omega
                  by_cases g6 : i3 + s3 < bp
                  · have hst := HS2.out
                    have e5 : offerF (some ((bx, by'), bp)) (i, k) (i3 + s3) = some ((i, k), i3 + s3) := by unfold offerF; simp only []; rw [if_pos g6]
                    rw [e5] at hst
                    have HS3 := Lib.hid hst
                    clear hst e5
                    go_upto_region 14 with fail
                    have r0 := cell_regrown m0
                    have r1 := cell_regrown m1
                    have r2 := cell_regrown m3
                    have r3 := cell_regrown d0
                    have r4 := cell_regrown d3
                    have r5 := cell_regrown yd
                    clear m0 m1 m3 d0 d3 yd
                    refine wp_region_quiet_below (by kernel_rfl) (by kernel_rfl) ?_
                    repeat (go_big_quiet_step (fail))
                    refine wpQuiet_nil ?_
                    intro wC hw2
                    have hbrwC : Below wB.heap.size wB wC := by obtain ⟨⟨dq, osq⟩, hw3⟩ := hw2; rw [hw3]; exact below_regrown wB dq osq
                    clear hw2 r0 r1 r2 r3 r4 r5
                    have HBwC := Lib.hid (HBwB.out.trans (hbrwC.mono HBwB.out.size))
                    obtain ⟨q0, q1, q2, q3, q4, q5⟩ := HX.out
                    have m0 := (HBwC.out.cell (p := ⟨lb, lo + i * 4, none⟩) hlw.out).trans q0
                    have m1 := (HBwC.out.cell (p := ⟨lb, lo + i * 4 + 1, none⟩) hlw.out).trans q1
                    have m3 := (HBwC.out.cell (p := ⟨lb, lo + i * 4 + 3, none⟩) hlw.out).trans q2
                    have d0 := (HBwC.out.cell (p := ⟨lb, lo + k * 4, none⟩) hlw.out).trans q3
                    have d3 := (HBwC.out.cell (p := ⟨lb, lo + k * 4 + 3, none⟩) hlw.out).trans q4
                    have yd := (HBwC.out.cell (p := ⟨P, 1, none⟩) hPr.out).trans q5
                    clear q0 q1 q2 q3 q4 q5 hbrwC
                    go_wp2
                    go_upto_region 17 with fail
                    have r0 := cell_regrown m0
                    have r1 := cell_regrown m1
                    have r2 := cell_regrown m3
                    have r3 := cell_regrown d0
                    have r4 := cell_regrown d3
                    have r5 := cell_regrown yd
                    clear m0 m1 m3 d0 d3 yd
                    refine wp_region_quiet_below (by kernel_rfl) (by kernel_rfl) ?_
                    repeat (go_big_quiet_step (fail))
                    refine wpQuiet_nil ?_
                    intro wD hw2
                    have hbrwD : Below wC.heap.size wC wD := by obtain ⟨⟨dq, osq⟩, hw3⟩ := hw2; rw [hw3]; exact below_regrown wC dq osq
                    clear hw2 r0 r1 r2 r3 r4 r5
                    have HBwD := Lib.hid (HBwC.out.trans (hbrwD.mono HBwC.out.size))
                    obtain ⟨q0, q1, q2, q3, q4, q5⟩ := HX.out
                    have m0 := (HBwD.out.cell (p := ⟨lb, lo + i * 4, none⟩) hlw.out).trans q0
                    have m1 := (HBwD.out.cell (p := ⟨lb, lo + i * 4 + 1, none⟩) hlw.out).trans q1
                    have m3 := (HBwD.out.cell (p := ⟨lb, lo + i * 4 + 3, none⟩) hlw.out).trans q2
                    have d0 := (HBwD.out.cell (p := ⟨lb, lo + k * 4, none⟩) hlw.out).trans q3
                    have d3 := (HBwD.out.cell (p := ⟨lb, lo + k * 4 + 3, none⟩) hlw.out).trans q4
                    have yd := (HBwD.out.cell (p := ⟨P, 1, none⟩) hPr.out).trans q5
                    clear q0 q1 q2 q3 q4 q5 hbrwD
                    go_wp2
                    go_roundw
                    case rel => exact ⟨k + 1, some ((i, k), i3 + s3), by omega, by omega, by go_num, rfl, rfl, rfl, HS3.out, HBwr2.out.trans (HBwD.out.mono HBwr2.out.size)⟩
                    case measure => simp [intOf]; omega
                  · have g6b : decide (i3 + s3 < bp) = false := by simpa using g6
                    have hst := HS2.out
                    have e5 : offerF (some ((bx, by'), bp)) (i, k) (i3 + s3) = some ((bx, by'), bp) := by unfold offerF; simp only []; rw [if_neg g6]
                    rw [e5] at hst
                    have HS3 := Lib.hid hst
                    clear hst e5
                    go_upto_region 14 with fail
                    have r0 := cell_regrown m0
                    have r1 := cell_regrown m1
                    have r2 := cell_regrown m3
                    have r3 := cell_regrown d0
                    have r4 := cell_regrown d3
                    have r5 := cell_regrown yd
                    clear m0 m1 m3 d0 d3 yd
                    refine wp_region_quiet_below (by kernel_rfl) (by kernel_rfl) ?_
                    repeat (go_big_quiet_step (fail))
                    refine wpQuiet_nil ?_
                    intro wC hw2
                    have hbrwC : Below wB.heap.size wB wC := by obtain ⟨⟨dq, osq⟩, hw3⟩ := hw2; rw [hw3]; exact below_regrown wB dq osq
                    clear hw2 r0 r1 r2 r3 r4 r5
                    have HBwC := Lib.hid (HBwB.out.trans (hbrwC.mono HBwB.out.size))
                    obtain ⟨q0, q1, q2, q3, q4, q5⟩ := HX.out
                    have m0 := (HBwC.out.cell (p := ⟨lb, lo + i * 4, none⟩) hlw.out).trans q0
                    have m1 := (HBwC.out.cell (p := ⟨lb, lo + i * 4 + 1, none⟩) hlw.out).trans q1
                    have m3 := (HBwC.out.cell (p := ⟨lb, lo + i * 4 + 3, none⟩) hlw.out).trans q2
                    have d0 := (HBwC.out.cell (p := ⟨lb, lo + k * 4, none⟩) hlw.out).trans q3
                    have d3 := (HBwC.out.cell (p := ⟨lb, lo + k * 4 + 3, none⟩) hlw.out).trans q4
                    have yd := (HBwC.out.cell (p := ⟨P, 1, none⟩) hPr.out).trans q5
                    clear q0 q1 q2 q3 q4 q5 hbrwC
                    go_wp2
                    go_roundw
                    case rel => exact ⟨k + 1, some ((bx, by'), bp), by omega, by omega, by go_num, rfl, rfl, rfl, HS3.out, HBwr2.out.trans (HBwC.out.mono HBwr2.out.size)⟩
                    case measure => simp [intOf]; omega
              · have g4b : s0 > i1 := by omega
                have g4c : i1 < s0 := by omega
                have e4 : decide (s0 ≤ i1) = false := decide_eq_false g4
                have hst := HST.out
                rw [e3, e4] at hst
                have HS2 := Lib.hid hst
                clear hst e3 e4
                go_upto_region 13 with fail
                have r0 := cell_regrown m0
                have r1 := cell_regrown m1
                have r2 := cell_regrown m3
                have r3 := cell_regrown d0
                have r4 := cell_regrown d3
                have r5 := cell_regrown yd
                clear m0 m1 m3 d0 d3 yd
                refine wp_region_quiet_below (by kernel_rfl) (by kernel_rfl) ?_
                repeat (go_big_quiet_step (fail))
                refine wpQuiet_nil ?_
                intro wB hw2
                have hbrwB : Below wA.heap.size wA wB := by obtain ⟨⟨dq, osq⟩, hw3⟩ := hw2; rw [hw3]; exact below_regrown wA dq osq
                clear hw2 r0 r1 r2 r3 r4 r5
                have HBwB := Lib.hid (HBwA.out.trans (hbrwB.mono HBwA.out.size))
                obtain ⟨q0, q1, q2, q3, q4, q5⟩ := HX.out
                have m0 := (HBwB.out.cell (p := ⟨lb, lo + i * 4, none⟩) hlw.out).trans q0
                have m1 := (HBwB.out.cell (p := ⟨lb, lo + i * 4 + 1, none⟩) hlw.out).trans q1
                have m3 := (HBwB.out.cell (p := ⟨lb, lo + i * 4 + 3, none⟩) hlw.out).trans q2
                have d0 := (HBwB.out.cell (p := ⟨lb, lo + k * 4, none⟩) hlw.out).trans q3
                have d3 := (HBwB.out.cell (p := ⟨lb, lo + k * 4 + 3, none⟩) hlw.out).trans q4
                have yd := (HBwB.out.cell (p := ⟨P, 1, none⟩) hPr.out).trans q5
                clear q0 q1 q2 q3 q4 q5 hbrwB
                go_wp2
                go_roundw
                case rel => exact ⟨k + 1, b, by omega, by omega, by go_num, rfl, rfl, rfl, HS2.out, HBwr2.out.trans (HBwB.out.mono HBwr2.out.size)⟩
                case measure => simp [intOf]; omega
            · have g3b : i0 > h.drip := by omega
              have g3c : h.drip < i0 := by omega
              have e3 : decide (i0 ≤ h.drip) = false := decide_eq_false g3
              have hst := HST.out
              rw [e3] at hst
              have HS2 := Lib.hid hst
              clear hst e3
              go_upto_region 13 with fail
              have r0 := cell_regrown m0
              have r1 := cell_regrown m1
              have r2 := cell_regrown m3
              have r3 := cell_regrown d0
              have r4 := cell_regrown d3
              have r5 := cell_regrown yd
              clear m0 m1 m3 d0 d3 yd
              refine wp_region_quiet_below (by kernel_rfl) (by kernel_rfl) ?_
              repeat (go_big_quiet_step (fail))
              refine wpQuiet_nil ?_
              intro wB hw2
              have hbrwB : Below wA.heap.size wA wB := by obtain ⟨⟨dq, osq⟩, hw3⟩ := hw2; rw [hw3]; exact below_regrown wA dq osq
              clear hw2 r0 r1 r2 r3 r4 r5
              have HBwB := Lib.hid (HBwA.out.trans (hbrwB.mono HBwA.out.size))
              obtain ⟨q0, q1, q2, q3, q4, q5⟩ := HX.out
              have m0 := (HBwB.out.cell (p := ⟨lb, lo + i * 4, none⟩) hlw.out).trans q0
              have m1 := (HBwB.out.cell (p := ⟨lb, lo + i * 4 + 1, none⟩) hlw.out).trans q1
              have m3 := (HBwB.out.cell (p := ⟨lb, lo + i * 4 + 3, none⟩) hlw.out).trans q2
              have d0 := (HBwB.out.cell (p := ⟨lb, lo + k * 4, none⟩) hlw.out).trans q3
              have d3 := (HBwB.out.cell (p := ⟨lb, lo + k * 4 + 3, none⟩) hlw.out).trans q4
              have yd := (HBwB.out.cell (p := ⟨P, 1, none⟩) hPr.out).trans q5
              clear q0 q1 q2 q3 q4 q5 hbrwB
              go_wp2
              go_roundw
              case rel => exact ⟨k + 1, b, by omega, by omega, by go_num, rfl, rfl, rfl, HS2.out, HBwr2.out.trans (HBwB.out.mono HBwr2.out.size)⟩
              case measure => simp [intOf]; omega
        · have hkl2 : k = l.length := by omega
          have i1 : ¬ (k : Int) < (l.length : Int) := by omega
          subst hkl2
          have hbe3 := HBE2.out
          rw [seen_row] at hbe3
          have HBE3 := Lib.hid hbe3
          clear hbe2 hbw2 hbe3
          go_wp2
          go_roundw
          case rel => exact ⟨i + 1, b, by omega, by go_num, rfl, rfl, rfl, HBE3.out, HBwr2.out⟩
          case measure => simp [intOf]; omega
    · have hil2 : i = l.length := by omega
      have i1 : ¬ (i : Int) < (l.length : Int) := by omega
      have he := pair_best hok hsz (by omega) hbe
      rw [HRR.out] at he
      clear hbe hbw
      subst hil2
      cases b with
      | none =>
        simp only [bR, Prod.mk.injEq] at he
        obtain ⟨rfl, rfl, rfl, rfl⟩ := he
        simp only [sI, kI, pI]
        go_wp2
        exact bodyPost_ret (results_tmp4 rfl _ _ _) rfl ⟨rfl, HB3.out.trans (HBW.out.mono HB3.out.size)⟩
      | some bb =>
        obtain ⟨⟨bx, by'⟩, bp⟩ := bb
        simp only [bR, Prod.mk.injEq] at he
        obtain ⟨rfl, rfl, rfl, rfl⟩ := he
        simp only [sI, kI, pI]
        have g5b : ¬ (bx : Int) < 0 := by omega
        go_wp2
        exact bodyPost_ret (results_tmp4 rfl _ _ _) rfl ⟨rfl, HB3.out.trans (HBW.out.mono HB3.out.size)⟩
end Go.Proofs.Ytlcmedfjghcigaa
