/- Sound: isPlace, areEars, isHearing, areHearings. -/
import Derived.Test.YtdbjifpnbghbaaaA6
namespace Go.Proofs.Ytdbjifpnbghbaaa
set_option linter.unusedSimpArgs false
set_option linter.unusedVariables false
open Go.RowKit Go.Maps Go.BigFrame

theorem field24 (p q : Int) (w : World) : (Instr.field 24 (.agg #[.int .i64 p, .int .i64 q]) 1).run Try.prog w = .ok (.int .i64 q) w := by kernel_rfl
set_option maxRecDepth 100000 in
theorem isPlace_any (l : List Pi) (hok : lineOk l = true) (v : Value) (n : Int) (w : World) (hl : TabAt 3 piC w v l) : Calls Try.prog 34 #[v, .int .i64 n] w fun e w' => e = .returned (.bool (placeF l n)) ∧ Below w.heap.size w w' := by
  obtain ⟨a, c, rfl⟩ := hl.shape
  have KP := Lib.hid (places_any l hok (.slice a l.length c) w hl)
  have KF := Lib.hid (fun X => isFrom_any n 0 (endF l) X)
  have hf := field24 0 (endF l)
  unfold placeF
  obtain ⟨b, hb⟩ : ∃ b, inF n 0 (endF l) = b := ⟨_, rfl⟩
  simp only [hb] at KF ⊢
  clear hb hl
  go_enter Try.func34, Try.ntmps34
  go_wp2_with (go_at_call 48; fail)
  refine KP.out.mono ?_
  rintro e w2 ⟨rfl, hb2⟩
  have HB := Lib.hid hb2
  clear hb2
  go_wp2_with (go_at_call 53; (with_reducible refine (KF.out _).mono ?_); rintro e w2 ⟨rfl, rfl⟩)
  go_ret
  exact ⟨rfl, HB.out⟩
theorem areEars_any (l : List Pi) (hok : lineOk l = true) (v : Value) (x y : Int) (w : World) (hl : TabAt 3 piC w v l) : Calls Try.prog 35 #[v, .int .i64 x, .int .i64 y] w fun e w' => e = .returned (.bool (earsF l x y)) ∧ Below w.heap.size w w' := by
  obtain ⟨a, c, rfl⟩ := hl.shape
  have K1 := Lib.hid (isPlace_any l hok (.slice a l.length c) x w hl)
  have HL := Lib.hid hl
  have hdef : earsF l x y = (placeF l x && (placeF l y && decide (x ≤ y))) := rfl
  have KK := fun X (hX : TabAt 3 piC X (.slice a l.length c) l) => isPlace_any l hok (.slice a l.length c) y X hX
  have K2 := Lib.hid KK
  obtain ⟨b1, hb1⟩ : ∃ b, placeF l x = b := ⟨_, rfl⟩
  obtain ⟨b2, hb2⟩ : ∃ b, placeF l y = b := ⟨_, rfl⟩
  rw [hb1] at K1
  simp only [hb2] at K2
  rw [hb1, hb2] at hdef
  clear hb1 hb2 hl KK
  cases b1 with
  | false =>
    rw [show earsF l x y = false by rw [hdef]; rfl]
    clear hdef
    go_enter Try.func35, Try.ntmps35
    go_wp2_with (go_at_call 34; fail)
    refine K1.out.mono ?_
    rintro e w2 ⟨rfl, hb2⟩
    have HB := Lib.hid hb2
    clear hb2
    go_wp2
    go_ret
    exact ⟨rfl, HB.out⟩
  | true =>
    have hdef2 : earsF l x y = (b2 && decide (x ≤ y)) := hdef
    have HD := Lib.hid hdef2
    clear hdef hdef2
    go_enter Try.func35, Try.ntmps35
    go_wp2_with (go_at_call 34; fail)
    refine K1.out.mono ?_
    rintro e w2 ⟨rfl, hb2⟩
    have HB := Lib.hid hb2
    have hl2 := HL.out.below hb2
    have K2w := Lib.hid (K2.out w2 hl2)
    clear hb2 hl2
    go_wp2_with (go_at_call 34; fail)
    refine K2w.out.mono ?_
    rintro e w3 ⟨rfl, hb3⟩
    have HB3 := Lib.hid (HB.out.trans (hb3.mono HB.out.size))
    clear hb3
    cases b2 with
    | false =>
      go_wp2
      go_ret
      exact ⟨by rw [HD.out]; rfl, HB3.out⟩
    | true =>
      go_wp2
      go_ret
      exact ⟨by rw [HD.out]; rfl, HB3.out⟩
set_option maxHeartbeats 1600000 in
theorem isHearing_any (l : List Pi) (hok : lineOk l = true) (v : Value) (h : He) (w : World) (hl : TabAt 3 piC w v l) : Calls Try.prog 39 #[v, heV h] w fun e w' => e = .returned (.bool (hearOk l h)) ∧ Below w.heap.size w w' := by
  obtain ⟨a, c, rfl⟩ := hl.shape
  obtain ⟨x, y, lo, hi⟩ := h
  have hdef : hearOk l ⟨x, y, lo, hi⟩ = (earsF l x y && withinF (lo, hi) (-1099511627776) 1099511627776) := rfl
  obtain ⟨W0, hW0⟩ : ∃ X, X = w.alloc (.cells #[.int .i64 x, .int .i64 y, .int .i64 lo, .int .i64 hi] 26) := ⟨_, rfl⟩
  have hb0 : Below w.heap.size w W0 := by rw [hW0]; exact (Below.refl _ _).alloc (Nat.le_refl _) _
  have hr0 : W0.heap[w.heap.size]? = some (.cells #[.int .i64 x, .int .i64 y, .int .i64 lo, .int .i64 hi] 26 (0, 0)) := by rw [hW0]; exact alloc_heap w _
  obtain ⟨P, hP⟩ : ∃ P, w.heap.size = P := ⟨_, rfl⟩
  have K1 := Lib.hid (areEars_any l hok (.slice a l.length c) x y W0 (hl.below hb0))
  have K2 := Lib.hid (fun X => isWithin_any lo hi (-1099511627776) 1099511627776 X)
  obtain ⟨b1, hb1⟩ : ∃ b, earsF l x y = b := ⟨_, rfl⟩
  obtain ⟨b2, hb2⟩ : ∃ b, withinF (lo, hi) (-1099511627776) 1099511627776 = b := ⟨_, rfl⟩
  rw [hb1] at K1
  simp only [hb2] at K2
  rw [hb1, hb2] at hdef
  rw [hP] at hr0
  obtain ⟨y0, y1, y2, y3⟩ := four_cells hr0
  have H0 := Lib.hid hr0
  have HB0 := Lib.hid hb0
  have HD := Lib.hid hdef
  clear hb1 hb2 hl hb0 hr0 hdef
  unfold heV
  go_enter Try.func39, Try.ntmps39
  go_upto_region 1 with fail
  rw [← hW0]
  clear hW0 hP
  go_wp2_with (go_at_call 35; fail)
  refine K1.out.mono ?_
  rintro e w2 ⟨rfl, hb2⟩
  have hbb := HB0.out.trans (hb2.mono HB0.out.size)
  have HB := Lib.hid hbb
  have h2 := box_step (w0 := w) H0.out hb2
  clear hb2 hbb y0 y1 y2 y3
  obtain ⟨y0, y1, y2, y3⟩ := four_cells h2
  clear h2
  cases b1 with
  | false =>
    go_wp2
    go_ret
    exact ⟨by rw [HD.out]; rfl, HB.out⟩
  | true =>
    go_wp2_with (go_at_call 54; fail)
    refine (K2.out _).mono ?_
    rintro e w3 ⟨rfl, hb3⟩
    have HB3 := Lib.hid (HB.out.trans (hb3.mono HB.out.size))
    clear hb3
    go_wp2
    go_ret
    exact ⟨by rw [HD.out]; rfl, HB3.out⟩
set_option maxRecDepth 100000 in
set_option maxHeartbeats 3200000 in
theorem areHearings_any (l : List Pi) (hok : lineOk l = true) (v : Value) (hs : List He) (v2 : Value) (w : World) (hl : TabAt 3 piC w v l) (hh : TabAt 4 heC w v2 hs) : Calls Try.prog 46 #[v, v2] w fun e w' => e = .returned (.bool (hs.all (hearOk l))) ∧ Below w.heap.size w w' := by
  obtain ⟨a, c, rfl⟩ := hl.shape
  obtain ⟨la, lc, rfl⟩ := hh.shape
  have ml : hs.length ≤ 9223372036854775807 := hh.1
  have HL := Lib.hid hl
  have HH := Lib.hid hh
  have KH := Lib.hid (fun h X hX => isHearing_any l hok (.slice a l.length c) h X hX)
  have hall := all_iff (p := hearOk l) (l := hs)
  obtain ⟨R, hR⟩ : ∃ R, hs.all (hearOk l) = R := ⟨_, rfl⟩
  rw [hR] at hall ⊢
  have hbadD : ∀ i, i < hs.length → hearOk l (hs.getD i default) = false → R = false := fun i hi hp => by
    rw [← Bool.not_eq_true, hall]
    intro h
    rw [h i hi] at hp; cases hp
  have HBAD := Lib.hid hbadD
  have HGOOD := Lib.hid hall.2
  clear hall hbadD hR hl hh
  go_enter Try.func46, Try.ntmps46
  go_wp2_with fail
  go_loopw [9] (fun i wr => ∃ j : Nat, j ≤ hs.length ∧ i = .int .i64 j ∧ (∀ b, b < j → hearOk l (hs.getD b default) = true) ∧ Below w.heap.size w wr) (fun i _ => hs.length - (intOf i).toNat)
  case atStart => exact ⟨0, by omega, rfl, fun b hb => absurd hb (Nat.not_lt_zero _), Below.refl _ _⟩
  case round =>
    obtain ⟨j, hj, rfl, hfo, hbw⟩ := hrel
    have HFO := Lib.hid hfo
    have HBW := Lib.hid hbw
    clear hfo
    by_cases hlt : j < hs.length
    · obtain ⟨lb, lo, e1, hlb, hlx⟩ := HH.out.at (by omega)
      subst e1
      have x0 := (hbw.cell (p := ⟨lb, lo + j * 4 + 0, none⟩) hlb).trans (hlx j hlt 0 (by omega))
      have x1 := (hbw.cell (p := ⟨lb, lo + j * 4 + 1, none⟩) hlb).trans (hlx j hlt 1 (by omega))
      have x2 := (hbw.cell (p := ⟨lb, lo + j * 4 + 2, none⟩) hlb).trans (hlx j hlt 2 (by omega))
      have x3 := (hbw.cell (p := ⟨lb, lo + j * 4 + 3, none⟩) hlb).trans (hlx j hlt 3 (by omega))
      have hbad := HBAD.out j hlt
      have hnx : hearOk l (hs.getD j default) = true → ∀ b, b < j + 1 → hearOk l (hs.getD b default) = true := fun h b hb => by
        by_cases e : b = j
        · rw [e]; exact h
        · exact HFO.out b (by omega)
      obtain ⟨⟨t0, t1, t2, t3⟩, hrow⟩ : ∃ x : He, hs.getD j default = x := ⟨_, rfl⟩
      rw [hrow] at x0 x1 x2 x3 hbad hnx
      simp only [Nat.add_zero, heC] at x0 x1 x2 x3
      obtain ⟨W1, hW1⟩ : ∃ X, X = wr.alloc (.cells #[.int .i64 t0, .int .i64 t1, .int .i64 t2, .int .i64 t3] 26) := ⟨_, rfl⟩
      have hr1 : W1.heap[wr.heap.size]? = some (.cells #[.int .i64 t0, .int .i64 t1, .int .i64 t2, .int .i64 t3] 26 (0, 0)) := by rw [hW1]; exact alloc_heap wr _
      have hbb : Below wr.heap.size wr W1 := by rw [hW1]; exact (Below.refl _ _).alloc (Nat.le_refl _) _
      have hb1 := HBW.out.trans (hbb.mono hbw.size)
      have HB1 := Lib.hid hb1
      have kw := KH.out ⟨t0, t1, t2, t3⟩ W1 (HL.out.below hb1)
      unfold heV at kw
      simp only [] at kw
      obtain ⟨b, hb⟩ : ∃ b, hearOk l ⟨t0, t1, t2, t3⟩ = b := ⟨_, rfl⟩
      rw [hb] at kw hbad hnx
      have KW := Lib.hid kw
      have HBA := Lib.hid hbad
      have HNX := Lib.hid hnx
      obtain ⟨d0, d1, d2, d3⟩ := four_cells hr1
      have ij1 : (j : Int) < (hs.length : Int) := Int.ofNat_lt.2 hlt
      have w1 : IntKind.i64.wrap ((j : Int) + 1) = (j : Int) + 1 := IntWalk.i64_in _ (by omega)
      clear hlx hrow hb kw hbad hnx hr1 hbb hbw hlb hb1
      go_upto_region 4 with fail
      rw [← hW1]
      obtain ⟨B, hB⟩ : ∃ B, wr.heap.size = B := ⟨_, rfl⟩
      rw [hB] at d0 d1 d2 d3 ⊢
      clear hW1 hB x0 x1 x2 x3
      go_wp2_with (go_at_call 39; fail)
      refine KW.out.mono ?_
      rintro e w3 ⟨rfl, hb3⟩
      have HB3 := Lib.hid (HB1.out.trans (hb3.mono HB1.out.size))
      clear hb3 d0 d1 d2 d3
      cases b with
      | false =>
        have hrr := HBA.out rfl
        subst hrr
        go_wp2
        go_ret
        exact ⟨rfl, HB3.out⟩
      | true =>
        go_wp2
        go_roundw
        case rel => exact ⟨j + 1, by omega, by go_num, HNX.out (by simp), HB3.out⟩
        case measure => simp [intOf]; omega
    · have i1 : ¬ (j : Int) < (hs.length : Int) := by omega
      have hjl : j = hs.length := by omega
      have hR := HGOOD.out (by rw [← hjl]; exact HFO.out)
      subst hR
      go_wp2
      go_ret
      exact ⟨rfl, HBW.out⟩
end Go.Proofs.Ytdbjifpnbghbaaa
