/- Sound: the reference Lag. -/
import Derived.Test.YtdbjifpnbghbaaaR3
import Derived.Test.YtdbjifpnbghbaaaA10
namespace Go.Proofs.Ytdbjifpnbghbaaa
set_option linter.unusedSimpArgs false
set_option linter.unusedVariables false
open Go.RowKit Go.Maps Go.BigFrame

theorem lagR_ref (l : List Pi) (hok : lineOk l = true) (x y t : Int) : lagR l x y t = if inF y 0 (endF l) then (if inF x 0 y then (if inF t 0 (endF l) then (lagsF l x y t, 0) else ((0, 0), 2)) else ((0, 0), 2)) else ((0, 0), 2) := by
  have h : (placeF l t && earsF l x y) = (inF y 0 (endF l) && (inF x 0 y && inF t 0 (endF l))) := by
    rw [Bool.eq_iff_iff]
    simp only [Bool.and_eq_true, earsF_iff, placeF, inF_iff]
    omega
  unfold lagR
  rw [hok, if_pos rfl, h]
  cases inF y 0 (endF l) <;> cases inF x 0 y <;> cases inF t 0 (endF l) <;> rfl
set_option maxRecDepth 100000 in
set_option maxHeartbeats 3200000 in
theorem rLag_any (l : List Pi) (v : Value) (x y t : Int) (w : World) (hl : TabAt 3 piC w v l) : Calls Try.prog 14 #[v, .int .i64 x, .int .i64 y, .int .i64 t] w (LagR w (lagR l x y t)) := by
  obtain ⟨a, cp, rfl⟩ := hl.shape
  obtain ⟨W0, hW0⟩ : ∃ X, X = w.alloc (.cells #[.int .i64 0, .int .i64 0] 24) := ⟨_, rfl⟩
  have hb0 : Below w.heap.size w W0 := by rw [hW0]; exact (Below.refl _ _).alloc (Nat.le_refl _) _
  have hr0 : W0.heap[w.heap.size]? = some (.cells #[.int .i64 0, .int .i64 0] 24 (0, 0)) := by rw [hW0]; exact alloc_heap w _
  obtain ⟨P, hP⟩ : ∃ x, w.heap.size = x := ⟨_, rfl⟩
  rw [hP] at hr0
  have HPw := Lib.hid hP
  have H0 := Lib.hid hr0
  have HL := Lib.hid (hl.below hb0)
  have HB0 := Lib.hid hb0
  have KV := Lib.hid (Line_any l (.slice a l.length cp) W0 (hl.below hb0))
  have hdef : lineOk l = false → lagR l x y t = ((0, 0), 1) := fun h => by unfold lagR; rw [h]; rfl
  have hdef1 : lineOk l = true → _ := fun h => lagR_ref l h x y t
  have KO := Lib.hid (fun (h : lineOk l = true) => of_any l h (.slice a l.length cp) x y t)
  have HE := Lib.hid (fun (h : lineOk l = true) => end_in h)
  have KE := Lib.hid (fun (h : lineOk l = true) X hX => End_any l (.slice a l.length cp) X hX (fun i hi => by have := pos_small h hi; omega))
  obtain ⟨ok, hok⟩ : ∃ b, lineOk l = b := ⟨_, rfl⟩
  rw [hok] at KV hdef hdef1 KO KE HE
  obtain ⟨⟨⟨r0, r1⟩, re⟩, hr⟩ : ∃ r, lagR l x y t = r := ⟨_, rfl⟩
  rw [hr] at hdef hdef1 ⊢
  unfold LagR
  simp only []
  clear hl hb0 hr0 hr hok
  go_enter Try.func14, Try.ntmps14
  go_upto_region 1 with fail
  rw [← hW0]
  try rw [hP]
  clear hW0 hP
  go_wp2_with (go_at_call 24; fail)
  refine KV.out.mono ?_
  rintro e w2 ⟨rfl, hb2⟩
  have hl2 := HL.out.below hb2
  have h02 := box_step (w0 := w) H0.out hb2
  have hbw := HB0.out.trans (hb2.mono HB0.out.size)
  clear hb2 HL H0 HB0 KV
  cases ok with
  | false =>
    have hd := hdef rfl
    simp only [Prod.mk.injEq] at hd
    obtain ⟨⟨rfl, rfl⟩, rfl⟩ := hd
    clear hdef hdef1 KO KE HE
    have f0 : w2.frozen? ⟨P, 0, none⟩ = false := frozen_of h02
    have f1 : w2.frozen? ⟨P, 1, none⟩ = false := frozen_of h02
    obtain ⟨p0, p1⟩ := two_cells h02
    have HZ := Lib.hid (set2 (A := .int .i64 0) (B := .int .i64 0) h02)
    have HBZ := Lib.hid (below2 hbw (R := P) (by rw [HPw.out]; exact Nat.le_refl _) (.int .i64 0) (.int .i64 0))
    clear h02 hbw hl2
    go_wp2
    exact bodyPost_ret (res2_24 Try.results14 rfl rfl HZ.out) rfl ⟨rfl, HBZ.out⟩
  | true =>
    have hd := hdef1 rfl
    have KE2 := Lib.hid (KE.out rfl w2 hl2)
    have hen := HE.out rfl
    obtain ⟨E, hE⟩ : ∃ z, endF l = z := ⟨_, rfl⟩
    rw [hE] at KE2 hd hen
    have KI1 := Lib.hid (in_any y 0 E w2)
    have KI2 := Lib.hid (in_any x 0 y w2)
    have KI3 := Lib.hid (in_any t 0 E w2)
    have HI1 := Lib.hid (inF_iff (n := y) (lo := 0) (hi := E))
    have HI2 := Lib.hid (inF_iff (n := x) (lo := 0) (hi := y))
    obtain ⟨b1, hb1⟩ : ∃ b, inF y 0 E = b := ⟨_, rfl⟩
    obtain ⟨b2, hb2⟩ : ∃ b, inF x 0 y = b := ⟨_, rfl⟩
    obtain ⟨b3, hb3⟩ : ∃ b, inF t 0 E = b := ⟨_, rfl⟩
    rw [hb1] at KI1 HI1 hd
    rw [hb2] at KI2 HI2 hd
    rw [hb3] at KI3 hd
    clear hdef hdef1 HE KE hE hb1 hb2 hb3
    have HL2 := Lib.hid hl2
    have H02 := Lib.hid h02
    have HB2 := Lib.hid hbw
    clear hl2 h02 hbw
    cases b1 with
    | false =>
      simp only [if_true, if_false, Bool.false_eq_true, Prod.mk.injEq] at hd
      obtain ⟨⟨rfl, rfl⟩, rfl⟩ := hd
      clear KO HI1 HI2 hen
      have f0 : w2.frozen? ⟨P, 0, none⟩ = false := frozen_of H02.out
      have f1 : w2.frozen? ⟨P, 1, none⟩ = false := frozen_of H02.out
      obtain ⟨p0, p1⟩ := two_cells H02.out
      have HZ := Lib.hid (set2 (A := .int .i64 0) (B := .int .i64 0) H02.out)
      have HBZ := Lib.hid (below2 HB2.out (R := P) (by rw [HPw.out]; exact Nat.le_refl _) (.int .i64 0) (.int .i64 0))
      go_wp2_with (first
        | (go_at_call 25; (with_reducible refine KE2.out.mono ?_); rintro e w3 ⟨rfl, rfl⟩)
        | (go_at_call 37; (with_reducible refine KI1.out.mono ?_); rintro e w3 ⟨rfl, rfl⟩)
        | (go_at_call 37; (with_reducible refine KI2.out.mono ?_); rintro e w3 ⟨rfl, rfl⟩)
        | (go_at_call 37; (with_reducible refine KI3.out.mono ?_); rintro e w3 ⟨rfl, rfl⟩))
      exact bodyPost_ret (res2_24 Try.results14 rfl rfl HZ.out) rfl ⟨rfl, HBZ.out⟩
    | true =>
      cases b2 with
      | false =>
        simp only [if_true, if_false, Bool.false_eq_true, Prod.mk.injEq] at hd
        obtain ⟨⟨rfl, rfl⟩, rfl⟩ := hd
        clear KO HI1 HI2 hen
        have f0 : w2.frozen? ⟨P, 0, none⟩ = false := frozen_of H02.out
        have f1 : w2.frozen? ⟨P, 1, none⟩ = false := frozen_of H02.out
        obtain ⟨p0, p1⟩ := two_cells H02.out
        have HZ := Lib.hid (set2 (A := .int .i64 0) (B := .int .i64 0) H02.out)
        have HBZ := Lib.hid (below2 HB2.out (R := P) (by rw [HPw.out]; exact Nat.le_refl _) (.int .i64 0) (.int .i64 0))
        go_wp2_with (first
          | (go_at_call 25; (with_reducible refine KE2.out.mono ?_); rintro e w3 ⟨rfl, rfl⟩)
          | (go_at_call 37; (with_reducible refine KI1.out.mono ?_); rintro e w3 ⟨rfl, rfl⟩)
          | (go_at_call 37; (with_reducible refine KI2.out.mono ?_); rintro e w3 ⟨rfl, rfl⟩)
          | (go_at_call 37; (with_reducible refine KI3.out.mono ?_); rintro e w3 ⟨rfl, rfl⟩))
        exact bodyPost_ret (res2_24 Try.results14 rfl rfl HZ.out) rfl ⟨rfl, HBZ.out⟩
      | true =>
        cases b3 with
        | false =>
          simp only [if_true, if_false, Bool.false_eq_true, Prod.mk.injEq] at hd
          obtain ⟨⟨rfl, rfl⟩, rfl⟩ := hd
          clear KO HI1 HI2 hen
          have f0 : w2.frozen? ⟨P, 0, none⟩ = false := frozen_of H02.out
          have f1 : w2.frozen? ⟨P, 1, none⟩ = false := frozen_of H02.out
          obtain ⟨p0, p1⟩ := two_cells H02.out
          have HZ := Lib.hid (set2 (A := .int .i64 0) (B := .int .i64 0) H02.out)
          have HBZ := Lib.hid (below2 HB2.out (R := P) (by rw [HPw.out]; exact Nat.le_refl _) (.int .i64 0) (.int .i64 0))
          go_wp2_with (first
            | (go_at_call 25; (with_reducible refine KE2.out.mono ?_); rintro e w3 ⟨rfl, rfl⟩)
            | (go_at_call 37; (with_reducible refine KI1.out.mono ?_); rintro e w3 ⟨rfl, rfl⟩)
            | (go_at_call 37; (with_reducible refine KI2.out.mono ?_); rintro e w3 ⟨rfl, rfl⟩)
            | (go_at_call 37; (with_reducible refine KI3.out.mono ?_); rintro e w3 ⟨rfl, rfl⟩))
          exact bodyPost_ret (res2_24 Try.results14 rfl rfl HZ.out) rfl ⟨rfl, HBZ.out⟩
        | true =>
          have hi1 := HI1.out.1 rfl
          have hi2 := HI2.out.1 rfl
          have KO2 := Lib.hid (KO.out rfl hi2.2 (by omega) (by omega) w2 HL2.out)
          obtain ⟨⟨g, h⟩, hgh⟩ : ∃ p, lagsF l x y t = p := ⟨_, rfl⟩
          rw [hgh] at KO2 hd
          unfold spV at KO2
          simp only [if_true, Prod.mk.injEq] at hd KO2
          obtain ⟨⟨rfl, rfl⟩, rfl⟩ := hd
          clear KO HI1 HI2 hgh hi1 hi2 hen
          go_wp2_with (first
            | (go_at_call 25; (with_reducible refine KE2.out.mono ?_); rintro e w3 ⟨rfl, rfl⟩)
            | (go_at_call 37; (with_reducible refine KI1.out.mono ?_); rintro e w3 ⟨rfl, rfl⟩)
            | (go_at_call 37; (with_reducible refine KI2.out.mono ?_); rintro e w3 ⟨rfl, rfl⟩)
            | (go_at_call 37; (with_reducible refine KI3.out.mono ?_); rintro e w3 ⟨rfl, rfl⟩)
            | (go_at_call 38; fail))
          refine KO2.out.mono ?_
          rintro e w5 ⟨rfl, hb5⟩
          have h05 := box_step (w0 := w) H02.out hb5
          have hbw5 := HB2.out.trans (hb5.mono HB2.out.size)
          have f0 : w5.frozen? ⟨P, 0, none⟩ = false := frozen_of h05
          have f1 : w5.frozen? ⟨P, 1, none⟩ = false := frozen_of h05
          obtain ⟨p0, p1⟩ := two_cells h05
          have HZ := Lib.hid (set2 (A := .int .i64 r0) (B := .int .i64 r1) h05)
          have HBZ := Lib.hid (below2 hbw5 (R := P) (by rw [HPw.out]; exact Nat.le_refl _) (.int .i64 r0) (.int .i64 r1))
          clear hb5 h05 hbw5
          go_wp2
          exact bodyPost_ret (res2_24 Try.results14 rfl rfl HZ.out) rfl ⟨rfl, HBZ.out⟩
end Go.Proofs.Ytdbjifpnbghbaaa
