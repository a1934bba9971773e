/- Sound: the walk of SoundLags. -/
import Derived.Test.YtdbjifpnbghbaaaR8
import Derived.Test.YtdbjifpnbghbaaaL4
namespace Go.Proofs.Ytdbjifpnbghbaaa
set_option linter.unusedSimpArgs false
set_option linter.unusedVariables false
open Go.RowKit Go.Maps Go.BigFrame

theorem tuneR_few (l : List Pi) (t : Int) (h : He) : (tuneR l t h).1.length ≤ l.length := by
  unfold tuneR
  split
  · split
    · split
      · simp
      · simp [slowsF, tunedF_len]
    · simp
  · simp
theorem great_few {l : List Pi} {far : Int} (h : greatB l far = false) : l.length ≤ 12 := by
  unfold greatB at h
  simp only [Bool.or_eq_false_iff, decide_eq_false_iff_not] at h
  omega
set_option maxRecDepth 100000 in
set_option maxHeartbeats 6400000 in
theorem lags_law (l : List Pi) (v : Value) (x y t : Int) (h : He) (w : World) (hl : TabAt 3 piC w v l) : Calls Try.prog 3 #[v, .int .i64 x, .int .i64 y, .int .i64 t, heV h] w fun e w' => e = .returned (.bool true) ∧ Below w.heap.size w w' := by
  obtain ⟨a, c, rfl⟩ := hl.shape
  obtain ⟨p, q, lo, hi⟩ := h
  have KT1 := Lib.hid (fun X hX => Tune_any l (.slice a l.length c) t ⟨p, q, lo, hi⟩ X hX)
  have KT2 := Lib.hid (fun X hX => rTune_any l (.slice a l.length c) t ⟨p, q, lo, hi⟩ X hX)
  have KL1 := Lib.hid (fun X hX => Lag_any l (.slice a l.length c) x y t X hX)
  have KL2 := Lib.hid (fun X hX => rLag_any l (.slice a l.length c) x y t X hX)
  have hfew := tuneR_few l t ⟨p, q, lo, hi⟩
  obtain ⟨⟨S2, re2⟩, hT⟩ : ∃ r, tuneR l t ⟨p, q, lo, hi⟩ = r := ⟨_, rfl⟩
  obtain ⟨⟨⟨r0, r1⟩, re⟩, hR⟩ : ∃ r, lagR l x y t = r := ⟨_, rfl⟩
  rw [hT] at KT1 KT2 hfew
  rw [hR] at KL1 KL2
  unfold TuneR heV at KT1
  unfold TuneQ heV at KT2
  unfold LagR at KL1 KL2
  simp only [] at KT1 KT2 KL1 KL2 hfew
  unfold heV
  simp only []
  obtain ⟨W0, hW0⟩ : ∃ X, X = w.alloc (.cells #[.int .i64 p, .int .i64 q, .int .i64 lo, .int .i64 hi] 26) := ⟨_, rfl⟩
  have hb0 : Below w.heap.size w W0 := by rw [hW0]; exact (Below.refl _ _).alloc (Nat.le_refl _) _
  have hr0 : W0.heap[w.heap.size]? = some (.cells #[.int .i64 p, .int .i64 q, .int .i64 lo, .int .i64 hi] 26 (0, 0)) := by rw [hW0]; exact alloc_heap w _
  have KG := Lib.hid (great_any l (.slice a l.length c) 1073741824 W0 (hl.below hb0))
  obtain ⟨P, hP⟩ : ∃ z, w.heap.size = z := ⟨_, rfl⟩
  rw [hP] at hr0
  have KA := Lib.hid alive_any
  have hgf := fun h => great_few (l := l) (far := 1073741824) h
  obtain ⟨gr, hgr⟩ : ∃ g, greatB l 1073741824 = g := ⟨_, rfl⟩
  rw [hgr] at KG hgf
  have HL0 := Lib.hid (hl.below hb0)
  have H0 := Lib.hid hr0
  have HB0 := Lib.hid hb0
  have HF := Lib.hid hfew
  have HGF := Lib.hid hgf
  clear hb0 hr0 hl hgr hT hR hfew hgf
  go_enter Try.func3, Try.ntmps3
  go_upto_region 1 with fail
  rw [← hW0]
  try rw [hP]
  clear hW0 hP
  go_wp2_with (go_at_call 11; fail)
  refine KG.out.mono ?_
  rintro e w2 ⟨rfl, hb2⟩
  have HL2 := Lib.hid (HL0.out.below hb2)
  have H2 := Lib.hid (box_step (w0 := w) H0.out hb2)
  have HB2 := Lib.hid (HB0.out.trans (hb2.mono HB0.out.size))
  clear hb2 HL0 H0 HB0 KG
  cases gr with
  | true =>
    go_wp2_with (go_at_call 12; fail)
    refine (KA.out _).mono ?_
    rintro e9 w3 ⟨rfl, hbz⟩
    go_wp2
    go_ret
    exact ⟨rfl, HB2.out.trans (hbz.mono HB2.out.size)⟩
  | false =>
    have h12 := HGF.out rfl
    have HS := Lib.hid (show S2.length ≤ 1000 by have := HF.out; omega)
    clear h12 HF HGF
    go_wp2_with (go_at_call 13; fail)
    refine (KL1.out _ HL2.out).mono ?_
    rintro e w3 ⟨rfl, hb3⟩
    obtain ⟨W4, hW4⟩ : ∃ X, X = w3.alloc (.cells #[.int .i64 r0, .int .i64 r1] 24) := ⟨_, rfl⟩
    have hb4 : Below w3.heap.size w3 W4 := by rw [hW4]; exact (Below.refl _ _).alloc (Nat.le_refl _) _
    have hr4 : W4.heap[w3.heap.size]? = some (.cells #[.int .i64 r0, .int .i64 r1] 24 (0, 0)) := by rw [hW4]; exact alloc_heap w3 _
    have hb24 := hb3.trans (hb4.mono hb3.size)
    obtain ⟨A, hA⟩ : ∃ z, w3.heap.size = z := ⟨_, rfl⟩
    rw [hA] at hr4
    have HL4 := Lib.hid (HL2.out.below hb24)
    have H4 := Lib.hid (box_step (w0 := w) H2.out hb24)
    have HB4 := Lib.hid (HB2.out.trans (hb24.mono HB2.out.size))
    have HA4 := Lib.hid hr4
    clear hb3 hb4 hr4 hb24 HL2 H2 HB2 KL1
    go_upto_region 4 with fail
    rw [← hW4]
    try rw [hA]
    clear hW4 hA
    go_wp2_with (go_at_call 14; fail)
    refine (KL2.out _ HL4.out).mono ?_
    rintro e w5 ⟨rfl, hb5⟩
    obtain ⟨W6, hW6⟩ : ∃ X, X = w5.alloc (.cells #[.int .i64 r0, .int .i64 r1] 24) := ⟨_, rfl⟩
    have hb6 : Below w5.heap.size w5 W6 := by rw [hW6]; exact (Below.refl _ _).alloc (Nat.le_refl _) _
    have hr6 : W6.heap[w5.heap.size]? = some (.cells #[.int .i64 r0, .int .i64 r1] 24 (0, 0)) := by rw [hW6]; exact alloc_heap w5 _
    have hb46 := hb5.trans (hb6.mono hb5.size)
    obtain ⟨B, hB⟩ : ∃ z, w5.heap.size = z := ⟨_, rfl⟩
    rw [hB] at hr6
    have HL6 := Lib.hid (HL4.out.below hb46)
    have H6 := Lib.hid (box_step (w0 := w) H4.out hb46)
    have HA6 := Lib.hid (box_step (w0 := w) HA4.out hb46)
    have HBB6 := Lib.hid hr6
    have HB6 := Lib.hid (HB4.out.trans (hb46.mono HB4.out.size))
    clear hb5 hb6 hr6 hb46 HL4 H4 HB4 HA4 KL2
    go_upto_region 5 with fail
    rw [← hW6]
    try rw [hB]
    clear hW6 hB
    obtain ⟨y0, y1, y2, y3⟩ := four_cells H6.out
    go_wp2_with (go_at_call 15; fail)
    refine (KT1.out _ HL6.out).mono ?_
    rintro e w7 ⟨v7, rfl, ho7, hb7⟩
    have HT7 := Lib.hid (outS_tab ho7 HS.out)
    have HL7 := Lib.hid (HL6.out.below hb7)
    have H7 := Lib.hid (box_step (w0 := w) H6.out hb7)
    have HA7 := Lib.hid (box_step (w0 := w) HA6.out hb7)
    have HBB7 := Lib.hid (box_step (w0 := w) HBB6.out hb7)
    have HB7 := Lib.hid (HB6.out.trans (hb7.mono HB6.out.size))
    clear y0 y1 y2 y3 hb7 ho7 HL6 H6 HB6 HA6 HBB6 KT1
    obtain ⟨y0, y1, y2, y3⟩ := four_cells H7.out
    go_wp2_with (go_at_call 16; fail)
    refine (KT2.out _ HL7.out).mono ?_
    rintro e w8 ⟨v8, rfl, ho8, hb8⟩
    have HT8 := Lib.hid (tab_of_own ho8 rfl (by have := HS.out; unfold maxLen; omega))
    have HT78 := Lib.hid (HT7.out.below hb8)
    have HB8 := Lib.hid (HB7.out.trans (hb8.mono HB7.out.size))
    obtain ⟨z0, z1⟩ := two_cells (box_step (w0 := w) HA7.out hb8)
    obtain ⟨u0, u1⟩ := two_cells (box_step (w0 := w) HBB7.out hb8)
    clear y0 y1 y2 y3 hb8 ho8 HT7 HL7 H7 HB7 HA7 HBB7 KT2
    have hkk := Spans_any S2 S2 v7 v8 w8 HT78.out HT8.out
    rw [decide_eq_true (rfl : S2 = S2)] at hkk
    have KS := Lib.hid hkk
    clear hkk
    go_wp2_with (go_at_call 17; fail)
    refine KS.out.mono ?_
    rintro e w9 ⟨rfl, hb9⟩
    have HB9 := Lib.hid (HB8.out.trans (hb9.mono HB8.out.size))
    clear hb9 z0 z1 u0 u1
    go_wp2_with (go_at_call 12; fail)
    refine (KA.out _).mono ?_
    rintro e9 w10 ⟨rfl, hbz⟩
    go_wp2
    go_ret
    exact ⟨rfl, HB9.out.trans (hbz.mono HB9.out.size)⟩
end Go.Proofs.Ytdbjifpnbghbaaa
