/- Sound: alive. -/
import Derived.Test.YtdbjifpnbghbaaaL3
namespace Go.Proofs.Ytdbjifpnbghbaaa
set_option linter.unusedSimpArgs false
set_option linter.unusedVariables false
open Go.RowKit Go.Maps Go.BigFrame

theorem line_tab {w : World} {R : Nat} (h : w.heap[R]? = some (.cells (flatK 3 piC exL).toArray 59 (0, 0))) : TabAt 3 piC w (.slice (some ⟨R, 0, none⟩) 2 2) exL := tab_of_block (L := exL) h (by decide)
theorem heard_tab {w : World} {q : Nat} {a b lo hi : Int} (h : w.heap[q]? = some (.cells #[.int .i64 a, .int .i64 b, .int .i64 lo, .int .i64 hi] 26 (0, 0))) : TabAt 4 heC w (.slice (some ⟨q, 0, none⟩) 1 1) [(⟨a, b, lo, hi⟩ : He)] := tab_of_block (k := 4) (f := heC) (L := [(⟨a, b, lo, hi⟩ : He)]) h (by simp)
theorem outS_tab {w : World} {B : Nat} {L : List (Int × Int)} {v : Value} (h : OutS B L v w) (hl : L.length ≤ 1000) : TabAt 2 spC w v L := by
  rcases h with ⟨rfl, rfl⟩ | ⟨R, rfl, _, hr⟩
  · exact ⟨by simp [maxLen], .inl ⟨rfl, _, _, rfl⟩⟩
  · exact tab_of_block hr hl
theorem outT_tab {w : World} {B : Nat} {L : List St} {v : Value} (h : OutT B L v w) (hl : L.length ≤ 1000) : TabAt 3 stC w v L := tab_of_own h rfl (by unfold maxLen; omega)
theorem alive_lag : lagR exL 0 150 100 = ((550, 750), 0) := by decide +kernel
theorem alive_where : whereF exL [⟨0, 150, 700, 800⟩] = ([⟨0, 98, 100⟩, ⟨1, 0, 25⟩], 0) := by decide +kernel
theorem alive_tune : tuneR exL 100 ⟨0, 150, 600, 650⟩ = ([(8, 9), (5, 5)], 0) := by decide +kernel
set_option maxRecDepth 100000 in
set_option maxHeartbeats 6400000 in
theorem alive_any (w : World) : Calls Try.prog 12 #[] w fun e w' => e = .returned (.bool true) ∧ Below w.heap.size w w' := by
  have KL := Lib.hid line_any
  have KH := Lib.hid heard_any
  have KS := Lib.hid span_any
  have K1 := Lib.hid (fun v X hX => Lag_any exL v 0 150 100 X hX)
  have K2 := Lib.hid (fun v v2 X hX hY => Where_any exL v [⟨0, 150, 700, 800⟩] v2 X hX hY)
  have K3 := Lib.hid (fun v X hX => Tune_any exL v 100 ⟨0, 150, 600, 650⟩ X hX)
  have KQ := Lib.hid Spans_any
  have KT := Lib.hid Stretches_any
  rw [alive_lag] at K1
  rw [alive_where] at K2
  rw [alive_tune] at K3
  unfold LagR at K1
  unfold WhereR at K2
  unfold TuneR at K3
  unfold heV at KH
  simp only [] at K1 K2 K3 KH
  go_enter Try.func12, Try.ntmps12
  go_wp2_with (go_at_call 22; fail)
  refine (KL.out w).mono ?_
  rintro e w2 ⟨R1, rfl, hR1, hr1, hb2⟩
  have K1w := Lib.hid (K1.out _ w2 (line_tab hr1))
  have HB2 := Lib.hid hb2
  clear hR1 hr1 hb2
  go_wp2_with (go_at_call 13; fail)
  refine K1w.out.mono ?_
  rintro e w3 ⟨rfl, hb3⟩
  have hbb3 := HB2.out.trans (hb3.mono HB2.out.size)
  obtain ⟨A, hA⟩ : ∃ x, w3.heap.size = x := ⟨_, rfl⟩
  obtain ⟨W3, hW3⟩ : ∃ X, w3.alloc (.cells #[.int .i64 550, .int .i64 750] 24) = X := ⟨_, rfl⟩
  have hbA : Below w3.heap.size w3 W3 := by rw [← hW3]; exact (Below.refl _ _).alloc (Nat.le_refl _) _
  have hrA : W3.heap[A]? = some (.cells #[.int .i64 550, .int .i64 750] 24 (0, 0)) := by rw [← hW3, ← hA]; exact alloc_heap w3 _
  have HB3 := Lib.hid (hbb3.trans (hbA.mono hbb3.size))
  have HA := Lib.hid hrA
  clear hb3 hbb3 hbA hrA HB2
  go_wp2_with (go_at_call 22; fail)
  try rw [hW3]
  clear hW3 hA
  refine (KL.out W3).mono ?_
  rintro e w4 ⟨R2, rfl, hR2, hr2, hb4⟩
  have HB4 := Lib.hid (HB3.out.trans (hb4.mono HB3.out.size))
  have HA4 := Lib.hid (box_step (w0 := w) HA.out hb4)
  have HR2 := Lib.hid hr2
  clear hR2 hr2 hb4 HA HB3
  go_wp2_with (go_at_call 23; fail)
  refine (KH.out 700 800 w4).mono ?_
  rintro e w5 ⟨rfl, hb5⟩
  have hbb5 := HB4.out.trans (hb5.mono HB4.out.size)
  obtain ⟨q, hq⟩ : ∃ x, w5.heap.size = x := ⟨_, rfl⟩
  obtain ⟨W5, hW5⟩ : ∃ X, w5.alloc (.cells #[.int .i64 0, .int .i64 150, .int .i64 700, .int .i64 800] 26) = X := ⟨_, rfl⟩
  have hbQ : Below w5.heap.size w5 W5 := by rw [← hW5]; exact (Below.refl _ _).alloc (Nat.le_refl _) _
  have hrQ : W5.heap[q]? = some (.cells #[.int .i64 0, .int .i64 150, .int .i64 700, .int .i64 800] 26 (0, 0)) := by rw [← hW5, ← hq]; exact alloc_heap w5 _
  have hb45 := hb5.trans (hbQ.mono hb5.size)
  have K2w := Lib.hid (K2.out _ _ W5 (line_tab (box_step (w0 := w) HR2.out hb45)) (heard_tab hrQ))
  have HB5 := Lib.hid (HB4.out.trans (hb45.mono HB4.out.size))
  have HA5 := Lib.hid (box_step (w0 := w) HA4.out hb45)
  clear hb5 hbb5 hbQ hrQ hb45 HA4 HB4 HR2
  go_wp2_with (go_at_call 18; fail)
  refine K2w.out.mono ?_
  rintro e w6 ⟨v1, rfl, ho6, hb6⟩
  have ht6 := outT_tab ho6 (by decide)
  have HB6 := Lib.hid (HB5.out.trans (hb6.mono HB5.out.size))
  have HA6 := Lib.hid (box_step (w0 := w) HA5.out hb6)
  have HT6 := Lib.hid ht6
  clear ho6 hb6 ht6 hW5 hq HA5 HB5
  go_wp2_with (go_at_call 22; fail)
  refine (KL.out w6).mono ?_
  rintro e w7 ⟨R3, rfl, hR3, hr3, hb7⟩
  have HB7 := Lib.hid (HB6.out.trans (hb7.mono HB6.out.size))
  have HA7 := Lib.hid (box_step (w0 := w) HA6.out hb7)
  have HT7 := Lib.hid (HT6.out.below hb7)
  have HR3 := Lib.hid hr3
  clear hR3 hr3 hb7 HA6 HT6 HB6
  go_wp2_with (go_at_call 23; fail)
  refine (KH.out 600 650 w7).mono ?_
  rintro e w8 ⟨rfl, hb8⟩
  have HB8 := Lib.hid (HB7.out.trans (hb8.mono HB7.out.size))
  have HA8 := Lib.hid (box_step (w0 := w) HA7.out hb8)
  have HT8 := Lib.hid (HT7.out.below hb8)
  have K3w := Lib.hid (K3.out _ w8 (line_tab (box_step (w0 := w) HR3.out hb8)))
  clear hb8 HA7 HT7 HR3 HB7
  go_wp2_with (go_at_call 15; fail)
  refine K3w.out.mono ?_
  rintro e w9 ⟨v2, rfl, ho9, hb9⟩
  have ht9 := outS_tab ho9 (by decide)
  have HB9 := Lib.hid (HB8.out.trans (hb9.mono HB8.out.size))
  have HA9 := Lib.hid (box_step (w0 := w) HA8.out hb9)
  have HT9 := Lib.hid (HT8.out.below hb9)
  have HS9 := Lib.hid ht9
  clear ho9 hb9 ht9 HA8 HT8 HB8
  go_wp2_with fail
  refine wp_region_held_drew (S := fun w' => w'.heap[A]? = some (.cells #[.int .i64 550, .int .i64 750] 24 (0, 0))) (by kernel_rfl) HA9.out (fun hHeld => ?_)
  obtain ⟨Y0, hY0⟩ : ∃ X, X = w9.drew := ⟨_, rfl⟩
  have hbX : Below w9.heap.size w9 Y0 := by rw [hY0]; exact (Below.refl _ _).drew
  rw [← hY0] at hHeld ⊢
  have hH := Lib.hid hHeld
  clear hY0 hHeld
  refine wpAnyH_take (i := 0) (oi := _) (v := ?_) rfl (by kernel_rfl) (by kernel_rfl) (by kernel_rfl) (fun _ _ _ h => h) (Or.inl ⟨by rfl, ?_⟩) hH.out ?_
  rotate_left
  · intro w1 hSw
    obtain ⟨d0, d1⟩ := two_cells hSw
    clear hSw
    go_simp; with_reducible rfl
  simp only [List.getElem_toArray, List.getElem_cons_succ, List.getElem_cons_zero, Act.put, List.setIfInBounds_toArray, List.set_cons_zero, List.set_cons_succ]
  refine wpAnyH_all (rs := [1]) (by kernel_rfl) (by simp) ?_
  intro i hi; obtain rfl := List.mem_singleton.1 hi; clear hi
  refine wpOp_step rfl (fun K3 hK3 => ?_)
  have HK3 := Lib.hid hK3
  clear hK3
  rw [if_pos (by rfl)]
  go_simp
  refine (KS.out 550 750 Y0).mono ?_
  rintro e Y1 ⟨rfl, hbn⟩
  have hH2 := box_step (w0 := w) hH.out hbn
  replace hbX := hbX.trans (hbn.mono hbX.size)
  clear hH hbn
  have hH := Lib.hid hH2
  clear hH2
  refine HK3.out _ _ ⟨hH.out, ?_⟩
  clear HK3 K3
  try simp only [List.getElem_toArray, List.getElem_cons_succ, List.getElem_cons_zero, Act.put, List.setIfInBounds_toArray, List.set_cons_zero, List.set_cons_succ]
  refine wpAnyH_take (i := 2) (oi := _) (v := ?_) rfl (by kernel_rfl) (by kernel_rfl) (by kernel_rfl) (fun _ _ _ h => h) (Or.inl ⟨by rfl, ?_⟩) hH.out ?_
  rotate_left
  · intro w1 hSw
    obtain ⟨d0, d1⟩ := two_cells hSw
    clear hSw
    go_simp; with_reducible rfl
  simp only [List.getElem_toArray, List.getElem_cons_succ, List.getElem_cons_zero, Act.put, List.setIfInBounds_toArray, List.set_cons_zero, List.set_cons_succ]
  refine wpAnyH_take (i := 3) (oi := _) (v := ?_) rfl (by kernel_rfl) (by kernel_rfl) (by kernel_rfl) (fun _ _ _ h => h) (Or.inl ⟨by rfl, ?_⟩) hH.out ?_
  rotate_left
  · intro w1 hSw
    obtain ⟨d0, d1⟩ := two_cells hSw
    clear hSw
    go_simp; with_reducible rfl
  simp only [List.getElem_toArray, List.getElem_cons_succ, List.getElem_cons_zero, Act.put, List.setIfInBounds_toArray, List.set_cons_zero, List.set_cons_succ]
  refine wpAnyH_take (i := 4) (oi := _) (v := ?_) rfl (by kernel_rfl) (by kernel_rfl) (by kernel_rfl) (fun _ _ _ h => h) (Or.inl ⟨by rfl, ?_⟩) hH.out ?_
  rotate_left
  · intro w1 hSw
    obtain ⟨d0, d1⟩ := two_cells hSw
    clear hSw
    go_simp; with_reducible rfl
  simp only [List.getElem_toArray, List.getElem_cons_succ, List.getElem_cons_zero, Act.put, List.setIfInBounds_toArray, List.set_cons_zero, List.set_cons_succ]
  refine wpAnyH_take (i := 5) (oi := _) (v := ?_) rfl (by kernel_rfl) (by kernel_rfl) (by kernel_rfl) (fun _ _ _ h => h) (Or.inl ⟨by rfl, ?_⟩) hH.out ?_
  rotate_left
  · intro w1 hSw
    obtain ⟨d0, d1⟩ := two_cells hSw
    clear hSw
    go_simp; with_reducible rfl
  simp only [List.getElem_toArray, List.getElem_cons_succ, List.getElem_cons_zero, Act.put, List.setIfInBounds_toArray, List.set_cons_zero, List.set_cons_succ]
  refine wpAnyH_take (i := 6) (oi := _) (v := ?_) rfl (by kernel_rfl) (by kernel_rfl) (by kernel_rfl) (fun _ _ _ h => h) (Or.inl ⟨by rfl, ?_⟩) hH.out ?_
  rotate_left
  · intro w1 hSw
    obtain ⟨d0, d1⟩ := two_cells hSw
    clear hSw
    go_simp; with_reducible rfl
  simp only [List.getElem_toArray, List.getElem_cons_succ, List.getElem_cons_zero, Act.put, List.setIfInBounds_toArray, List.set_cons_zero, List.set_cons_succ]
  refine wpAnyH_take (i := 7) (oi := _) (v := ?_) rfl (by kernel_rfl) (by kernel_rfl) (by kernel_rfl) (fun _ _ _ h => h) (Or.inl ⟨by rfl, ?_⟩) hH.out ?_
  rotate_left
  · intro w1 hSw
    obtain ⟨d0, d1⟩ := two_cells hSw
    clear hSw
    go_simp; with_reducible rfl
  simp only [List.getElem_toArray, List.getElem_cons_succ, List.getElem_cons_zero, Act.put, List.setIfInBounds_toArray, List.set_cons_zero, List.set_cons_succ]
  refine wpAnyH_take (i := 8) (oi := _) (v := ?_) rfl (by kernel_rfl) (by kernel_rfl) (by kernel_rfl) (fun _ _ _ h => h) (Or.inl ⟨by rfl, ?_⟩) hH.out ?_
  rotate_left
  · intro w1 hSw
    obtain ⟨d0, d1⟩ := two_cells hSw
    clear hSw
    go_simp; with_reducible rfl
  simp only [List.getElem_toArray, List.getElem_cons_succ, List.getElem_cons_zero, Act.put, List.setIfInBounds_toArray, List.set_cons_zero, List.set_cons_succ]
  refine wpAnyH_take (i := 9) (oi := _) (v := ?_) rfl (by kernel_rfl) (by kernel_rfl) (by kernel_rfl) (fun _ _ _ h => h) (Or.inl ⟨by rfl, ?_⟩) hH.out ?_
  rotate_left
  · intro w1 hSw
    obtain ⟨d0, d1⟩ := two_cells hSw
    clear hSw
    go_simp; with_reducible rfl
  simp only [List.getElem_toArray, List.getElem_cons_succ, List.getElem_cons_zero, Act.put, List.setIfInBounds_toArray, List.set_cons_zero, List.set_cons_succ]
  refine wpAnyH_take (i := 10) (oi := _) (v := ?_) rfl (by kernel_rfl) (by kernel_rfl) (by kernel_rfl) (fun _ _ _ h => h) (Or.inl ⟨by rfl, ?_⟩) hH.out ?_
  rotate_left
  · intro w1 hSw
    obtain ⟨d0, d1⟩ := two_cells hSw
    clear hSw
    go_simp; with_reducible rfl
  simp only [List.getElem_toArray, List.getElem_cons_succ, List.getElem_cons_zero, Act.put, List.setIfInBounds_toArray, List.set_cons_zero, List.set_cons_succ]
  refine wpAnyH_all (rs := [11]) (by kernel_rfl) (by simp) ?_
  intro i hi; obtain rfl := List.mem_singleton.1 hi; clear hi
  refine wpOp_step rfl (fun K3 hK3 => ?_)
  have HK3 := Lib.hid hK3
  clear hK3
  rw [if_pos (by rfl)]
  go_simp
  obtain ⟨q1, hv⟩ : ∃ v, v = Y1.heap.size := ⟨_, rfl⟩
  obtain ⟨Y2, hY⟩ : ∃ X, X = Y1.alloc (.cells #[.int .i64 0, .int .i64 98, .int .i64 100, .int .i64 1, .int .i64 0, .int .i64 25] 49) := ⟨_, rfl⟩
  have hbn : Below Y1.heap.size Y1 Y2 := by rw [hY]; exact (Below.refl _ _).alloc (Nat.le_refl _) _
  have hrv : Y2.heap[q1]? = some (.cells #[.int .i64 0, .int .i64 98, .int .i64 100, .int .i64 1, .int .i64 0, .int .i64 25] 49 (0, 0)) := by rw [hY, hv]; exact alloc_heap Y1 _
  rw [← hY, ← hv]
  clear hY hv
  have HTV := Lib.hid (tab_of_block (f := stC) (k := 3) (L := [(⟨0, 98, 100⟩ : St), ⟨1, 0, 25⟩]) hrv (by simp))
  have hH2 := box_step (w0 := w) hH.out hbn
  replace hbX := hbX.trans (hbn.mono hbX.size)
  clear hH hrv hbn
  have hH := Lib.hid hH2
  clear hH2
  refine HK3.out _ _ ⟨hH.out, ?_⟩
  clear HK3 K3
  try simp only [List.getElem_toArray, List.getElem_cons_succ, List.getElem_cons_zero, Act.put, List.setIfInBounds_toArray, List.set_cons_zero, List.set_cons_succ]
  refine wpAnyH_all (rs := [12]) (by kernel_rfl) (by simp) ?_
  intro i hi; obtain rfl := List.mem_singleton.1 hi; clear hi
  refine wpOp_step rfl (fun K3 hK3 => ?_)
  have HK3 := Lib.hid hK3
  clear hK3
  rw [if_pos (by rfl)]
  go_simp
  refine (KT.out _ _ _ _ Y2 (HT9.out.below hbX) HTV.out).mono ?_
  rintro e Y3 ⟨rfl, hbn⟩
  clear HTV
  have hH2 := box_step (w0 := w) hH.out hbn
  replace hbX := hbX.trans (hbn.mono hbX.size)
  clear hH hbn
  have hH := Lib.hid hH2
  clear hH2
  refine HK3.out _ _ ⟨hH.out, ?_⟩
  clear HK3 K3
  try simp only [List.getElem_toArray, List.getElem_cons_succ, List.getElem_cons_zero, Act.put, List.setIfInBounds_toArray, List.set_cons_zero, List.set_cons_succ]
  refine wpAnyH_take (i := 13) (oi := _) (v := ?_) rfl (by kernel_rfl) (by kernel_rfl) (by kernel_rfl) (fun _ _ _ h => h) (Or.inl ⟨by rfl, ?_⟩) hH.out ?_
  rotate_left
  · intro w1 hSw
    obtain ⟨d0, d1⟩ := two_cells hSw
    clear hSw
    go_simp; with_reducible rfl
  simp only [List.getElem_toArray, List.getElem_cons_succ, List.getElem_cons_zero, Act.put, List.setIfInBounds_toArray, List.set_cons_zero, List.set_cons_succ]
  refine wpAnyH_take (i := 14) (oi := _) (v := ?_) rfl (by kernel_rfl) (by kernel_rfl) (by kernel_rfl) (fun _ _ _ h => h) (Or.inl ⟨by rfl, ?_⟩) hH.out ?_
  rotate_left
  · intro w1 hSw
    obtain ⟨d0, d1⟩ := two_cells hSw
    clear hSw
    go_simp; with_reducible rfl
  simp only [List.getElem_toArray, List.getElem_cons_succ, List.getElem_cons_zero, Act.put, List.setIfInBounds_toArray, List.set_cons_zero, List.set_cons_succ]
  refine wpAnyH_take (i := 15) (oi := _) (v := ?_) rfl (by kernel_rfl) (by kernel_rfl) (by kernel_rfl) (fun _ _ _ h => h) (Or.inl ⟨by rfl, ?_⟩) hH.out ?_
  rotate_left
  · intro w1 hSw
    obtain ⟨d0, d1⟩ := two_cells hSw
    clear hSw
    go_simp; with_reducible rfl
  simp only [List.getElem_toArray, List.getElem_cons_succ, List.getElem_cons_zero, Act.put, List.setIfInBounds_toArray, List.set_cons_zero, List.set_cons_succ]
  refine wpAnyH_take (i := 16) (oi := _) (v := ?_) rfl (by kernel_rfl) (by kernel_rfl) (by kernel_rfl) (fun _ _ _ h => h) (Or.inl ⟨by rfl, ?_⟩) hH.out ?_
  rotate_left
  · intro w1 hSw
    obtain ⟨d0, d1⟩ := two_cells hSw
    clear hSw
    go_simp; with_reducible rfl
  simp only [List.getElem_toArray, List.getElem_cons_succ, List.getElem_cons_zero, Act.put, List.setIfInBounds_toArray, List.set_cons_zero, List.set_cons_succ]
  refine wpAnyH_take (i := 17) (oi := _) (v := ?_) rfl (by kernel_rfl) (by kernel_rfl) (by kernel_rfl) (fun _ _ _ h => h) (Or.inl ⟨by rfl, ?_⟩) hH.out ?_
  rotate_left
  · intro w1 hSw
    obtain ⟨d0, d1⟩ := two_cells hSw
    clear hSw
    go_simp; with_reducible rfl
  simp only [List.getElem_toArray, List.getElem_cons_succ, List.getElem_cons_zero, Act.put, List.setIfInBounds_toArray, List.set_cons_zero, List.set_cons_succ]
  refine wpAnyH_take (i := 18) (oi := _) (v := ?_) rfl (by kernel_rfl) (by kernel_rfl) (by kernel_rfl) (fun _ _ _ h => h) (Or.inl ⟨by rfl, ?_⟩) hH.out ?_
  rotate_left
  · intro w1 hSw
    obtain ⟨d0, d1⟩ := two_cells hSw
    clear hSw
    go_simp; with_reducible rfl
  simp only [List.getElem_toArray, List.getElem_cons_succ, List.getElem_cons_zero, Act.put, List.setIfInBounds_toArray, List.set_cons_zero, List.set_cons_succ]
  refine wpAnyH_take (i := 19) (oi := _) (v := ?_) rfl (by kernel_rfl) (by kernel_rfl) (by kernel_rfl) (fun _ _ _ h => h) (Or.inl ⟨by rfl, ?_⟩) hH.out ?_
  rotate_left
  · intro w1 hSw
    obtain ⟨d0, d1⟩ := two_cells hSw
    clear hSw
    go_simp; with_reducible rfl
  simp only [List.getElem_toArray, List.getElem_cons_succ, List.getElem_cons_zero, Act.put, List.setIfInBounds_toArray, List.set_cons_zero, List.set_cons_succ]
  refine wpAnyH_all (rs := [20]) (by kernel_rfl) (by simp) ?_
  intro i hi; obtain rfl := List.mem_singleton.1 hi; clear hi
  refine wpOp_step rfl (fun K3 hK3 => ?_)
  have HK3 := Lib.hid hK3
  clear hK3
  rw [if_pos (by rfl)]
  go_simp
  refine (KS.out 8 9 Y3).mono ?_
  rintro e Y4 ⟨rfl, hbn⟩
  have hH2 := box_step (w0 := w) hH.out hbn
  replace hbX := hbX.trans (hbn.mono hbX.size)
  clear hH hbn
  have hH := Lib.hid hH2
  clear hH2
  refine HK3.out _ _ ⟨hH.out, ?_⟩
  clear HK3 K3
  try simp only [List.getElem_toArray, List.getElem_cons_succ, List.getElem_cons_zero, Act.put, List.setIfInBounds_toArray, List.set_cons_zero, List.set_cons_succ]
  refine wpAnyH_all (rs := [21]) (by kernel_rfl) (by simp) ?_
  intro i hi; obtain rfl := List.mem_singleton.1 hi; clear hi
  refine wpOp_step rfl (fun K3 hK3 => ?_)
  have HK3 := Lib.hid hK3
  clear hK3
  rw [if_pos (by rfl)]
  go_simp
  refine (KS.out 5 5 Y4).mono ?_
  rintro e Y5 ⟨rfl, hbn⟩
  have hH2 := box_step (w0 := w) hH.out hbn
  replace hbX := hbX.trans (hbn.mono hbX.size)
  clear hH hbn
  have hH := Lib.hid hH2
  clear hH2
  refine HK3.out _ _ ⟨hH.out, ?_⟩
  clear HK3 K3
  try simp only [List.getElem_toArray, List.getElem_cons_succ, List.getElem_cons_zero, Act.put, List.setIfInBounds_toArray, List.set_cons_zero, List.set_cons_succ]
  refine wpAnyH_all (rs := [22]) (by kernel_rfl) (by simp) ?_
  intro i hi; obtain rfl := List.mem_singleton.1 hi; clear hi
  refine wpOp_step rfl (fun K3 hK3 => ?_)
  have HK3 := Lib.hid hK3
  clear hK3
  rw [if_pos (by rfl)]
  go_simp
  obtain ⟨q2, hv⟩ : ∃ v, v = Y5.heap.size := ⟨_, rfl⟩
  obtain ⟨Y6, hY⟩ : ∃ X, X = Y5.alloc (.cells #[.int .i64 8, .int .i64 9, .int .i64 5, .int .i64 5] 24) := ⟨_, rfl⟩
  have hbn : Below Y5.heap.size Y5 Y6 := by rw [hY]; exact (Below.refl _ _).alloc (Nat.le_refl _) _
  have hrv : Y6.heap[q2]? = some (.cells #[.int .i64 8, .int .i64 9, .int .i64 5, .int .i64 5] 24 (0, 0)) := by rw [hY, hv]; exact alloc_heap Y5 _
  rw [← hY, ← hv]
  clear hY hv
  have HTV := Lib.hid (tab_of_block (f := spC) (k := 2) (L := [((8 : Int), (9 : Int)), (5, 5)]) hrv (by simp))
  have hH2 := box_step (w0 := w) hH.out hbn
  replace hbX := hbX.trans (hbn.mono hbX.size)
  clear hH hrv hbn
  have hH := Lib.hid hH2
  clear hH2
  refine HK3.out _ _ ⟨hH.out, ?_⟩
  clear HK3 K3
  try simp only [List.getElem_toArray, List.getElem_cons_succ, List.getElem_cons_zero, Act.put, List.setIfInBounds_toArray, List.set_cons_zero, List.set_cons_succ]
  refine wpAnyH_all (rs := [23]) (by kernel_rfl) (by simp) ?_
  intro i hi; obtain rfl := List.mem_singleton.1 hi; clear hi
  refine wpOp_step rfl (fun K3 hK3 => ?_)
  have HK3 := Lib.hid hK3
  clear hK3
  rw [if_pos (by rfl)]
  go_simp
  refine (KQ.out _ _ _ _ Y6 (HS9.out.below hbX) HTV.out).mono ?_
  rintro e Y7 ⟨rfl, hbn⟩
  clear HTV
  have hH2 := box_step (w0 := w) hH.out hbn
  replace hbX := hbX.trans (hbn.mono hbX.size)
  clear hH hbn
  have hH := Lib.hid hH2
  clear hH2
  refine HK3.out _ _ ⟨hH.out, ?_⟩
  clear HK3 K3
  try simp only [List.getElem_toArray, List.getElem_cons_succ, List.getElem_cons_zero, Act.put, List.setIfInBounds_toArray, List.set_cons_zero, List.set_cons_succ]
  refine wpAnyH_take (i := 24) (oi := _) (v := ?_) rfl (by kernel_rfl) (by kernel_rfl) (by kernel_rfl) (fun _ _ _ h => h) (Or.inl ⟨by rfl, ?_⟩) hH.out ?_
  rotate_left
  · intro w1 hSw
    obtain ⟨d0, d1⟩ := two_cells hSw
    clear hSw
    go_simp; with_reducible rfl
  simp only [List.getElem_toArray, List.getElem_cons_succ, List.getElem_cons_zero, Act.put, List.setIfInBounds_toArray, List.set_cons_zero, List.set_cons_succ]
  refine wpAnyH_take (i := 25) (oi := _) (v := ?_) rfl (by kernel_rfl) (by kernel_rfl) (by kernel_rfl) (fun _ _ _ h => h) (Or.inl ⟨by rfl, ?_⟩) hH.out ?_
  rotate_left
  · intro w1 hSw
    obtain ⟨d0, d1⟩ := two_cells hSw
    clear hSw
    go_simp; with_reducible rfl
  simp only [List.getElem_toArray, List.getElem_cons_succ, List.getElem_cons_zero, Act.put, List.setIfInBounds_toArray, List.set_cons_zero, List.set_cons_succ]
  refine wpAnyH_take (i := 26) (oi := _) (v := ?_) rfl (by kernel_rfl) (by kernel_rfl) (by kernel_rfl) (fun _ _ _ h => h) (Or.inl ⟨by rfl, ?_⟩) hH.out ?_
  rotate_left
  · intro w1 hSw
    obtain ⟨d0, d1⟩ := two_cells hSw
    clear hSw
    go_simp; with_reducible rfl
  simp only [List.getElem_toArray, List.getElem_cons_succ, List.getElem_cons_zero, Act.put, List.setIfInBounds_toArray, List.set_cons_zero, List.set_cons_succ]
  refine wpAnyH_take (i := 27) (oi := _) (v := ?_) rfl (by kernel_rfl) (by kernel_rfl) (by kernel_rfl) (fun _ _ _ h => h) (Or.inl ⟨by rfl, ?_⟩) hH.out ?_
  rotate_left
  · intro w1 hSw
    obtain ⟨d0, d1⟩ := two_cells hSw
    clear hSw
    go_simp; with_reducible rfl
  simp only [List.getElem_toArray, List.getElem_cons_succ, List.getElem_cons_zero, Act.put, List.setIfInBounds_toArray, List.set_cons_zero, List.set_cons_succ]
  refine wpAnyH_take (i := 28) (oi := _) (v := ?_) rfl (by kernel_rfl) (by kernel_rfl) (by kernel_rfl) (fun _ _ _ h => h) (Or.inl ⟨by rfl, ?_⟩) hH.out ?_
  rotate_left
  · intro w1 hSw
    obtain ⟨d0, d1⟩ := two_cells hSw
    clear hSw
    go_simp; with_reducible rfl
  simp only [List.getElem_toArray, List.getElem_cons_succ, List.getElem_cons_zero, Act.put, List.setIfInBounds_toArray, List.set_cons_zero, List.set_cons_succ]
  refine wpAnyH_take (i := 29) (oi := _) (v := ?_) rfl (by kernel_rfl) (by kernel_rfl) (by kernel_rfl) (fun _ _ _ h => h) (Or.inl ⟨by rfl, ?_⟩) hH.out ?_
  rotate_left
  · intro w1 hSw
    obtain ⟨d0, d1⟩ := two_cells hSw
    clear hSw
    go_simp; with_reducible rfl
  simp only [List.getElem_toArray, List.getElem_cons_succ, List.getElem_cons_zero, Act.put, List.setIfInBounds_toArray, List.set_cons_zero, List.set_cons_succ]
  refine wpAnyH_done (by kernel_rfl) ?_ _
  have HBZ := Lib.hid (HB9.out.trans (hbX.mono HB9.out.size))
  clear hbX
  go_wp2
  go_ret
  exact ⟨rfl, HBZ.out⟩
end Go.Proofs.Ytdbjifpnbghbaaa
