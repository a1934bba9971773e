/- Sound: Tune. -/
import Derived.Test.YtdbjifpnbghbaaaA13
namespace Go.Proofs.Ytdbjifpnbghbaaa
set_option linter.unusedSimpArgs false
set_option linter.unusedVariables false
open Go.RowKit Go.Maps Go.BigFrame

/-- a list of spans that the call made -/
def OutS (B : Nat) (L : List (Int × Int)) (v : Value) (w' : World) : Prop := (v = .slice none 0 0 ∧ L = []) ∨ ∃ R, v = .slice (some ⟨R, 0, none⟩) L.length L.length ∧ B ≤ R ∧ w'.heap[R]? = some (.cells (flatK 2 spC L).toArray 24 (0, 0))
def TuneR (w : World) (r : List (Int × Int) × Int) (e : Ending) (w' : World) : Prop := ∃ v, e = .returned (.tuple #[v, .int .i64 r.2]) ∧ OutS w.heap.size r.1 v w' ∧ Below w.heap.size w w'
theorem tunedF_len (l : List Pi) (x y t lo hi : Int) : (tunedF l x y t lo hi).length = l.length := by simp [tunedF]
theorem cutF_in {s : Int × Int} {os : List (Int × Int)} : s.1 ≤ (cutF s os).1 ∧ (cutF s os).2 ≤ s.2 := by
  unfold cutF
  induction os generalizing s with
  | nil => exact ⟨Int.le_refl _, Int.le_refl _⟩
  | cons o os ih =>
    have := ih (s := (max s.1 o.1, min s.2 o.2))
    simp only [List.foldl_cons]
    simp only [] at this
    omega
set_option maxRecDepth 100000 in
set_option maxHeartbeats 6400000 in
theorem Tune_any (l : List Pi) (v : Value) (t : Int) (hr : He) (w : World) (hl : TabAt 3 piC w v l) : Calls Try.prog 15 #[v, .int .i64 t, heV hr] w (TuneR w (tuneR l t hr)) := by
  obtain ⟨a, cp, rfl⟩ := hl.shape
  obtain ⟨p, q, lo, hi⟩ := hr
  obtain ⟨W0, hW0⟩ : ∃ X, X = (w.alloc (.cells #[.int .i64 p, .int .i64 q, .int .i64 lo, .int .i64 hi] 26)).alloc (.cells #[.slice a l.length cp, .int .i64 p, .int .i64 q] 70) := ⟨_, rfl⟩
  have hal : W0 = al w [(.cells #[.int .i64 p, .int .i64 q, .int .i64 lo, .int .i64 hi] 26), (.cells #[.slice a l.length cp, .int .i64 p, .int .i64 q] 70)] := hW0
  have hb0 : Below w.heap.size w W0 := by rw [hal]; exact al_below w _ (Nat.le_refl _)
  have hs0 : W0.heap.size = w.heap.size + 2 := by rw [hal]; exact al_size w _
  have hr0 : W0.heap[w.heap.size]? = some (.cells #[.int .i64 p, .int .i64 q, .int .i64 lo, .int .i64 hi] 26 (0, 0)) := by rw [hal]; exact al_get w _ 0 _ rfl
  have hr1 : W0.heap[w.heap.size + 1]? = some (.cells #[.slice a l.length cp, .int .i64 p, .int .i64 q] 70 (0, 0)) := by rw [hal]; exact al_get w _ 1 _ rfl
  obtain ⟨P, hP0⟩ : ∃ x, w.heap.size = x := ⟨_, rfl⟩
  rw [hP0] at hr0 hr1 hs0
  obtain ⟨Q, hP1⟩ : ∃ x, P + 1 = x := ⟨_, rfl⟩
  rw [hP1] at hr1
  clear hal
  have H0 := Lib.hid hr0
  have H1 := Lib.hid hr1
  have HPw := Lib.hid (show w.heap.size ≤ P ∧ P < Q ∧ Q < W0.heap.size from by omega)
  have HL := Lib.hid (hl.below hb0)
  have HB0 := Lib.hid hb0
  have KV := Lib.hid (fun X hX => isValid_any l (.slice a l.length cp) X hX)
  have hdef : tuneR l t ⟨p, q, lo, hi⟩ = if lineOk l then (if placeF l t && hearOk l ⟨p, q, lo, hi⟩ then (if emptyF (cutF (lo, hi) [lagsF l p q t]) then ([], 6) else (slowsF (tunedF l p q t lo hi), 0)) else ([], 2)) else ([], 1) := rfl
  obtain ⟨ok, hok⟩ : ∃ b, lineOk l = b := ⟨_, rfl⟩
  rw [hok] at hdef
  simp only [hok] at KV
  obtain ⟨⟨rl, re⟩, hrr⟩ : ∃ r, tuneR l t ⟨p, q, lo, hi⟩ = r := ⟨_, rfl⟩
  rw [hrr] at hdef ⊢
  unfold TuneR heV
  simp only []
  obtain ⟨x0, x1, x2, x3⟩ := four_cells (show (w.alloc (.cells #[.int .i64 p, .int .i64 q, .int .i64 lo, .int .i64 hi] 26)).heap[P]? = _ by rw [← hP0]; exact alloc_heap w _)
  obtain ⟨y0, y1, y2⟩ := three_cells hr1
  clear hl hb0 hr0 hr1 hs0 hrr
  go_enter Try.func15, Try.ntmps15
  go_upto_region 1 with fail
  go_upto_region 2 with fail
  rw [← hW0]
  clear hW0 hP0 hP1 x0 x1 x2 x3
  go_wp2_with (go_at_call 33; fail)
  refine (KV.out _ HL.out).mono ?_
  rintro e w2 ⟨rfl, hb2⟩
  have hl2 := HL.out.below hb2
  have h02 := box_step (w0 := w) H0.out hb2
  have h12 := box_step (w0 := w) H1.out hb2
  have HB2 := Lib.hid (HB0.out.trans (hb2.mono HB0.out.size))
  have HL2 := Lib.hid hl2
  have H02 := Lib.hid h02
  have H12 := Lib.hid h12
  clear hb2 y0 y1 y2 HL H0 H1 HB0
  cases ok with
  | false =>
    have hd : ((rl, re) : List (Int × Int) × Int) = ([], 1) := by simpa using hdef
    clear hdef hl2 h02 h12
    simp only [Prod.mk.injEq] at hd
    obtain ⟨rfl, rfl⟩ := hd
    go_wp2
    exact bodyPost_ret (results_tmp2 rfl _ _ _) rfl ⟨_, rfl, .inl ⟨rfl, rfl⟩, HB2.out⟩
  | true =>
    have hdef2 : ((rl, re) : List (Int × Int) × Int) = (if placeF l t && hearOk l ⟨p, q, lo, hi⟩ then (if emptyF (cutF (lo, hi) [lagsF l p q t]) then ([], 6) else (slowsF (tunedF l p q t lo hi), 0)) else ([], 2)) := by simpa using hdef
    have KP := Lib.hid (isPlace_any l hok (.slice a l.length cp) t w2 hl2)
    have KE := Lib.hid (fun X hX => isHearing_any l hok (.slice a l.length cp) ⟨p, q, lo, hi⟩ X hX)
    unfold heV at KE
    simp only [] at KE
    have KL := Lib.hid (fun X hX => lags_any l hok a cp p q t X hX)
    obtain ⟨b1, hb1⟩ : ∃ b, placeF l t = b := ⟨_, rfl⟩
    obtain ⟨b2, hb2⟩ : ∃ b, hearOk l ⟨p, q, lo, hi⟩ = b := ⟨_, rfl⟩
    obtain ⟨⟨g, h⟩, hgh⟩ : ∃ u, lagsF l p q t = u := ⟨_, rfl⟩
    rw [hb1] at KP
    rw [hb2] at KE
    rw [hgh] at KL
    rw [hb1, hb2, hgh] at hdef2
    unfold spV at KL
    simp only [] at KL
    obtain ⟨y0, y1, y2⟩ := three_cells h12
    clear hdef hb1 hgh hl2 h02 h12
    go_wp2_with (go_at_call 34; fail)
    refine KP.out.mono ?_
    rintro e w3 ⟨rfl, hb3⟩
    have hl3 := HL2.out.below hb3
    have h03 := box_step (w0 := w) H02.out hb3
    have h13 := box_step (w0 := w) H12.out hb3
    have HB3 := Lib.hid (HB2.out.trans (hb3.mono HB2.out.size))
    clear hb3 y0 y1 y2
    cases b1 with
    | false =>
      have hd : ((rl, re) : List (Int × Int) × Int) = ([], 2) := by simpa using hdef2
      clear hdef2 hl3 h03 h13
      simp only [Prod.mk.injEq] at hd
      obtain ⟨rfl, rfl⟩ := hd
      go_wp2
      exact bodyPost_ret (results_tmp2 rfl _ _ _) rfl ⟨_, rfl, .inl ⟨rfl, rfl⟩, HB3.out⟩
    | true =>
      have KE3 := Lib.hid (KE.out w3 hl3)
      have HL3 := Lib.hid hl3
      have H03 := Lib.hid h03
      have H13 := Lib.hid h13
      obtain ⟨x0, x1, x2, x3⟩ := four_cells h03
      obtain ⟨y0, y1, y2⟩ := three_cells h13
      clear hl3 h03 h13
      go_wp2_with (go_at_call 39; fail)
      refine KE3.out.mono ?_
      rintro e w4 ⟨rfl, hb4⟩
      have hl4 := HL3.out.below hb4
      have h04 := box_step (w0 := w) H03.out hb4
      have h14 := box_step (w0 := w) H13.out hb4
      have HB4 := Lib.hid (HB3.out.trans (hb4.mono HB3.out.size))
      clear hb4 y0 y1 y2 x0 x1 x2 x3
      cases b2 with
      | false =>
        have hd : ((rl, re) : List (Int × Int) × Int) = ([], 2) := by simpa using hdef2
        clear hdef2 hl4 h04 h14
        simp only [Prod.mk.injEq] at hd
        obtain ⟨rfl, rfl⟩ := hd
        go_wp2
        exact bodyPost_ret (results_tmp2 rfl _ _ _) rfl ⟨_, rfl, .inl ⟨rfl, rfl⟩, HB4.out⟩
      | true =>
        have hdef3 : ((rl, re) : List (Int × Int) × Int) = (if emptyF (cutF (lo, hi) [(g, h)]) then ([], 6) else (slowsF (tunedF l p q t lo hi), 0)) := by simpa using hdef2
        have hbd : (-1099511627776 ≤ lo ∧ lo ≤ 1099511627776) ∧ -1099511627776 ≤ hi ∧ hi ≤ 1099511627776 := by
          unfold hearOk at hb2
          rw [Bool.and_eq_true, withinF_iff] at hb2
          simp only [] at hb2
          omega
        have KC := Lib.hid (fun v X hX => cut_any lo hi [(g, h)] v X hX)
        obtain ⟨⟨c1, c2⟩, hcc⟩ : ∃ u, cutF (lo, hi) [(g, h)] = u := ⟨_, rfl⟩
        simp only [hcc] at KC
        rw [hcc] at hdef3
        have KM := Lib.hid (fun X => isEmpty_any c1 c2 X)
        obtain ⟨em, hem⟩ : ∃ b, emptyF (c1, c2) = b := ⟨_, rfl⟩
        simp only [hem] at KM
        rw [hem] at hdef3
        have HL4 := Lib.hid hl4
        have HF := Lib.hid (And.intro h04 h14)
        have HBD := Lib.hid hbd
        clear hdef2 hcc hem hl4 h04 h14 hbd hb2
        go_wp2_with fail
        refine wp_region_held_drew (S := fun w' => w'.heap[P]? = some (.cells #[.int .i64 p, .int .i64 q, .int .i64 lo, .int .i64 hi] 26 (0, 0)) ∧ w'.heap[Q]? = some (.cells #[.slice a l.length cp, .int .i64 p, .int .i64 q] 70 (0, 0))) (by kernel_rfl) HF.out (fun hHeld => ?_)
        obtain ⟨Y0, hY0⟩ : ∃ X, X = w4.drew := ⟨_, rfl⟩
        have hbX : Below w4.heap.size w4 Y0 := by rw [hY0]; exact (Below.refl _ _).drew
        rw [← hY0] at hHeld ⊢
        have hH := Lib.hid hHeld
        clear hY0 hHeld
        refine wpAnyH_take (i := 0) (oi := _) (v := ?_) rfl (by kernel_rfl) (by kernel_rfl) (by kernel_rfl) (fun _ _ _ h => h) (Or.inl ⟨by rfl, ?_⟩) hH.out ?_
        rotate_left
        · intro w1 hSw
          obtain ⟨e1, e2⟩ := hSw
          obtain ⟨d0, d1, d2, d3⟩ := four_cells e1
          obtain ⟨d4, d5, d6⟩ := three_cells e2
          clear e1 e2
          go_simp; with_reducible rfl
        simp only [List.getElem_toArray, List.getElem_cons_succ, List.getElem_cons_zero, Act.put, List.setIfInBounds_toArray, List.set_cons_zero, List.set_cons_succ]
        refine wpAnyH_take (i := 1) (oi := _) (v := ?_) rfl (by kernel_rfl) (by kernel_rfl) (by kernel_rfl) (fun _ _ _ h => h) (Or.inl ⟨by rfl, ?_⟩) hH.out ?_
        rotate_left
        · intro w1 hSw
          obtain ⟨e1, e2⟩ := hSw
          obtain ⟨d0, d1, d2, d3⟩ := four_cells e1
          obtain ⟨d4, d5, d6⟩ := three_cells e2
          clear e1 e2
          go_simp; with_reducible rfl
        simp only [List.getElem_toArray, List.getElem_cons_succ, List.getElem_cons_zero, Act.put, List.setIfInBounds_toArray, List.set_cons_zero, List.set_cons_succ]
        refine wpAnyH_take (i := 2) (oi := _) (v := ?_) rfl (by kernel_rfl) (by kernel_rfl) (by kernel_rfl) (fun _ _ _ h => h) (Or.inl ⟨by rfl, ?_⟩) hH.out ?_
        rotate_left
        · intro w1 hSw
          obtain ⟨e1, e2⟩ := hSw
          obtain ⟨d0, d1, d2, d3⟩ := four_cells e1
          obtain ⟨d4, d5, d6⟩ := three_cells e2
          clear e1 e2
          go_simp; with_reducible rfl
        simp only [List.getElem_toArray, List.getElem_cons_succ, List.getElem_cons_zero, Act.put, List.setIfInBounds_toArray, List.set_cons_zero, List.set_cons_succ]
        refine wpAnyH_take (i := 3) (oi := _) (v := ?_) rfl (by kernel_rfl) (by kernel_rfl) (by kernel_rfl) (fun _ _ _ h => h) (Or.inl ⟨by rfl, ?_⟩) hH.out ?_
        rotate_left
        · intro w1 hSw
          obtain ⟨e1, e2⟩ := hSw
          obtain ⟨d0, d1, d2, d3⟩ := four_cells e1
          obtain ⟨d4, d5, d6⟩ := three_cells e2
          clear e1 e2
          go_simp; with_reducible rfl
        simp only [List.getElem_toArray, List.getElem_cons_succ, List.getElem_cons_zero, Act.put, List.setIfInBounds_toArray, List.set_cons_zero, List.set_cons_succ]
        refine wpAnyH_all (rs := [4]) (by kernel_rfl) (by simp) ?_
        intro i hi; obtain rfl := List.mem_singleton.1 hi; clear hi
        refine wpOp_step rfl (fun K3 hK3 => ?_)
        have HK3 := Lib.hid hK3
        clear hK3
        rw [if_pos (by rfl)]
        go_simp
        refine (KL.out Y0 (HL4.out.below hbX)).mono ?_
        rintro e Y1 ⟨rfl, hbn⟩
        have hH2 := And.intro (box_step (w0 := w) hH.out.1 hbn) (box_step (w0 := w) hH.out.2 hbn)
        replace hbX := hbX.trans (hbn.mono hbX.size)
        clear hH hbn
        have hH := Lib.hid hH2
        clear hH2
        refine HK3.out _ _ ⟨hH.out, ?_⟩
        clear HK3 K3
        try simp only [List.getElem_toArray, List.getElem_cons_succ, List.getElem_cons_zero, Act.put, List.setIfInBounds_toArray, List.set_cons_zero, List.set_cons_succ]
        refine wpAnyH_all (rs := [5]) (by kernel_rfl) (by simp) ?_
        intro i hi; obtain rfl := List.mem_singleton.1 hi; clear hi
        refine wpOp_step rfl (fun K3 hK3 => ?_)
        have HK3 := Lib.hid hK3
        clear hK3
        rw [if_pos (by rfl)]
        go_simp
        obtain ⟨v, hv⟩ : ∃ v, v = Y1.heap.size := ⟨_, rfl⟩
        obtain ⟨Y2, hY2⟩ : ∃ X, X = Y1.alloc (.cells #[.int .i64 g, .int .i64 h] 24) := ⟨_, rfl⟩
        have hbn : Below Y1.heap.size Y1 Y2 := by rw [hY2]; exact (Below.refl _ _).alloc (Nat.le_refl _) _
        have hrv : Y2.heap[v]? = some (.cells #[.int .i64 g, .int .i64 h] 24 (0, 0)) := by rw [hY2, hv]; exact alloc_heap Y1 _
        rw [← hY2, ← hv]
        clear hY2 hv
        have HTV := Lib.hid (tab_of_block (f := spC) (k := 2) (L := [(g, h)]) hrv (by simp))
        have hH2 := And.intro (box_step (w0 := w) hH.out.1 hbn) (box_step (w0 := w) hH.out.2 hbn)
        replace hbX := hbX.trans (hbn.mono hbX.size)
        clear hH hrv hbn
        have hH := Lib.hid hH2
        clear hH2
        refine HK3.out _ _ ⟨hH.out, ?_⟩
        clear HK3 K3
        try simp only [List.getElem_toArray, List.getElem_cons_succ, List.getElem_cons_zero, Act.put, List.setIfInBounds_toArray, List.set_cons_zero, List.set_cons_succ]
        refine wpAnyH_all (rs := [6]) (by kernel_rfl) (by simp) ?_
        intro i hi; obtain rfl := List.mem_singleton.1 hi; clear hi
        refine wpOp_step rfl (fun K3 hK3 => ?_)
        have HK3 := Lib.hid hK3
        clear hK3
        rw [if_pos (by rfl)]
        go_simp
        refine (KC.out _ _ HTV.out).mono ?_
        rintro e Y3 ⟨rfl, hbn⟩
        unfold spV
        simp only []
        have hH2 := And.intro (box_step (w0 := w) hH.out.1 hbn) (box_step (w0 := w) hH.out.2 hbn)
        replace hbX := hbX.trans (hbn.mono hbX.size)
        clear hH hbn
        have hH := Lib.hid hH2
        clear hH2
        refine HK3.out _ _ ⟨hH.out, ?_⟩
        clear HK3 K3
        try simp only [List.getElem_toArray, List.getElem_cons_succ, List.getElem_cons_zero, Act.put, List.setIfInBounds_toArray, List.set_cons_zero, List.set_cons_succ]
        refine wpAnyH_all (rs := [7]) (by kernel_rfl) (by simp) ?_
        intro i hi; obtain rfl := List.mem_singleton.1 hi; clear hi
        refine wpOp_step rfl (fun K3 hK3 => ?_)
        have HK3 := Lib.hid hK3
        clear hK3
        rw [if_pos (by rfl)]
        go_simp
        refine (KM.out _).mono ?_
        rintro e Y4 ⟨rfl, hbn⟩
        have hH2 := And.intro (box_step (w0 := w) hH.out.1 hbn) (box_step (w0 := w) hH.out.2 hbn)
        replace hbX := hbX.trans (hbn.mono hbX.size)
        clear hH hbn
        have hH := Lib.hid hH2
        clear hH2
        refine HK3.out _ _ ⟨hH.out, ?_⟩
        clear HK3 K3
        try simp only [List.getElem_toArray, List.getElem_cons_succ, List.getElem_cons_zero, Act.put, List.setIfInBounds_toArray, List.set_cons_zero, List.set_cons_succ]
        refine wpAnyH_done (by kernel_rfl) ?_ _
        have HB5 := Lib.hid (HB4.out.trans (hbX.mono HB4.out.size))
        have hl5 := HL4.out.below hbX
        have HH := hH
        clear hbX hH
        cases em with
        | true =>
          have hd : ((rl, re) : List (Int × Int) × Int) = ([], 6) := by simpa using hdef3
          clear hdef3 hl5
          simp only [Prod.mk.injEq] at hd
          obtain ⟨rfl, rfl⟩ := hd
          go_wp2
          exact bodyPost_ret (results_tmp2 rfl _ _ _) rfl ⟨_, rfl, .inl ⟨rfl, rfl⟩, HB5.out⟩
        | false =>
          have hd : ((rl, re) : List (Int × Int) × Int) = (slowsF (tunedF l p q t lo hi), 0) := by simpa using hdef3
          simp only [Prod.mk.injEq] at hd
          obtain ⟨hd1, rfl⟩ := hd
          have HD1 := Lib.hid hd1
          have KT := Lib.hid (tuned_any l hok a cp p q t lo hi HBD.out.1 HBD.out.2 Y4 hl5)
          have hln := tunedF_len l p q t lo hi
          have h8 := (line_few hok).2
          have KS := Lib.hid (fun v X hX => slows_any (tunedF l p q t lo hi) (by rw [hln]; exact h8) v X hX)
          rw [hln] at KS
          have HLN := Lib.hid hln
          obtain ⟨x0, x1, x2, x3⟩ := four_cells HH.out.1
          obtain ⟨y0, y1, y2⟩ := three_cells HH.out.2
          clear hdef3 hd1 hl5 hln
          go_wp2_with (go_at_call 42; fail)
          refine KT.out.mono ?_
          rintro e w6 ⟨R, rfl, hR, hRr, hb6⟩
          have htb := tab_of_block hRr (by rw [HLN.out]; omega)
          rw [HLN.out] at htb
          have KS6 := Lib.hid (KS.out _ w6 htb)
          have HB6 := Lib.hid (HB5.out.trans (hb6.mono HB5.out.size))
          clear hR hRr hb6 htb x0 x1 x2 x3 y0 y1 y2
          go_wp2_with (go_at_call 43; fail)
          refine KS6.out.mono ?_
          rintro e w7 ⟨R2, rfl, hR2, hRr2, hb7⟩
          have HB7 := Lib.hid (HB6.out.trans (hb7.mono HB6.out.size))
          have HO := Lib.hid (show OutS w.heap.size rl (.slice (some ⟨R2, 0, none⟩) l.length l.length) w7 from .inr ⟨R2, by rw [HD1.out]; simp [slowsF, HLN.out], by have := HB6.out.size; omega, by rw [HD1.out]; exact hRr2⟩)
          clear hR2 hRr2 hb7
          go_wp2
          exact bodyPost_ret (results_tmp2 rfl _ _ _) rfl ⟨_, rfl, HO.out, HB7.out⟩
end Go.Proofs.Ytdbjifpnbghbaaa
