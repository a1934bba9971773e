/- Sound: lags, Lag. -/
import Derived.Test.YtdbjifpnbghbaaaA9
namespace Go.Proofs.Ytdbjifpnbghbaaa
set_option linter.unusedSimpArgs false
set_option linter.unusedVariables false
open Go.RowKit Go.Maps Go.BigFrame

set_option maxRecDepth 100000 in
set_option maxHeartbeats 3200000 in
theorem lags_any (l : List Pi) (hok : lineOk l = true) (a : Option Addr) (cp : Nat) (x y t : Int) (w : World) (hl : TabAt 3 piC w (.slice a l.length cp) l) : Calls Try.prog 36 #[.agg #[.slice a l.length cp, .int .i64 x, .int .i64 y], .int .i64 t] w fun e w' => e = .returned (spV (lagsF l x y t)) ∧ Below w.heap.size w w' := by
  obtain ⟨W0, hW0⟩ : ∃ X, X = (w.alloc (.cells #[.slice a l.length cp, .int .i64 x, .int .i64 y] 70)).alloc (.cells #[.int .i64 0, .int .i64 0] 24) := ⟨_, rfl⟩
  have hal : W0 = al w [(.cells #[.slice a l.length cp, .int .i64 x, .int .i64 y] 70), (.cells #[.int .i64 0, .int .i64 0] 24)] := hW0
  have hb0 : Below w.heap.size w W0 := by rw [hal]; exact al_below w _ (Nat.le_refl _)
  have hs0 : W0.heap.size = w.heap.size + 2 := by rw [hal]; exact al_size w _
  have hr0 : W0.heap[w.heap.size]? = some (.cells #[.slice a l.length cp, .int .i64 x, .int .i64 y] 70 (0, 0)) := by rw [hal]; exact al_get w _ 0 _ rfl
  have hr1 : W0.heap[w.heap.size + 1]? = some (.cells #[.int .i64 0, .int .i64 0] 24 (0, 0)) := by rw [hal]; exact al_get w _ 1 _ rfl
  obtain ⟨P, hP0⟩ : ∃ x, w.heap.size = x := ⟨_, rfl⟩
  rw [hP0] at hr0 hr1 hs0
  obtain ⟨Q, hP1⟩ : ∃ x, P + 1 = x := ⟨_, rfl⟩
  rw [hP1] at hr1
  clear hal
  have HS := Lib.hid (And.intro hr0 hr1)
  have HPw := Lib.hid (show w.heap.size ≤ P ∧ P < Q ∧ Q < W0.heap.size from by omega)
  have HL := Lib.hid hl
  have HB0 := Lib.hid hb0
  have K1 := Lib.hid (fun X hX => lag_least l hok a cp x y t X hX)
  have K2 := Lib.hid (fun X hX => lag_greatest l hok a cp x y t X hX)
  have hdef : lagsF l x y t = (lagF false l x y t, lagF true l x y t) := rfl
  obtain ⟨g, hg⟩ : ∃ v, lagF false l x y t = v := ⟨_, rfl⟩
  obtain ⟨h, hh⟩ : ∃ v, lagF true l x y t = v := ⟨_, rfl⟩
  rw [hg] at K1
  rw [hh] at K2
  rw [hdef, hg, hh]
  clear hdef hg hh hl hb0 hr0 hr1 hs0
  go_enter Try.func36, Try.ntmps36
  go_upto_region 1 with fail
  rw [← hW0]
  clear hW0 hP0 hP1
  refine wp_region_last (fun w' => w'.heap[P]? = some (.cells #[.slice a l.length cp, .int .i64 x, .int .i64 y] 70 (0, 0)) ∧ w'.heap[Q]? = some (.cells #[.int .i64 0, .int .i64 0] 24 (0, 0))) 11 (by kernel_rfl) HS.out (fun hHeld => ?_)
  obtain ⟨Y0, hY0⟩ : ∃ X, X = W0.drew := ⟨_, rfl⟩
  have hbX : Below w.heap.size w Y0 := by rw [hY0]; exact HB0.out.drew
  rw [← hY0] at hHeld ⊢
  have hH := Lib.hid hHeld
  clear hY0 hHeld
  refine wpLast_take (i := 0) (oi := _) (v := ?_) rfl (by kernel_rfl) (by kernel_rfl) (by decide) (by kernel_rfl) (by kernel_rfl) (fun _ _ _ h => h) (Or.inl ⟨by rfl, ?_⟩) hH.out ?_
  rotate_left
  · intro w1 hSw
    obtain ⟨e1, e2⟩ := hSw
    obtain ⟨d0, d1, d2⟩ := three_cells e1
    clear e1 e2
    go_simp; with_reducible rfl
  simp only [List.getElem_toArray, List.getElem_cons_succ, List.getElem_cons_zero, Act.put, List.setIfInBounds_toArray, List.set_cons_zero, List.set_cons_succ]
  refine wpLast_take (i := 1) (oi := _) (v := ?_) rfl (by kernel_rfl) (by kernel_rfl) (by decide) (by kernel_rfl) (by kernel_rfl) (fun _ _ _ h => h) (Or.inl ⟨by rfl, ?_⟩) hH.out ?_
  rotate_left
  · intro w1 hSw
    obtain ⟨e1, e2⟩ := hSw
    obtain ⟨d0, d1, d2⟩ := three_cells e1
    clear e1 e2
    go_simp; with_reducible rfl
  simp only [List.getElem_toArray, List.getElem_cons_succ, List.getElem_cons_zero, Act.put, List.setIfInBounds_toArray, List.set_cons_zero, List.set_cons_succ]
  refine wpLast_take (i := 2) (oi := _) (v := ?_) rfl (by kernel_rfl) (by kernel_rfl) (by decide) (by kernel_rfl) (by kernel_rfl) (fun _ _ _ h => h) (Or.inl ⟨by rfl, ?_⟩) hH.out ?_
  rotate_left
  · intro w1 hSw
    obtain ⟨e1, e2⟩ := hSw
    obtain ⟨d0, d1, d2⟩ := three_cells e1
    clear e1 e2
    go_simp; with_reducible rfl
  simp only [List.getElem_toArray, List.getElem_cons_succ, List.getElem_cons_zero, Act.put, List.setIfInBounds_toArray, List.set_cons_zero, List.set_cons_succ]
  refine wpLast_take (i := 3) (oi := _) (v := ?_) rfl (by kernel_rfl) (by kernel_rfl) (by decide) (by kernel_rfl) (by kernel_rfl) (fun _ _ _ h => h) (Or.inl ⟨by rfl, ?_⟩) hH.out ?_
  rotate_left
  · intro w1 hSw
    obtain ⟨e1, e2⟩ := hSw
    obtain ⟨d0, d1, d2⟩ := three_cells e1
    clear e1 e2
    go_simp; with_reducible rfl
  simp only [List.getElem_toArray, List.getElem_cons_succ, List.getElem_cons_zero, Act.put, List.setIfInBounds_toArray, List.set_cons_zero, List.set_cons_succ]
  refine wpLast_take (i := 5) (oi := _) (v := ?_) rfl (by kernel_rfl) (by kernel_rfl) (by decide) (by kernel_rfl) (by kernel_rfl) (fun _ _ _ h => h) (Or.inl ⟨by rfl, ?_⟩) hH.out ?_
  rotate_left
  · intro w1 hSw
    obtain ⟨e1, e2⟩ := hSw
    obtain ⟨d0, d1, d2⟩ := three_cells e1
    clear e1 e2
    go_simp; with_reducible rfl
  simp only [List.getElem_toArray, List.getElem_cons_succ, List.getElem_cons_zero, Act.put, List.setIfInBounds_toArray, List.set_cons_zero, List.set_cons_succ]
  refine wpLast_take (i := 6) (oi := _) (v := ?_) rfl (by kernel_rfl) (by kernel_rfl) (by decide) (by kernel_rfl) (by kernel_rfl) (fun _ _ _ h => h) (Or.inl ⟨by rfl, ?_⟩) hH.out ?_
  rotate_left
  · intro w1 hSw
    obtain ⟨e1, e2⟩ := hSw
    obtain ⟨d0, d1, d2⟩ := three_cells e1
    clear e1 e2
    go_simp; with_reducible rfl
  simp only [List.getElem_toArray, List.getElem_cons_succ, List.getElem_cons_zero, Act.put, List.setIfInBounds_toArray, List.set_cons_zero, List.set_cons_succ]
  refine wpLast_take (i := 7) (oi := _) (v := ?_) rfl (by kernel_rfl) (by kernel_rfl) (by decide) (by kernel_rfl) (by kernel_rfl) (fun _ _ _ h => h) (Or.inl ⟨by rfl, ?_⟩) hH.out ?_
  rotate_left
  · intro w1 hSw
    obtain ⟨e1, e2⟩ := hSw
    obtain ⟨d0, d1, d2⟩ := three_cells e1
    clear e1 e2
    go_simp; with_reducible rfl
  simp only [List.getElem_toArray, List.getElem_cons_succ, List.getElem_cons_zero, Act.put, List.setIfInBounds_toArray, List.set_cons_zero, List.set_cons_succ]
  refine wpLast_take (i := 8) (oi := _) (v := ?_) rfl (by kernel_rfl) (by kernel_rfl) (by decide) (by kernel_rfl) (by kernel_rfl) (fun _ _ _ h => h) (Or.inl ⟨by rfl, ?_⟩) hH.out ?_
  rotate_left
  · intro w1 hSw
    obtain ⟨e1, e2⟩ := hSw
    obtain ⟨d0, d1, d2⟩ := three_cells e1
    clear e1 e2
    go_simp; with_reducible rfl
  simp only [List.getElem_toArray, List.getElem_cons_succ, List.getElem_cons_zero, Act.put, List.setIfInBounds_toArray, List.set_cons_zero, List.set_cons_succ]
  refine wpLast_ready (rs := [4]) (by kernel_rfl) (by simp) ?_
  intro i hi; obtain rfl := List.mem_singleton.1 hi; clear hi
  refine wpOp_step rfl (fun K3 hK3 => ?_)
  have HK3 := Lib.hid hK3
  clear hK3
  rw [if_pos (by rfl)]
  go_simp
  refine (K1.out Y0 (HL.out.below hbX)).mono ?_
  rintro e Y1 ⟨rfl, hbn⟩
  have hH2 := And.intro (box_step (w0 := w) hH.out.1 hbn) (box_step (w0 := w) hH.out.2 hbn)
  replace hbX := hbX.trans (hbn.mono hbX.size)
  clear hH hbn
  have hH := Lib.hid hH2
  clear hH2
  refine HK3.out _ _ ⟨fun _ => hH.out, fun _ => ?_⟩
  clear HK3 K3
  try simp only [List.getElem_toArray, List.getElem_cons_succ, List.getElem_cons_zero, Act.put, List.setIfInBounds_toArray, List.set_cons_zero, List.set_cons_succ]
  refine wpLast_ready (rs := [9]) (by kernel_rfl) (by simp) ?_
  intro i hi; obtain rfl := List.mem_singleton.1 hi; clear hi
  refine wpOp_step rfl (fun K3 hK3 => ?_)
  have HK3 := Lib.hid hK3
  clear hK3
  rw [if_pos (by rfl)]
  go_simp
  refine (K2.out Y1 (HL.out.below hbX)).mono ?_
  rintro e Y2 ⟨rfl, hbn⟩
  have hH2 := And.intro (box_step (w0 := w) hH.out.1 hbn) (box_step (w0 := w) hH.out.2 hbn)
  replace hbX := hbX.trans (hbn.mono hbX.size)
  clear hH hbn
  have hH := Lib.hid hH2
  clear hH2
  refine HK3.out _ _ ⟨fun _ => hH.out, fun _ => ?_⟩
  clear HK3 K3
  try simp only [List.getElem_toArray, List.getElem_cons_succ, List.getElem_cons_zero, Act.put, List.setIfInBounds_toArray, List.set_cons_zero, List.set_cons_succ]
  refine wpLast_take (i := 10) (oi := _) (v := ?_) rfl (by kernel_rfl) (by kernel_rfl) (by decide) (by kernel_rfl) (by kernel_rfl) (fun _ _ _ h => h) (Or.inl ⟨by rfl, ?_⟩) hH.out ?_
  rotate_left
  · intro w1 hSw
    obtain ⟨e1, e2⟩ := hSw
    obtain ⟨d0, d1, d2⟩ := three_cells e1
    clear e1 e2
    go_simp; with_reducible rfl
  simp only [List.getElem_toArray, List.getElem_cons_succ, List.getElem_cons_zero, Act.put, List.setIfInBounds_toArray, List.set_cons_zero, List.set_cons_succ]
  have hq0 := hH.out.2
  have f0 : Y2.frozen? ⟨Q, 0, none⟩ = false := frozen_of hq0
  have f1 : Y2.frozen? ⟨Q, 1, none⟩ = false := frozen_of hq0
  obtain ⟨q0, q1⟩ := two_cells hq0
  have HZ := Lib.hid (set2 (A := .int .i64 g) (B := .int .i64 h) hq0)
  have HBZ := Lib.hid (below2 hbX (R := Q) (by have := HPw.out; omega) (.int .i64 g) (.int .i64 h))
  clear hq0 hbX
  refine wpLast_ready (rs := [11]) (by kernel_rfl) (by simp) ?_
  intro i hi; obtain rfl := List.mem_singleton.1 hi; clear hi
  refine wpOp_step rfl (fun K3 hK3 => ?_)
  have HK3 := Lib.hid hK3
  clear hK3
  rw [if_pos (by rfl)]
  go_simp
  refine HK3.out _ _ ⟨fun h => absurd rfl h, fun _ => ?_⟩
  clear HK3 K3
  try simp only [List.getElem_toArray, List.getElem_cons_succ, List.getElem_cons_zero, Act.put, List.setIfInBounds_toArray, List.set_cons_zero, List.set_cons_succ]
  refine wpLast_done (by kernel_rfl) ?_ _
  go_wp2
  exact bodyPost_ret (res1_24 Try.results36 rfl HZ.out) rfl ⟨rfl, HBZ.out⟩
theorem var24 {w : World} {g : Nat} {t : TypeId} {f : Nat × Nat} {x y : Int} (hg : w.heap[g]? = some (.cells #[.int .i64 x, .int .i64 y] t f)) : Sem.run Try.prog (loadVar 24 ⟨g, 0, none⟩) w = .ok (.agg #[.int .i64 x, .int .i64 y]) w :=
  run_loadVar_row w g t 24 _ f _ hg Try.underlying24 rfl (by kernel_rfl)
theorem res2_24 {fn : Func} {p u : Tmp} (h : fn.results = #[.cell p 24, .tmp u]) {tmps : Array Value} {w : World} {g : Nat} {t : TypeId} {f : Nat × Nat} {x y : Int} {a : Value} (hp : tmps.getD p undef = .pointer (some ⟨g, 0, none⟩)) (ha : tmps.getD u undef = a) (hg : w.heap[g]? = some (.cells #[.int .i64 x, .int .i64 y] t f)) :
    (results fn tmps).run Try.prog w = .ok (.tuple #[.agg #[.int .i64 x, .int .i64 y], a]) w := by
  have hp' : tmps[p]?.getD undef = .pointer (some ⟨g, 0, none⟩) := by simpa using hp
  have ha' : tmps[u]?.getD undef = a := by simpa using ha
  simp [results, h, hp', ha', asAddr, var24 hg]
def LagR (w : World) (r : (Int × Int) × Int) (e : Ending) (w' : World) : Prop := e = .returned (.tuple #[.agg #[.int .i64 r.1.1, .int .i64 r.1.2], .int .i64 r.2]) ∧ Below w.heap.size w w'
set_option maxRecDepth 100000 in
set_option maxHeartbeats 3200000 in
theorem Lag_any (l : List Pi) (v : Value) (x y t : Int) (w : World) (hl : TabAt 3 piC w v l) : Calls Try.prog 13 #[v, .int .i64 x, .int .i64 y, .int .i64 t] w (LagR w (lagR l x y t)) := by
  obtain ⟨a, cp, rfl⟩ := hl.shape
  obtain ⟨W0, hW0⟩ : ∃ X, X = (w.alloc (.cells #[.int .i64 0, .int .i64 0] 24)).alloc (.cells #[.slice a l.length cp, .int .i64 x, .int .i64 y] 70) := ⟨_, rfl⟩
  have hal : W0 = al w [(.cells #[.int .i64 0, .int .i64 0] 24), (.cells #[.slice a l.length cp, .int .i64 x, .int .i64 y] 70)] := hW0
  have hb0 : Below w.heap.size w W0 := by rw [hal]; exact al_below w _ (Nat.le_refl _)
  have hs0 : W0.heap.size = w.heap.size + 2 := by rw [hal]; exact al_size w _
  have hr0 : W0.heap[w.heap.size]? = some (.cells #[.int .i64 0, .int .i64 0] 24 (0, 0)) := by rw [hal]; exact al_get w _ 0 _ rfl
  have hr1 : W0.heap[w.heap.size + 1]? = some (.cells #[.slice a l.length cp, .int .i64 x, .int .i64 y] 70 (0, 0)) := by rw [hal]; exact al_get w _ 1 _ rfl
  obtain ⟨P, hP0⟩ : ∃ x, w.heap.size = x := ⟨_, rfl⟩
  rw [hP0] at hr0 hr1 hs0
  obtain ⟨Q, hP1⟩ : ∃ x, P + 1 = x := ⟨_, rfl⟩
  rw [hP1] at hr1
  clear hal
  have H0 := Lib.hid hr0
  have H1 := Lib.hid hr1
  have HPw := Lib.hid (show w.heap.size ≤ P ∧ P < Q ∧ Q < W0.heap.size from by omega)
  have HL := Lib.hid (hl.below hb0)
  have HB0 := Lib.hid hb0
  have KV := Lib.hid (fun X hX => isValid_any l (.slice a l.length cp) X hX)
  have hdef : lagR l x y t = if lineOk l then (if placeF l t && earsF l x y then (lagsF l x y t, 0) else ((0, 0), 2)) else ((0, 0), 1) := rfl
  obtain ⟨ok, hok⟩ : ∃ b, lineOk l = b := ⟨_, rfl⟩
  simp only [hok] at KV hdef
  obtain ⟨⟨⟨r0, r1⟩, re⟩, hr⟩ : ∃ r, lagR l x y t = r := ⟨_, rfl⟩
  rw [hr] at hdef ⊢
  unfold LagR
  simp only []
  obtain ⟨y0, y1, y2⟩ := three_cells hr1
  clear hl hb0 hr0 hr1 hs0 hr
  go_enter Try.func13, Try.ntmps13
  go_upto_region 2 with fail
  rw [← hW0]
  clear hW0 hP0 hP1
  go_wp2_with (go_at_call 33; fail)
  refine (KV.out _ HL.out).mono ?_
  rintro e w2 ⟨rfl, hb2⟩
  have hl2 := HL.out.below hb2
  have h02 := box_step (w0 := w) H0.out hb2
  have h12 := box_step (w0 := w) H1.out hb2
  have hbw := HB0.out.trans (hb2.mono HB0.out.size)
  have HL2 := Lib.hid hl2
  have H02 := Lib.hid h02
  have H12 := Lib.hid h12
  have HB2 := Lib.hid hbw
  clear hb2 y0 y1 y2 HL H0 H1 HB0
  cases ok with
  | false =>
    have hd : (((r0, r1), re) : (Int × Int) × Int) = ((0, 0), 1) := by simpa using hdef
    simp only [Prod.mk.injEq] at hd
    obtain ⟨⟨rfl, rfl⟩, rfl⟩ := hd
    have f0 : w2.frozen? ⟨P, 0, none⟩ = false := frozen_of h02
    have f1 : w2.frozen? ⟨P, 1, none⟩ = false := frozen_of h02
    obtain ⟨p0, p1⟩ := two_cells h02
    have HZ := Lib.hid (set2 (A := .int .i64 0) (B := .int .i64 0) h02)
    have HBZ := Lib.hid (below2 hbw (R := P) (by have := HPw.out; omega) (.int .i64 0) (.int .i64 0))
    clear hdef hl2 h02 h12 hbw
    go_wp2
    exact bodyPost_ret (res2_24 Try.results13 rfl rfl HZ.out) rfl ⟨rfl, HBZ.out⟩
  | true =>
    have hdef2 : (((r0, r1), re) : (Int × Int) × Int) = if placeF l t && earsF l x y then (lagsF l x y t, 0) else ((0, 0), 2) := by simpa using hdef
    have KP := Lib.hid (isPlace_any l hok (.slice a l.length cp) t w2 hl2)
    have KE := Lib.hid (fun X hX => areEars_any l hok (.slice a l.length cp) x y X hX)
    have KL := Lib.hid (fun X hX => lags_any l hok a cp x y t X hX)
    obtain ⟨b1, hb1⟩ : ∃ b, placeF l t = b := ⟨_, rfl⟩
    obtain ⟨b2, hb2⟩ : ∃ b, earsF l x y = b := ⟨_, rfl⟩
    obtain ⟨⟨g, h⟩, hgh⟩ : ∃ p, lagsF l x y t = p := ⟨_, rfl⟩
    rw [hb1] at KP
    rw [hb2] at KE
    rw [hgh] at KL
    rw [hb1, hb2, hgh] at hdef2
    unfold spV at KL
    simp only [] at KL
    obtain ⟨y0, y1, y2⟩ := three_cells h12
    clear hdef hb1 hb2 hgh hl2 h02 h12 hbw hok
    go_wp2_with (go_at_call 34; fail)
    refine KP.out.mono ?_
    rintro e w3 ⟨rfl, hb3⟩
    have hl3 := HL2.out.below hb3
    have h03 := box_step (w0 := w) H02.out hb3
    have h13 := box_step (w0 := w) H12.out hb3
    have hbw3 := HB2.out.trans (hb3.mono HB2.out.size)
    clear hb3 y0 y1 y2
    cases b1 with
    | false =>
      have hd : (((r0, r1), re) : (Int × Int) × Int) = ((0, 0), 2) := by simpa using hdef2
      simp only [Prod.mk.injEq] at hd
      obtain ⟨⟨rfl, rfl⟩, rfl⟩ := hd
      have f0 : w3.frozen? ⟨P, 0, none⟩ = false := frozen_of h03
      have f1 : w3.frozen? ⟨P, 1, none⟩ = false := frozen_of h03
      obtain ⟨p0, p1⟩ := two_cells h03
      have HZ := Lib.hid (set2 (A := .int .i64 0) (B := .int .i64 0) h03)
      have HBZ := Lib.hid (below2 hbw3 (R := P) (by have := HPw.out; omega) (.int .i64 0) (.int .i64 0))
      clear hdef2 hl3 h03 h13 hbw3
      go_wp2
      exact bodyPost_ret (res2_24 Try.results13 rfl rfl HZ.out) rfl ⟨rfl, HBZ.out⟩
    | true =>
      have KE3 := Lib.hid (KE.out w3 hl3)
      have HL3 := Lib.hid hl3
      have H03 := Lib.hid h03
      have H13 := Lib.hid h13
      have HB3 := Lib.hid hbw3
      obtain ⟨y0, y1, y2⟩ := three_cells h13
      clear hl3 h03 h13 hbw3
      go_wp2_with (go_at_call 35; fail)
      refine KE3.out.mono ?_
      rintro e w4 ⟨rfl, hb4⟩
      have hl4 := HL3.out.below hb4
      have h04 := box_step (w0 := w) H03.out hb4
      have h14 := box_step (w0 := w) H13.out hb4
      have hbw4 := HB3.out.trans (hb4.mono HB3.out.size)
      clear hb4 y0 y1 y2
      cases b2 with
      | false =>
        have hd : (((r0, r1), re) : (Int × Int) × Int) = ((0, 0), 2) := by simpa using hdef2
        simp only [Prod.mk.injEq] at hd
        obtain ⟨⟨rfl, rfl⟩, rfl⟩ := hd
        have f0 : w4.frozen? ⟨P, 0, none⟩ = false := frozen_of h04
        have f1 : w4.frozen? ⟨P, 1, none⟩ = false := frozen_of h04
        obtain ⟨p0, p1⟩ := two_cells h04
        have HZ := Lib.hid (set2 (A := .int .i64 0) (B := .int .i64 0) h04)
        have HBZ := Lib.hid (below2 hbw4 (R := P) (by have := HPw.out; omega) (.int .i64 0) (.int .i64 0))
        clear hdef2 hl4 h04 h14 hbw4
        go_wp2
        exact bodyPost_ret (res2_24 Try.results13 rfl rfl HZ.out) rfl ⟨rfl, HBZ.out⟩
      | true =>
        have hd : (((r0, r1), re) : (Int × Int) × Int) = ((g, h), 0) := by simpa using hdef2
        simp only [Prod.mk.injEq] at hd
        obtain ⟨⟨rfl, rfl⟩, rfl⟩ := hd
        have KL4 := Lib.hid (KL.out w4 hl4)
        have H04 := Lib.hid h04
        have HB4 := Lib.hid hbw4
        obtain ⟨y0, y1, y2⟩ := three_cells h14
        clear hdef2 hl4 h04 h14 hbw4
        go_wp2_with (go_at_call 36; fail)
        refine KL4.out.mono ?_
        rintro e w5 ⟨rfl, hb5⟩
        have h05 := box_step (w0 := w) H04.out hb5
        have hbw5 := HB4.out.trans (hb5.mono HB4.out.size)
        have f0 : w5.frozen? ⟨P, 0, none⟩ = false := frozen_of h05
        have f1 : w5.frozen? ⟨P, 1, none⟩ = false := frozen_of h05
        obtain ⟨p0, p1⟩ := two_cells h05
        have HZ := Lib.hid (set2 (A := .int .i64 r0) (B := .int .i64 r1) h05)
        have HBZ := Lib.hid (below2 hbw5 (R := P) (by have := HPw.out; omega) (.int .i64 r0) (.int .i64 r1))
        clear hb5 h05 hbw5 y0 y1 y2
        go_wp2
        exact bodyPost_ret (res2_24 Try.results13 rfl rfl HZ.out) rfl ⟨rfl, HBZ.out⟩
end Go.Proofs.Ytdbjifpnbghbaaa
