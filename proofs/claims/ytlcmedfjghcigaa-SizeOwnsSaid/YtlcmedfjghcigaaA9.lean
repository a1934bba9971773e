/- Size: the greatest flow. -/
import Derived.Test.YtlcmedfjghcigaaA8
import Derived.Test.YtlcmedfjghcigaaG2
namespace Go.Proofs.Ytlcmedfjghcigaa
set_option linter.unusedSimpArgs false
set_option linter.unusedVariables false
open Go.RowKit Go.Shelf Go.Maps
attribute [local go_sem] Oper.semAt_some

/-- what is asked of a meter, in memory -/
structure DAt (w : World) (h : Hs) (a1 : Option Addr) (c1 : Nat) (a2 : Option Addr) (c2 M : Nat) : Prop where
  tp : TabAt 3 tpC w (.slice a1 h.tp.length c1) h.tp
  rl : TabAt 2 rlC w (.slice a2 h.rl.length c2) h.rl
  mp : MapAt w M h.tp (setsF h)
theorem DAt.below {w w' : World} {h : Hs} {a1 : Option Addr} {c1 : Nat} {a2 : Option Addr} {c2 M : Nat} (k : DAt w h a1 c1 a2 c2 M) (hb : Below w.heap.size w w') : DAt w' h a1 c1 a2 c2 M := ⟨k.tp.below hb, k.rl.below hb, k.mp.below hb⟩
theorem great_snoc (g : Nat → Int) (l : List Nat) (x : Nat) : greatF g (l ++ [x]) = greatStep g (greatF g l) x := by unfold greatF; rw [List.foldl_append]; rfl
theorem OnlyE.mapAt {E : Nat → Prop} {X Y : World} (h : OnlyE E X Y) {M : Nat} {ts : List Tp} {L : List Nat} (k : MapAt X M ts L) (he : ¬ E M) : MapAt Y M ts L := by
  have hl := k.lt
  obtain ⟨D, ⟨es, c, e1, e2⟩, h2⟩ := k
  exact ⟨D, ⟨es, c, h.get e1 he, e2⟩, h2⟩
set_option maxRecDepth 100000 in
set_option maxHeartbeats 6400000 in
theorem greatest_least (h : Hs) (hok : hsOk h = true) (a1 : Option Addr) (c1 : Nat) (a2 : Option Addr) (c2 M : Nat) (w : World) (hd : DAt w h a1 c1 a2 c2 M) : Calls Try.prog 37 #[dV h a1 c1 a2 c2 M, .func (.func 38) #[] #[]] w fun e w' => e = .returned (.tuple #[.int .i64 (greatF (fun s => (loadF h.tp s).f.1) (setsF h)).1, .int .i64 ((greatF (fun s => (loadF h.tp s).f.1) (setsF h)).2 : Nat)]) ∧ Below w.heap.size w w' := by
  have mt : h.tp.length ≤ 9223372036854775807 := hd.tp.1
  obtain ⟨W0, hW0⟩ : ∃ X, X = (((w.alloc (.cells #[.int .i64 h.head, .int .i64 h.drip, .slice a1 h.tp.length c1, .slice a2 h.rl.length c2, .map (some M)] 72)).alloc (.cells #[.func (.func 38) #[] #[]] 77)).alloc (.cells #[.int .i64 0] 3)).alloc (.cells #[.int .i64 0] 74) := ⟨_, rfl⟩
  have hal : W0 = al w [(.cells #[.int .i64 h.head, .int .i64 h.drip, .slice a1 h.tp.length c1, .slice a2 h.rl.length c2, .map (some M)] 72), (.cells #[.func (.func 38) #[] #[]] 77), (.cells #[.int .i64 0] 3), (.cells #[.int .i64 0] 74)] := hW0
  have hb0 : Below w.heap.size w W0 := by rw [hal]; exact al_below w _ (Nat.le_refl _)
  have hs0 : W0.heap.size = w.heap.size + 4 := by rw [hal]; exact al_size w _
  have hr0 : W0.heap[w.heap.size]? = some (.cells #[.int .i64 h.head, .int .i64 h.drip, .slice a1 h.tp.length c1, .slice a2 h.rl.length c2, .map (some M)] 72 (0, 0)) := by rw [hal]; exact al_get w _ 0 _ rfl
  have hr1 : W0.heap[w.heap.size + 1]? = some (.cells #[.func (.func 38) #[] #[]] 77 (0, 0)) := by rw [hal]; exact al_get w _ 1 _ rfl
  have hr2 : W0.heap[w.heap.size + 1 + 1]? = some (.cells #[.int .i64 0] 3 (0, 0)) := by rw [hal]; exact al_get w _ 2 _ rfl
  have hr3 : W0.heap[w.heap.size + 1 + 1 + 1]? = some (.cells #[.int .i64 0] 74 (0, 0)) := by rw [hal]; exact al_get w _ 3 _ rfl
  obtain ⟨P, hP0⟩ : ∃ x, w.heap.size = x := ⟨_, rfl⟩
  rw [hP0] at hr0 hr1 hr2 hr3 hs0
  obtain ⟨Q, hP1⟩ : ∃ x, P + 1 = x := ⟨_, rfl⟩
  rw [hP1] at hr1 hr2 hr3
  obtain ⟨G, hP2⟩ : ∃ x, Q + 1 = x := ⟨_, rfl⟩
  rw [hP2] at hr2 hr3
  obtain ⟨K, hP3⟩ : ∃ x, G + 1 = x := ⟨_, rfl⟩
  rw [hP3] at hr3
  clear hal
  have hMl := hd.mp.lt
  rw [hP0] at hb0 hMl
  have HS := Lib.hid (show w.heap.size = P ∧ Q = P + 1 ∧ G = P + 2 ∧ K = P + 3 ∧ W0.heap.size = P + 4 ∧ M < P from ⟨by omega, by omega, by omega, by omega, by omega, by omega⟩)
  have HB := Lib.hid hb0
  have H0 := Lib.hid hr0
  have H1 := Lib.hid hr1
  have H2 := Lib.hid hr2
  have H3 := Lib.hid hr3
  have HD0 := Lib.hid (hd.below (by rw [hP0]; exact hb0))
  have HROW := Lib.hid (tab_row hd.rl)
  obtain ⟨y0, y1, y2, y3, y4⟩ := five_cells hr0
  clear hb0 hr0 hr1 hr2 hr3 hs0 hd hMl
  unfold dV setsCells
  refine (callsIn_wide (n := 9)).1 ?_
  refine callsIn_of_wp_marks Try.func37 rfl trivial ?_ rfl
  simp only [Try.ntmps37, List.size_toArray, List.length_cons, List.length_nil, Nat.reduceAdd, Nat.reduceSub, Array.replicate_succ, Array.replicate_zero, List.push_toArray, List.append_toArray, List.nil_append, List.cons_append]
  replace hW0 := hW0.symm
  gi_wp2
  clear hW0 hP0 hP1 hP2 hP3
  refine ⟨trivial, callsIn_wide.2 ((sets_any h a1 c1 a2 c2 M W0).mono ?_)⟩
  rintro e W2 ⟨rfl, rfl⟩
  obtain ⟨B, hBs⟩ : ∃ x, W0.heap.size = x := ⟨_, rfl⟩
  obtain ⟨W2, hW2⟩ : ∃ X, W0.alloc (.cells (setsCells h a1 c1 a2 c2 M) 72) = X := ⟨_, rfl⟩
  have hb2 : Below W0.heap.size W0 W2 := by rw [← hW2]; exact (Below.refl _ _).alloc (Nat.le_refl _) _
  have hs2 : W2.heap.size = B + 1 := by rw [← hW2, ← hBs]; simp
  have hr3 : W2.heap[B]? = some (.cells (setsCells h a1 c1 a2 c2 M) 72 (0, 0)) := by rw [← hW2, ← hBs]; exact alloc_heap W0 _
  have hd2 := HD0.out.below hb2
  have h02 := box_step (w0 := w) H0.out hb2
  have h12 := box_step (w0 := w) H1.out hb2
  have h22 := box_step (w0 := w) H2.out hb2
  have h32 := box_step (w0 := w) H3.out hb2
  have hbw2 := HB.out.trans (hb2.mono (by have := HS.out; omega))
  have HS2 := Lib.hid (show w.heap.size = P ∧ Q = P + 1 ∧ G = P + 2 ∧ K = P + 3 ∧ B = P + 4 ∧ W2.heap.size = P + 5 ∧ M < P by have := HS.out; omega)
  rw [hW2, hBs]
  have HD2 := Lib.hid hd2
  have H02 := Lib.hid h02
  have H12 := Lib.hid h12
  have HBW2 := Lib.hid hbw2
  have hSM : SMem B h a1 c1 a2 c2 M W2 := ⟨hr3, hd2.rl⟩
  have hpw := pow_table (few_taps hok).2
  have HPW := Lib.hid hpw
  clear hW2 hBs hb2 hs2 hd2 h02 h12 hbw2 hpw HS HD0 H0 H1 H2 H3 HB y0 y1 y2 y3 y4
  gi_wp2
  refine wpIn_rangeFunc_ownH rfl (by omega) (gf := 56) (lb := #[.pointer (some ⟨B, 0, none⟩)]) rfl trivial (enters_of Try.func56 (by kernel_rfl) rfl)
    (sets_stops 8 (by omega) B h hok a1 c1 a2 c2 M (fun k => k = G ∨ k = K) (fun e => by have := HS2.out; omega) (fun hl b off e he => by have := HROW.out hl b off e; have := HS2.out; omega) W2 hSM)
    KeepE.trans (fun W l o o' _ hl hc _ => KeepE.of_grown (grownBy_putObj' W l o') (fun q e => by cases e; exact .inr (fun o2 h2 => by rw [hl] at h2; cases h2; exact hc))) (Below.refl _ _) (fun _ => rfl)
    (fun pre W => pre.length ≤ 2 ^ h.tp.length ∧ OnlyE (fun k => k = G ∨ k = K) W2 W ∧ ∃ p : Int × Nat, greatF (fun s => (loadF h.tp s).f.1) (pre.map (clS (setsF h))) = p ∧ W.heap[G]? = some (.cells #[.int .i64 p.1] 3 (0, 0)) ∧ W.heap[K]? = some (.cells #[.int .i64 (p.2 : Nat)] 74 (0, 0)))
    (fun cc pre W => False)
    (fun pre X Y row hs hg hr => by
      obtain ⟨s1, s2, p, s3, s4, s5⟩ := hs
      exact ⟨s1, s2.far hg (fun q e => (hr q e).1), p, s3, cells_kept s4 hg hr, cells_kept s5 hg hr⟩)
    (fun cc pre X Y row hs hg hr => hs)
    ⟨by simp, OnlyE.refl _ _, (0, 0), rfl, h22, h32⟩
    (fun x a' W => a' = { tmps := #[.agg #[.int .i64 h.head, .int .i64 h.drip, .slice a1 h.tp.length c1, .slice a2 h.rl.length c2, .map (some M)], .func (.func 38) #[] #[], .pointer (some ⟨P, 0, none⟩), .pointer (some ⟨Q, 0, none⟩), .pointer (some ⟨G, 0, none⟩), .pointer (some ⟨K, 0, none⟩), .int .i64 (clS (setsF h) x : Nat), undef, .agg #[.int .i64 h.head, .int .i64 h.drip, .slice a1 h.tp.length c1, .slice a2 h.rl.length c2, .map (some M)], .func (.func 56) #[] #[.pointer (some ⟨B, 0, none⟩)], .int .i64 (clS (setsF h) x : Nat), undef, undef, undef, undef, undef, undef, undef, undef, undef, undef, undef, undef], defers := [] })
    (fun x a' _ X Y row hs hg hr => hs)
    ?assign ?body ?done ?stop
  case stop =>
    rintro D cc pre W hD hpre h hK
    exact absurd h id
  case assign =>
    rintro l2 pre x W K2 hI hK
    unfold encS
    gi_wp2
    exact hK _ _ (KeepsFrom.refl _ _) (KeepE.refl _ _) hI rfl
  case body =>
    rintro l2 pre x a' W hl ⟨rr, hrr⟩ ⟨i1, i2, ⟨pg, pf⟩, i3, i4, i5⟩ rfl hlt
    have hcm := clS_mem x (sets_ne hok)
    have hmp : (pre ++ [x]).map (clS (setsF h)) = pre.map (clS (setsF h)) ++ [clS (setsF h) x] := by simp
    obtain ⟨y, hy⟩ : ∃ y, clS (setsF h) x = y := ⟨_, rfl⟩
    rw [hy] at hcm hmp ⊢
    have hyb : y < 1024 := by have := (mem_sets.1 hcm).1; have := HPW.out; omega
    have hst := great_snoc (fun s => (loadF h.tp s).f.1) (pre.map (clS (setsF h))) y
    rw [← hmp, i3] at hst
    unfold greatStep at hst
    simp only [] at i4 i5 hst
    have h0k := i2.get H02.out (by have := HS2.out; omega)
    have h1k := i2.get H12.out (by have := HS2.out; omega)
    have hmk := i2.mapAt HD2.out.mp (by have := HS2.out; omega)
    have KL := Lib.hid (least_any M h.tp (setsF h) y (by omega) hcm W hmk)
    obtain ⟨_, _, _, _, y4⟩ := five_cells h0k
    have z0 := one_cell h1k
    have g0 := one_cell i4
    have k0 := one_cell i5
    obtain ⟨f, hf⟩ : ∃ f, (loadF h.tp y).f.1 = f := ⟨_, rfl⟩
    rw [hf] at hst KL
    have HST := Lib.hid hst
    have HI2 := Lib.hid i2
    have I4 := Lib.hid i4
    have I5 := Lib.hid i5
    clear hcm hmp hy i2 i3 i4 i5 hst h0k h1k hmk hf
    gi_wp2
    refine ⟨trivial, CallsIn.inRound _ (callsIn_wide.2 (KL.out.mono ?_))⟩
    rintro e W3 ⟨rfl, rfl⟩
    have hGK : G ≠ K := by have := HS2.out; omega
    have fG : W.frozen? ⟨G, 0, none⟩ = false := frozen_of I4.out
    have fK : W.frozen? ⟨K, 0, none⟩ = false := frozen_of I5.out
    by_cases hlt2 : pg < f
    · have HR := Lib.hid (HST.out.trans (if_pos hlt2))
      have hs1 := set_one I4.out (.int .i64 f)
      have hs2 : (W.setCell ⟨G, 0, none⟩ (.int .i64 f)).heap[K]? = some (.cells #[.int .i64 (pf : Nat)] 74 (0, 0)) := (set_other W G 0 K _ (Ne.symm hGK)).trans I5.out
      have HG3 := Lib.hid (show ((W.setCell ⟨G, 0, none⟩ (.int .i64 f)).setCell ⟨K, 0, none⟩ (.int .i64 (y : Nat))).heap[G]? = some (.cells #[.int .i64 f] 3 (0, 0)) from (set_other _ K 0 G _ hGK).trans hs1)
      have HK3 := Lib.hid (set_one hs2 (.int .i64 (y : Nat)))
      have hO : OnlyE (fun k => k = G ∨ k = K) W ((W.setCell ⟨G, 0, none⟩ (.int .i64 f)).setCell ⟨K, 0, none⟩ (.int .i64 (y : Nat))) := OnlyE.set (E := fun k => k = G ∨ k = K) (OnlyE.set (E := fun k => k = G ∨ k = K) (OnlyE.refl _ _) (.inl rfl) _) (.inr rfl) _
      have HO := Lib.hid hO
      clear hO hs1 hs2 HST
      gi_wp2
      exact ⟨HO.out.from (by intro k hk; have := HS2.out; omega), HO.out.keep, by simp; omega, HI2.out.trans HO.out, (f, y), HR.out, HG3.out, HK3.out⟩
    · have HR := Lib.hid (HST.out.trans (if_neg hlt2))
      have hd2 : decide (pg < f) = false := decide_eq_false hlt2
      clear HST hlt2
      gi_wp2
      exact ⟨KeepsFrom.refl _ _, KeepE.refl _ _, by simp; omega, HI2.out, (pg, pf), HR.out, I4.out, I5.out⟩
  case done =>
    rintro D xs W hD rfl ⟨i1, i2, ⟨pg, pf⟩, i3, i4, i5⟩ hK
    rw [clS_map] at i3
    simp only [] at i4 i5
    have hDl := (Array.getElem?_eq_some_iff.1 hK).1
    have hGK : G ≠ K := by have := HS2.out; omega
    have g0 := one_cell i4
    have k0 := one_cell i5
    have fG : W.frozen? ⟨G, 0, none⟩ = false := frozen_of i4
    have fK : W.frozen? ⟨K, 0, none⟩ = false := frozen_of i5
    have HI2 := Lib.hid i2
    have HI3 := Lib.hid i3
    have I4 := Lib.hid i4
    have I5 := Lib.hid i5
    have HK := Lib.hid hK
    have HD := Lib.hid hD
    have HDL := Lib.hid hDl
    clear i2 i3 i4 i5 hK hD hDl hr3 hSM i1 h22 h32
    gi_wp2
    refine wpIn_mono (Q := fun e a' w' => e = .normal ∧ (∃ u21 u22 : Value, a' = ⟨#[.agg #[.int .i64 h.head, .int .i64 h.drip, .slice a1 h.tp.length c1, .slice a2 h.rl.length c2, .map (some M)], .func (.func 38) #[] #[], .pointer (some ⟨P, 0, none⟩), .pointer (some ⟨Q, 0, none⟩), .pointer (some ⟨G, 0, none⟩), .pointer (some ⟨K, 0, none⟩), undef, undef, .agg #[.int .i64 h.head, .int .i64 h.drip, .slice a1 h.tp.length c1, .slice a2 h.rl.length c2, .map (some M)], .func (.func 56) #[] #[.pointer (some ⟨B, 0, none⟩)], undef, undef, undef, undef, undef, undef, undef, undef, undef, undef, undef, u21, u22], [{ target := .collected D, args := #[] }]⟩) ∧ w'.heap[G]? = some (.cells #[.int .i64 pg] 3 (0, 0)) ∧ w'.heap[K]? = some (.cells #[.int .i64 (pf : Nat)] 74 (0, 0)) ∧ w'.heap[D]? = some (.deferred (some [])) ∧ OnlyE (fun k => k = G ∨ k = K) W w') ?_ ?_
    rotate_left
    · rintro e a3 W3 ⟨rfl, ⟨u21, u22, rfl⟩, hg3, hk3, hd3, ho3⟩
      have HO3 := Lib.hid ho3
      have HG3 := Lib.hid hg3
      have HK3 := Lib.hid hk3
      have HD3 := Lib.hid hd3
      clear ho3 hg3 hk3 hd3 g0 k0 fG fK
      gi_wp2
      refine ⟨by simp, .inl ⟨_, _, rfl, run_takeDeferred HD3.out, ?_⟩⟩
      have hg := grownBy_putObj' W3 D (.deferred none)
      have hg4 := one_cell ((World.putObj_heap_other (w := W3) (o := .deferred none) (show G ≠ D by have := HD.out; have := HS2.out; omega) : (W3.putObj D (.deferred none)).heap[G]? = _).trans HG3.out)
      have hk4 := one_cell ((World.putObj_heap_other (w := W3) (o := .deferred none) (show K ≠ D by have := HD.out; have := HS2.out; omega) : (W3.putObj D (.deferred none)).heap[K]? = _).trans HK3.out)
      have hO : OnlyE (fun k => k = G ∨ k = K ∨ k = D) W2 (W3.putObj D (.deferred none)) := by
        have hW3 := HI2.out.trans HO3.out
        exact ⟨hg.os.trans hW3.os, hg.tape.trans hW3.tape, hg.output.trans hW3.output, Nat.le_trans hW3.size hg.size, fun k hk he => (hg.block k (Nat.lt_of_lt_of_le hk hW3.size) (fun e => he (by cases e; exact .inr (.inr rfl)))).trans (hW3.block k hk (fun e => he (by rcases e with e | e; exact .inl e; exact .inr (.inl e))))⟩
      refine ⟨.tuple #[.int .i64 pg, .int .i64 (pf : Nat)], ?_, ?_, ?_⟩
      · simp [results, Try.results37, go_sem, hg4, hk4]
      · rw [HI3.out]
      · have hP := HS2.out
        rw [hP.1]
        exact HBW2.out.trans (hO.below (by omega) (by have := HD.out; intro k hk; omega))
    refine region_lastIn (fun w' => w'.heap[G]? = some (.cells #[.int .i64 pg] 3 (0, 0)) ∧ w'.heap[K]? = some (.cells #[.int .i64 (pf : Nat)] 74 (0, 0))) [3] (by as_aux_lemma => kernel_rfl) ⟨I4.out, I5.out⟩ (fun hHeld => ?_)
    obtain ⟨Y0, hY0⟩ : ∃ X, X = W.drew := ⟨_, rfl⟩
    have hb0' : OnlyE (fun k => k = G ∨ k = K) W Y0 := by rw [hY0]; exact (OnlyE.refl _ _).drew
    have hKd : Y0.heap[D]? = some (.deferred (some [])) := by rw [hY0]; exact HK.out
    rw [← hY0] at hHeld ⊢
    have HB0 := Lib.hid hb0'
    have hH := Lib.hid hHeld
    have HKD := Lib.hid hKd
    clear hY0 hHeld hb0' hKd g0 k0 fG fK
    refine lastIn_take (i := 0) (oi := _) (v := ?_) rfl (by as_aux_lemma => kernel_rfl) (by as_aux_lemma => kernel_rfl) (by as_aux_lemma => kernel_rfl) (by as_aux_lemma => kernel_rfl) (by as_aux_lemma => kernel_rfl) (fun _ _ _ h => by cases h.1) (Or.inl ⟨by rfl, ?_⟩) hH.out ?_
    rotate_left
    · intro w1 hSw
      obtain ⟨s1, s2⟩ := hSw
      have d0 := one_cell s1
      have d1 := one_cell s2
      clear s1 s2
      go_simp; with_reducible rfl
    simp only [List.getElem_toArray, List.getElem_cons_succ, List.getElem_cons_zero, Act.put, List.setIfInBounds_toArray, List.set_cons_zero, List.set_cons_succ]
    refine lastIn_take (i := 1) (oi := _) (v := ?_) rfl (by as_aux_lemma => kernel_rfl) (by as_aux_lemma => kernel_rfl) (by as_aux_lemma => kernel_rfl) (by as_aux_lemma => kernel_rfl) (by as_aux_lemma => kernel_rfl) (fun _ _ _ h => by cases h.1) (Or.inl ⟨by rfl, ?_⟩) hH.out ?_
    rotate_left
    · intro w1 hSw
      obtain ⟨s1, s2⟩ := hSw
      have d0 := one_cell s1
      have d1 := one_cell s2
      clear s1 s2
      go_simp; with_reducible rfl
    simp only [List.getElem_toArray, List.getElem_cons_succ, List.getElem_cons_zero, Act.put, List.setIfInBounds_toArray, List.set_cons_zero, List.set_cons_succ]
    have fG : Y0.frozen? ⟨G, 0, none⟩ = false := frozen_of hH.out.1
    have d0 := one_cell hH.out.1
    have hS1 := Lib.hid (And.intro (set_one hH.out.1 (.int .i64 pg)) ((set_other Y0 G 0 K (.int .i64 pg) (Ne.symm hGK)).trans hH.out.2))
    refine lastIn_ready (rs := [2]) (by as_aux_lemma => kernel_rfl) (by simp) ?_
    intro i hi; obtain rfl := List.mem_singleton.1 hi; clear hi
    refine wpOpIn_step rfl (fun K3 hK3 => ?_)
    have HK3 := Lib.hid hK3
    clear hK3
    rw [if_pos (by rfl)]
    simp only [Oper.wpIn, Oper.semAt_none]; go_simp
    refine HK3.out _ _ ⟨fun _ => hS1.out, fun _ => ?_⟩
    clear HK3 K3
    try simp only [List.getElem_toArray, List.getElem_cons_succ, List.getElem_cons_zero, Act.put, List.setIfInBounds_toArray, List.set_cons_zero, List.set_cons_succ]
    have fK : (Y0.setCell ⟨G, 0, none⟩ (.int .i64 pg)).frozen? ⟨K, 0, none⟩ = false := frozen_of hS1.out.2
    have d1 := one_cell hS1.out.2
    refine lastIn_ready (rs := [3]) (by as_aux_lemma => kernel_rfl) (by simp) ?_
    intro i hi; obtain rfl := List.mem_singleton.1 hi; clear hi
    refine wpOpIn_step rfl (fun K3 hK3 => ?_)
    have HK3 := Lib.hid hK3
    clear hK3
    rw [if_pos (by rfl)]
    simp only [Oper.wpIn, Oper.semAt_none]; go_simp
    refine HK3.out _ _ ⟨fun h => absurd (by decide) h, fun _ => ?_⟩
    clear HK3 K3
    try simp only [List.getElem_toArray, List.getElem_cons_succ, List.getElem_cons_zero, Act.put, List.setIfInBounds_toArray, List.set_cons_zero, List.set_cons_succ]
    refine lastIn_done (by as_aux_lemma => kernel_rfl) ?_ _
    have hGD : D ≠ G := by have := HD.out; have := HS2.out; omega
    have hKD2 : D ≠ K := by have := HD.out; have := HS2.out; omega
    exact ⟨rfl, ⟨_, _, rfl⟩, (set_other _ K 0 G _ hGK).trans hS1.out.1, set_one hS1.out.2 _, ((set_other _ K 0 D _ hKD2).trans (set_other _ G 0 D _ hGD)).trans HKD.out, OnlyE.set (E := fun k => k = G ∨ k = K) (OnlyE.set (E := fun k => k = G ∨ k = K) HB0.out (.inl rfl) _) (.inr rfl) _⟩
set_option maxRecDepth 100000 in
set_option maxHeartbeats 6400000 in
theorem greatest_most (h : Hs) (hok : hsOk h = true) (a1 : Option Addr) (c1 : Nat) (a2 : Option Addr) (c2 M : Nat) (w : World) (hd : DAt w h a1 c1 a2 c2 M) : Calls Try.prog 37 #[dV h a1 c1 a2 c2 M, .func (.func 39) #[] #[]] w fun e w' => e = .returned (.tuple #[.int .i64 (greatF (fun s => (loadF h.tp s).f.2) (setsF h)).1, .int .i64 ((greatF (fun s => (loadF h.tp s).f.2) (setsF h)).2 : Nat)]) ∧ Below w.heap.size w w' := by
  have mt : h.tp.length ≤ 9223372036854775807 := hd.tp.1
  obtain ⟨W0, hW0⟩ : ∃ X, X = (((w.alloc (.cells #[.int .i64 h.head, .int .i64 h.drip, .slice a1 h.tp.length c1, .slice a2 h.rl.length c2, .map (some M)] 72)).alloc (.cells #[.func (.func 39) #[] #[]] 77)).alloc (.cells #[.int .i64 0] 3)).alloc (.cells #[.int .i64 0] 74) := ⟨_, rfl⟩
  have hal : W0 = al w [(.cells #[.int .i64 h.head, .int .i64 h.drip, .slice a1 h.tp.length c1, .slice a2 h.rl.length c2, .map (some M)] 72), (.cells #[.func (.func 39) #[] #[]] 77), (.cells #[.int .i64 0] 3), (.cells #[.int .i64 0] 74)] := hW0
  have hb0 : Below w.heap.size w W0 := by rw [hal]; exact al_below w _ (Nat.le_refl _)
  have hs0 : W0.heap.size = w.heap.size + 4 := by rw [hal]; exact al_size w _
  have hr0 : W0.heap[w.heap.size]? = some (.cells #[.int .i64 h.head, .int .i64 h.drip, .slice a1 h.tp.length c1, .slice a2 h.rl.length c2, .map (some M)] 72 (0, 0)) := by rw [hal]; exact al_get w _ 0 _ rfl
  have hr1 : W0.heap[w.heap.size + 1]? = some (.cells #[.func (.func 39) #[] #[]] 77 (0, 0)) := by rw [hal]; exact al_get w _ 1 _ rfl
  have hr2 : W0.heap[w.heap.size + 1 + 1]? = some (.cells #[.int .i64 0] 3 (0, 0)) := by rw [hal]; exact al_get w _ 2 _ rfl
  have hr3 : W0.heap[w.heap.size + 1 + 1 + 1]? = some (.cells #[.int .i64 0] 74 (0, 0)) := by rw [hal]; exact al_get w _ 3 _ rfl
  obtain ⟨P, hP0⟩ : ∃ x, w.heap.size = x := ⟨_, rfl⟩
  rw [hP0] at hr0 hr1 hr2 hr3 hs0
  obtain ⟨Q, hP1⟩ : ∃ x, P + 1 = x := ⟨_, rfl⟩
  rw [hP1] at hr1 hr2 hr3
  obtain ⟨G, hP2⟩ : ∃ x, Q + 1 = x := ⟨_, rfl⟩
  rw [hP2] at hr2 hr3
  obtain ⟨K, hP3⟩ : ∃ x, G + 1 = x := ⟨_, rfl⟩
  rw [hP3] at hr3
  clear hal
  have hMl := hd.mp.lt
  rw [hP0] at hb0 hMl
  have HS := Lib.hid (show w.heap.size = P ∧ Q = P + 1 ∧ G = P + 2 ∧ K = P + 3 ∧ W0.heap.size = P + 4 ∧ M < P from ⟨by omega, by omega, by omega, by omega, by omega, by omega⟩)
  have HB := Lib.hid hb0
  have H0 := Lib.hid hr0
  have H1 := Lib.hid hr1
  have H2 := Lib.hid hr2
  have H3 := Lib.hid hr3
  have HD0 := Lib.hid (hd.below (by rw [hP0]; exact hb0))
  have HROW := Lib.hid (tab_row hd.rl)
  obtain ⟨y0, y1, y2, y3, y4⟩ := five_cells hr0
  clear hb0 hr0 hr1 hr2 hr3 hs0 hd hMl
  unfold dV setsCells
  refine (callsIn_wide (n := 9)).1 ?_
  refine callsIn_of_wp_marks Try.func37 rfl trivial ?_ rfl
  simp only [Try.ntmps37, List.size_toArray, List.length_cons, List.length_nil, Nat.reduceAdd, Nat.reduceSub, Array.replicate_succ, Array.replicate_zero, List.push_toArray, List.append_toArray, List.nil_append, List.cons_append]
  replace hW0 := hW0.symm
  gi_wp2
  clear hW0 hP0 hP1 hP2 hP3
  refine ⟨trivial, callsIn_wide.2 ((sets_any h a1 c1 a2 c2 M W0).mono ?_)⟩
  rintro e W2 ⟨rfl, rfl⟩
  obtain ⟨B, hBs⟩ : ∃ x, W0.heap.size = x := ⟨_, rfl⟩
  obtain ⟨W2, hW2⟩ : ∃ X, W0.alloc (.cells (setsCells h a1 c1 a2 c2 M) 72) = X := ⟨_, rfl⟩
  have hb2 : Below W0.heap.size W0 W2 := by rw [← hW2]; exact (Below.refl _ _).alloc (Nat.le_refl _) _
  have hs2 : W2.heap.size = B + 1 := by rw [← hW2, ← hBs]; simp
  have hr3 : W2.heap[B]? = some (.cells (setsCells h a1 c1 a2 c2 M) 72 (0, 0)) := by rw [← hW2, ← hBs]; exact alloc_heap W0 _
  have hd2 := HD0.out.below hb2
  have h02 := box_step (w0 := w) H0.out hb2
  have h12 := box_step (w0 := w) H1.out hb2
  have h22 := box_step (w0 := w) H2.out hb2
  have h32 := box_step (w0 := w) H3.out hb2
  have hbw2 := HB.out.trans (hb2.mono (by have := HS.out; omega))
  have HS2 := Lib.hid (show w.heap.size = P ∧ Q = P + 1 ∧ G = P + 2 ∧ K = P + 3 ∧ B = P + 4 ∧ W2.heap.size = P + 5 ∧ M < P by have := HS.out; omega)
  rw [hW2, hBs]
  have HD2 := Lib.hid hd2
  have H02 := Lib.hid h02
  have H12 := Lib.hid h12
  have HBW2 := Lib.hid hbw2
  have hSM : SMem B h a1 c1 a2 c2 M W2 := ⟨hr3, hd2.rl⟩
  have hpw := pow_table (few_taps hok).2
  have HPW := Lib.hid hpw
  clear hW2 hBs hb2 hs2 hd2 h02 h12 hbw2 hpw HS HD0 H0 H1 H2 H3 HB y0 y1 y2 y3 y4
  gi_wp2
  refine wpIn_rangeFunc_ownH rfl (by omega) (gf := 56) (lb := #[.pointer (some ⟨B, 0, none⟩)]) rfl trivial (enters_of Try.func56 (by kernel_rfl) rfl)
    (sets_stops 8 (by omega) B h hok a1 c1 a2 c2 M (fun k => k = G ∨ k = K) (fun e => by have := HS2.out; omega) (fun hl b off e he => by have := HROW.out hl b off e; have := HS2.out; omega) W2 hSM)
    KeepE.trans (fun W l o o' _ hl hc _ => KeepE.of_grown (grownBy_putObj' W l o') (fun q e => by cases e; exact .inr (fun o2 h2 => by rw [hl] at h2; cases h2; exact hc))) (Below.refl _ _) (fun _ => rfl)
    (fun pre W => pre.length ≤ 2 ^ h.tp.length ∧ OnlyE (fun k => k = G ∨ k = K) W2 W ∧ ∃ p : Int × Nat, greatF (fun s => (loadF h.tp s).f.2) (pre.map (clS (setsF h))) = p ∧ W.heap[G]? = some (.cells #[.int .i64 p.1] 3 (0, 0)) ∧ W.heap[K]? = some (.cells #[.int .i64 (p.2 : Nat)] 74 (0, 0)))
    (fun cc pre W => False)
    (fun pre X Y row hs hg hr => by
      obtain ⟨s1, s2, p, s3, s4, s5⟩ := hs
      exact ⟨s1, s2.far hg (fun q e => (hr q e).1), p, s3, cells_kept s4 hg hr, cells_kept s5 hg hr⟩)
    (fun cc pre X Y row hs hg hr => hs)
    ⟨by simp, OnlyE.refl _ _, (0, 0), rfl, h22, h32⟩
    (fun x a' W => a' = { tmps := #[.agg #[.int .i64 h.head, .int .i64 h.drip, .slice a1 h.tp.length c1, .slice a2 h.rl.length c2, .map (some M)], .func (.func 39) #[] #[], .pointer (some ⟨P, 0, none⟩), .pointer (some ⟨Q, 0, none⟩), .pointer (some ⟨G, 0, none⟩), .pointer (some ⟨K, 0, none⟩), .int .i64 (clS (setsF h) x : Nat), undef, .agg #[.int .i64 h.head, .int .i64 h.drip, .slice a1 h.tp.length c1, .slice a2 h.rl.length c2, .map (some M)], .func (.func 56) #[] #[.pointer (some ⟨B, 0, none⟩)], .int .i64 (clS (setsF h) x : Nat), undef, undef, undef, undef, undef, undef, undef, undef, undef, undef, undef, undef], defers := [] })
    (fun x a' _ X Y row hs hg hr => hs)
    ?assign ?body ?done ?stop
  case stop =>
    rintro D cc pre W hD hpre h hK
    exact absurd h id
  case assign =>
    rintro l2 pre x W K2 hI hK
    unfold encS
    gi_wp2
    exact hK _ _ (KeepsFrom.refl _ _) (KeepE.refl _ _) hI rfl
  case body =>
    rintro l2 pre x a' W hl ⟨rr, hrr⟩ ⟨i1, i2, ⟨pg, pf⟩, i3, i4, i5⟩ rfl hlt
    have hcm := clS_mem x (sets_ne hok)
    have hmp : (pre ++ [x]).map (clS (setsF h)) = pre.map (clS (setsF h)) ++ [clS (setsF h) x] := by simp
    obtain ⟨y, hy⟩ : ∃ y, clS (setsF h) x = y := ⟨_, rfl⟩
    rw [hy] at hcm hmp ⊢
    have hyb : y < 1024 := by have := (mem_sets.1 hcm).1; have := HPW.out; omega
    have hst := great_snoc (fun s => (loadF h.tp s).f.2) (pre.map (clS (setsF h))) y
    rw [← hmp, i3] at hst
    unfold greatStep at hst
    simp only [] at i4 i5 hst
    have h0k := i2.get H02.out (by have := HS2.out; omega)
    have h1k := i2.get H12.out (by have := HS2.out; omega)
    have hmk := i2.mapAt HD2.out.mp (by have := HS2.out; omega)
    have KL := Lib.hid (most_any M h.tp (setsF h) y (by omega) hcm W hmk)
    obtain ⟨_, _, _, _, y4⟩ := five_cells h0k
    have z0 := one_cell h1k
    have g0 := one_cell i4
    have k0 := one_cell i5
    obtain ⟨f, hf⟩ : ∃ f, (loadF h.tp y).f.2 = f := ⟨_, rfl⟩
    rw [hf] at hst KL
    have HST := Lib.hid hst
    have HI2 := Lib.hid i2
    have I4 := Lib.hid i4
    have I5 := Lib.hid i5
    clear hcm hmp hy i2 i3 i4 i5 hst h0k h1k hmk hf
    gi_wp2
    refine ⟨trivial, CallsIn.inRound _ (callsIn_wide.2 (KL.out.mono ?_))⟩
    rintro e W3 ⟨rfl, rfl⟩
    have hGK : G ≠ K := by have := HS2.out; omega
    have fG : W.frozen? ⟨G, 0, none⟩ = false := frozen_of I4.out
    have fK : W.frozen? ⟨K, 0, none⟩ = false := frozen_of I5.out
    by_cases hlt2 : pg < f
    · have HR := Lib.hid (HST.out.trans (if_pos hlt2))
      have hs1 := set_one I4.out (.int .i64 f)
      have hs2 : (W.setCell ⟨G, 0, none⟩ (.int .i64 f)).heap[K]? = some (.cells #[.int .i64 (pf : Nat)] 74 (0, 0)) := (set_other W G 0 K _ (Ne.symm hGK)).trans I5.out
      have HG3 := Lib.hid (show ((W.setCell ⟨G, 0, none⟩ (.int .i64 f)).setCell ⟨K, 0, none⟩ (.int .i64 (y : Nat))).heap[G]? = some (.cells #[.int .i64 f] 3 (0, 0)) from (set_other _ K 0 G _ hGK).trans hs1)
      have HK3 := Lib.hid (set_one hs2 (.int .i64 (y : Nat)))
      have hO : OnlyE (fun k => k = G ∨ k = K) W ((W.setCell ⟨G, 0, none⟩ (.int .i64 f)).setCell ⟨K, 0, none⟩ (.int .i64 (y : Nat))) := OnlyE.set (E := fun k => k = G ∨ k = K) (OnlyE.set (E := fun k => k = G ∨ k = K) (OnlyE.refl _ _) (.inl rfl) _) (.inr rfl) _
      have HO := Lib.hid hO
      clear hO hs1 hs2 HST
      gi_wp2
      exact ⟨HO.out.from (by intro k hk; have := HS2.out; omega), HO.out.keep, by simp; omega, HI2.out.trans HO.out, (f, y), HR.out, HG3.out, HK3.out⟩
    · have HR := Lib.hid (HST.out.trans (if_neg hlt2))
      have hd2 : decide (pg < f) = false := decide_eq_false hlt2
      clear HST hlt2
      gi_wp2
      exact ⟨KeepsFrom.refl _ _, KeepE.refl _ _, by simp; omega, HI2.out, (pg, pf), HR.out, I4.out, I5.out⟩
  case done =>
    rintro D xs W hD rfl ⟨i1, i2, ⟨pg, pf⟩, i3, i4, i5⟩ hK
    rw [clS_map] at i3
    simp only [] at i4 i5
    have hDl := (Array.getElem?_eq_some_iff.1 hK).1
    have hGK : G ≠ K := by have := HS2.out; omega
    have g0 := one_cell i4
    have k0 := one_cell i5
    have fG : W.frozen? ⟨G, 0, none⟩ = false := frozen_of i4
    have fK : W.frozen? ⟨K, 0, none⟩ = false := frozen_of i5
    have HI2 := Lib.hid i2
    have HI3 := Lib.hid i3
    have I4 := Lib.hid i4
    have I5 := Lib.hid i5
    have HK := Lib.hid hK
    have HD := Lib.hid hD
    have HDL := Lib.hid hDl
    clear i2 i3 i4 i5 hK hD hDl hr3 hSM i1 h22 h32
    gi_wp2
    refine wpIn_mono (Q := fun e a' w' => e = .normal ∧ (∃ u21 u22 : Value, a' = ⟨#[.agg #[.int .i64 h.head, .int .i64 h.drip, .slice a1 h.tp.length c1, .slice a2 h.rl.length c2, .map (some M)], .func (.func 39) #[] #[], .pointer (some ⟨P, 0, none⟩), .pointer (some ⟨Q, 0, none⟩), .pointer (some ⟨G, 0, none⟩), .pointer (some ⟨K, 0, none⟩), undef, undef, .agg #[.int .i64 h.head, .int .i64 h.drip, .slice a1 h.tp.length c1, .slice a2 h.rl.length c2, .map (some M)], .func (.func 56) #[] #[.pointer (some ⟨B, 0, none⟩)], undef, undef, undef, undef, undef, undef, undef, undef, undef, undef, undef, u21, u22], [{ target := .collected D, args := #[] }]⟩) ∧ w'.heap[G]? = some (.cells #[.int .i64 pg] 3 (0, 0)) ∧ w'.heap[K]? = some (.cells #[.int .i64 (pf : Nat)] 74 (0, 0)) ∧ w'.heap[D]? = some (.deferred (some [])) ∧ OnlyE (fun k => k = G ∨ k = K) W w') ?_ ?_
    rotate_left
    · rintro e a3 W3 ⟨rfl, ⟨u21, u22, rfl⟩, hg3, hk3, hd3, ho3⟩
      have HO3 := Lib.hid ho3
      have HG3 := Lib.hid hg3
      have HK3 := Lib.hid hk3
      have HD3 := Lib.hid hd3
      clear ho3 hg3 hk3 hd3 g0 k0 fG fK
      gi_wp2
      refine ⟨by simp, .inl ⟨_, _, rfl, run_takeDeferred HD3.out, ?_⟩⟩
      have hg := grownBy_putObj' W3 D (.deferred none)
      have hg4 := one_cell ((World.putObj_heap_other (w := W3) (o := .deferred none) (show G ≠ D by have := HD.out; have := HS2.out; omega) : (W3.putObj D (.deferred none)).heap[G]? = _).trans HG3.out)
      have hk4 := one_cell ((World.putObj_heap_other (w := W3) (o := .deferred none) (show K ≠ D by have := HD.out; have := HS2.out; omega) : (W3.putObj D (.deferred none)).heap[K]? = _).trans HK3.out)
      have hO : OnlyE (fun k => k = G ∨ k = K ∨ k = D) W2 (W3.putObj D (.deferred none)) := by
        have hW3 := HI2.out.trans HO3.out
        exact ⟨hg.os.trans hW3.os, hg.tape.trans hW3.tape, hg.output.trans hW3.output, Nat.le_trans hW3.size hg.size, fun k hk he => (hg.block k (Nat.lt_of_lt_of_le hk hW3.size) (fun e => he (by cases e; exact .inr (.inr rfl)))).trans (hW3.block k hk (fun e => he (by rcases e with e | e; exact .inl e; exact .inr (.inl e))))⟩
      refine ⟨.tuple #[.int .i64 pg, .int .i64 (pf : Nat)], ?_, ?_, ?_⟩
      · simp [results, Try.results37, go_sem, hg4, hk4]
      · rw [HI3.out]
      · have hP := HS2.out
        rw [hP.1]
        exact HBW2.out.trans (hO.below (by omega) (by have := HD.out; intro k hk; omega))
    refine region_lastIn (fun w' => w'.heap[G]? = some (.cells #[.int .i64 pg] 3 (0, 0)) ∧ w'.heap[K]? = some (.cells #[.int .i64 (pf : Nat)] 74 (0, 0))) [3] (by as_aux_lemma => kernel_rfl) ⟨I4.out, I5.out⟩ (fun hHeld => ?_)
    obtain ⟨Y0, hY0⟩ : ∃ X, X = W.drew := ⟨_, rfl⟩
    have hb0' : OnlyE (fun k => k = G ∨ k = K) W Y0 := by rw [hY0]; exact (OnlyE.refl _ _).drew
    have hKd : Y0.heap[D]? = some (.deferred (some [])) := by rw [hY0]; exact HK.out
    rw [← hY0] at hHeld ⊢
    have HB0 := Lib.hid hb0'
    have hH := Lib.hid hHeld
    have HKD := Lib.hid hKd
    clear hY0 hHeld hb0' hKd g0 k0 fG fK
    refine lastIn_take (i := 0) (oi := _) (v := ?_) rfl (by as_aux_lemma => kernel_rfl) (by as_aux_lemma => kernel_rfl) (by as_aux_lemma => kernel_rfl) (by as_aux_lemma => kernel_rfl) (by as_aux_lemma => kernel_rfl) (fun _ _ _ h => by cases h.1) (Or.inl ⟨by rfl, ?_⟩) hH.out ?_
    rotate_left
    · intro w1 hSw
      obtain ⟨s1, s2⟩ := hSw
      have d0 := one_cell s1
      have d1 := one_cell s2
      clear s1 s2
      go_simp; with_reducible rfl
    simp only [List.getElem_toArray, List.getElem_cons_succ, List.getElem_cons_zero, Act.put, List.setIfInBounds_toArray, List.set_cons_zero, List.set_cons_succ]
    refine lastIn_take (i := 1) (oi := _) (v := ?_) rfl (by as_aux_lemma => kernel_rfl) (by as_aux_lemma => kernel_rfl) (by as_aux_lemma => kernel_rfl) (by as_aux_lemma => kernel_rfl) (by as_aux_lemma => kernel_rfl) (fun _ _ _ h => by cases h.1) (Or.inl ⟨by rfl, ?_⟩) hH.out ?_
    rotate_left
    · intro w1 hSw
      obtain ⟨s1, s2⟩ := hSw
      have d0 := one_cell s1
      have d1 := one_cell s2
      clear s1 s2
      go_simp; with_reducible rfl
    simp only [List.getElem_toArray, List.getElem_cons_succ, List.getElem_cons_zero, Act.put, List.setIfInBounds_toArray, List.set_cons_zero, List.set_cons_succ]
    have fG : Y0.frozen? ⟨G, 0, none⟩ = false := frozen_of hH.out.1
    have d0 := one_cell hH.out.1
    have hS1 := Lib.hid (And.intro (set_one hH.out.1 (.int .i64 pg)) ((set_other Y0 G 0 K (.int .i64 pg) (Ne.symm hGK)).trans hH.out.2))
    refine lastIn_ready (rs := [2]) (by as_aux_lemma => kernel_rfl) (by simp) ?_
    intro i hi; obtain rfl := List.mem_singleton.1 hi; clear hi
    refine wpOpIn_step rfl (fun K3 hK3 => ?_)
    have HK3 := Lib.hid hK3
    clear hK3
    rw [if_pos (by rfl)]
    simp only [Oper.wpIn, Oper.semAt_none]; go_simp
    refine HK3.out _ _ ⟨fun _ => hS1.out, fun _ => ?_⟩
    clear HK3 K3
    try simp only [List.getElem_toArray, List.getElem_cons_succ, List.getElem_cons_zero, Act.put, List.setIfInBounds_toArray, List.set_cons_zero, List.set_cons_succ]
    have fK : (Y0.setCell ⟨G, 0, none⟩ (.int .i64 pg)).frozen? ⟨K, 0, none⟩ = false := frozen_of hS1.out.2
    have d1 := one_cell hS1.out.2
    refine lastIn_ready (rs := [3]) (by as_aux_lemma => kernel_rfl) (by simp) ?_
    intro i hi; obtain rfl := List.mem_singleton.1 hi; clear hi
    refine wpOpIn_step rfl (fun K3 hK3 => ?_)
    have HK3 := Lib.hid hK3
    clear hK3
    rw [if_pos (by rfl)]
    simp only [Oper.wpIn, Oper.semAt_none]; go_simp
    refine HK3.out _ _ ⟨fun h => absurd (by decide) h, fun _ => ?_⟩
    clear HK3 K3
    try simp only [List.getElem_toArray, List.getElem_cons_succ, List.getElem_cons_zero, Act.put, List.setIfInBounds_toArray, List.set_cons_zero, List.set_cons_succ]
    refine lastIn_done (by as_aux_lemma => kernel_rfl) ?_ _
    have hGD : D ≠ G := by have := HD.out; have := HS2.out; omega
    have hKD2 : D ≠ K := by have := HD.out; have := HS2.out; omega
    exact ⟨rfl, ⟨_, _, rfl⟩, (set_other _ K 0 G _ hGK).trans hS1.out.1, set_one hS1.out.2 _, ((set_other _ K 0 D _ hKD2).trans (set_other _ G 0 D _ hGD)).trans HKD.out, OnlyE.set (E := fun k => k = G ∨ k = K) (OnlyE.set (E := fun k => k = G ∨ k = K) HB0.out (.inl rfl) _) (.inr rfl) _⟩
end Go.Proofs.Ytlcmedfjghcigaa
