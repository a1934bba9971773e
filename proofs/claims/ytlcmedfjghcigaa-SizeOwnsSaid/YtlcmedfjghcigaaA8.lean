/- Size: what a house asks of its meter. -/
import Derived.Test.YtlcmedfjghcigaaA7
namespace Go.Proofs.Ytlcmedfjghcigaa
set_option linter.unusedSimpArgs false
set_option linter.unusedVariables false
open Go.RowKit Go.Shelf Go.Maps
attribute [local go_sem] Oper.semAt_some

theorem res1_72 {fn : Func} {p : Tmp} (hr : fn.results = #[.cell p 72]) {tmps : Array Value} {w : World} {g : Nat} {t : TypeId} {f : Nat × Nat} {x y : Int} {u v m : Value} (hp : tmps.getD p undef = .pointer (some ⟨g, 0, none⟩)) (hg : w.heap[g]? = some (.cells #[.int .i64 x, .int .i64 y, u, v, m] t f)) :
    (results fn tmps).run Try.prog w = .ok (.agg #[.int .i64 x, .int .i64 y, u, v, m]) w :=
  results_cell_row hr tmps w g t _ f _ hp hg Try.underlying72 rfl (by kernel_rfl)
theorem tab_row {α : Type} [Inhabited α] {k : Nat} {f : α → Nat → Int} {w : World} {a : Option Addr} {n c : Nat} {L : List α} (h : TabAt k f w (.slice a n c) L) : 0 < L.length → ∀ b off, a = some ⟨b, off, none⟩ → b < w.heap.size := fun hl b off e => by
  subst e
  obtain ⟨b', off', e', hb, _⟩ := h.at hl
  simp at e'; omega
/-- five cells of a block written -/
def st5 (X : World) (R : Nat) (A B C D F : Value) : World := ((((X.setCell ⟨R, 0, none⟩ A).setCell ⟨R, 1, none⟩ B).setCell ⟨R, 2, none⟩ C).setCell ⟨R, 3, none⟩ D).setCell ⟨R, 4, none⟩ F
theorem st5_same {X : World} {R : Nat} {a b c d f A B C D F : Value} {t : TypeId} (h : X.heap[R]? = some (.cells #[a, b, c, d, f] t (0, 0))) : (st5 X R A B C D F).heap[R]? = some (.cells #[A, B, C, D, F] t (0, 0)) := by
  have h1 := heap_setCell_same X R 0 _ t A h
  have h2 := heap_setCell_same _ R 1 _ t B h1
  have h3 := heap_setCell_same _ R 2 _ t C h2
  have h4 := heap_setCell_same _ R 3 _ t D h3
  have h5 := heap_setCell_same _ R 4 _ t F h4
  unfold st5
  rw [h5]; rfl
theorem st5_other (X : World) (R k : Nat) (A B C D F : Value) (h : k ≠ R) : (st5 X R A B C D F).heap[k]? = X.heap[k]? := by
  unfold st5
  rw [set_other _ _ _ _ _ h, set_other _ _ _ _ _ h, set_other _ _ _ _ _ h, set_other _ _ _ _ _ h, set_other _ _ _ _ _ h]
theorem st5_only (X : World) (R : Nat) (A B C D F : Value) : OnlyE (· = R) X (st5 X R A B C D F) := by
  unfold st5
  exact OnlyE.set (E := (· = R)) (OnlyE.set (E := (· = R)) (OnlyE.set (E := (· = R)) (OnlyE.set (E := (· = R)) (OnlyE.set (E := (· = R)) (OnlyE.refl _ _) rfl _) rfl _) rfl _) rfl _) rfl _
set_option maxRecDepth 100000 in
set_option maxHeartbeats 6400000 in
theorem demandOf_any (h : Hs) (hok : hsOk h = true) (a1 : Option Addr) (c1 : Nat) (a2 : Option Addr) (c2 : Nat) (w : World) (hh : HsAt w h a1 c1 a2 c2) : Calls Try.prog 36 #[hsV h a1 c1 a2 c2] w fun e w' => ∃ M, e = .returned (dV h a1 c1 a2 c2 M) ∧ MapAt w' M h.tp (setsF h) ∧ Below w.heap.size w w' := by
  have mt : h.tp.length ≤ 9223372036854775807 := hh.tp.1
  obtain ⟨W0, hW0⟩ : ∃ X, X = (w.alloc (.cells #[.int .i64 h.head, .int .i64 h.drip, .slice a1 h.tp.length c1, .slice a2 h.rl.length c2] 25)).alloc (.cells #[.int .i64 0, .int .i64 0, .slice none 0 0, .slice none 0 0, .map none] 72) := ⟨_, rfl⟩
  have hal : W0 = al w [(.cells #[.int .i64 h.head, .int .i64 h.drip, .slice a1 h.tp.length c1, .slice a2 h.rl.length c2] 25), (.cells #[.int .i64 0, .int .i64 0, .slice none 0 0, .slice none 0 0, .map none] 72)] := hW0
  have hb0 : Below w.heap.size w W0 := by rw [hal]; exact al_below w _ (Nat.le_refl _)
  have hs0 : W0.heap.size = w.heap.size + 2 := by rw [hal]; exact al_size w _
  have hr0 : W0.heap[w.heap.size]? = some (.cells #[.int .i64 h.head, .int .i64 h.drip, .slice a1 h.tp.length c1, .slice a2 h.rl.length c2] 25 (0, 0)) := by rw [hal]; exact al_get w _ 0 _ rfl
  have hr1 : W0.heap[w.heap.size + 1]? = some (.cells #[.int .i64 0, .int .i64 0, .slice none 0 0, .slice none 0 0, .map none] 72 (0, 0)) := by rw [hal]; exact al_get w _ 1 _ rfl
  obtain ⟨P, hP0⟩ : ∃ x, w.heap.size = x := ⟨_, rfl⟩
  rw [hP0] at hr0 hr1 hs0
  obtain ⟨Q, hP1⟩ : ∃ x, P + 1 = x := ⟨_, rfl⟩
  rw [hP1] at hr1
  clear hal
  rw [hP0] at hb0
  have HS := Lib.hid (show w.heap.size = P ∧ Q = P + 1 ∧ W0.heap.size = P + 2 from ⟨by omega, by omega, by omega⟩)
  have HB := Lib.hid hb0
  have H0 := Lib.hid hr0
  have H1 := Lib.hid hr1
  have HHW := Lib.hid (hh.below (by rw [hP0]; exact hb0))
  have HROW := Lib.hid (tab_row hh.tp)
  obtain ⟨y0, y1, y2, y3⟩ := four_cells hr0
  obtain ⟨z0, z1, z2, z3, z4⟩ := five_cells hr1
  clear hb0 hr0 hr1 hs0 hh
  unfold hsV
  refine (callsIn_wide (n := 9)).1 ?_
  refine callsIn_of_wp_marks Try.func36 rfl trivial ?_ rfl
  simp only [Try.ntmps36, List.size_toArray, List.length_cons, List.length_nil, Nat.reduceAdd, Nat.reduceSub, Array.replicate_succ, Array.replicate_zero, List.push_toArray, List.append_toArray, List.nil_append, List.cons_append]
  replace hW0 := hW0.symm
  have hmm := @run_makeMap Try.prog
  obtain ⟨M, hMs⟩ : ∃ x, W0.heap.size = x := ⟨_, rfl⟩
  obtain ⟨R, hRs⟩ : ∃ x, M + 1 = x := ⟨_, rfl⟩
  obtain ⟨W1, hW1⟩ : ∃ X, (W0.alloc (.map #[] 0)).alloc (.cells #[.int .i64 h.head, .int .i64 h.drip, .slice a1 h.tp.length c1, .slice a2 h.rl.length c2, .map (some M)] 72) = X := ⟨_, rfl⟩
  have HM0 := Lib.hid (mapAt_made W0 h.tp)
  have hal : W1 = al W0 [.map #[] 0, .cells #[.int .i64 h.head, .int .i64 h.drip, .slice a1 h.tp.length c1, .slice a2 h.rl.length c2, .map (some M)] 72] := hW1.symm
  have hb1 : Below W0.heap.size W0 W1 := by rw [hal]; exact al_below _ _ (Nat.le_refl _)
  have hs1 : W1.heap.size = W0.heap.size + 2 := by rw [hal]; exact al_size _ _
  have hr2 : W1.heap[W0.heap.size + 1]? = some (.cells #[.int .i64 h.head, .int .i64 h.drip, .slice a1 h.tp.length c1, .slice a2 h.rl.length c2, .map (some M)] 72 (0, 0)) := by rw [hal]; exact al_get W0 _ 1 _ rfl
  have hM1 : MapAt W1 W0.heap.size h.tp [] := by
    rw [← hW1]
    exact (mapAt_made W0 h.tp).below ((Below.refl _ _).alloc (by simp) _)
  rw [hMs, hRs] at hr2
  rw [hMs] at hM1 hb1 hs1
  obtain ⟨x0, x1, x2, x3, x4⟩ := five_cells hr2
  have HS1 := Lib.hid (show M = P + 2 ∧ R = P + 3 ∧ W1.heap.size = P + 4 from ⟨by have := HS.out; omega, by have := HS.out; omega, by have := HS.out; omega⟩)
  have HM1 := Lib.hid hM1
  have HB1 := Lib.hid (HB.out.trans (hb1.mono (by have := HS.out; omega)))
  have HR1 := Lib.hid hr2
  have HQ1 := Lib.hid ((hb1.block Q (by have := HS.out; omega)).trans H1.out)
  have HP1 := Lib.hid ((hb1.block P (by have := HS.out; omega)).trans H0.out)
  have HH1 := Lib.hid (HHW.out.below (by rw [hMs]; exact hb1))
  clear hal hb1 hs1 hr2 hM1 HM0
  gi_wp2
  clear hW0 hW1 hMs hRs hP0 hP1
  refine ⟨trivial, callsIn_wide.2 ((sets_any h a1 c1 a2 c2 M W1).mono ?_)⟩
  rintro e W2 ⟨rfl, rfl⟩
  obtain ⟨B, hBs⟩ : ∃ x, W1.heap.size = x := ⟨_, rfl⟩
  obtain ⟨W2, hW2⟩ : ∃ X, W1.alloc (.cells (setsCells h a1 c1 a2 c2 M) 72) = X := ⟨_, rfl⟩
  have hb2 : Below W1.heap.size W1 W2 := by rw [← hW2]; exact (Below.refl _ _).alloc (Nat.le_refl _) _
  have hs2 : W2.heap.size = B + 1 := by rw [← hW2, ← hBs]; simp
  have hr3 : W2.heap[B]? = some (.cells (setsCells h a1 c1 a2 c2 M) 72 (0, 0)) := by rw [← hW2, ← hBs]; exact alloc_heap W1 _
  have hM2 := HM1.out.below hb2
  have hP2 := box_step (w0 := w) HP1.out hb2
  have hQ2 := box_step (w0 := w) HQ1.out hb2
  have hR2 := box_step (w0 := w) HR1.out hb2
  have hH2 := HH1.out.below hb2
  have hbw2 := HB1.out.trans (hb2.mono (by have := HS1.out; omega))
  have HS2 := Lib.hid (show M = P + 2 ∧ R = P + 3 ∧ B = P + 4 ∧ W2.heap.size = P + 5 ∧ Q = P + 1 ∧ w.heap.size = P from ⟨HS1.out.1, HS1.out.2.1, by rw [← hBs]; exact HS1.out.2.2, by rw [hs2, ← hBs, HS1.out.2.2], HS.out.2.1, HS.out.1⟩)
  rw [hW2, hBs]
  have HM2 := Lib.hid hM2
  have HP2 := Lib.hid hP2
  have HQ2 := Lib.hid hQ2
  have HR2 := Lib.hid hR2
  have HH2 := Lib.hid hH2
  have HBW2 := Lib.hid hbw2
  have HW2s := Lib.hid hs2
  have hSM : SMem B h a1 c1 a2 c2 M W2 := ⟨hr3, hH2.rl⟩
  have htaps := (headOk_iff.1 (hsOk_iff.1 hok).1).2.2.1
  have hpw := pow_table htaps.2
  have HPW := Lib.hid hpw
  have HTP := Lib.hid htaps
  clear hW2 hBs hb2 hs2 hM2 hP2 hQ2 hR2 hH2 hbw2 hpw htaps HS HS1 HM1 HP1 HQ1 HR1 HH1 HB1 HB H0 H1 HHW y0 y1 y2 y3 z0 z1 z2 z3 z4 x0 x1 x2 x3 x4 hmm
  gi_wp2
  refine wpIn_rangeFunc_ownH rfl (by omega) (gf := 56) (lb := #[.pointer (some ⟨B, 0, none⟩)]) rfl trivial (enters_of Try.func56 (by kernel_rfl) rfl)
    (sets_stops 8 (by omega) B h hok a1 c1 a2 c2 M (fun _ => False) (fun e => e) (fun _ _ _ _ e => e) W2 hSM)
    KeepE.trans (fun W l o o' _ hl hc _ => KeepE.of_grown (grownBy_putObj' W l o') (fun q e => by cases e; exact .inr (fun o2 h2 => by rw [hl] at h2; cases h2; exact hc))) (Below.refl _ _) (fun _ => rfl)
    (fun pre W => pre.length ≤ 2 ^ h.tp.length ∧ OnlyE (· = M) W2 W ∧ MapAt W M h.tp (pre.map (clS (setsF h))))
    (fun cc pre W => False)
    (fun pre X Y row hs hg hr => ⟨hs.1, hs.2.1.far hg (fun q e => (hr q e).1), hs.2.2.kept hg (fun e => by have := (hr M e.symm).1; have := HS2.out; omega)⟩)
    (fun cc pre X Y row hs hg hr => hs)
    ⟨by simp, OnlyE.refl _ _, HM2.out⟩
    (fun x a' W => a' = { tmps := #[.agg #[.int .i64 h.head, .int .i64 h.drip, .slice a1 h.tp.length c1, .slice a2 h.rl.length c2], .pointer (some ⟨P, 0, none⟩), .pointer (some ⟨Q, 0, none⟩), .pointer (some ⟨R, 0, none⟩), .int .i64 (clS (setsF h) x : Nat), .agg #[.int .i64 h.head, .int .i64 h.drip, .slice a1 h.tp.length c1, .slice a2 h.rl.length c2], .map (some M), .agg #[.int .i64 h.head, .int .i64 h.drip, .slice a1 h.tp.length c1, .slice a2 h.rl.length c2, .map (some M)], .agg #[.int .i64 h.head, .int .i64 h.drip, .slice a1 h.tp.length c1, .slice a2 h.rl.length c2, .map (some M)], .func (.func 56) #[] #[.pointer (some ⟨B, 0, none⟩)], .int .i64 (clS (setsF h) x : Nat), undef, undef, undef, undef, undef, undef, undef, undef], defers := [] })
    (fun x a' _ X Y row hs hg hr => hs)
    ?assign ?body ?done ?stop
  case stop =>
    rintro D cc pre W hD hpre h hK
    exact absurd h id
  case assign =>
    rintro l2 pre x W K hI hK
    unfold encS
    gi_wp2
    exact hK _ _ (KeepsFrom.refl _ _) (KeepE.refl _ _) hI rfl
  case body =>
    rintro l2 pre x a' W hl ⟨rr, hrr⟩ ⟨i1, i2, i3⟩ rfl hlt
    have hcm := clS_mem x (sets_ne hok)
    have hfew : (pre.map (clS (setsF h))).length ≤ 1024 := by rw [List.length_map]; have := HPW.out; omega
    have hmp : (pre ++ [x]).map (clS (setsF h)) = pre.map (clS (setsF h)) ++ [clS (setsF h) x] := by simp
    obtain ⟨y, hy⟩ : ∃ y, clS (setsF h) x = y := ⟨_, rfl⟩
    rw [hy] at hcm hmp ⊢
    have hyb : y < 1024 := by have := (mem_sets.1 hcm).1; have := HPW.out; omega
    obtain ⟨LL, hLL⟩ : ∃ l, pre.map (clS (setsF h)) = l := ⟨_, rfl⟩
    rw [hLL] at i3 hfew hmp
    have hPk := i2.get HP2.out (by have := HS2.out; omega)
    have hRk := i2.get HR2.out (by have := HS2.out; omega)
    have hbW : P + 5 ≤ W.heap.size := by have := i2.size; have := HS2.out; omega
    have htp : TabAt 3 tpC W (.slice a1 h.tp.length c1) h.tp := HH2.out.tp.keep (E := (· = M)) i2.keep (fun hl b off e hb => by
      have := HROW.out hl b off e
      have := HS2.out
      omega)
    have KL := Lib.hid (fun X hX => load_any y (by omega) h.tp (.slice a1 h.tp.length c1) X hX (by have := HTP.out; omega) (hsOk_iff.1 hok).2.1)
    have HMP := Lib.hid hmp
    have HI2 := Lib.hid i2
    have HI3 := Lib.hid i3
    have HTT := Lib.hid htp
    clear hcm hmp hy i2 i3 htp hLL
    gi_wp2
    refine wpIn_region_last_round (fun w' => w'.heap[P]? = some (.cells #[.int .i64 h.head, .int .i64 h.drip, .slice a1 h.tp.length c1, .slice a2 h.rl.length c2] 25 (0, 0)) ∧ w'.heap[R]? = some (.cells #[.int .i64 h.head, .int .i64 h.drip, .slice a1 h.tp.length c1, .slice a2 h.rl.length c2, .map (some M)] 72 (0, 0))) 7 (by kernel_rfl) (by kernel_rfl) ?_ ⟨hPk, hRk⟩ (fun hHeld => ?_)
    · rintro ⟨_, _, h⟩; exact h
    obtain ⟨Y0, hY0⟩ : ∃ X, X = W.drew := ⟨_, rfl⟩
    have hb0' : Below W.heap.size W Y0 := by rw [hY0]; exact (Below.refl _ _).drew
    rw [← hY0] at hHeld ⊢
    have hH := Lib.hid hHeld
    have HB0 := Lib.hid hb0'
    have HT0 := Lib.hid (HTT.out.below hb0')
    have HM0 := Lib.hid (HI3.out.below hb0')
    clear hY0 hHeld hPk hRk hb0'
    refine wpLast_take (i := 0) (oi := _) (v := ?_) rfl (by kernel_rfl) (by kernel_rfl) (by decide) (by kernel_rfl) (by kernel_rfl) (fun _ _ _ h => h) (Or.inl ⟨by rfl, ?_⟩) hH.out ?_
    rotate_left
    · intro w1 hSw
      obtain ⟨s1, s2⟩ := hSw
      obtain ⟨d0, d1, d2, d3⟩ := four_cells s1
      obtain ⟨g0, g1, g2, g3, g4⟩ := five_cells s2
      clear s1 s2
      go_simp; with_reducible rfl
    simp only [List.getElem_toArray, List.getElem_cons_succ, List.getElem_cons_zero, Act.put, List.setIfInBounds_toArray, List.set_cons_zero, List.set_cons_succ]
    refine wpLast_take (i := 1) (oi := _) (v := ?_) rfl (by kernel_rfl) (by kernel_rfl) (by decide) (by kernel_rfl) (by kernel_rfl) (fun _ _ _ h => h) (Or.inl ⟨by rfl, ?_⟩) hH.out ?_
    rotate_left
    · intro w1 hSw
      obtain ⟨s1, s2⟩ := hSw
      obtain ⟨d0, d1, d2, d3⟩ := four_cells s1
      obtain ⟨g0, g1, g2, g3, g4⟩ := five_cells s2
      clear s1 s2
      go_simp; with_reducible rfl
    simp only [List.getElem_toArray, List.getElem_cons_succ, List.getElem_cons_zero, Act.put, List.setIfInBounds_toArray, List.set_cons_zero, List.set_cons_succ]
    refine wpLast_take (i := 2) (oi := _) (v := ?_) rfl (by kernel_rfl) (by kernel_rfl) (by decide) (by kernel_rfl) (by kernel_rfl) (fun _ _ _ h => h) (Or.inl ⟨by rfl, ?_⟩) hH.out ?_
    rotate_left
    · intro w1 hSw
      obtain ⟨s1, s2⟩ := hSw
      obtain ⟨d0, d1, d2, d3⟩ := four_cells s1
      obtain ⟨g0, g1, g2, g3, g4⟩ := five_cells s2
      clear s1 s2
      go_simp; with_reducible rfl
    simp only [List.getElem_toArray, List.getElem_cons_succ, List.getElem_cons_zero, Act.put, List.setIfInBounds_toArray, List.set_cons_zero, List.set_cons_succ]
    refine wpLast_take (i := 3) (oi := _) (v := ?_) rfl (by kernel_rfl) (by kernel_rfl) (by decide) (by kernel_rfl) (by kernel_rfl) (fun _ _ _ h => h) (Or.inl ⟨by rfl, ?_⟩) hH.out ?_
    rotate_left
    · intro w1 hSw
      obtain ⟨s1, s2⟩ := hSw
      obtain ⟨d0, d1, d2, d3⟩ := four_cells s1
      obtain ⟨g0, g1, g2, g3, g4⟩ := five_cells s2
      clear s1 s2
      go_simp; with_reducible rfl
    simp only [List.getElem_toArray, List.getElem_cons_succ, List.getElem_cons_zero, Act.put, List.setIfInBounds_toArray, List.set_cons_zero, List.set_cons_succ]
    refine wpLast_take (i := 4) (oi := _) (v := ?_) rfl (by kernel_rfl) (by kernel_rfl) (by decide) (by kernel_rfl) (by kernel_rfl) (fun _ _ _ h => h) (Or.inl ⟨by rfl, ?_⟩) hH.out ?_
    rotate_left
    · intro w1 hSw
      obtain ⟨s1, s2⟩ := hSw
      obtain ⟨d0, d1, d2, d3⟩ := four_cells s1
      obtain ⟨g0, g1, g2, g3, g4⟩ := five_cells s2
      clear s1 s2
      go_simp; with_reducible rfl
    simp only [List.getElem_toArray, List.getElem_cons_succ, List.getElem_cons_zero, Act.put, List.setIfInBounds_toArray, List.set_cons_zero, List.set_cons_succ]
    refine wpLast_take (i := 5) (oi := _) (v := ?_) rfl (by kernel_rfl) (by kernel_rfl) (by decide) (by kernel_rfl) (by kernel_rfl) (fun _ _ _ h => h) (Or.inl ⟨by rfl, ?_⟩) hH.out ?_
    rotate_left
    · intro w1 hSw
      obtain ⟨s1, s2⟩ := hSw
      obtain ⟨d0, d1, d2, d3⟩ := four_cells s1
      obtain ⟨g0, g1, g2, g3, g4⟩ := five_cells s2
      clear s1 s2
      go_simp; with_reducible rfl
    simp only [List.getElem_toArray, List.getElem_cons_succ, List.getElem_cons_zero, Act.put, List.setIfInBounds_toArray, List.set_cons_zero, List.set_cons_succ]
    refine wpLast_ready (rs := [6]) (by kernel_rfl) (by simp) ?_
    intro i hi; obtain rfl := List.mem_singleton.1 hi; clear hi
    refine wpOp_step rfl (fun K3 hK3 => ?_)
    have HK3 := Lib.hid hK3
    clear hK3
    rw [if_pos (by rfl)]
    go_simp
    refine (KL.out _ HT0.out).mono ?_
    rintro e Y1 ⟨rfl, hbY⟩
    have hH1 := Lib.hid (And.intro (box_step (w0 := w) hH.out.1 hbY) (box_step (w0 := w) hH.out.2 hbY))
    have hM1 := HM0.out.below hbY
    have HB1 := Lib.hid (HB0.out.trans (hbY.mono HB0.out.size))
    clear hbY
    refine HK3.out _ _ ⟨fun _ => hH1.out, fun _ => ?_⟩
    clear HK3 K3
    try simp only [List.getElem_toArray, List.getElem_cons_succ, List.getElem_cons_zero, Act.put, List.setIfInBounds_toArray, List.set_cons_zero, List.set_cons_succ]
    obtain ⟨Y2, hrun, hM2, hg2⟩ := hM1.store (x := y) (by omega) (by omega)
    rw [← HMP.out] at hM2
    have HM2' := Lib.hid hM2
    have HG2 := Lib.hid hg2
    obtain ⟨es, clk, hMh⟩ := hM1.heap
    clear hM1 hM2 hg2
    refine wpLast_ready (rs := [7]) (by kernel_rfl) (by simp) ?_
    intro i hi; obtain rfl := List.mem_singleton.1 hi; clear hi
    refine wpOp_step rfl (fun K3 hK3 => ?_)
    have HK3 := Lib.hid hK3
    clear hK3
    rw [if_pos (by rfl)]
    go_simp
    refine HK3.out _ _ ⟨fun h => absurd rfl h, fun _ => ?_⟩
    clear HK3 K3
    refine wpLast_done (by kernel_rfl) ?_ _
    have hO1 : OnlyE (· = M) W Y1 := .of_below HB1.out
    have hO2 : OnlyE (· = M) Y1 Y2 := .of_grown HG2.out (fun r e => by cases e; rfl)
    have hO := hO1.trans hO2
    exact ⟨hO.from (by intro k hk; have := HS2.out; omega), (KeepE.of_below HB1.out).trans (KeepE.of_grown HG2.out (fun r e => by cases e; exact .inr (fun o ho => by rw [hMh] at ho; cases ho; rfl))), by simp; omega, HI2.out.trans hO, HM2'.out⟩
  case done =>
    rintro D xs W hD rfl ⟨i1, i2, i3⟩ hK
    rw [clS_map] at i3
    have hQk := i2.get HQ2.out (by have := HS2.out; omega)
    have hRk := i2.get HR2.out (by have := HS2.out; omega)
    have hDl := (Array.getElem?_eq_some_iff.1 hK).1
    obtain ⟨d0, d1, d2, d3, d4⟩ := five_cells hRk
    obtain ⟨e0, e1, e2, e3, e4⟩ := five_cells hQk
    have fz : ∀ o, W.frozen? ⟨Q, o, none⟩ = false := fun o => frozen_of hQk
    have fz0 := fz 0
    have fz1 := fz 1
    have fz2 := fz 2
    have fz3 := fz 3
    have fz4 := fz 4
    have HQ3 := Lib.hid (st5_same (A := .int .i64 h.head) (B := .int .i64 h.drip) (C := .slice a1 h.tp.length c1) (D := .slice a2 h.rl.length c2) (F := .map (some M)) hQk)
    have HK3 := Lib.hid ((st5_other W Q D (.int .i64 h.head) (.int .i64 h.drip) (.slice a1 h.tp.length c1) (.slice a2 h.rl.length c2) (.map (some M)) (by have := HS2.out; omega)).trans hK)
    have HO3 := Lib.hid (st5_only W Q (.int .i64 h.head) (.int .i64 h.drip) (.slice a1 h.tp.length c1) (.slice a2 h.rl.length c2) (.map (some M)))
    have HI2 := Lib.hid i2
    have HI3 := Lib.hid i3
    have HD := Lib.hid hD
    have HDL := Lib.hid hDl
    clear i2 i3 hQk hRk hK fz hD hDl hr3 hSM i1
    gi_wp2
    rw [show ((((W.setCell ⟨Q, 0, none⟩ (.int .i64 h.head)).setCell ⟨Q, 1, none⟩ (.int .i64 h.drip)).setCell ⟨Q, 2, none⟩ (.slice a1 h.tp.length c1)).setCell ⟨Q, 3, none⟩ (.slice a2 h.rl.length c2)).setCell ⟨Q, 4, none⟩ (.map (some M)) = st5 W Q (.int .i64 h.head) (.int .i64 h.drip) (.slice a1 h.tp.length c1) (.slice a2 h.rl.length c2) (.map (some M)) from rfl]
    obtain ⟨W3, hW3⟩ : ∃ X, st5 W Q (.int .i64 h.head) (.int .i64 h.drip) (.slice a1 h.tp.length c1) (.slice a2 h.rl.length c2) (.map (some M)) = X := ⟨_, rfl⟩
    rw [hW3] at HQ3 HK3 HO3 ⊢
    clear hW3
    have hDl3 : D < W3.heap.size := Nat.lt_of_lt_of_le HDL.out HO3.out.size
    refine ⟨by simp, .inl ⟨_, _, rfl, run_takeDeferred HK3.out, ?_⟩⟩
    have hg := grownBy_putObj' W3 D (.deferred none)
    have hq4 : (W3.putObj D (.deferred none)).heap[Q]? = _ := (World.putObj_heap_other (by have := HD.out; have := HS2.out; omega)).trans HQ3.out
    have hO : OnlyE (fun k => k = M ∨ k = Q ∨ k = D) W2 (W3.putObj D (.deferred none)) := by
      refine OnlyE.trans (Y := W3) (OnlyE.trans (Y := W) ?_ ?_) (.of_grown hg (fun r e => by cases e; exact .inr (.inr rfl)))
      · exact ⟨HI2.out.os, HI2.out.tape, HI2.out.output, HI2.out.size, fun k hk he => HI2.out.block k hk (fun e => he (.inl e))⟩
      · exact ⟨HO3.out.os, HO3.out.tape, HO3.out.output, HO3.out.size, fun k hk he => HO3.out.block k hk (fun e => he (.inr (.inl e)))⟩
    refine ⟨dV h a1 c1 a2 c2 M, ?_, M, rfl, ?_, ?_⟩
    · exact res1_72 Try.results36 rfl hq4
    · refine ((HI3.out.kept (w' := W3) (row := some Q) ⟨HO3.out.os, HO3.out.tape, HO3.out.output, HO3.out.size, fun k hk hne => HO3.out.block k hk (fun e => hne (by rw [e]))⟩ (by simp; have := HS2.out; omega)).kept hg (by simp; have := HD.out; have := HS2.out; omega))
    · have hP := HS2.out
      rw [hP.2.2.2.2.2]
      exact HBW2.out.trans (hO.below (by omega) (by have := HD.out; intro k hk; omega))
end Go.Proofs.Ytlcmedfjghcigaa
