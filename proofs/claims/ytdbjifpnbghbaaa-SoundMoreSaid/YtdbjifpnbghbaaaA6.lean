/- Sound: places. -/
import Derived.Test.YtdbjifpnbghbaaaA5
namespace Go.Proofs.Ytdbjifpnbghbaaa
set_option linter.unusedSimpArgs false
set_option linter.unusedVariables false
open Go.RowKit Go.Shelf Go.Maps
attribute [local go_sem] Oper.semAt_some

/-- what places holds after some pipes -/
def placesUp (l : List Pi) (pre : List Nat) : Int := match pre.getLast? with | none => 0 | some x => posF l (clN l.length x + 1)
theorem placesUp_snoc (l : List Pi) (pre : List Nat) (x : Nat) : placesUp l (pre ++ [x]) = posF l (clN l.length x + 1) := by simp [placesUp]
theorem placesUp_all {l : List Pi} (h : 0 < l.length) : placesUp l (List.range l.length) = endF l := by
  obtain ⟨n, hn⟩ : ∃ n, l.length = n + 1 := ⟨l.length - 1, by omega⟩
  unfold endF
  rw [hn, List.range_succ, placesUp_snoc, hn, clN_same (by omega)]
set_option maxRecDepth 100000 in
set_option maxHeartbeats 6400000 in
theorem places_any (l : List Pi) (hok : lineOk l = true) (v : Value) (w : World) (hl : TabAt 3 piC w v l) : Calls Try.prog 48 #[v] w fun e w' => e = .returned (.agg #[.int .i64 0, .int .i64 (endF l)]) ∧ Below w.heap.size w w' := by
  obtain ⟨a, c, rfl⟩ := hl.shape
  obtain ⟨hl1, hl8⟩ := line_few hok
  have hrow : ∀ b off, a = some ⟨b, off, none⟩ → b < w.heap.size := fun b off e => by
    obtain ⟨b', off', e', hb', _⟩ := hl.at (by omega)
    rw [e] at e'; cases e'; exact hb'
  obtain ⟨W0, hW0⟩ : ∃ X, X = (w.alloc (.cells #[.int .i64 0, .int .i64 0] 24)).alloc (.cells #[.int .i64 0, .int .i64 0] 24) := ⟨_, rfl⟩
  have hal : W0 = al w [(.cells #[.int .i64 0, .int .i64 0] 24), (.cells #[.int .i64 0, .int .i64 0] 24)] := hW0
  have hb0 : Below w.heap.size w W0 := by rw [hal]; exact al_below w _ (Nat.le_refl _)
  have hs0 : W0.heap.size = w.heap.size + 2 := by rw [hal]; exact al_size w _
  have hr0 : W0.heap[w.heap.size]? = some (.cells #[.int .i64 0, .int .i64 0] 24 (0, 0)) := by rw [hal]; exact al_get w _ 0 _ rfl
  have hr1 : W0.heap[w.heap.size + 1]? = some (.cells #[.int .i64 0, .int .i64 0] 24 (0, 0)) := by rw [hal]; exact al_get w _ 1 _ rfl
  obtain ⟨P, hP0⟩ : ∃ x, w.heap.size = x := ⟨_, rfl⟩
  rw [hP0] at hr0 hr1 hs0
  obtain ⟨Q, hP1⟩ : ∃ x, P + 1 = x := ⟨_, rfl⟩
  rw [hP1] at hr1
  clear hal
  rw [hP0] at hrow
  have HROW := Lib.hid hrow
  have HS := Lib.hid (show w.heap.size = P ∧ Q = P + 1 ∧ W0.heap.size = P + 2 from ⟨by omega, by omega, by omega⟩)
  have HB := Lib.hid hb0
  have H0 := Lib.hid hr0
  have H1 := Lib.hid hr1
  have HL0 := Lib.hid (hl.below hb0)
  clear hb0 hr0 hr1 hs0 hl hrow
  refine (callsIn_wide (n := 9)).1 ?_
  refine callsIn_of_wp_marks Try.func48 rfl trivial ?_ rfl
  simp only [Try.ntmps48, List.size_toArray, List.length_cons, List.length_nil, Nat.reduceAdd, Nat.reduceSub, Array.replicate_succ, Array.replicate_zero, List.push_toArray, List.append_toArray, List.nil_append, List.cons_append]
  replace hW0 := hW0.symm
  gi_wp2
  clear hW0 hP0 hP1
  refine ⟨trivial, callsIn_wide.2 ((pipes_any a l.length c W0).mono ?_)⟩
  rintro e W2 ⟨rfl, rfl⟩
  obtain ⟨B, hBs⟩ : ∃ x, W0.heap.size = x := ⟨_, rfl⟩
  obtain ⟨W2, hW2⟩ : ∃ X, W0.alloc (.cells #[.slice a l.length c] 68) = X := ⟨_, rfl⟩
  have hb2 : Below W0.heap.size W0 W2 := by rw [← hW2]; exact (Below.refl _ _).alloc (Nat.le_refl _) _
  have hs2 : W2.heap.size = B + 1 := by rw [← hW2, ← hBs]; simp
  have hr3 : W2.heap[B]? = some (.cells #[.slice a l.length c] 68 (0, 0)) := by rw [← hW2, ← hBs]; exact alloc_heap W0 _
  have hM : LMem B l a c W2 := ⟨hr3, HL0.out.below hb2⟩
  have h02 := box_step (w0 := w) H0.out hb2
  have h12 := box_step (w0 := w) H1.out hb2
  have HBW2 := Lib.hid (HB.out.trans (hb2.mono (by have := HS.out; omega)))
  have HS2 := Lib.hid (show w.heap.size = P ∧ Q = P + 1 ∧ B = P + 2 ∧ W2.heap.size = P + 3 by have := HS.out; omega)
  rw [hW2, hBs]
  have H02 := Lib.hid h02
  clear hW2 hBs hb2 hs2 HL0 HS H0 H1 HB
  gi_wp2
  refine wpIn_rangeFunc_ownH rfl (by omega) (gf := 66) (lb := #[.pointer (some ⟨B, 0, none⟩)]) rfl trivial (enters_of Try.func66 (by kernel_rfl) rfl)
    (pipes_stops 8 (by omega) B l hok a c (fun k => k = Q) (fun e => by have := HS2.out; omega) (fun b off e he => by have := HROW.out b off e; have := HS2.out; omega) W2 (fun k e => by have := HS2.out; omega) hM)
    KeepE.trans (fun W l o o' _ hl hc _ => KeepE.of_grown (grownBy_putObj' W l o') (fun q e => by cases e; exact .inr (fun o2 h2 => by rw [hl] at h2; cases h2; exact hc))) (Below.refl _ _) (fun _ => rfl)
    (fun pre W => OnlyE (fun k => k = Q) W2 W ∧ W.heap[Q]? = some (.cells #[.int .i64 0, .int .i64 (placesUp l pre)] 24 (0, 0)))
    (fun cc pre W => False)
    (fun pre X Y row hs hg hr => by
      obtain ⟨s1, s2⟩ := hs
      exact ⟨s1.far hg (fun q e => (hr q e).1), cells_kept s2 hg hr⟩)
    (fun cc pre X Y row hs hg hr => hs)
    ⟨OnlyE.refl _ _, h12⟩
    (fun x a' W => ∃ b, W2.heap.size ≤ b ∧ a' = { tmps := #[.slice a l.length c, undef, .pointer (some ⟨P, 0, none⟩), .pointer (some ⟨Q, 0, none⟩), undef, .pointer (some ⟨b, 0, none⟩), .slice a l.length c, .func (.func 66) #[] #[.pointer (some ⟨B, 0, none⟩)], .int .i64 (clN l.length x : Nat), .agg #[.int .i64 (posF l (clN l.length x)), .int .i64 (posF l (clN l.length x + 1))], undef, undef, undef, undef], defers := [] } ∧ W.heap[b]? = some (.cells #[.int .i64 (posF l (clN l.length x)), .int .i64 (posF l (clN l.length x + 1))] 24 (0, 0)))
    (fun x a' _ X Y row hs hg hr => by
      obtain ⟨b, h1, h2, h3⟩ := hs
      exact ⟨b, h1, h2, cells_kept h3 hg hr⟩)
    ?assign ?body ?done ?stop
  case stop =>
    rintro D cc pre W hD hpre h hK
    exact absurd h id
  case assign =>
    rintro l2 pre x W K2 hI hK
    unfold encL
    obtain ⟨u, hu⟩ : ∃ u, posF l (clN l.length x) = u := ⟨_, rfl⟩
    obtain ⟨u1, hu1⟩ : ∃ u, posF l (clN l.length x + 1) = u := ⟨_, rfl⟩
    rw [hu, hu1] at hK ⊢
    have hb4 : Below W.heap.size W (W.alloc (.cells #[.int .i64 u, .int .i64 u1] 24)) := (Below.refl _ _).alloc (Nat.le_refl _) _
    have HK := Lib.hid (hK _ _ (keeps_grown (n := W2.heap.size) (World.grownBy_alloc W (.cells #[.int .i64 u, .int .i64 u1] 24) none) (fun r o e _ => by cases e)) (KeepE.of_below hb4) ⟨hI.1.alloc _, box_step (w0 := w) hI.2 hb4⟩ ⟨W.heap.size, hI.1.size, rfl, alloc_heap W _⟩)
    clear hK hb4 hI hu hu1
    gi_wp2
    exact HK.out
  case body =>
    rintro l2 pre x a' W hl ⟨rr, hrr⟩ ⟨i1, i2⟩ ⟨b, hb, rfl, h3⟩ hlt
    have hnx := placesUp_snoc l pre x
    obtain ⟨u, hu⟩ : ∃ u, posF l (clN l.length x) = u := ⟨_, rfl⟩
    obtain ⟨u1, hu1⟩ : ∃ u, posF l (clN l.length x + 1) = u := ⟨_, rfl⟩
    rw [hu, hu1] at h3 ⊢
    rw [hu1] at hnx
    obtain ⟨q0, q1⟩ := two_cells h3
    have fQ : W.frozen? ⟨Q, 1, none⟩ = false := frozen_of i2
    obtain ⟨z0, z1⟩ := two_cells i2
    have hz : (W.setCell ⟨Q, 1, none⟩ (.int .i64 u1)).heap[Q]? = some (.cells #[.int .i64 0, .int .i64 u1] 24 (0, 0)) := by rw [heap_setCell_same W Q 1 _ 24 (.int .i64 u1) i2]; rfl
    have hO : OnlyE (fun k => k = Q) W (W.setCell ⟨Q, 1, none⟩ (.int .i64 u1)) := OnlyE.set (E := fun k => k = Q) (OnlyE.refl _ _) rfl _
    have HZ := Lib.hid hz
    have HO := Lib.hid hO
    have HI := Lib.hid i1
    have HNX := Lib.hid hnx
    clear hz hO i1 i2 h3 hnx hu hu1 hrr
    gi_wp2
    exact ⟨HO.out.from (by intro k hk; have := HS2.out; omega), HO.out.keep, HI.out.trans HO.out, by rw [HNX.out]; exact HZ.out⟩
  case done =>
    rintro D xs W hD rfl ⟨i1, i2⟩ hK
    rw [placesUp_all (by omega)] at i2
    have hP0 : W.heap[P]? = some (.cells #[.int .i64 0, .int .i64 0] 24 (0, 0)) := i1.get H02.out (by have := HS2.out; omega)
    have hDl := (Array.getElem?_eq_some_iff.1 hK).1
    have f0 : W.frozen? ⟨P, 0, none⟩ = false := frozen_of hP0
    have f1 : W.frozen? ⟨P, 1, none⟩ = false := frozen_of hP0
    obtain ⟨p0, p1⟩ := two_cells hP0
    obtain ⟨q0, q1⟩ := two_cells i2
    have hz := set2 (A := .int .i64 0) (B := .int .i64 (endF l)) hP0
    have hkd := (set2_other W (R := P) (b := D) (.int .i64 0) (.int .i64 (endF l)) (by have := HS2.out; omega)).trans hK
    have hO : OnlyE (fun k => k = P ∨ k = Q) W2 ((W.setCell ⟨P, 0, none⟩ (.int .i64 0)).setCell ⟨P, 1, none⟩ (.int .i64 (endF l))) :=
      OnlyE.set (E := fun k => k = P ∨ k = Q) (OnlyE.set (E := fun k => k = P ∨ k = Q) ⟨i1.os, i1.tape, i1.output, i1.size, fun k hk he => i1.block k hk (fun e => he (.inr e))⟩ (.inl rfl) _) (.inl rfl) _
    have HZ := Lib.hid hz
    have HKD := Lib.hid hkd
    have HO := Lib.hid hO
    have HD := Lib.hid hD
    clear i1 i2 hz hkd hO hK hP0 hD hr3 hM h02 h12 hDl
    gi_wp2
    obtain ⟨W3, hW3⟩ : ∃ X, ((W.setCell ⟨P, 0, none⟩ (.int .i64 0)).setCell ⟨P, 1, none⟩ (.int .i64 (endF l))) = X := ⟨_, rfl⟩
    rw [hW3] at HZ HKD HO ⊢
    clear hW3
    refine ⟨by simp, .inl ⟨_, _, rfl, run_takeDeferred HKD.out, ?_⟩⟩
    have hg := grownBy_putObj' W3 D (.deferred none)
    have hg4 : (W3.putObj D (.deferred none)).heap[P]? = some (.cells #[.int .i64 0, .int .i64 (endF l)] 24 (0, 0)) := (World.putObj_heap_other (w := W3) (o := .deferred none) (show P ≠ D by have := HD.out; have := HS2.out; omega)).trans HZ.out
    have hO2 : OnlyE (fun k => k = P ∨ k = Q ∨ k = D) W2 (W3.putObj D (.deferred none)) :=
      ⟨hg.os.trans HO.out.os, hg.tape.trans HO.out.tape, hg.output.trans HO.out.output, Nat.le_trans HO.out.size hg.size, fun k hk he => (hg.block k (Nat.lt_of_lt_of_le hk HO.out.size) (fun e => he (by cases e; exact .inr (.inr rfl)))).trans (HO.out.block k hk (fun e => he (by rcases e with e | e; exact .inl e; exact .inr (.inl e))))⟩
    refine ⟨.agg #[.int .i64 0, .int .i64 (endF l)], res1_24 Try.results48 rfl hg4, rfl, ?_⟩
    have hP := HS2.out
    exact HBW2.out.trans ((hO2.below (n := w.heap.size) (by omega) (by have := HD.out; intro k hk; omega)))
end Go.Proofs.Ytdbjifpnbghbaaa
