/- Sound: tuned. -/
import Derived.Test.YtdbjifpnbghbaaaA12
import Derived.Scope
namespace Go.Proofs.Ytdbjifpnbghbaaa
set_option linter.unusedSimpArgs false
set_option linter.unusedVariables false
open Go.RowKit Go.Shelf Go.Maps
attribute [local go_sem] Oper.semAt_some

/-- the line in which the pipes of a list are tuned -/
def tunedL (l : List Pi) (x y t lo hi : Int) (pre : List Nat) : List Pi := (List.range l.length).map (fun j => if j ∈ pre.map (clN l.length) then tuneP l x y t lo hi j else l.getD j default)
theorem tunedL_len (l : List Pi) (x y t lo hi : Int) (pre : List Nat) : (tunedL l x y t lo hi pre).length = l.length := by simp [tunedL]
theorem tunedL_get {l : List Pi} {x y t lo hi : Int} {pre : List Nat} {j : Nat} (h : j < l.length) : (tunedL l x y t lo hi pre).getD j default = if j ∈ pre.map (clN l.length) then tuneP l x y t lo hi j else l.getD j default := by
  unfold tunedL
  rw [List.getD, List.getElem?_map, List.getElem?_range h]
  rfl
theorem tuneP_len (l : List Pi) (x y t lo hi : Int) (j : Nat) : (tuneP l x y t lo hi j).len = (l.getD j default).len := by unfold tuneP; simp only []; split <;> rfl
theorem tunedL_glen {l : List Pi} {x y t lo hi : Int} {pre : List Nat} {j : Nat} (h : j < l.length) : ((tunedL l x y t lo hi pre).getD j default).len = (l.getD j default).len := by
  rw [tunedL_get h]; split
  · exact tuneP_len _ _ _ _ _ _ _
  · rfl
theorem list_ext {α : Type} [Inhabited α] {a b : List α} (hl : a.length = b.length) (h : ∀ j, j < a.length → a.getD j default = b.getD j default) : a = b := by
  refine List.ext_getElem hl (fun j h1 h2 => ?_)
  have := h j h1
  rwa [List.getD, List.getD, List.getElem?_eq_getElem h1, List.getElem?_eq_getElem h2] at this
theorem tunedL_0 (l : List Pi) (x y t lo hi : Int) : tunedL l x y t lo hi [] = l := list_ext (tunedL_len _ _ _ _ _ _ _) (fun j hj => by rw [tunedL_len] at hj; rw [tunedL_get hj]; simp)
theorem tunedL_all (l : List Pi) (x y t lo hi : Int) : tunedL l x y t lo hi (List.range l.length) = tunedF l x y t lo hi := by
  unfold tunedL tunedF
  refine List.map_congr_left (fun j hj => ?_)
  rw [if_pos]
  rw [List.mem_map]
  exact ⟨j, hj, clN_same (List.mem_range.1 hj)⟩
theorem tunedL_snoc {l : List Pi} {x y t lo hi : Int} {pre : List Nat} {i k : Nat} (hk : clN l.length i = k) (hkl : k < l.length) : tunedL l x y t lo hi (pre ++ [i]) = (tunedL l x y t lo hi pre).set k (tuneP l x y t lo hi k) := by
  refine list_ext (by simp [tunedL_len]) (fun j hj => ?_)
  rw [tunedL_len] at hj
  rw [tunedL_get hj]
  by_cases e : j = k
  · subst e
    rw [if_pos (by simp [hk]), List.getD, List.getElem?_set_self (by rw [tunedL_len]; exact hj)]
    rfl
  · have e2 : ((tunedL l x y t lo hi pre).set k (tuneP l x y t lo hi k)).getD j default = (tunedL l x y t lo hi pre).getD j default := by
      rw [List.getD, List.getElem?_set_ne (fun h => e h.symm)]; rfl
    rw [e2, tunedL_get hj]
    have : (j ∈ (pre ++ [i]).map (clN l.length)) ↔ j ∈ pre.map (clN l.length) := by
      rw [List.map_append, List.mem_append, List.map_singleton, List.mem_singleton, hk]
      exact ⟨fun h => h.resolve_right e, .inl⟩
    simp only [this]
theorem tunedL_same {l : List Pi} {x y t lo hi : Int} {pre : List Nat} {i k : Nat} (hk : clN l.length i = k) (hkl : k < l.length) (h0 : shareF l x y (nearF (x, y) t) k = 0) : tunedL l x y t lo hi (pre ++ [i]) = tunedL l x y t lo hi pre := by
  rw [tunedL_snoc hk hkl]
  refine list_ext (by simp) (fun j hj => ?_)
  rw [List.length_set, tunedL_len] at hj
  by_cases e : j = k
  · subst e
    rw [List.getD, List.getElem?_set_self (by rw [tunedL_len]; exact hj), tunedL_get hj]
    have : tuneP l x y t lo hi j = l.getD j default := by unfold tuneP; simp [h0]
    simp [this]
  · rw [List.getD, List.getElem?_set_ne (fun h => e h.symm)]; rfl
set_option maxRecDepth 100000 in
set_option maxHeartbeats 12800000 in
theorem tuned_any (l : List Pi) (hok : lineOk l = true) (a : Option Addr) (cp : Nat) (x y t lo hi : Int) (hlo : -1099511627776 ≤ lo ∧ lo ≤ 1099511627776) (hhi : -1099511627776 ≤ hi ∧ hi ≤ 1099511627776) (w : World) (hl : TabAt 3 piC w (.slice a l.length cp) l) : Calls Try.prog 42 #[.agg #[.slice a l.length cp, .int .i64 x, .int .i64 y], .int .i64 t, .agg #[.int .i64 lo, .int .i64 hi]] w fun e w' =>
    ∃ R, e = .returned (.slice (some ⟨R, 0, none⟩) l.length l.length) ∧ w.heap.size ≤ R ∧ w'.heap[R]? = some (.cells (flatK 3 piC (tunedF l x y t lo hi)).toArray 59 (0, 0)) ∧ Below w.heap.size w w' := by
  obtain ⟨hl1, hl8⟩ := line_few hok
  have hrow : ∀ b off, a = some ⟨b, off, none⟩ → b < w.heap.size := fun b off e => by
    obtain ⟨b', off', e', hb', _⟩ := hl.at (by omega)
    rw [e] at e'; cases e'; exact hb'
  have hmk := fun X => make_pipes hl8 X
  obtain ⟨P, hP⟩ : ∃ x, w.heap.size = x := ⟨_, rfl⟩
  obtain ⟨W0, hW0⟩ : ∃ X, X = (((w.alloc (.cells #[.slice a l.length cp, .int .i64 x, .int .i64 y] 70)).alloc (.cells #[.int .i64 lo, .int .i64 hi] 24)).alloc (.cells (flatK 3 piC (List.replicate l.length ⟨0, 0, 0⟩)).toArray 59)).alloc (.cells #[.slice (some ⟨P + 1 + 1, 0, none⟩) l.length l.length] 68) := ⟨_, rfl⟩
  have hal : W0 = al w [(.cells #[.slice a l.length cp, .int .i64 x, .int .i64 y] 70), (.cells #[.int .i64 lo, .int .i64 hi] 24), (.cells (flatK 3 piC (List.replicate l.length ⟨0, 0, 0⟩)).toArray 59), (.cells #[.slice (some ⟨P + 1 + 1, 0, none⟩) l.length l.length] 68)] := hW0
  have hb0 : Below w.heap.size w W0 := by rw [hal]; exact al_below w _ (Nat.le_refl _)
  have hs0 : W0.heap.size = P + 4 := by rw [hal, ← hP]; exact al_size w _
  have hr0 : W0.heap[P]? = some (.cells #[.slice a l.length cp, .int .i64 x, .int .i64 y] 70 (0, 0)) := by rw [hal, ← hP]; exact al_get w _ 0 _ rfl
  have hr1 : W0.heap[P + 1]? = some (.cells #[.int .i64 lo, .int .i64 hi] 24 (0, 0)) := by rw [hal, ← hP]; exact al_get w _ 1 _ rfl
  have hr2 : W0.heap[P + 1 + 1]? = some (.cells (flatK 3 piC (List.replicate l.length ⟨0, 0, 0⟩)).toArray 59 (0, 0)) := by rw [hal, ← hP]; exact al_get w _ 2 _ rfl
  have hr3 : W0.heap[P + 1 + 1 + 1]? = some (.cells #[.slice (some ⟨P + 1 + 1, 0, none⟩) l.length l.length] 68 (0, 0)) := by rw [hal, ← hP]; exact al_get w _ 3 _ rfl
  have v0 : ((w.alloc (.cells #[.slice a l.length cp, .int .i64 x, .int .i64 y] 70)).alloc (.cells #[.int .i64 lo, .int .i64 hi] 24)).cell? ⟨P, 0, none⟩ = some (.slice a l.length cp) := by
    have h := al_get w [(.cells #[.slice a l.length cp, .int .i64 x, .int .i64 y] 70), (.cells #[.int .i64 lo, .int .i64 hi] 24)] 0 _ rfl
    rw [Nat.add_zero, hP] at h
    exact (three_cells h).1
  have hl0 := hl.below hb0
  clear hal
  have hcp := copy_pipes (by omega) (L := List.replicate l.length ⟨0, 0, 0⟩) (by simp) hr2 hl0
  obtain ⟨Q, hQ⟩ : ∃ x, P + 1 = x := ⟨_, rfl⟩
  rw [hQ] at hr1 hr2 hr3 hcp hW0
  obtain ⟨R, hR⟩ : ∃ x, Q + 1 = x := ⟨_, rfl⟩
  rw [hR] at hr2 hr3 hcp hW0
  obtain ⟨T, hT⟩ : ∃ x, R + 1 = x := ⟨_, rfl⟩
  rw [hT] at hr3
  have f0 := setRow_other W0 R P (flatK 3 piC l).toArray (by omega)
  have f1 := setRow_other W0 R Q (flatK 3 piC l).toArray (by omega)
  have f3 := setRow_other W0 R T (flatK 3 piC l).toArray (by omega)
  have f2 := setRow_heap W0 R _ (flatK 3 piC l).toArray 59 (0, 0) hr2
  have hb1 := below_setRow hb0 (g := R) (by omega) (flatK 3 piC l).toArray
  rw [← f0] at hr0
  rw [← f1] at hr1
  rw [← f3] at hr3
  obtain ⟨y0, y1, y2⟩ := three_cells (f0.symm.trans hr0)
  have y3 := one_cell (f3.symm.trans hr3)
  obtain ⟨W1, hW1⟩ : ∃ X, W0.setRow R (flatK 3 piC l).toArray = X := ⟨_, rfl⟩
  rw [hW1] at hr0 hr1 hr3 f2 hb1 hcp
  rw [hP] at hrow
  have HROW := Lib.hid hrow
  have HS := Lib.hid (show w.heap.size = P ∧ Q = P + 1 ∧ R = P + 2 ∧ T = P + 3 ∧ W1.heap.size = P + 4 from ⟨by omega, by omega, by omega, by omega, by rw [← hW1]; simp [World.setRow]; omega⟩)
  have HB := Lib.hid hb1
  have H0 := Lib.hid hr0
  have H1 := Lib.hid hr1
  have H2 := Lib.hid f2
  have H3 := Lib.hid hr3
  have hl1' := hl.below hb1
  have HL := Lib.hid hl1'
  obtain ⟨z0, z1, z2⟩ := three_cells hr0
  have KL := Lib.hid (lags_any l hok a cp x y t W1 hl1')
  have HTL := Lib.hid hl
  clear hb0 hs0 hr0 hr1 hr2 hr3 hl0 f0 f1 f2 f3 hb1 hW1 hl hrow hl1'
  refine (callsIn_wide (n := 9)).1 ?_
  refine callsIn_of_wp_marks Try.func42 rfl trivial ?_ rfl
  simp only [Try.ntmps42, List.size_toArray, List.length_cons, List.length_nil, Nat.reduceAdd, Nat.reduceSub, Array.replicate_succ, Array.replicate_zero, List.push_toArray, List.append_toArray, List.nil_append, List.cons_append]
  replace hW0 := hW0.symm
  gi_wp2
  refine wpIn_wide.2 ?_
  refine wp_scope_straight ?_
  refine (wpIn_wide (n := 9)).1 ?_
  gi_wp2
  clear hmk hcp hW0 y0 y1 y2 y3 v0 z0 z1 z2 hP hQ hR hT
  refine ⟨trivial, callsIn_wide.2 (KL.out.mono ?_)⟩
  rintro e W2 ⟨rfl, hb2⟩
  obtain ⟨⟨g, h⟩, hgh⟩ : ∃ p, lagsF l x y t = p := ⟨_, rfl⟩
  rw [hgh]
  unfold spV
  simp only []
  have HGH := Lib.hid hgh
  have hbA := (Below.refl W2.heap.size W2).alloc (Nat.le_refl _) (.cells #[.int .i64 g, .int .i64 h] 24)
  have hbb := hb2.trans (hbA.mono hb2.size)
  have k0 := box_step (w0 := w) H0.out hbb
  obtain ⟨z0, z1, z2⟩ := three_cells k0
  obtain ⟨A, hA⟩ : ∃ x, W2.heap.size = x := ⟨_, rfl⟩
  have hs2 := hb2.size
  have HS2 := Lib.hid (show w.heap.size = P ∧ Q = P + 1 ∧ R = P + 2 ∧ T = P + 3 ∧ P + 4 ≤ A by have := HS.out; omega)
  clear hgh hb2 k0 hs2
  gi_wp2
  refine wpIn_wide.2 ?_
  refine wp_label ?_
  obtain ⟨W3, hW3⟩ : ∃ X, W2.alloc (.cells #[.int .i64 g, .int .i64 h] 24) = X := ⟨_, rfl⟩
  rw [hW3]
  rw [hW3] at hbb z0 z1 z2
  have hAr : W3.heap[A]? = some (.cells #[.int .i64 g, .int .i64 h] 24 (0, 0)) := by rw [← hW3, ← hA]; exact alloc_heap W2 _
  have hl3 := HL.out.below hbb
  have K0 := Lib.hid (box_step (w0 := w) H0.out hbb)
  have K1 := Lib.hid (box_step (w0 := w) H1.out hbb)
  have K2 := Lib.hid (box_step (w0 := w) H2.out hbb)
  have K3 := Lib.hid (box_step (w0 := w) H3.out hbb)
  have KA := Lib.hid hAr
  have HL3 := Lib.hid hl3
  have HB3 := Lib.hid (HB.out.trans (hbb.mono (by have := HS.out; omega)))
  have HS3 := Lib.hid (show A < W3.heap.size from (Array.getElem?_eq_some_iff.1 hAr).1)
  clear hW3 hA hbA hbb hAr H0 H1 H2 H3 HL HB HS hl3
  gi_wp2
  refine ⟨trivial, callsIn_wide.2 ((shares_any l a cp x y t W3 HL3.out).mono ?_)⟩
  rintro e W4 ⟨b, c, rfl, hb, hc, hM, hb4⟩
  have h24 := box_step (w0 := w) K2.out hb4
  have L0 := Lib.hid (box_step (w0 := w) K0.out hb4)
  have L1 := Lib.hid (box_step (w0 := w) K1.out hb4)
  have L3 := Lib.hid (box_step (w0 := w) K3.out hb4)
  have LA := Lib.hid (box_step (w0 := w) KA.out hb4)
  have HTB := Lib.hid hM.tb
  have HB4 := Lib.hid (HB3.out.trans (hb4.mono (by have := HB3.out.size; omega)))
  have HS4 := Lib.hid (show w.heap.size = P ∧ Q = P + 1 ∧ R = P + 2 ∧ T = P + 3 ∧ P + 4 ≤ A ∧ A < b ∧ A < c ∧ A < W4.heap.size by have := HS2.out; have := HS3.out; have := hb4.size; omega)
  obtain ⟨z, hz⟩ : ∃ z, nearF (x, y) t = z := ⟨_, rfl⟩
  rw [hz] at hM
  have HZ := Lib.hid hz
  clear z0 z1 z2 hb hc hb4 hz K0 K1 K2 K3 KA HL3 HB3 HS3 HS2
  gi_wp2
  refine wpIn_range_all rfl (enters_of Try.func63 (by kernel_rfl) rfl)
    (shares_all b c l hok a cp x y z (fun k => k = R) (fun e => by have := HS4.out; omega) (fun e => by have := HS4.out; omega) (fun b off e he => by have := HROW.out b off e; have := HS4.out; omega) W4 (fun k e => by have := HS4.out; omega) hM) (fun _ => rfl)
    (fun pre W => OnlyE (fun k => k = R) W4 W ∧ W.heap[R]? = some (.cells (flatK 3 piC (tunedL l x y t lo hi pre)).toArray 59 (0, 0)))
    (fun pre X Y row hs hg hr => by
      obtain ⟨s1, s2⟩ := hs
      exact ⟨s1.far hg (fun q e => (hr q e).1), cells_kept s2 hg hr⟩)
    ⟨OnlyE.refl _ _, by rw [tunedL_0]; exact h24⟩
    (fun i a' W => a' = { tmps := #[.agg #[.slice a l.length cp, .int .i64 x, .int .i64 y], .int .i64 t, .agg #[.int .i64 lo, .int .i64 hi], .pointer (some ⟨P, 0, none⟩), undef, .pointer (some ⟨Q, 0, none⟩), .slice none 0 0, .pointer (some ⟨T, 0, none⟩), .pointer (some ⟨A, 0, none⟩), .int .i64 (clN l.length i : Nat), .int .i64 (shareF l x y z (clN l.length i)), undef, undef, undef, .pointer (some ⟨P, 0, none⟩), .slice a l.length cp, .int .i64 l.length, .slice (some ⟨R, 0, none⟩) l.length l.length, .slice (some ⟨R, 0, none⟩) l.length l.length, .pointer (some ⟨P, 0, none⟩), .slice a l.length cp, .int .i64 l.length, .agg #[.slice a l.length cp, .int .i64 x, .int .i64 y], .int .i64 t, .agg #[.int .i64 g, .int .i64 h], .agg #[.slice a l.length cp, .int .i64 x, .int .i64 y], .int .i64 t, .func (.func 63) #[] #[.pointer (some ⟨b, 0, none⟩), .pointer (some ⟨c, 0, none⟩)], .int .i64 (clN l.length i : Nat), .int .i64 (shareF l x y z (clN l.length i)), undef, undef, undef, undef, undef, undef, undef, undef, undef, undef, undef, undef, undef, undef, undef, undef, undef, undef, undef, undef, undef, undef, undef, undef, undef, undef, undef, undef, undef, undef, undef, undef, undef, undef, undef, undef, undef, undef, undef, undef, undef, undef, undef, undef, undef], defers := [] })
    (fun i a' _ X Y row hs hg hr => hs)
    ?assign ?body ?done
  case assign =>
    rintro l2 pre i W K2 hI hK
    unfold encS
    have HK := Lib.hid (hK _ _ (KeepsFrom.refl _ _) (KeepE.refl _ _) hI rfl)
    clear hK
    gi_wp2
    exact HK.out
  case body =>
    rintro l2 pre i a' W hl ⟨i1, i2⟩ rfl hlt
    have hcl := clN_lt (n := l.length) i (by omega)
    obtain ⟨k, hk⟩ : ∃ k, clN l.length i = k := ⟨_, rfl⟩
    have hsn := tunedL_snoc (x := x) (y := y) (t := t) (lo := lo) (hi := hi) (pre := pre) hk (by rw [← hk]; exact hcl)
    have hsm := tunedL_same (x := x) (y := y) (t := t) (lo := lo) (hi := hi) (pre := pre) hk (by rw [← hk]; exact hcl)
    rw [HZ.out] at hsm
    rw [hk] at hcl ⊢
    have hsi := share_in hok hcl x y z
    have hpi := pipe_in hok hcl
    have hgl := tunedL_glen (x := x) (y := y) (t := t) (lo := lo) (hi := hi) (pre := pre) hcl
    have htp : tuneP l x y t lo hi k = (let p := l.getD k default
      let share := shareF l x y (nearF (x, y) t) k
      if share = 0 then p else
        let all := lagsF l x y t
        let o := (all.1 - ofF false share p.lo p.hi, all.2 - ofF true share p.lo p.hi)
        let c := cutF (p.lo, p.hi) [byF (lo - o.2) (hi - o.1) share]
        ⟨p.len, c.1, c.2⟩) := rfl
    simp only [HZ.out, HGH.out] at htp
    obtain ⟨s, hs⟩ : ∃ s, shareF l x y z k = s := ⟨_, rfl⟩
    rw [hs] at hsi hsm htp ⊢
    by_cases hs0 : s = 0
    · have hII := Lib.hid (show OnlyE (fun k => k = R) W4 W ∧ W.heap[R]? = some (.cells (flatK 3 piC (tunedL l x y t lo hi (pre ++ [i]))).toArray 59 (0, 0)) from ⟨i1, by rw [hsm hs0]; exact i2⟩)
      clear i1 i2 hsn hsm hgl htp hs hk
      gi_wp2
      exact ⟨KeepsFrom.refl _ _, KeepE.refl _ _, hII.out⟩
    · have hs0' : (s == 0) = false := by simp [hs0]
      rw [if_neg hs0] at htp
      obtain ⟨lb, lo', e1, hlb, hlx⟩ := HTB.out.at (by omega)
      subst e1
      have x1 := hlx k hcl 1 (by omega)
      have x2 := hlx k hcl 2 (by omega)
      have hlbP := HROW.out lb lo' rfl
      obtain ⟨⟨t0, t1, t2⟩, hrw⟩ : ∃ p : Pi, l.getD k default = p := ⟨_, rfl⟩
      rw [hrw] at x1 x2 hpi htp hgl
      simp only [piC] at x1 x2 hpi htp hgl
      have o1 := of_in (e := false) hsi hpi.2.2.1 hpi.2.2.2.1 hpi.2.2.2.2
      have o2 := of_in (e := true) hsi hpi.2.2.1 hpi.2.2.2.1 hpi.2.2.2.2
      have K1 := Lib.hid (fun X => least_any s t1 t2 hsi hpi.2.2.1 hpi.2.2.2.1 hpi.2.2.2.2 X)
      have K2 := Lib.hid (fun X => greatest_any s t1 t2 hsi hpi.2.2.1 hpi.2.2.2.1 hpi.2.2.2.2 X)
      obtain ⟨v1, hv1⟩ : ∃ v, ofF false s t1 t2 = v := ⟨_, rfl⟩
      obtain ⟨v2, hv2⟩ : ∃ v, ofF true s t1 t2 = v := ⟨_, rfl⟩
      rw [hv1] at o1 htp
      rw [hv2] at o2 htp
      simp only [hv1] at K1
      simp only [hv2] at K2
      have hgb := lagF_in hok false x y t
      have hhb := lagF_in hok true x y t
      have hge : lagF false l x y t = g := congrArg Prod.fst HGH.out
      have hhe : lagF true l x y t = h := congrArg Prod.snd HGH.out
      rw [hge] at hgb
      rw [hhe] at hhb
      obtain ⟨q1, hq1⟩ : ∃ q, g - v1 = q := ⟨_, rfl⟩
      obtain ⟨q2, hq2⟩ : ∃ q, h - v2 = q := ⟨_, rfl⟩
      rw [hq1, hq2] at htp
      obtain ⟨r1, hr1⟩ : ∃ q, lo - q2 = q := ⟨_, rfl⟩
      obtain ⟨r2, hr2⟩ : ∃ q, hi - q1 = q := ⟨_, rfl⟩
      rw [hr1, hr2] at htp
      have w1 : IntKind.i64.wrap (g - v1) = q1 := by rw [hq1]; exact IntWalk.i64_in _ (by omega)
      have w2 : IntKind.i64.wrap (h - v2) = q2 := by rw [hq2]; exact IntWalk.i64_in _ (by omega)
      have w3 : IntKind.i64.wrap (lo - q2) = r1 := by rw [hr1]; exact IntWalk.i64_in _ (by omega)
      have w4 : IntKind.i64.wrap (hi - q1) = r2 := by rw [hr2]; exact IntWalk.i64_in _ (by omega)
      have KB := Lib.hid (fun X => by_any r1 r2 s (by omega) (by omega) hs0 X)
      obtain ⟨⟨b1, b2⟩, hby⟩ : ∃ p, byF r1 r2 s = p := ⟨_, rfl⟩
      rw [hby] at htp
      simp only [hby] at KB
      have KC := Lib.hid (fun v X hX => cut_any t1 t2 [(b1, b2)] v X hX)
      obtain ⟨⟨c1, c2⟩, hcc⟩ : ∃ p, cutF (t1, t2) [(b1, b2)] = p := ⟨_, rfl⟩
      rw [hcc] at htp
      simp only [hcc] at KC
      simp only [] at htp
      have ij1 : (k : Int) < (l.length : Int) := Int.ofNat_lt.2 hcl
      have x1W := (cell_same (o := lo' + k * 3 + 1) (i1.block lb (by have := HS4.out; omega) (by have := HS4.out; omega))).trans x1
      have x2W := (cell_same (o := lo' + k * 3 + 2) (i1.block lb (by have := HS4.out; omega) (by have := HS4.out; omega))).trans x2
      have hPW := i1.get L0.out (by have := HS4.out; omega)
      have hQW := i1.get L1.out (by have := HS4.out; omega)
      have hTW := i1.get L3.out (by have := HS4.out; omega)
      have hAW := i1.get LA.out (by have := HS4.out; omega)
      have hNX : (tunedL l x y t lo hi pre).set k ⟨((tunedL l x y t lo hi pre).getD k default).len, c1, c2⟩ = tunedL l x y t lo hi (pre ++ [i]) := by rw [hsn, htp, hgl]
      obtain ⟨LL, hLL⟩ : ∃ L, tunedL l x y t lo hi pre = L := ⟨_, rfl⟩
      have hlen : LL.length = l.length := by rw [← hLL]; exact tunedL_len _ _ _ _ _ _ _
      rw [hLL] at hNX i2
      have HNX := Lib.hid hNX
      have HLEN := Lib.hid hlen
      have HI1 := Lib.hid i1
      have HRW := Lib.hid i2
      have HQW := Lib.hid hQW
      have HTW := Lib.hid hTW
      have HAW := Lib.hid hAW
      have HCL := Lib.hid hcl
      obtain ⟨p0, p1, p2⟩ := three_cells hPW
      obtain ⟨W5, hW5⟩ : ∃ X, X = W.alloc (.cells #[.int .i64 t1, .int .i64 t2] 24) := ⟨_, rfl⟩
      have hB5 : Below W.heap.size W W5 := by rw [hW5]; exact (Below.refl _ _).alloc (Nat.le_refl _) _
      have hr5 : W5.heap[W.heap.size]? = some (.cells #[.int .i64 t1, .int .i64 t2] 24 (0, 0)) := by rw [hW5]; exact alloc_heap W _
      obtain ⟨B, hB⟩ : ∃ x, W.heap.size = x := ⟨_, rfl⟩
      have hBs : A < B := by have := HS4.out; have := i1.size; omega
      rw [hB] at hr5
      have HB5 := Lib.hid hB5
      have HF := Lib.hid (And.intro (box_step (w0 := w) hAW hB5) hr5)
      have HBS := Lib.hid (show A < B ∧ W.heap.size = B from ⟨hBs, hB⟩)
      clear hsn hsm hgl htp hs hk hlx x1 x2 hlbP hrw o1 o2 hv1 hv2 hgb hhb hge hhe hq1 hq2 hr1 hr2 hby hcc hPW hQW hTW hAW hNX hLL i1 i2 hlen hsi hpi hB5 hr5 hBs hlb
      replace hW5 := hW5.symm
      gi_wp2
      clear x1W x2W p0 p1 p2 hW5 hB
      refine wpIn_region_last_round (fun w' => w'.heap[A]? = some (.cells #[.int .i64 g, .int .i64 h] 24 (0, 0)) ∧ w'.heap[B]? = some (.cells #[.int .i64 t1, .int .i64 t2] 24 (0, 0))) 16 (by kernel_rfl) (by kernel_rfl) ?_ HF.out (fun hHeld => ?_)
      · first | (rintro ⟨_, _, h⟩; exact h) | (rintro ⟨_, _, h, _⟩; cases h) | (intro h; simp [LetsOut] at h)
      obtain ⟨Y0, hY0⟩ : ∃ X, X = World.drew W5 := ⟨_, rfl⟩
      have hbX : Below W5.heap.size W5 Y0 := by rw [hY0]; exact (Below.refl _ _).drew
      rw [← hY0] at hHeld ⊢
      have hH := Lib.hid hHeld
      clear hY0 hHeld
      refine wpLast_take (i := 0) (oi := _) (v := ?_) rfl (by kernel_rfl) (by kernel_rfl) (by decide) (by kernel_rfl) (by kernel_rfl) (fun _ _ _ h => h) (Or.inl ⟨by rfl, ?_⟩) hH.out ?_
      rotate_left
      · intro w1 hSw
        obtain ⟨e1, e2⟩ := hSw
        obtain ⟨d0, d1⟩ := two_cells e1
        obtain ⟨d2, d3⟩ := two_cells e2
        clear e1 e2
        go_simp; with_reducible rfl
      simp only [List.getElem_toArray, List.getElem_cons_succ, List.getElem_cons_zero, Act.put, List.setIfInBounds_toArray, List.set_cons_zero, List.set_cons_succ]
      refine wpLast_take (i := 1) (oi := _) (v := ?_) rfl (by kernel_rfl) (by kernel_rfl) (by decide) (by kernel_rfl) (by kernel_rfl) (fun _ _ _ h => h) (Or.inl ⟨by rfl, ?_⟩) hH.out ?_
      rotate_left
      · intro w1 hSw
        obtain ⟨e1, e2⟩ := hSw
        obtain ⟨d0, d1⟩ := two_cells e1
        obtain ⟨d2, d3⟩ := two_cells e2
        clear e1 e2
        go_simp; with_reducible rfl
      simp only [List.getElem_toArray, List.getElem_cons_succ, List.getElem_cons_zero, Act.put, List.setIfInBounds_toArray, List.set_cons_zero, List.set_cons_succ]
      refine wpLast_take (i := 2) (oi := _) (v := ?_) rfl (by kernel_rfl) (by kernel_rfl) (by decide) (by kernel_rfl) (by kernel_rfl) (fun _ _ _ h => h) (Or.inl ⟨by rfl, ?_⟩) hH.out ?_
      rotate_left
      · intro w1 hSw
        obtain ⟨e1, e2⟩ := hSw
        obtain ⟨d0, d1⟩ := two_cells e1
        obtain ⟨d2, d3⟩ := two_cells e2
        clear e1 e2
        go_simp; with_reducible rfl
      simp only [List.getElem_toArray, List.getElem_cons_succ, List.getElem_cons_zero, Act.put, List.setIfInBounds_toArray, List.set_cons_zero, List.set_cons_succ]
      refine wpLast_take (i := 3) (oi := _) (v := ?_) rfl (by kernel_rfl) (by kernel_rfl) (by decide) (by kernel_rfl) (by kernel_rfl) (fun _ _ _ h => h) (Or.inl ⟨by rfl, ?_⟩) hH.out ?_
      rotate_left
      · intro w1 hSw
        obtain ⟨e1, e2⟩ := hSw
        obtain ⟨d0, d1⟩ := two_cells e1
        obtain ⟨d2, d3⟩ := two_cells e2
        clear e1 e2
        go_simp; with_reducible rfl
      simp only [List.getElem_toArray, List.getElem_cons_succ, List.getElem_cons_zero, Act.put, List.setIfInBounds_toArray, List.set_cons_zero, List.set_cons_succ]
      refine wpLast_take (i := 4) (oi := _) (v := ?_) rfl (by kernel_rfl) (by kernel_rfl) (by decide) (by kernel_rfl) (by kernel_rfl) (fun _ _ _ h => h) (Or.inl ⟨by rfl, ?_⟩) hH.out ?_
      rotate_left
      · intro w1 hSw
        obtain ⟨e1, e2⟩ := hSw
        obtain ⟨d0, d1⟩ := two_cells e1
        obtain ⟨d2, d3⟩ := two_cells e2
        clear e1 e2
        go_simp; with_reducible rfl
      simp only [List.getElem_toArray, List.getElem_cons_succ, List.getElem_cons_zero, Act.put, List.setIfInBounds_toArray, List.set_cons_zero, List.set_cons_succ]
      refine wpLast_take (i := 7) (oi := _) (v := ?_) rfl (by kernel_rfl) (by kernel_rfl) (by decide) (by kernel_rfl) (by kernel_rfl) (fun _ _ _ h => h) (Or.inl ⟨by rfl, ?_⟩) hH.out ?_
      rotate_left
      · intro w1 hSw
        obtain ⟨e1, e2⟩ := hSw
        obtain ⟨d0, d1⟩ := two_cells e1
        obtain ⟨d2, d3⟩ := two_cells e2
        clear e1 e2
        go_simp; with_reducible rfl
      simp only [List.getElem_toArray, List.getElem_cons_succ, List.getElem_cons_zero, Act.put, List.setIfInBounds_toArray, List.set_cons_zero, List.set_cons_succ]
      refine wpLast_take (i := 8) (oi := _) (v := ?_) rfl (by kernel_rfl) (by kernel_rfl) (by decide) (by kernel_rfl) (by kernel_rfl) (fun _ _ _ h => h) (Or.inl ⟨by rfl, ?_⟩) hH.out ?_
      rotate_left
      · intro w1 hSw
        obtain ⟨e1, e2⟩ := hSw
        obtain ⟨d0, d1⟩ := two_cells e1
        obtain ⟨d2, d3⟩ := two_cells e2
        clear e1 e2
        go_simp; with_reducible rfl
      simp only [List.getElem_toArray, List.getElem_cons_succ, List.getElem_cons_zero, Act.put, List.setIfInBounds_toArray, List.set_cons_zero, List.set_cons_succ]
      refine wpLast_take (i := 9) (oi := _) (v := ?_) rfl (by kernel_rfl) (by kernel_rfl) (by decide) (by kernel_rfl) (by kernel_rfl) (fun _ _ _ h => h) (Or.inl ⟨by rfl, ?_⟩) hH.out ?_
      rotate_left
      · intro w1 hSw
        obtain ⟨e1, e2⟩ := hSw
        obtain ⟨d0, d1⟩ := two_cells e1
        obtain ⟨d2, d3⟩ := two_cells e2
        clear e1 e2
        go_simp; with_reducible rfl
      simp only [List.getElem_toArray, List.getElem_cons_succ, List.getElem_cons_zero, Act.put, List.setIfInBounds_toArray, List.set_cons_zero, List.set_cons_succ]
      refine wpLast_take (i := 10) (oi := _) (v := ?_) rfl (by kernel_rfl) (by kernel_rfl) (by decide) (by kernel_rfl) (by kernel_rfl) (fun _ _ _ h => h) (Or.inl ⟨by rfl, ?_⟩) hH.out ?_
      rotate_left
      · intro w1 hSw
        obtain ⟨e1, e2⟩ := hSw
        obtain ⟨d0, d1⟩ := two_cells e1
        obtain ⟨d2, d3⟩ := two_cells e2
        clear e1 e2
        go_simp; with_reducible rfl
      simp only [List.getElem_toArray, List.getElem_cons_succ, List.getElem_cons_zero, Act.put, List.setIfInBounds_toArray, List.set_cons_zero, List.set_cons_succ]
      refine wpLast_take (i := 11) (oi := _) (v := ?_) rfl (by kernel_rfl) (by kernel_rfl) (by decide) (by kernel_rfl) (by kernel_rfl) (fun _ _ _ h => h) (Or.inl ⟨by rfl, ?_⟩) hH.out ?_
      rotate_left
      · intro w1 hSw
        obtain ⟨e1, e2⟩ := hSw
        obtain ⟨d0, d1⟩ := two_cells e1
        obtain ⟨d2, d3⟩ := two_cells e2
        clear e1 e2
        go_simp; with_reducible rfl
      simp only [List.getElem_toArray, List.getElem_cons_succ, List.getElem_cons_zero, Act.put, List.setIfInBounds_toArray, List.set_cons_zero, List.set_cons_succ]
      refine wpLast_ready (rs := [5, 15]) (by kernel_rfl) (by simp) ?_
      intro i hi
      rcases List.mem_cons.1 hi with rfl | hi
      ·
        refine wpOp_step rfl (fun K3 hK3 => ?_)
        have HK3 := Lib.hid hK3
        clear hK3
        rw [if_pos (by rfl)]
        go_simp
        refine (K1.out _).mono ?_
        rintro e Y1 ⟨rfl, hbn⟩
        have hH2 := And.intro (box_step (w0 := w) hH.out.1 hbn) (box_step (w0 := w) hH.out.2 hbn)
        replace hbX := hbX.trans (hbn.mono hbX.size)
        clear hH hbn
        have hH := Lib.hid hH2
        clear hH2
        refine HK3.out _ _ ⟨fun _ => hH.out, fun _ => ?_⟩
        clear HK3 K3
        try simp only [List.getElem_toArray, List.getElem_cons_succ, List.getElem_cons_zero, Act.put, List.setIfInBounds_toArray, List.set_cons_zero, List.set_cons_succ]
        refine wpLast_take (i := 6) (oi := _) (v := ?_) rfl (by kernel_rfl) (by kernel_rfl) (by decide) (by kernel_rfl) (by kernel_rfl) (fun _ _ _ h => h) (Or.inl ⟨by rfl, ?_⟩) hH.out ?_
        rotate_left
        · intro w1 hSw
          obtain ⟨e1, e2⟩ := hSw
          obtain ⟨d0, d1⟩ := two_cells e1
          obtain ⟨d2, d3⟩ := two_cells e2
          clear e1 e2
          go_simp; with_reducible rfl
        simp only [List.getElem_toArray, List.getElem_cons_succ, List.getElem_cons_zero, Act.put, List.setIfInBounds_toArray, List.set_cons_zero, List.set_cons_succ]
        refine wpLast_ready (rs := [12, 15]) (by kernel_rfl) (by simp) ?_
        intro i hi
        rcases List.mem_cons.1 hi with rfl | hi
        ·
          refine wpOp_step rfl (fun K3 hK3 => ?_)
          have HK3 := Lib.hid hK3
          clear hK3
          rw [if_pos (by rfl)]
          go_simp
          refine (K2.out _).mono ?_
          rintro e Y2 ⟨rfl, hbn⟩
          have hH2 := And.intro (box_step (w0 := w) hH.out.1 hbn) (box_step (w0 := w) hH.out.2 hbn)
          replace hbX := hbX.trans (hbn.mono hbX.size)
          clear hH hbn
          have hH := Lib.hid hH2
          clear hH2
          refine HK3.out _ _ ⟨fun _ => hH.out, fun _ => ?_⟩
          clear HK3 K3
          try simp only [List.getElem_toArray, List.getElem_cons_succ, List.getElem_cons_zero, Act.put, List.setIfInBounds_toArray, List.set_cons_zero, List.set_cons_succ]
          refine wpLast_take (i := 13) (oi := _) (v := ?_) rfl (by kernel_rfl) (by kernel_rfl) (by decide) (by kernel_rfl) (by kernel_rfl) (fun _ _ _ h => h) (Or.inl ⟨by rfl, ?_⟩) hH.out ?_
          rotate_left
          · intro w1 hSw
            obtain ⟨e1, e2⟩ := hSw
            obtain ⟨d0, d1⟩ := two_cells e1
            obtain ⟨d2, d3⟩ := two_cells e2
            clear e1 e2
            go_simp; with_reducible rfl
          simp only [List.getElem_toArray, List.getElem_cons_succ, List.getElem_cons_zero, Act.put, List.setIfInBounds_toArray, List.set_cons_zero, List.set_cons_succ]
          refine wpLast_take (i := 14) (oi := _) (v := ?_) rfl (by kernel_rfl) (by kernel_rfl) (by decide) (by kernel_rfl) (by kernel_rfl) (fun _ _ _ h => h) (Or.inl ⟨by rfl, ?_⟩) hH.out ?_
          rotate_left
          · intro w1 hSw
            obtain ⟨e1, e2⟩ := hSw
            obtain ⟨d0, d1⟩ := two_cells e1
            obtain ⟨d2, d3⟩ := two_cells e2
            clear e1 e2
            go_simp; with_reducible rfl
          simp only [List.getElem_toArray, List.getElem_cons_succ, List.getElem_cons_zero, Act.put, List.setIfInBounds_toArray, List.set_cons_zero, List.set_cons_succ]
          refine wpLast_ready (rs := [15]) (by kernel_rfl) (by simp) ?_
          intro i hi
          obtain rfl := List.mem_singleton.1 hi; clear hi
          refine wpOp_step rfl (fun K3 hK3 => ?_)
          have HK3 := Lib.hid hK3
          clear hK3
          rw [if_pos (by rfl)]
          go_simp
          obtain ⟨q, eq⟩ : ∃ g, g = Y2.heap.size := ⟨_, rfl⟩
          obtain ⟨Y3, eY⟩ : ∃ Y, Y = Y2.alloc (.cells #[.int .i64 0, .int .i64 0] 24) := ⟨_, rfl⟩
          have hbn : Below Y2.heap.size Y2 Y3 := by rw [eY]; exact (Below.refl _ _).alloc (Nat.le_refl _) _
          have hq : Y3.heap[q]? = some (.cells #[.int .i64 0, .int .i64 0] 24 (0, 0)) := by rw [eY, eq]; exact alloc_heap Y2 _
          have hql : W5.heap.size ≤ q := by rw [eq]; exact hbX.size
          rw [← eY, ← eq]
          clear eY eq
          have hH2 := And.intro (box_step (w0 := w) hH.out.1 hbn) (box_step (w0 := w) hH.out.2 hbn)
          replace hbX := hbX.trans (hbn.mono hbX.size)
          clear hH hbn
          have hH := Lib.hid hH2
          clear hH2
          refine HK3.out _ _ ⟨fun _ => hH.out, fun _ => ?_⟩
          clear HK3 K3
          try simp only [List.getElem_toArray, List.getElem_cons_succ, List.getElem_cons_zero, Act.put, List.setIfInBounds_toArray, List.set_cons_zero, List.set_cons_succ]
          obtain ⟨u0, u1⟩ := two_cells hq
          have f0 : Y3.frozen? ⟨q, 0, none⟩ = false := frozen_of hq
          have f1 : Y3.frozen? ⟨q, 1, none⟩ = false := frozen_of hq
          have hz := set2 (A := .int .i64 q1) (B := .int .i64 q2) hq
          have hbz := below2 hbX (R := q) hql (.int .i64 q1) (.int .i64 q2)
          have HQ := Lib.hid (And.intro hz hql)
          have HBX := Lib.hid hbz
          clear hz hbz hq hbX
          refine wpLast_ready (rs := [16]) (by kernel_rfl) (by simp) ?_
          intro i hi; obtain rfl := List.mem_singleton.1 hi; clear hi
          refine wpOp_step rfl (fun K3 hK3 => ?_)
          have HK3 := Lib.hid hK3
          clear hK3
          rw [if_pos (by rfl)]
          go_simp
          refine HK3.out _ _ ⟨fun h => absurd rfl h, fun _ => ?_⟩
          clear HK3 K3
          try simp only [List.getElem_toArray, List.getElem_cons_succ, List.getElem_cons_zero, Act.put, List.setIfInBounds_toArray, List.set_cons_zero, List.set_cons_succ]
          refine wpLast_done (by kernel_rfl) ?_ _
          obtain ⟨Y, hY⟩ : ∃ Y, (Y3.setCell ⟨q, 0, none⟩ (.int .i64 q1)).setCell ⟨q, 1, none⟩ (.int .i64 q2) = Y := ⟨_, rfl⟩
          rw [hY] at HQ HBX ⊢
          clear hY f0 f1 u0 u1 hql hH
          have hqY := box_step (w0 := w) HQW.out (HB5.out.trans (HBX.out.mono HB5.out.size))
          obtain ⟨m0, m1⟩ := two_cells hqY
          obtain ⟨u0, u1⟩ := two_cells HQ.out.1
          obtain ⟨Y1, hY1⟩ : ∃ X, X = Y.alloc (.cells #[.int .i64 r1, .int .i64 r2] 98) := ⟨_, rfl⟩
          have hB1 : Below Y.heap.size Y Y1 := by rw [hY1]; exact (Below.refl _ _).alloc (Nat.le_refl _) _
          have hrC : Y1.heap[Y.heap.size]? = some (.cells #[.int .i64 r1, .int .i64 r2] 98 (0, 0)) := by rw [hY1]; exact alloc_heap Y _
          obtain ⟨C, hC⟩ : ∃ x, Y.heap.size = x := ⟨_, rfl⟩
          rw [hC] at hrC
          have hb5Y := HB5.out.trans ((HBX.out.trans (hB1.mono HBX.out.size)).mono HB5.out.size)
          have HBY := Lib.hid hb5Y
          have HC := Lib.hid (And.intro (box_step (w0 := w) HTW.out hb5Y) (And.intro (box_step (w0 := w) HF.out.2 (HBX.out.trans (hB1.mono HBX.out.size))) (And.intro hrC (box_step (w0 := w) HRW.out hb5Y))))
          clear hqY hB1 hrC hb5Y
          replace hY1 := hY1.symm
          gi_wp2
          clear hY1 hC u0 u1 m0 m1
          refine wpIn_region_last_round (fun w' => w'.heap[T]? = some (.cells #[.slice (some ⟨R, 0, none⟩) l.length l.length] 68 (0, 0)) ∧ w'.heap[B]? = some (.cells #[.int .i64 t1, .int .i64 t2] 24 (0, 0)) ∧ w'.heap[C]? = some (.cells #[.int .i64 r1, .int .i64 r2] 98 (0, 0)) ∧ w'.heap[R]? = some (.cells (flatK 3 piC LL).toArray 59 (0, 0))) 10 (by kernel_rfl) (by kernel_rfl) ?_ HC.out (fun hHeld => ?_)
          · first | (rintro ⟨_, _, h⟩; exact h) | (rintro ⟨_, _, h, _⟩; cases h) | (intro h; simp [LetsOut] at h)
          obtain ⟨Z0, hZ0⟩ : ∃ X, X = World.drew Y1 := ⟨_, rfl⟩
          have hbZ : Below W.heap.size W Z0 := by rw [hZ0]; exact HBY.out.drew
          rw [← hZ0] at hHeld ⊢
          have hH := Lib.hid hHeld
          clear hZ0 hHeld
          refine wpLast_take (i := 0) (oi := _) (v := ?_) rfl (by kernel_rfl) (by kernel_rfl) (by decide) (by kernel_rfl) (by kernel_rfl) (fun _ _ _ h => h) (Or.inl ⟨by rfl, ?_⟩) hH.out ?_
          rotate_left
          · intro w1 hSw
            obtain ⟨e1, e2, e3, e4⟩ := hSw
            have d0 := one_cell e1
            obtain ⟨d1, d2⟩ := two_cells e2
            obtain ⟨d3, d4⟩ := two_cells e3
            clear e1 e2 e3 e4
            go_simp; with_reducible rfl
          simp only [List.getElem_toArray, List.getElem_cons_succ, List.getElem_cons_zero, Act.put, List.setIfInBounds_toArray, List.set_cons_zero, List.set_cons_succ]
          refine wpLast_take (i := 1) (oi := _) (v := ?_) rfl (by kernel_rfl) (by kernel_rfl) (by decide) (by kernel_rfl) (by kernel_rfl) (fun _ _ _ h => h) (Or.inl ⟨by rfl, ?_⟩) hH.out ?_
          rotate_left
          · intro w1 hSw
            obtain ⟨e1, e2, e3, e4⟩ := hSw
            have d0 := one_cell e1
            obtain ⟨d1, d2⟩ := two_cells e2
            obtain ⟨d3, d4⟩ := two_cells e3
            clear e1 e2 e3 e4
            go_simp; with_reducible rfl
          simp only [List.getElem_toArray, List.getElem_cons_succ, List.getElem_cons_zero, Act.put, List.setIfInBounds_toArray, List.set_cons_zero, List.set_cons_succ]
          refine wpLast_take (i := 2) (oi := _) (v := ?_) rfl (by kernel_rfl) (by kernel_rfl) (by decide) (by kernel_rfl) (by kernel_rfl) (fun _ _ _ h => h) (Or.inl ⟨by rfl, ?_⟩) hH.out ?_
          rotate_left
          · intro w1 hSw
            obtain ⟨e1, e2, e3, e4⟩ := hSw
            have d0 := one_cell e1
            obtain ⟨d1, d2⟩ := two_cells e2
            obtain ⟨d3, d4⟩ := two_cells e3
            clear e1 e2 e3 e4
            go_simp; with_reducible rfl
          simp only [List.getElem_toArray, List.getElem_cons_succ, List.getElem_cons_zero, Act.put, List.setIfInBounds_toArray, List.set_cons_zero, List.set_cons_succ]
          refine wpLast_take (i := 3) (oi := _) (v := ?_) rfl (by kernel_rfl) (by kernel_rfl) (by decide) (by kernel_rfl) (by kernel_rfl) (fun _ _ _ h => h) (Or.inl ⟨by rfl, ?_⟩) hH.out ?_
          rotate_left
          · intro w1 hSw
            obtain ⟨e1, e2, e3, e4⟩ := hSw
            have d0 := one_cell e1
            obtain ⟨d1, d2⟩ := two_cells e2
            obtain ⟨d3, d4⟩ := two_cells e3
            clear e1 e2 e3 e4
            go_simp; with_reducible rfl
          simp only [List.getElem_toArray, List.getElem_cons_succ, List.getElem_cons_zero, Act.put, List.setIfInBounds_toArray, List.set_cons_zero, List.set_cons_succ]
          refine wpLast_take (i := 4) (oi := _) (v := ?_) rfl (by kernel_rfl) (by kernel_rfl) (by decide) (by kernel_rfl) (by kernel_rfl) (fun _ _ _ h => h) (Or.inl ⟨by rfl, ?_⟩) hH.out ?_
          rotate_left
          · intro w1 hSw
            obtain ⟨e1, e2, e3, e4⟩ := hSw
            have d0 := one_cell e1
            obtain ⟨d1, d2⟩ := two_cells e2
            obtain ⟨d3, d4⟩ := two_cells e3
            clear e1 e2 e3 e4
            go_simp; with_reducible rfl
          simp only [List.getElem_toArray, List.getElem_cons_succ, List.getElem_cons_zero, Act.put, List.setIfInBounds_toArray, List.set_cons_zero, List.set_cons_succ]
          refine wpLast_ready (rs := [5]) (by kernel_rfl) (by simp) ?_
          intro i hi; obtain rfl := List.mem_singleton.1 hi; clear hi
          refine wpOp_step rfl (fun K3 hK3 => ?_)
          have HK3 := Lib.hid hK3
          clear hK3
          rw [if_pos (by rfl)]
          go_simp
          refine (KB.out _).mono ?_
          rintro e Z1 ⟨rfl, hbn⟩
          unfold spV
          simp only []
          have hH2 := And.intro (box_step (w0 := w) hH.out.1 hbn) (And.intro (box_step (w0 := w) hH.out.2.1 hbn) (And.intro (box_step (w0 := w) hH.out.2.2.1 hbn) (box_step (w0 := w) hH.out.2.2.2 hbn)))
          replace hbZ := hbZ.trans (hbn.mono hbZ.size)
          clear hH hbn
          have hH := Lib.hid hH2
          clear hH2
          refine HK3.out _ _ ⟨fun _ => hH.out, fun _ => ?_⟩
          clear HK3 K3
          try simp only [List.getElem_toArray, List.getElem_cons_succ, List.getElem_cons_zero, Act.put, List.setIfInBounds_toArray, List.set_cons_zero, List.set_cons_succ]
          refine wpLast_ready (rs := [6]) (by kernel_rfl) (by simp) ?_
          intro i hi; obtain rfl := List.mem_singleton.1 hi; clear hi
          refine wpOp_step rfl (fun K3 hK3 => ?_)
          have HK3 := Lib.hid hK3
          clear hK3
          rw [if_pos (by rfl)]
          go_simp
          obtain ⟨v, hv⟩ : ∃ v, v = Z1.heap.size := ⟨_, rfl⟩
          obtain ⟨Z2, hZ2⟩ : ∃ X, X = Z1.alloc (.cells #[.int .i64 b1, .int .i64 b2] 24) := ⟨_, rfl⟩
          have hbn : Below Z1.heap.size Z1 Z2 := by rw [hZ2]; exact (Below.refl _ _).alloc (Nat.le_refl _) _
          have hrv : Z2.heap[v]? = some (.cells #[.int .i64 b1, .int .i64 b2] 24 (0, 0)) := by rw [hZ2, hv]; exact alloc_heap Z1 _
          rw [← hZ2, ← hv]
          clear hZ2 hv
          have HTV := Lib.hid (tab_of_block (f := spC) (k := 2) (L := [(b1, b2)]) hrv (by simp))
          have hH2 := And.intro (box_step (w0 := w) hH.out.1 hbn) (And.intro (box_step (w0 := w) hH.out.2.1 hbn) (And.intro (box_step (w0 := w) hH.out.2.2.1 hbn) (box_step (w0 := w) hH.out.2.2.2 hbn)))
          replace hbZ := hbZ.trans (hbn.mono hbZ.size)
          clear hH hrv hbn
          have hH := Lib.hid hH2
          clear hH2
          refine HK3.out _ _ ⟨fun _ => hH.out, fun _ => ?_⟩
          clear HK3 K3
          try simp only [List.getElem_toArray, List.getElem_cons_succ, List.getElem_cons_zero, Act.put, List.setIfInBounds_toArray, List.set_cons_zero, List.set_cons_succ]
          refine wpLast_ready (rs := [7]) (by kernel_rfl) (by simp) ?_
          intro i hi; obtain rfl := List.mem_singleton.1 hi; clear hi
          refine wpOp_step rfl (fun K3 hK3 => ?_)
          have HK3 := Lib.hid hK3
          clear hK3
          rw [if_pos (by rfl)]
          go_simp
          refine (KC.out _ _ HTV.out).mono ?_
          rintro e Z3 ⟨rfl, hbn⟩
          unfold spV
          simp only []
          have hH2 := And.intro (box_step (w0 := w) hH.out.1 hbn) (And.intro (box_step (w0 := w) hH.out.2.1 hbn) (And.intro (box_step (w0 := w) hH.out.2.2.1 hbn) (box_step (w0 := w) hH.out.2.2.2 hbn)))
          replace hbZ := hbZ.trans (hbn.mono hbZ.size)
          clear hH hbn
          have hH := Lib.hid hH2
          clear hH2
          refine HK3.out _ _ ⟨fun _ => hH.out, fun _ => ?_⟩
          clear HK3 K3
          try simp only [List.getElem_toArray, List.getElem_cons_succ, List.getElem_cons_zero, Act.put, List.setIfInBounds_toArray, List.set_cons_zero, List.set_cons_succ]
          refine wpLast_ready (rs := [8]) (by kernel_rfl) (by simp) ?_
          intro i hi; obtain rfl := List.mem_singleton.1 hi; clear hi
          refine wpOp_step rfl (fun K3 hK3 => ?_)
          have HK3 := Lib.hid hK3
          clear hK3
          rw [if_pos (by rfl)]
          go_simp
          refine HK3.out _ _ ⟨fun _ => hH.out, fun _ => ?_⟩
          clear HK3 K3
          try simp only [List.getElem_toArray, List.getElem_cons_succ, List.getElem_cons_zero, Act.put, List.setIfInBounds_toArray, List.set_cons_zero, List.set_cons_succ]
          refine wpLast_ready (rs := [9]) (by kernel_rfl) (by simp) ?_
          intro i hi; obtain rfl := List.mem_singleton.1 hi; clear hi
          refine wpOp_step rfl (fun K3 hK3 => ?_)
          have HK3 := Lib.hid hK3
          clear hK3
          rw [if_pos (by rfl)]
          go_simp
          refine HK3.out _ _ ⟨fun _ => hH.out, fun _ => ?_⟩
          clear HK3 K3
          try simp only [List.getElem_toArray, List.getElem_cons_succ, List.getElem_cons_zero, Act.put, List.setIfInBounds_toArray, List.set_cons_zero, List.set_cons_succ]
          have hrR := hH.out.2.2.2
          have hkL : k < LL.length := by rw [HLEN.out]; exact HCL.out
          have s0' := row_cell hrR (i := k) (j := 1) hkL (by omega)
          have s1' := row_cell hrR (i := k) (j := 2) hkL (by omega)
          have f0 : Z3.frozen? ⟨R, k * 3 + 1, none⟩ = false := frozen_of hrR
          have f1 : Z3.frozen? ⟨R, k * 3 + 2, none⟩ = false := frozen_of hrR
          have hz := row_set3 hrR (i := k) hkL c1 c2
          rw [HNX.out] at hz
          have HZF := Lib.hid hz
          have HO := Lib.hid (show OnlyE (fun k => k = R) W ((Z3.setCell ⟨R, k * 3 + 1, none⟩ (.int .i64 c1)).setCell ⟨R, k * 3 + 2, none⟩ (.int .i64 c2)) from OnlyE.set (E := fun k => k = R) (OnlyE.set (E := fun k => k = R) (.of_below hbZ) rfl _) rfl _)
          clear hrR hkL hz hbZ
          refine wpLast_ready (rs := [10]) (by kernel_rfl) (by simp) ?_
          intro i hi; obtain rfl := List.mem_singleton.1 hi; clear hi
          refine wpOp_step rfl (fun K3 hK3 => ?_)
          have HK3 := Lib.hid hK3
          clear hK3
          rw [if_pos (by rfl)]
          go_simp
          refine HK3.out _ _ ⟨fun h => absurd rfl h, fun _ => ?_⟩
          clear HK3 K3
          try simp only [List.getElem_toArray, List.getElem_cons_succ, List.getElem_cons_zero, Act.put, List.setIfInBounds_toArray, List.set_cons_zero, List.set_cons_succ]
          refine wpLast_done (by kernel_rfl) ?_ _
          clear f0 f1 s0' s1'
          gi_wp2
          exact ⟨HO.out.from (by intro k hk; have := HS4.out; omega), HO.out.keep, HI1.out.trans HO.out, HZF.out⟩
        ·
          obtain rfl := List.mem_singleton.1 hi; clear hi
          refine wpOp_step rfl (fun K3 hK3 => ?_)
          have HK3 := Lib.hid hK3
          clear hK3
          rw [if_pos (by rfl)]
          go_simp
          obtain ⟨q, eq⟩ : ∃ g, g = Y1.heap.size := ⟨_, rfl⟩
          obtain ⟨Y4, eY⟩ : ∃ Y, Y = Y1.alloc (.cells #[.int .i64 0, .int .i64 0] 24) := ⟨_, rfl⟩
          have hbn : Below Y1.heap.size Y1 Y4 := by rw [eY]; exact (Below.refl _ _).alloc (Nat.le_refl _) _
          have hq : Y4.heap[q]? = some (.cells #[.int .i64 0, .int .i64 0] 24 (0, 0)) := by rw [eY, eq]; exact alloc_heap Y1 _
          have hql : W5.heap.size ≤ q := by rw [eq]; exact hbX.size
          rw [← eY, ← eq]
          clear eY eq
          have hH2 := And.intro (box_step (w0 := w) hH.out.1 hbn) (box_step (w0 := w) hH.out.2 hbn)
          replace hbX := hbX.trans (hbn.mono hbX.size)
          clear hH hbn
          have hH := Lib.hid hH2
          clear hH2
          refine HK3.out _ _ ⟨fun _ => hH.out, fun _ => ?_⟩
          clear HK3 K3
          try simp only [List.getElem_toArray, List.getElem_cons_succ, List.getElem_cons_zero, Act.put, List.setIfInBounds_toArray, List.set_cons_zero, List.set_cons_succ]
          refine wpLast_ready (rs := [12]) (by kernel_rfl) (by simp) ?_
          intro i hi
          obtain rfl := List.mem_singleton.1 hi; clear hi
          refine wpOp_step rfl (fun K3 hK3 => ?_)
          have HK3 := Lib.hid hK3
          clear hK3
          rw [if_pos (by rfl)]
          go_simp
          refine (K2.out _).mono ?_
          rintro e Y5 ⟨rfl, hbn⟩
          have hH2 := And.intro (box_step (w0 := w) hH.out.1 hbn) (box_step (w0 := w) hH.out.2 hbn)
          replace hq := box_step (w0 := w) hq hbn
          replace hbX := hbX.trans (hbn.mono hbX.size)
          clear hH hbn
          have hH := Lib.hid hH2
          clear hH2
          refine HK3.out _ _ ⟨fun _ => hH.out, fun _ => ?_⟩
          clear HK3 K3
          try simp only [List.getElem_toArray, List.getElem_cons_succ, List.getElem_cons_zero, Act.put, List.setIfInBounds_toArray, List.set_cons_zero, List.set_cons_succ]
          refine wpLast_take (i := 13) (oi := _) (v := ?_) rfl (by kernel_rfl) (by kernel_rfl) (by decide) (by kernel_rfl) (by kernel_rfl) (fun _ _ _ h => h) (Or.inl ⟨by rfl, ?_⟩) hH.out ?_
          rotate_left
          · intro w1 hSw
            obtain ⟨e1, e2⟩ := hSw
            obtain ⟨d0, d1⟩ := two_cells e1
            obtain ⟨d2, d3⟩ := two_cells e2
            clear e1 e2
            go_simp; with_reducible rfl
          simp only [List.getElem_toArray, List.getElem_cons_succ, List.getElem_cons_zero, Act.put, List.setIfInBounds_toArray, List.set_cons_zero, List.set_cons_succ]
          refine wpLast_take (i := 14) (oi := _) (v := ?_) rfl (by kernel_rfl) (by kernel_rfl) (by decide) (by kernel_rfl) (by kernel_rfl) (fun _ _ _ h => h) (Or.inl ⟨by rfl, ?_⟩) hH.out ?_
          rotate_left
          · intro w1 hSw
            obtain ⟨e1, e2⟩ := hSw
            obtain ⟨d0, d1⟩ := two_cells e1
            obtain ⟨d2, d3⟩ := two_cells e2
            clear e1 e2
            go_simp; with_reducible rfl
          simp only [List.getElem_toArray, List.getElem_cons_succ, List.getElem_cons_zero, Act.put, List.setIfInBounds_toArray, List.set_cons_zero, List.set_cons_succ]
          obtain ⟨u0, u1⟩ := two_cells hq
          have f0 : Y5.frozen? ⟨q, 0, none⟩ = false := frozen_of hq
          have f1 : Y5.frozen? ⟨q, 1, none⟩ = false := frozen_of hq
          have hz := set2 (A := .int .i64 q1) (B := .int .i64 q2) hq
          have hbz := below2 hbX (R := q) hql (.int .i64 q1) (.int .i64 q2)
          have HQ := Lib.hid (And.intro hz hql)
          have HBX := Lib.hid hbz
          clear hz hbz hq hbX
          refine wpLast_ready (rs := [16]) (by kernel_rfl) (by simp) ?_
          intro i hi; obtain rfl := List.mem_singleton.1 hi; clear hi
          refine wpOp_step rfl (fun K3 hK3 => ?_)
          have HK3 := Lib.hid hK3
          clear hK3
          rw [if_pos (by rfl)]
          go_simp
          refine HK3.out _ _ ⟨fun h => absurd rfl h, fun _ => ?_⟩
          clear HK3 K3
          try simp only [List.getElem_toArray, List.getElem_cons_succ, List.getElem_cons_zero, Act.put, List.setIfInBounds_toArray, List.set_cons_zero, List.set_cons_succ]
          refine wpLast_done (by kernel_rfl) ?_ _
          obtain ⟨Y, hY⟩ : ∃ Y, (Y5.setCell ⟨q, 0, none⟩ (.int .i64 q1)).setCell ⟨q, 1, none⟩ (.int .i64 q2) = Y := ⟨_, rfl⟩
          rw [hY] at HQ HBX ⊢
          clear hY f0 f1 u0 u1 hql hH
          have hqY := box_step (w0 := w) HQW.out (HB5.out.trans (HBX.out.mono HB5.out.size))
          obtain ⟨m0, m1⟩ := two_cells hqY
          obtain ⟨u0, u1⟩ := two_cells HQ.out.1
          obtain ⟨Y1, hY1⟩ : ∃ X, X = Y.alloc (.cells #[.int .i64 r1, .int .i64 r2] 98) := ⟨_, rfl⟩
          have hB1 : Below Y.heap.size Y Y1 := by rw [hY1]; exact (Below.refl _ _).alloc (Nat.le_refl _) _
          have hrC : Y1.heap[Y.heap.size]? = some (.cells #[.int .i64 r1, .int .i64 r2] 98 (0, 0)) := by rw [hY1]; exact alloc_heap Y _
          obtain ⟨C, hC⟩ : ∃ x, Y.heap.size = x := ⟨_, rfl⟩
          rw [hC] at hrC
          have hb5Y := HB5.out.trans ((HBX.out.trans (hB1.mono HBX.out.size)).mono HB5.out.size)
          have HBY := Lib.hid hb5Y
          have HC := Lib.hid (And.intro (box_step (w0 := w) HTW.out hb5Y) (And.intro (box_step (w0 := w) HF.out.2 (HBX.out.trans (hB1.mono HBX.out.size))) (And.intro hrC (box_step (w0 := w) HRW.out hb5Y))))
          clear hqY hB1 hrC hb5Y
          replace hY1 := hY1.symm
          gi_wp2
          clear hY1 hC u0 u1 m0 m1
          refine wpIn_region_last_round (fun w' => w'.heap[T]? = some (.cells #[.slice (some ⟨R, 0, none⟩) l.length l.length] 68 (0, 0)) ∧ w'.heap[B]? = some (.cells #[.int .i64 t1, .int .i64 t2] 24 (0, 0)) ∧ w'.heap[C]? = some (.cells #[.int .i64 r1, .int .i64 r2] 98 (0, 0)) ∧ w'.heap[R]? = some (.cells (flatK 3 piC LL).toArray 59 (0, 0))) 10 (by kernel_rfl) (by kernel_rfl) ?_ HC.out (fun hHeld => ?_)
          · first | (rintro ⟨_, _, h⟩; exact h) | (rintro ⟨_, _, h, _⟩; cases h) | (intro h; simp [LetsOut] at h)
          obtain ⟨Z0, hZ0⟩ : ∃ X, X = World.drew Y1 := ⟨_, rfl⟩
          have hbZ : Below W.heap.size W Z0 := by rw [hZ0]; exact HBY.out.drew
          rw [← hZ0] at hHeld ⊢
          have hH := Lib.hid hHeld
          clear hZ0 hHeld
          refine wpLast_take (i := 0) (oi := _) (v := ?_) rfl (by kernel_rfl) (by kernel_rfl) (by decide) (by kernel_rfl) (by kernel_rfl) (fun _ _ _ h => h) (Or.inl ⟨by rfl, ?_⟩) hH.out ?_
          rotate_left
          · intro w1 hSw
            obtain ⟨e1, e2, e3, e4⟩ := hSw
            have d0 := one_cell e1
            obtain ⟨d1, d2⟩ := two_cells e2
            obtain ⟨d3, d4⟩ := two_cells e3
            clear e1 e2 e3 e4
            go_simp; with_reducible rfl
          simp only [List.getElem_toArray, List.getElem_cons_succ, List.getElem_cons_zero, Act.put, List.setIfInBounds_toArray, List.set_cons_zero, List.set_cons_succ]
          refine wpLast_take (i := 1) (oi := _) (v := ?_) rfl (by kernel_rfl) (by kernel_rfl) (by decide) (by kernel_rfl) (by kernel_rfl) (fun _ _ _ h => h) (Or.inl ⟨by rfl, ?_⟩) hH.out ?_
          rotate_left
          · intro w1 hSw
            obtain ⟨e1, e2, e3, e4⟩ := hSw
            have d0 := one_cell e1
            obtain ⟨d1, d2⟩ := two_cells e2
            obtain ⟨d3, d4⟩ := two_cells e3
            clear e1 e2 e3 e4
            go_simp; with_reducible rfl
          simp only [List.getElem_toArray, List.getElem_cons_succ, List.getElem_cons_zero, Act.put, List.setIfInBounds_toArray, List.set_cons_zero, List.set_cons_succ]
          refine wpLast_take (i := 2) (oi := _) (v := ?_) rfl (by kernel_rfl) (by kernel_rfl) (by decide) (by kernel_rfl) (by kernel_rfl) (fun _ _ _ h => h) (Or.inl ⟨by rfl, ?_⟩) hH.out ?_
          rotate_left
          · intro w1 hSw
            obtain ⟨e1, e2, e3, e4⟩ := hSw
            have d0 := one_cell e1
            obtain ⟨d1, d2⟩ := two_cells e2
            obtain ⟨d3, d4⟩ := two_cells e3
            clear e1 e2 e3 e4
            go_simp; with_reducible rfl
          simp only [List.getElem_toArray, List.getElem_cons_succ, List.getElem_cons_zero, Act.put, List.setIfInBounds_toArray, List.set_cons_zero, List.set_cons_succ]
          refine wpLast_take (i := 3) (oi := _) (v := ?_) rfl (by kernel_rfl) (by kernel_rfl) (by decide) (by kernel_rfl) (by kernel_rfl) (fun _ _ _ h => h) (Or.inl ⟨by rfl, ?_⟩) hH.out ?_
          rotate_left
          · intro w1 hSw
            obtain ⟨e1, e2, e3, e4⟩ := hSw
            have d0 := one_cell e1
            obtain ⟨d1, d2⟩ := two_cells e2
            obtain ⟨d3, d4⟩ := two_cells e3
            clear e1 e2 e3 e4
            go_simp; with_reducible rfl
          simp only [List.getElem_toArray, List.getElem_cons_succ, List.getElem_cons_zero, Act.put, List.setIfInBounds_toArray, List.set_cons_zero, List.set_cons_succ]
          refine wpLast_take (i := 4) (oi := _) (v := ?_) rfl (by kernel_rfl) (by kernel_rfl) (by decide) (by kernel_rfl) (by kernel_rfl) (fun _ _ _ h => h) (Or.inl ⟨by rfl, ?_⟩) hH.out ?_
          rotate_left
          · intro w1 hSw
            obtain ⟨e1, e2, e3, e4⟩ := hSw
            have d0 := one_cell e1
            obtain ⟨d1, d2⟩ := two_cells e2
            obtain ⟨d3, d4⟩ := two_cells e3
            clear e1 e2 e3 e4
            go_simp; with_reducible rfl
          simp only [List.getElem_toArray, List.getElem_cons_succ, List.getElem_cons_zero, Act.put, List.setIfInBounds_toArray, List.set_cons_zero, List.set_cons_succ]
          refine wpLast_ready (rs := [5]) (by kernel_rfl) (by simp) ?_
          intro i hi; obtain rfl := List.mem_singleton.1 hi; clear hi
          refine wpOp_step rfl (fun K3 hK3 => ?_)
          have HK3 := Lib.hid hK3
          clear hK3
          rw [if_pos (by rfl)]
          go_simp
          refine (KB.out _).mono ?_
          rintro e Z1 ⟨rfl, hbn⟩
          unfold spV
          simp only []
          have hH2 := And.intro (box_step (w0 := w) hH.out.1 hbn) (And.intro (box_step (w0 := w) hH.out.2.1 hbn) (And.intro (box_step (w0 := w) hH.out.2.2.1 hbn) (box_step (w0 := w) hH.out.2.2.2 hbn)))
          replace hbZ := hbZ.trans (hbn.mono hbZ.size)
          clear hH hbn
          have hH := Lib.hid hH2
          clear hH2
          refine HK3.out _ _ ⟨fun _ => hH.out, fun _ => ?_⟩
          clear HK3 K3
          try simp only [List.getElem_toArray, List.getElem_cons_succ, List.getElem_cons_zero, Act.put, List.setIfInBounds_toArray, List.set_cons_zero, List.set_cons_succ]
          refine wpLast_ready (rs := [6]) (by kernel_rfl) (by simp) ?_
          intro i hi; obtain rfl := List.mem_singleton.1 hi; clear hi
          refine wpOp_step rfl (fun K3 hK3 => ?_)
          have HK3 := Lib.hid hK3
          clear hK3
          rw [if_pos (by rfl)]
          go_simp
          obtain ⟨v, hv⟩ : ∃ v, v = Z1.heap.size := ⟨_, rfl⟩
          obtain ⟨Z2, hZ2⟩ : ∃ X, X = Z1.alloc (.cells #[.int .i64 b1, .int .i64 b2] 24) := ⟨_, rfl⟩
          have hbn : Below Z1.heap.size Z1 Z2 := by rw [hZ2]; exact (Below.refl _ _).alloc (Nat.le_refl _) _
          have hrv : Z2.heap[v]? = some (.cells #[.int .i64 b1, .int .i64 b2] 24 (0, 0)) := by rw [hZ2, hv]; exact alloc_heap Z1 _
          rw [← hZ2, ← hv]
          clear hZ2 hv
          have HTV := Lib.hid (tab_of_block (f := spC) (k := 2) (L := [(b1, b2)]) hrv (by simp))
          have hH2 := And.intro (box_step (w0 := w) hH.out.1 hbn) (And.intro (box_step (w0 := w) hH.out.2.1 hbn) (And.intro (box_step (w0 := w) hH.out.2.2.1 hbn) (box_step (w0 := w) hH.out.2.2.2 hbn)))
          replace hbZ := hbZ.trans (hbn.mono hbZ.size)
          clear hH hrv hbn
          have hH := Lib.hid hH2
          clear hH2
          refine HK3.out _ _ ⟨fun _ => hH.out, fun _ => ?_⟩
          clear HK3 K3
          try simp only [List.getElem_toArray, List.getElem_cons_succ, List.getElem_cons_zero, Act.put, List.setIfInBounds_toArray, List.set_cons_zero, List.set_cons_succ]
          refine wpLast_ready (rs := [7]) (by kernel_rfl) (by simp) ?_
          intro i hi; obtain rfl := List.mem_singleton.1 hi; clear hi
          refine wpOp_step rfl (fun K3 hK3 => ?_)
          have HK3 := Lib.hid hK3
          clear hK3
          rw [if_pos (by rfl)]
          go_simp
          refine (KC.out _ _ HTV.out).mono ?_
          rintro e Z3 ⟨rfl, hbn⟩
          unfold spV
          simp only []
          have hH2 := And.intro (box_step (w0 := w) hH.out.1 hbn) (And.intro (box_step (w0 := w) hH.out.2.1 hbn) (And.intro (box_step (w0 := w) hH.out.2.2.1 hbn) (box_step (w0 := w) hH.out.2.2.2 hbn)))
          replace hbZ := hbZ.trans (hbn.mono hbZ.size)
          clear hH hbn
          have hH := Lib.hid hH2
          clear hH2
          refine HK3.out _ _ ⟨fun _ => hH.out, fun _ => ?_⟩
          clear HK3 K3
          try simp only [List.getElem_toArray, List.getElem_cons_succ, List.getElem_cons_zero, Act.put, List.setIfInBounds_toArray, List.set_cons_zero, List.set_cons_succ]
          refine wpLast_ready (rs := [8]) (by kernel_rfl) (by simp) ?_
          intro i hi; obtain rfl := List.mem_singleton.1 hi; clear hi
          refine wpOp_step rfl (fun K3 hK3 => ?_)
          have HK3 := Lib.hid hK3
          clear hK3
          rw [if_pos (by rfl)]
          go_simp
          refine HK3.out _ _ ⟨fun _ => hH.out, fun _ => ?_⟩
          clear HK3 K3
          try simp only [List.getElem_toArray, List.getElem_cons_succ, List.getElem_cons_zero, Act.put, List.setIfInBounds_toArray, List.set_cons_zero, List.set_cons_succ]
          refine wpLast_ready (rs := [9]) (by kernel_rfl) (by simp) ?_
          intro i hi; obtain rfl := List.mem_singleton.1 hi; clear hi
          refine wpOp_step rfl (fun K3 hK3 => ?_)
          have HK3 := Lib.hid hK3
          clear hK3
          rw [if_pos (by rfl)]
          go_simp
          refine HK3.out _ _ ⟨fun _ => hH.out, fun _ => ?_⟩
          clear HK3 K3
          try simp only [List.getElem_toArray, List.getElem_cons_succ, List.getElem_cons_zero, Act.put, List.setIfInBounds_toArray, List.set_cons_zero, List.set_cons_succ]
          have hrR := hH.out.2.2.2
          have hkL : k < LL.length := by rw [HLEN.out]; exact HCL.out
          have s0' := row_cell hrR (i := k) (j := 1) hkL (by omega)
          have s1' := row_cell hrR (i := k) (j := 2) hkL (by omega)
          have f0 : Z3.frozen? ⟨R, k * 3 + 1, none⟩ = false := frozen_of hrR
          have f1 : Z3.frozen? ⟨R, k * 3 + 2, none⟩ = false := frozen_of hrR
          have hz := row_set3 hrR (i := k) hkL c1 c2
          rw [HNX.out] at hz
          have HZF := Lib.hid hz
          have HO := Lib.hid (show OnlyE (fun k => k = R) W ((Z3.setCell ⟨R, k * 3 + 1, none⟩ (.int .i64 c1)).setCell ⟨R, k * 3 + 2, none⟩ (.int .i64 c2)) from OnlyE.set (E := fun k => k = R) (OnlyE.set (E := fun k => k = R) (.of_below hbZ) rfl _) rfl _)
          clear hrR hkL hz hbZ
          refine wpLast_ready (rs := [10]) (by kernel_rfl) (by simp) ?_
          intro i hi; obtain rfl := List.mem_singleton.1 hi; clear hi
          refine wpOp_step rfl (fun K3 hK3 => ?_)
          have HK3 := Lib.hid hK3
          clear hK3
          rw [if_pos (by rfl)]
          go_simp
          refine HK3.out _ _ ⟨fun h => absurd rfl h, fun _ => ?_⟩
          clear HK3 K3
          try simp only [List.getElem_toArray, List.getElem_cons_succ, List.getElem_cons_zero, Act.put, List.setIfInBounds_toArray, List.set_cons_zero, List.set_cons_succ]
          refine wpLast_done (by kernel_rfl) ?_ _
          clear f0 f1 s0' s1'
          gi_wp2
          exact ⟨HO.out.from (by intro k hk; have := HS4.out; omega), HO.out.keep, HI1.out.trans HO.out, HZF.out⟩
      ·
        obtain rfl := List.mem_singleton.1 hi; clear hi
        refine wpOp_step rfl (fun K3 hK3 => ?_)
        have HK3 := Lib.hid hK3
        clear hK3
        rw [if_pos (by rfl)]
        go_simp
        obtain ⟨q, eq⟩ : ∃ g, g = Y0.heap.size := ⟨_, rfl⟩
        obtain ⟨Y6, eY⟩ : ∃ Y, Y = Y0.alloc (.cells #[.int .i64 0, .int .i64 0] 24) := ⟨_, rfl⟩
        have hbn : Below Y0.heap.size Y0 Y6 := by rw [eY]; exact (Below.refl _ _).alloc (Nat.le_refl _) _
        have hq : Y6.heap[q]? = some (.cells #[.int .i64 0, .int .i64 0] 24 (0, 0)) := by rw [eY, eq]; exact alloc_heap Y0 _
        have hql : W5.heap.size ≤ q := by rw [eq]; exact hbX.size
        rw [← eY, ← eq]
        clear eY eq
        have hH2 := And.intro (box_step (w0 := w) hH.out.1 hbn) (box_step (w0 := w) hH.out.2 hbn)
        replace hbX := hbX.trans (hbn.mono hbX.size)
        clear hH hbn
        have hH := Lib.hid hH2
        clear hH2
        refine HK3.out _ _ ⟨fun _ => hH.out, fun _ => ?_⟩
        clear HK3 K3
        try simp only [List.getElem_toArray, List.getElem_cons_succ, List.getElem_cons_zero, Act.put, List.setIfInBounds_toArray, List.set_cons_zero, List.set_cons_succ]
        refine wpLast_ready (rs := [5]) (by kernel_rfl) (by simp) ?_
        intro i hi
        obtain rfl := List.mem_singleton.1 hi; clear hi
        refine wpOp_step rfl (fun K3 hK3 => ?_)
        have HK3 := Lib.hid hK3
        clear hK3
        rw [if_pos (by rfl)]
        go_simp
        refine (K1.out _).mono ?_
        rintro e Y7 ⟨rfl, hbn⟩
        have hH2 := And.intro (box_step (w0 := w) hH.out.1 hbn) (box_step (w0 := w) hH.out.2 hbn)
        replace hq := box_step (w0 := w) hq hbn
        replace hbX := hbX.trans (hbn.mono hbX.size)
        clear hH hbn
        have hH := Lib.hid hH2
        clear hH2
        refine HK3.out _ _ ⟨fun _ => hH.out, fun _ => ?_⟩
        clear HK3 K3
        try simp only [List.getElem_toArray, List.getElem_cons_succ, List.getElem_cons_zero, Act.put, List.setIfInBounds_toArray, List.set_cons_zero, List.set_cons_succ]
        refine wpLast_take (i := 6) (oi := _) (v := ?_) rfl (by kernel_rfl) (by kernel_rfl) (by decide) (by kernel_rfl) (by kernel_rfl) (fun _ _ _ h => h) (Or.inl ⟨by rfl, ?_⟩) hH.out ?_
        rotate_left
        · intro w1 hSw
          obtain ⟨e1, e2⟩ := hSw
          obtain ⟨d0, d1⟩ := two_cells e1
          obtain ⟨d2, d3⟩ := two_cells e2
          clear e1 e2
          go_simp; with_reducible rfl
        simp only [List.getElem_toArray, List.getElem_cons_succ, List.getElem_cons_zero, Act.put, List.setIfInBounds_toArray, List.set_cons_zero, List.set_cons_succ]
        refine wpLast_ready (rs := [12]) (by kernel_rfl) (by simp) ?_
        intro i hi
        obtain rfl := List.mem_singleton.1 hi; clear hi
        refine wpOp_step rfl (fun K3 hK3 => ?_)
        have HK3 := Lib.hid hK3
        clear hK3
        rw [if_pos (by rfl)]
        go_simp
        refine (K2.out _).mono ?_
        rintro e Y8 ⟨rfl, hbn⟩
        have hH2 := And.intro (box_step (w0 := w) hH.out.1 hbn) (box_step (w0 := w) hH.out.2 hbn)
        replace hq := box_step (w0 := w) hq hbn
        replace hbX := hbX.trans (hbn.mono hbX.size)
        clear hH hbn
        have hH := Lib.hid hH2
        clear hH2
        refine HK3.out _ _ ⟨fun _ => hH.out, fun _ => ?_⟩
        clear HK3 K3
        try simp only [List.getElem_toArray, List.getElem_cons_succ, List.getElem_cons_zero, Act.put, List.setIfInBounds_toArray, List.set_cons_zero, List.set_cons_succ]
        refine wpLast_take (i := 13) (oi := _) (v := ?_) rfl (by kernel_rfl) (by kernel_rfl) (by decide) (by kernel_rfl) (by kernel_rfl) (fun _ _ _ h => h) (Or.inl ⟨by rfl, ?_⟩) hH.out ?_
        rotate_left
        · intro w1 hSw
          obtain ⟨e1, e2⟩ := hSw
          obtain ⟨d0, d1⟩ := two_cells e1
          obtain ⟨d2, d3⟩ := two_cells e2
          clear e1 e2
          go_simp; with_reducible rfl
        simp only [List.getElem_toArray, List.getElem_cons_succ, List.getElem_cons_zero, Act.put, List.setIfInBounds_toArray, List.set_cons_zero, List.set_cons_succ]
        refine wpLast_take (i := 14) (oi := _) (v := ?_) rfl (by kernel_rfl) (by kernel_rfl) (by decide) (by kernel_rfl) (by kernel_rfl) (fun _ _ _ h => h) (Or.inl ⟨by rfl, ?_⟩) hH.out ?_
        rotate_left
        · intro w1 hSw
          obtain ⟨e1, e2⟩ := hSw
          obtain ⟨d0, d1⟩ := two_cells e1
          obtain ⟨d2, d3⟩ := two_cells e2
          clear e1 e2
          go_simp; with_reducible rfl
        simp only [List.getElem_toArray, List.getElem_cons_succ, List.getElem_cons_zero, Act.put, List.setIfInBounds_toArray, List.set_cons_zero, List.set_cons_succ]
        obtain ⟨u0, u1⟩ := two_cells hq
        have f0 : Y8.frozen? ⟨q, 0, none⟩ = false := frozen_of hq
        have f1 : Y8.frozen? ⟨q, 1, none⟩ = false := frozen_of hq
        have hz := set2 (A := .int .i64 q1) (B := .int .i64 q2) hq
        have hbz := below2 hbX (R := q) hql (.int .i64 q1) (.int .i64 q2)
        have HQ := Lib.hid (And.intro hz hql)
        have HBX := Lib.hid hbz
        clear hz hbz hq hbX
        refine wpLast_ready (rs := [16]) (by kernel_rfl) (by simp) ?_
        intro i hi; obtain rfl := List.mem_singleton.1 hi; clear hi
        refine wpOp_step rfl (fun K3 hK3 => ?_)
        have HK3 := Lib.hid hK3
        clear hK3
        rw [if_pos (by rfl)]
        go_simp
        refine HK3.out _ _ ⟨fun h => absurd rfl h, fun _ => ?_⟩
        clear HK3 K3
        try simp only [List.getElem_toArray, List.getElem_cons_succ, List.getElem_cons_zero, Act.put, List.setIfInBounds_toArray, List.set_cons_zero, List.set_cons_succ]
        refine wpLast_done (by kernel_rfl) ?_ _
        obtain ⟨Y, hY⟩ : ∃ Y, (Y8.setCell ⟨q, 0, none⟩ (.int .i64 q1)).setCell ⟨q, 1, none⟩ (.int .i64 q2) = Y := ⟨_, rfl⟩
        rw [hY] at HQ HBX ⊢
        clear hY f0 f1 u0 u1 hql hH
        have hqY := box_step (w0 := w) HQW.out (HB5.out.trans (HBX.out.mono HB5.out.size))
        obtain ⟨m0, m1⟩ := two_cells hqY
        obtain ⟨u0, u1⟩ := two_cells HQ.out.1
        obtain ⟨Y1, hY1⟩ : ∃ X, X = Y.alloc (.cells #[.int .i64 r1, .int .i64 r2] 98) := ⟨_, rfl⟩
        have hB1 : Below Y.heap.size Y Y1 := by rw [hY1]; exact (Below.refl _ _).alloc (Nat.le_refl _) _
        have hrC : Y1.heap[Y.heap.size]? = some (.cells #[.int .i64 r1, .int .i64 r2] 98 (0, 0)) := by rw [hY1]; exact alloc_heap Y _
        obtain ⟨C, hC⟩ : ∃ x, Y.heap.size = x := ⟨_, rfl⟩
        rw [hC] at hrC
        have hb5Y := HB5.out.trans ((HBX.out.trans (hB1.mono HBX.out.size)).mono HB5.out.size)
        have HBY := Lib.hid hb5Y
        have HC := Lib.hid (And.intro (box_step (w0 := w) HTW.out hb5Y) (And.intro (box_step (w0 := w) HF.out.2 (HBX.out.trans (hB1.mono HBX.out.size))) (And.intro hrC (box_step (w0 := w) HRW.out hb5Y))))
        clear hqY hB1 hrC hb5Y
        replace hY1 := hY1.symm
        gi_wp2
        clear hY1 hC u0 u1 m0 m1
        refine wpIn_region_last_round (fun w' => w'.heap[T]? = some (.cells #[.slice (some ⟨R, 0, none⟩) l.length l.length] 68 (0, 0)) ∧ w'.heap[B]? = some (.cells #[.int .i64 t1, .int .i64 t2] 24 (0, 0)) ∧ w'.heap[C]? = some (.cells #[.int .i64 r1, .int .i64 r2] 98 (0, 0)) ∧ w'.heap[R]? = some (.cells (flatK 3 piC LL).toArray 59 (0, 0))) 10 (by kernel_rfl) (by kernel_rfl) ?_ HC.out (fun hHeld => ?_)
        · first | (rintro ⟨_, _, h⟩; exact h) | (rintro ⟨_, _, h, _⟩; cases h) | (intro h; simp [LetsOut] at h)
        obtain ⟨Z0, hZ0⟩ : ∃ X, X = World.drew Y1 := ⟨_, rfl⟩
        have hbZ : Below W.heap.size W Z0 := by rw [hZ0]; exact HBY.out.drew
        rw [← hZ0] at hHeld ⊢
        have hH := Lib.hid hHeld
        clear hZ0 hHeld
        refine wpLast_take (i := 0) (oi := _) (v := ?_) rfl (by kernel_rfl) (by kernel_rfl) (by decide) (by kernel_rfl) (by kernel_rfl) (fun _ _ _ h => h) (Or.inl ⟨by rfl, ?_⟩) hH.out ?_
        rotate_left
        · intro w1 hSw
          obtain ⟨e1, e2, e3, e4⟩ := hSw
          have d0 := one_cell e1
          obtain ⟨d1, d2⟩ := two_cells e2
          obtain ⟨d3, d4⟩ := two_cells e3
          clear e1 e2 e3 e4
          go_simp; with_reducible rfl
        simp only [List.getElem_toArray, List.getElem_cons_succ, List.getElem_cons_zero, Act.put, List.setIfInBounds_toArray, List.set_cons_zero, List.set_cons_succ]
        refine wpLast_take (i := 1) (oi := _) (v := ?_) rfl (by kernel_rfl) (by kernel_rfl) (by decide) (by kernel_rfl) (by kernel_rfl) (fun _ _ _ h => h) (Or.inl ⟨by rfl, ?_⟩) hH.out ?_
        rotate_left
        · intro w1 hSw
          obtain ⟨e1, e2, e3, e4⟩ := hSw
          have d0 := one_cell e1
          obtain ⟨d1, d2⟩ := two_cells e2
          obtain ⟨d3, d4⟩ := two_cells e3
          clear e1 e2 e3 e4
          go_simp; with_reducible rfl
        simp only [List.getElem_toArray, List.getElem_cons_succ, List.getElem_cons_zero, Act.put, List.setIfInBounds_toArray, List.set_cons_zero, List.set_cons_succ]
        refine wpLast_take (i := 2) (oi := _) (v := ?_) rfl (by kernel_rfl) (by kernel_rfl) (by decide) (by kernel_rfl) (by kernel_rfl) (fun _ _ _ h => h) (Or.inl ⟨by rfl, ?_⟩) hH.out ?_
        rotate_left
        · intro w1 hSw
          obtain ⟨e1, e2, e3, e4⟩ := hSw
          have d0 := one_cell e1
          obtain ⟨d1, d2⟩ := two_cells e2
          obtain ⟨d3, d4⟩ := two_cells e3
          clear e1 e2 e3 e4
          go_simp; with_reducible rfl
        simp only [List.getElem_toArray, List.getElem_cons_succ, List.getElem_cons_zero, Act.put, List.setIfInBounds_toArray, List.set_cons_zero, List.set_cons_succ]
        refine wpLast_take (i := 3) (oi := _) (v := ?_) rfl (by kernel_rfl) (by kernel_rfl) (by decide) (by kernel_rfl) (by kernel_rfl) (fun _ _ _ h => h) (Or.inl ⟨by rfl, ?_⟩) hH.out ?_
        rotate_left
        · intro w1 hSw
          obtain ⟨e1, e2, e3, e4⟩ := hSw
          have d0 := one_cell e1
          obtain ⟨d1, d2⟩ := two_cells e2
          obtain ⟨d3, d4⟩ := two_cells e3
          clear e1 e2 e3 e4
          go_simp; with_reducible rfl
        simp only [List.getElem_toArray, List.getElem_cons_succ, List.getElem_cons_zero, Act.put, List.setIfInBounds_toArray, List.set_cons_zero, List.set_cons_succ]
        refine wpLast_take (i := 4) (oi := _) (v := ?_) rfl (by kernel_rfl) (by kernel_rfl) (by decide) (by kernel_rfl) (by kernel_rfl) (fun _ _ _ h => h) (Or.inl ⟨by rfl, ?_⟩) hH.out ?_
        rotate_left
        · intro w1 hSw
          obtain ⟨e1, e2, e3, e4⟩ := hSw
          have d0 := one_cell e1
          obtain ⟨d1, d2⟩ := two_cells e2
          obtain ⟨d3, d4⟩ := two_cells e3
          clear e1 e2 e3 e4
          go_simp; with_reducible rfl
        simp only [List.getElem_toArray, List.getElem_cons_succ, List.getElem_cons_zero, Act.put, List.setIfInBounds_toArray, List.set_cons_zero, List.set_cons_succ]
        refine wpLast_ready (rs := [5]) (by kernel_rfl) (by simp) ?_
        intro i hi; obtain rfl := List.mem_singleton.1 hi; clear hi
        refine wpOp_step rfl (fun K3 hK3 => ?_)
        have HK3 := Lib.hid hK3
        clear hK3
        rw [if_pos (by rfl)]
        go_simp
        refine (KB.out _).mono ?_
        rintro e Z1 ⟨rfl, hbn⟩
        unfold spV
        simp only []
        have hH2 := And.intro (box_step (w0 := w) hH.out.1 hbn) (And.intro (box_step (w0 := w) hH.out.2.1 hbn) (And.intro (box_step (w0 := w) hH.out.2.2.1 hbn) (box_step (w0 := w) hH.out.2.2.2 hbn)))
        replace hbZ := hbZ.trans (hbn.mono hbZ.size)
        clear hH hbn
        have hH := Lib.hid hH2
        clear hH2
        refine HK3.out _ _ ⟨fun _ => hH.out, fun _ => ?_⟩
        clear HK3 K3
        try simp only [List.getElem_toArray, List.getElem_cons_succ, List.getElem_cons_zero, Act.put, List.setIfInBounds_toArray, List.set_cons_zero, List.set_cons_succ]
        refine wpLast_ready (rs := [6]) (by kernel_rfl) (by simp) ?_
        intro i hi; obtain rfl := List.mem_singleton.1 hi; clear hi
        refine wpOp_step rfl (fun K3 hK3 => ?_)
        have HK3 := Lib.hid hK3
        clear hK3
        rw [if_pos (by rfl)]
        go_simp
        obtain ⟨v, hv⟩ : ∃ v, v = Z1.heap.size := ⟨_, rfl⟩
        obtain ⟨Z2, hZ2⟩ : ∃ X, X = Z1.alloc (.cells #[.int .i64 b1, .int .i64 b2] 24) := ⟨_, rfl⟩
        have hbn : Below Z1.heap.size Z1 Z2 := by rw [hZ2]; exact (Below.refl _ _).alloc (Nat.le_refl _) _
        have hrv : Z2.heap[v]? = some (.cells #[.int .i64 b1, .int .i64 b2] 24 (0, 0)) := by rw [hZ2, hv]; exact alloc_heap Z1 _
        rw [← hZ2, ← hv]
        clear hZ2 hv
        have HTV := Lib.hid (tab_of_block (f := spC) (k := 2) (L := [(b1, b2)]) hrv (by simp))
        have hH2 := And.intro (box_step (w0 := w) hH.out.1 hbn) (And.intro (box_step (w0 := w) hH.out.2.1 hbn) (And.intro (box_step (w0 := w) hH.out.2.2.1 hbn) (box_step (w0 := w) hH.out.2.2.2 hbn)))
        replace hbZ := hbZ.trans (hbn.mono hbZ.size)
        clear hH hrv hbn
        have hH := Lib.hid hH2
        clear hH2
        refine HK3.out _ _ ⟨fun _ => hH.out, fun _ => ?_⟩
        clear HK3 K3
        try simp only [List.getElem_toArray, List.getElem_cons_succ, List.getElem_cons_zero, Act.put, List.setIfInBounds_toArray, List.set_cons_zero, List.set_cons_succ]
        refine wpLast_ready (rs := [7]) (by kernel_rfl) (by simp) ?_
        intro i hi; obtain rfl := List.mem_singleton.1 hi; clear hi
        refine wpOp_step rfl (fun K3 hK3 => ?_)
        have HK3 := Lib.hid hK3
        clear hK3
        rw [if_pos (by rfl)]
        go_simp
        refine (KC.out _ _ HTV.out).mono ?_
        rintro e Z3 ⟨rfl, hbn⟩
        unfold spV
        simp only []
        have hH2 := And.intro (box_step (w0 := w) hH.out.1 hbn) (And.intro (box_step (w0 := w) hH.out.2.1 hbn) (And.intro (box_step (w0 := w) hH.out.2.2.1 hbn) (box_step (w0 := w) hH.out.2.2.2 hbn)))
        replace hbZ := hbZ.trans (hbn.mono hbZ.size)
        clear hH hbn
        have hH := Lib.hid hH2
        clear hH2
        refine HK3.out _ _ ⟨fun _ => hH.out, fun _ => ?_⟩
        clear HK3 K3
        try simp only [List.getElem_toArray, List.getElem_cons_succ, List.getElem_cons_zero, Act.put, List.setIfInBounds_toArray, List.set_cons_zero, List.set_cons_succ]
        refine wpLast_ready (rs := [8]) (by kernel_rfl) (by simp) ?_
        intro i hi; obtain rfl := List.mem_singleton.1 hi; clear hi
        refine wpOp_step rfl (fun K3 hK3 => ?_)
        have HK3 := Lib.hid hK3
        clear hK3
        rw [if_pos (by rfl)]
        go_simp
        refine HK3.out _ _ ⟨fun _ => hH.out, fun _ => ?_⟩
        clear HK3 K3
        try simp only [List.getElem_toArray, List.getElem_cons_succ, List.getElem_cons_zero, Act.put, List.setIfInBounds_toArray, List.set_cons_zero, List.set_cons_succ]
        refine wpLast_ready (rs := [9]) (by kernel_rfl) (by simp) ?_
        intro i hi; obtain rfl := List.mem_singleton.1 hi; clear hi
        refine wpOp_step rfl (fun K3 hK3 => ?_)
        have HK3 := Lib.hid hK3
        clear hK3
        rw [if_pos (by rfl)]
        go_simp
        refine HK3.out _ _ ⟨fun _ => hH.out, fun _ => ?_⟩
        clear HK3 K3
        try simp only [List.getElem_toArray, List.getElem_cons_succ, List.getElem_cons_zero, Act.put, List.setIfInBounds_toArray, List.set_cons_zero, List.set_cons_succ]
        have hrR := hH.out.2.2.2
        have hkL : k < LL.length := by rw [HLEN.out]; exact HCL.out
        have s0' := row_cell hrR (i := k) (j := 1) hkL (by omega)
        have s1' := row_cell hrR (i := k) (j := 2) hkL (by omega)
        have f0 : Z3.frozen? ⟨R, k * 3 + 1, none⟩ = false := frozen_of hrR
        have f1 : Z3.frozen? ⟨R, k * 3 + 2, none⟩ = false := frozen_of hrR
        have hz := row_set3 hrR (i := k) hkL c1 c2
        rw [HNX.out] at hz
        have HZF := Lib.hid hz
        have HO := Lib.hid (show OnlyE (fun k => k = R) W ((Z3.setCell ⟨R, k * 3 + 1, none⟩ (.int .i64 c1)).setCell ⟨R, k * 3 + 2, none⟩ (.int .i64 c2)) from OnlyE.set (E := fun k => k = R) (OnlyE.set (E := fun k => k = R) (.of_below hbZ) rfl _) rfl _)
        clear hrR hkL hz hbZ
        refine wpLast_ready (rs := [10]) (by kernel_rfl) (by simp) ?_
        intro i hi; obtain rfl := List.mem_singleton.1 hi; clear hi
        refine wpOp_step rfl (fun K3 hK3 => ?_)
        have HK3 := Lib.hid hK3
        clear hK3
        rw [if_pos (by rfl)]
        go_simp
        refine HK3.out _ _ ⟨fun h => absurd rfl h, fun _ => ?_⟩
        clear HK3 K3
        try simp only [List.getElem_toArray, List.getElem_cons_succ, List.getElem_cons_zero, Act.put, List.setIfInBounds_toArray, List.set_cons_zero, List.set_cons_succ]
        refine wpLast_done (by kernel_rfl) ?_ _
        clear f0 f1 s0' s1'
        gi_wp2
        exact ⟨HO.out.from (by intro k hk; have := HS4.out; omega), HO.out.keep, HI1.out.trans HO.out, HZF.out⟩
  case done =>
    rintro D xs W hD rfl ⟨i1, i2⟩ hK
    rw [tunedL_all] at i2
    have g0 := one_cell (i1.get L3.out (by have := HS4.out; omega))
    have HI1 := Lib.hid i1
    have HI2 := Lib.hid i2
    have HK := Lib.hid hK
    have HD := Lib.hid hD
    clear i1 i2 hK hD hM h24
    unfold markD
    gi_wp2
    refine ⟨by simp, .inl ⟨_, _, rfl, run_takeDeferred HK.out, ?_⟩⟩
    have hg := grownBy_putObj' W D (.deferred none)
    have hO : OnlyE (fun k => k = R ∨ k = D) W4 (W.putObj D (.deferred none)) :=
      ⟨hg.os.trans HI1.out.os, hg.tape.trans HI1.out.tape, hg.output.trans HI1.out.output, Nat.le_trans HI1.out.size hg.size, fun k hk he => (hg.block k (Nat.lt_of_lt_of_le hk HI1.out.size) (fun e => he (by cases e; exact .inr rfl))).trans (HI1.out.block k hk (fun e => he (.inl e)))⟩
    have hP := HS4.out
    refine ⟨_, results_tmp rfl _ _ _, R, rfl, by omega, ?_, ?_⟩
    · exact (World.putObj_heap_other (w := W) (o := .deferred none) (show R ≠ D by have := HD.out; omega)).trans HI2.out
    · exact HB4.out.trans (hO.below (n := w.heap.size) (by omega) (by have := HD.out; intro k hk; omega))
end Go.Proofs.Ytdbjifpnbghbaaa
