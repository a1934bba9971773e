/- Sound: lag. -/
import Derived.Test.YtdbjifpnbghbaaaA8
namespace Go.Proofs.Ytdbjifpnbghbaaa
set_option linter.unusedSimpArgs false
set_option linter.unusedVariables false
open Go.RowKit Go.Shelf Go.Maps
attribute [local go_sem] Oper.semAt_some

/-- the lag by some pipes -/
def lagL (e : Bool) (l : List Pi) (x y t : Int) (pre : List Nat) : Int := pre.foldl (fun s i => s + ofF e (shareF l x y t (clN l.length i)) (l.getD (clN l.length i) default).lo (l.getD (clN l.length i) default).hi) 0
theorem lagL_snoc (e : Bool) (l : List Pi) (x y t : Int) (pre : List Nat) (i : Nat) : lagL e l x y t (pre ++ [i]) = lagL e l x y t pre + ofF e (shareF l x y t (clN l.length i)) (l.getD (clN l.length i) default).lo (l.getD (clN l.length i) default).hi := by
  unfold lagL; rw [List.foldl_append]; rfl
theorem lagL_range (e : Bool) (l : List Pi) (x y t : Int) : ∀ k : Nat, k ≤ l.length → lagL e l x y t (List.range k) = lagUp e l x y t k
  | 0, _ => rfl
  | k + 1, h => by
    rw [List.range_succ, lagL_snoc, lagL_range e l x y t k (by omega), clN_same (by omega)]
    rfl
theorem lagL_in {l : List Pi} (h : lineOk l = true) (e : Bool) (x y t : Int) (pre : List Nat) : -((pre.length : Int) * 2000000000) ≤ lagL e l x y t pre ∧ lagL e l x y t pre ≤ (pre.length : Int) * 2000000000 := by
  obtain ⟨rs, hr⟩ : ∃ rs, pre.reverse = rs := ⟨_, rfl⟩
  obtain rfl : pre = rs.reverse := by rw [← hr, List.reverse_reverse]
  clear hr
  induction rs with
  | nil => simp [lagL]
  | cons i rs ih =>
    rw [List.reverse_cons, lagL_snoc, List.length_append, List.length_singleton]
    have hcl := clN_lt (n := l.length) i (by have := line_few h; omega)
    have hp := pipe_in h hcl
    have := of_in (e := e) (share_in h hcl x y t) hp.2.2.1 hp.2.2.2.1 hp.2.2.2.2
    omega
set_option maxRecDepth 100000 in
set_option maxHeartbeats 6400000 in
theorem lag_least (l : List Pi) (hok : lineOk l = true) (a : Option Addr) (cp : Nat) (x y t : Int) (w : World) (hl : TabAt 3 piC w (.slice a l.length cp) l) : Calls Try.prog 55 #[.agg #[.slice a l.length cp, .int .i64 x, .int .i64 y], .int .i64 t, .iface 91 (.agg #[])] w fun e w' => e = .returned (.int .i64 (lagF false l x y t)) ∧ Below w.heap.size w w' := by
  have hmf : ∀ (fn : Fn) (first cap : Array Value) (w : World), (Instr.makeFunc fn first cap).run Try.prog w = .ok (.func fn first cap) w := fun _ _ _ _ => rfl
  have hna : ∀ X, Sem.run Try.prog (nilAhead 226 91 (.agg #[]) "meterworks/sound.of") X = .ok (some false) X := fun X => by kernel_rfl
  obtain ⟨z, hz⟩ : ∃ z, nearF (x, y) t = z := ⟨_, rfl⟩
  have hlag : lagF false l x y t = lagUp false l x y z l.length := by unfold lagF; rw [hz]
  rw [hlag]
  have HZ := Lib.hid hz
  clear hz hlag
  obtain ⟨hl1, hl8⟩ := line_few hok
  have hrow : ∀ b off, a = some ⟨b, off, none⟩ → b < w.heap.size := fun b off e => by
    obtain ⟨b', off', e', hb', _⟩ := hl.at (by omega)
    rw [e] at e'; cases e'; exact hb'
  obtain ⟨W0, hW0⟩ : ∃ X, X = (w.alloc (.cells #[.slice a l.length cp, .int .i64 x, .int .i64 y] 70)).alloc (.cells #[.iface 91 (.agg #[])] 103) := ⟨_, rfl⟩
  have hal : W0 = al w [(.cells #[.slice a l.length cp, .int .i64 x, .int .i64 y] 70), (.cells #[.iface 91 (.agg #[])] 103)] := hW0
  have hb0 : Below w.heap.size w W0 := by rw [hal]; exact al_below w _ (Nat.le_refl _)
  have hs0 : W0.heap.size = w.heap.size + 2 := by rw [hal]; exact al_size w _
  have hr0 : W0.heap[w.heap.size]? = some (.cells #[.slice a l.length cp, .int .i64 x, .int .i64 y] 70 (0, 0)) := by rw [hal]; exact al_get w _ 0 _ rfl
  have hr1 : W0.heap[w.heap.size + 1]? = some (.cells #[.iface 91 (.agg #[])] 103 (0, 0)) := by rw [hal]; exact al_get w _ 1 _ rfl
  obtain ⟨P, hP0⟩ : ∃ x, w.heap.size = x := ⟨_, rfl⟩
  rw [hP0] at hr0 hr1 hs0
  obtain ⟨Q, hP1⟩ : ∃ x, P + 1 = x := ⟨_, rfl⟩
  rw [hP1] at hr1
  clear hal
  rw [hP0] at hrow
  have HROW := Lib.hid hrow
  have HS0 := Lib.hid (show w.heap.size = P ∧ Q = P + 1 ∧ W0.heap.size = P + 2 from ⟨by omega, by omega, by omega⟩)
  have HB0 := Lib.hid hb0
  have HR0 := Lib.hid hr0
  have HR1 := Lib.hid hr1
  have HTL := Lib.hid hl
  obtain ⟨y0, y1, y2⟩ := three_cells (box_step (w0 := w) hr0 ((Below.refl W0.heap.size W0).alloc (Nat.le_refl _) (.cells #[.int .i64 0] 3)))
  clear hb0 hr0 hr1 hs0 hl hrow
  refine (callsIn_wide (n := 9)).1 ?_
  refine callsIn_of_wp_marks Try.func55 rfl trivial ?_ rfl
  simp only [Try.ntmps55, List.size_toArray, List.length_cons, List.length_nil, Nat.reduceAdd, Nat.reduceSub, Array.replicate_succ, Array.replicate_zero, List.push_toArray, List.append_toArray, List.nil_append, List.cons_append]
  replace hW0 := hW0.symm
  gi_wp2
  clear hW0 hP0 hP1
  obtain ⟨W1, hW1⟩ : ∃ X, W0.alloc (.cells #[.int .i64 0] 3) = X := ⟨_, rfl⟩
  obtain ⟨G, hG⟩ : ∃ x, W0.heap.size = x := ⟨_, rfl⟩
  rw [hW1, hG]
  have hb1 : Below W0.heap.size W0 W1 := by rw [← hW1]; exact (Below.refl _ _).alloc (Nat.le_refl _) _
  have HS := Lib.hid (show w.heap.size = P ∧ Q = P + 1 ∧ G = P + 2 ∧ W1.heap.size = P + 3 from ⟨by have := HS0.out; omega, by have := HS0.out; omega, by have := HS0.out; omega, by have := HS0.out; rw [← hW1]; simp; omega⟩)
  have HB := Lib.hid (HB0.out.trans (hb1.mono HB0.out.size))
  have H0 := Lib.hid (box_step (w0 := w) HR0.out hb1)
  have H1 := Lib.hid (box_step (w0 := w) HR1.out hb1)
  have H2 := Lib.hid (show W1.heap[G]? = some (.cells #[.int .i64 0] 3 (0, 0)) by rw [← hW1, ← hG]; exact alloc_heap W0 _)
  have HL0 := Lib.hid (HTL.out.below HB.out)
  clear hW1 hG hb1 HS0 HB0 HR0 HR1 HTL y0 y1 y2
  refine ⟨trivial, callsIn_wide.2 ((shares_any l a cp x y t W1 HL0.out).mono ?_)⟩
  rintro e W2 ⟨b, c, rfl, hb, hc, hM, hb2⟩
  have h02 := box_step (w0 := w) H0.out hb2
  have h12 := box_step (w0 := w) H1.out hb2
  have h22 := box_step (w0 := w) H2.out hb2
  have HBW2 := Lib.hid (HB.out.trans (hb2.mono (by have := HS.out; omega)))
  have HS2 := Lib.hid (show w.heap.size = P ∧ Q = P + 1 ∧ G = P + 2 ∧ P + 3 ≤ W2.heap.size ∧ P + 3 ≤ b ∧ P + 3 ≤ c by have := HS.out; have := hb2.size; omega)
  have H02 := Lib.hid h02
  have H12 := Lib.hid h12
  have HTB := Lib.hid hM.tb
  rw [HZ.out] at hM
  clear hb2 HL0 HS H0 H1 H2 HB h02 h12 hb hc
  gi_wp2
  refine wpIn_range_all rfl (enters_of Try.func63 (by kernel_rfl) rfl)
    (shares_all b c l hok a cp x y z (fun k => k = G) (fun e => by have := HS2.out; omega) (fun e => by have := HS2.out; omega) (fun b off e he => by have := HROW.out b off e; have := HS2.out; omega) W2 (fun k e => by have := HS2.out; omega) hM) (fun _ => rfl)
    (fun pre W => OnlyE (fun k => k = G) W2 W ∧ W.heap[G]? = some (.cells #[.int .i64 (lagL false l x y z pre)] 3 (0, 0)))
    (fun pre X Y row hs hg hr => by
      obtain ⟨s1, s2⟩ := hs
      exact ⟨s1.far hg (fun q e => (hr q e).1), cells_kept s2 hg hr⟩)
    ⟨OnlyE.refl _ _, h22⟩
    (fun i a' W => a' = { tmps := #[.agg #[.slice a l.length cp, .int .i64 x, .int .i64 y], .int .i64 t, .iface 91 (.agg #[]), .pointer (some ⟨P, 0, none⟩), undef, .pointer (some ⟨Q, 0, none⟩), .int .i64 0, .pointer (some ⟨G, 0, none⟩), .int .i64 (clN l.length i : Nat), .int .i64 (shareF l x y z (clN l.length i)), .agg #[.slice a l.length cp, .int .i64 x, .int .i64 y], .int .i64 t, .func (.func 63) #[] #[.pointer (some ⟨b, 0, none⟩), .pointer (some ⟨c, 0, none⟩)], .int .i64 (clN l.length i : Nat), .int .i64 (shareF l x y z (clN l.length i)), undef, undef, undef, undef, undef, undef, undef, undef, undef, undef, undef, undef, undef, undef, undef], defers := [] })
    (fun i a' _ X Y row hs hg hr => hs)
    ?assign ?body ?done
  case assign =>
    rintro l2 pre i W K2 hI hK
    unfold encS
    have HK := Lib.hid (hK _ _ (KeepsFrom.refl _ _) (KeepE.refl _ _) hI rfl)
    clear hK
    gi_wp2
    exact HK.out
  case body =>
    rintro l2 pre i a' W hl ⟨i1, i2⟩ rfl hlt
    have hnx := lagL_snoc false l x y z pre i
    have hli := lagL_in hok false x y z pre
    have hcl := clN_lt (n := l.length) i (by omega)
    obtain ⟨k, hk⟩ : ∃ k, clN l.length i = k := ⟨_, rfl⟩
    rw [hk] at hnx hcl ⊢
    have hsi := share_in hok hcl x y z
    have hpi := pipe_in hok hcl
    obtain ⟨lb, lo, e1, hlb, hlx⟩ := HTB.out.at (by omega)
    subst e1
    have x1 := hlx k hcl 1 (by omega)
    have x2 := hlx k hcl 2 (by omega)
    have hlbP := HROW.out lb lo rfl
    obtain ⟨⟨t0, t1, t2⟩, hrw⟩ : ∃ p : Pi, l.getD k default = p := ⟨_, rfl⟩
    rw [hrw] at x1 x2 hnx hpi
    simp only [piC] at x1 x2 hnx hpi
    obtain ⟨s, hs⟩ : ∃ s, shareF l x y z k = s := ⟨_, rfl⟩
    rw [hs] at hnx hsi ⊢
    have hoi := of_in (e := false) hsi hpi.2.2.1 hpi.2.2.2.1 hpi.2.2.2.2
    have KO := Lib.hid (fun X => least_any s t1 t2 hsi hpi.2.2.1 hpi.2.2.2.1 hpi.2.2.2.2 X)
    obtain ⟨v, hv⟩ : ∃ v, ofF false s t1 t2 = v := ⟨_, rfl⟩
    obtain ⟨m, hm⟩ : ∃ m, lagL false l x y z pre = m := ⟨_, rfl⟩
    rw [hv] at hoi hnx
    simp only [hv] at KO
    rw [hm] at hli hnx i2
    have w1 : IntKind.i64.wrap (m + v) = m + v := IntWalk.i64_in _ (by omega)
    have ij1 : (k : Int) < (l.length : Int) := Int.ofNat_lt.2 hcl
    have x1W := (cell_same (o := lo + k * 3 + 1) (i1.block lb (by have := HS2.out; omega) (by have := HS2.out; omega))).trans x1
    have x2W := (cell_same (o := lo + k * 3 + 2) (i1.block lb (by have := HS2.out; omega) (by have := HS2.out; omega))).trans x2
    have hPW := i1.get H02.out (by have := HS2.out; omega)
    have hQW := i1.get H12.out (by have := HS2.out; omega)
    have HNX := Lib.hid hnx
    have HI1 := Lib.hid i1
    have HG := Lib.hid i2
    have HF := Lib.hid (And.intro hPW (And.intro hQW (And.intro x1W x2W)))
    clear hnx hli hk hsi hpi hlx x1 x2 hlbP hrw hs hoi hv hm i1 i2 x1W x2W hPW hQW hlb
    gi_wp2
    refine wpIn_region_last_round (fun w' => w'.heap[P]? = some (.cells #[.slice (some ⟨lb, lo, none⟩) l.length cp, .int .i64 x, .int .i64 y] 70 (0, 0)) ∧ w'.heap[Q]? = some (.cells #[.iface 91 (.agg #[])] 103 (0, 0)) ∧ w'.cell? ⟨lb, lo + k * 3 + 1, none⟩ = some (.int .i64 t1) ∧ w'.cell? ⟨lb, lo + k * 3 + 2, none⟩ = some (.int .i64 t2) ∧ w'.heap[G]? = some (.cells #[.int .i64 m] 3 (0, 0))) 14 (by kernel_rfl) (by kernel_rfl) ?_ ⟨HF.out.1, HF.out.2.1, HF.out.2.2.1, HF.out.2.2.2, HG.out⟩ (fun hHeld => ?_)
    · first | (rintro ⟨_, _, h⟩; exact h) | (rintro ⟨_, _, h, _⟩; cases h) | (intro h; simp [LetsOut] at h)
    obtain ⟨Y0, hY0⟩ : ∃ X, X = World.drew W := ⟨_, rfl⟩
    have hbX : Below W.heap.size W Y0 := by rw [hY0]; exact (Below.refl _ _).drew
    rw [← hY0] at hHeld ⊢
    have hH := Lib.hid hHeld
    clear hY0 hHeld
    refine wpLast_take (i := 0) (oi := _) (v := ?_) rfl (by kernel_rfl) (by kernel_rfl) (by decide) (by kernel_rfl) (by kernel_rfl) (fun _ _ _ h => h) (Or.inl ⟨by rfl, ?_⟩) hH.out ?_
    rotate_left
    · intro w1 hSw
      obtain ⟨e1, e2, e3, e4, e5⟩ := hSw
      obtain ⟨d0, d1, d2⟩ := three_cells e1
      have d3 := one_cell e2
      have d4 := one_cell e5
      clear e1 e2 e5
      go_simp; with_reducible rfl
    simp only [List.getElem_toArray, List.getElem_cons_succ, List.getElem_cons_zero, Act.put, List.setIfInBounds_toArray, List.set_cons_zero, List.set_cons_succ]
    refine wpLast_take (i := 1) (oi := _) (v := ?_) rfl (by kernel_rfl) (by kernel_rfl) (by decide) (by kernel_rfl) (by kernel_rfl) (fun _ _ _ h => h) (Or.inl ⟨by rfl, ?_⟩) hH.out ?_
    rotate_left
    · intro w1 hSw
      obtain ⟨e1, e2, e3, e4, e5⟩ := hSw
      obtain ⟨d0, d1, d2⟩ := three_cells e1
      have d3 := one_cell e2
      have d4 := one_cell e5
      clear e1 e2 e5
      go_simp; with_reducible rfl
    simp only [List.getElem_toArray, List.getElem_cons_succ, List.getElem_cons_zero, Act.put, List.setIfInBounds_toArray, List.set_cons_zero, List.set_cons_succ]
    refine wpLast_take (i := 2) (oi := _) (v := ?_) rfl (by kernel_rfl) (by kernel_rfl) (by decide) (by kernel_rfl) (by kernel_rfl) (fun _ _ _ h => h) (Or.inl ⟨by rfl, ?_⟩) hH.out ?_
    rotate_left
    · intro w1 hSw
      obtain ⟨e1, e2, e3, e4, e5⟩ := hSw
      obtain ⟨d0, d1, d2⟩ := three_cells e1
      have d3 := one_cell e2
      have d4 := one_cell e5
      clear e1 e2 e5
      go_simp; with_reducible rfl
    simp only [List.getElem_toArray, List.getElem_cons_succ, List.getElem_cons_zero, Act.put, List.setIfInBounds_toArray, List.set_cons_zero, List.set_cons_succ]
    refine wpLast_take (i := 3) (oi := _) (v := ?_) rfl (by kernel_rfl) (by kernel_rfl) (by decide) (by kernel_rfl) (by kernel_rfl) (fun _ _ _ h => h) (Or.inl ⟨by rfl, ?_⟩) hH.out ?_
    rotate_left
    · intro w1 hSw
      obtain ⟨e1, e2, e3, e4, e5⟩ := hSw
      obtain ⟨d0, d1, d2⟩ := three_cells e1
      have d3 := one_cell e2
      have d4 := one_cell e5
      clear e1 e2 e5
      go_simp; with_reducible rfl
    simp only [List.getElem_toArray, List.getElem_cons_succ, List.getElem_cons_zero, Act.put, List.setIfInBounds_toArray, List.set_cons_zero, List.set_cons_succ]
    refine wpLast_take (i := 4) (oi := _) (v := ?_) rfl (by kernel_rfl) (by kernel_rfl) (by decide) (by kernel_rfl) (by kernel_rfl) (fun _ _ _ h => h) (Or.inl ⟨by rfl, ?_⟩) hH.out ?_
    rotate_left
    · intro w1 hSw
      obtain ⟨e1, e2, e3, e4, e5⟩ := hSw
      obtain ⟨d0, d1, d2⟩ := three_cells e1
      have d3 := one_cell e2
      have d4 := one_cell e5
      clear e1 e2 e5
      go_simp; with_reducible rfl
    simp only [List.getElem_toArray, List.getElem_cons_succ, List.getElem_cons_zero, Act.put, List.setIfInBounds_toArray, List.set_cons_zero, List.set_cons_succ]
    refine wpLast_take (i := 5) (oi := _) (v := ?_) rfl (by kernel_rfl) (by kernel_rfl) (by decide) (by kernel_rfl) (by kernel_rfl) (fun _ _ _ h => h) (Or.inl ⟨by rfl, ?_⟩) hH.out ?_
    rotate_left
    · intro w1 hSw
      obtain ⟨e1, e2, e3, e4, e5⟩ := hSw
      obtain ⟨d0, d1, d2⟩ := three_cells e1
      have d3 := one_cell e2
      have d4 := one_cell e5
      clear e1 e2 e5
      go_simp; with_reducible rfl
    simp only [List.getElem_toArray, List.getElem_cons_succ, List.getElem_cons_zero, Act.put, List.setIfInBounds_toArray, List.set_cons_zero, List.set_cons_succ]
    refine wpLast_take (i := 6) (oi := _) (v := ?_) rfl (by kernel_rfl) (by kernel_rfl) (by decide) (by kernel_rfl) (by kernel_rfl) (fun _ _ _ h => h) (Or.inl ⟨by rfl, ?_⟩) hH.out ?_
    rotate_left
    · intro w1 hSw
      obtain ⟨e1, e2, e3, e4, e5⟩ := hSw
      obtain ⟨d0, d1, d2⟩ := three_cells e1
      have d3 := one_cell e2
      have d4 := one_cell e5
      clear e1 e2 e5
      go_simp; with_reducible rfl
    simp only [List.getElem_toArray, List.getElem_cons_succ, List.getElem_cons_zero, Act.put, List.setIfInBounds_toArray, List.set_cons_zero, List.set_cons_succ]
    refine wpLast_take (i := 7) (oi := _) (v := ?_) rfl (by kernel_rfl) (by kernel_rfl) (by decide) (by kernel_rfl) (by kernel_rfl) (fun _ _ _ h => h) (Or.inl ⟨by rfl, ?_⟩) hH.out ?_
    rotate_left
    · intro w1 hSw
      obtain ⟨e1, e2, e3, e4, e5⟩ := hSw
      obtain ⟨d0, d1, d2⟩ := three_cells e1
      have d3 := one_cell e2
      have d4 := one_cell e5
      clear e1 e2 e5
      go_simp; with_reducible rfl
    simp only [List.getElem_toArray, List.getElem_cons_succ, List.getElem_cons_zero, Act.put, List.setIfInBounds_toArray, List.set_cons_zero, List.set_cons_succ]
    refine wpLast_take (i := 8) (oi := _) (v := ?_) rfl (by kernel_rfl) (by kernel_rfl) (by decide) (by kernel_rfl) (by kernel_rfl) (fun _ _ _ h => h) (Or.inl ⟨by rfl, ?_⟩) hH.out ?_
    rotate_left
    · intro w1 hSw
      obtain ⟨e1, e2, e3, e4, e5⟩ := hSw
      obtain ⟨d0, d1, d2⟩ := three_cells e1
      have d3 := one_cell e2
      have d4 := one_cell e5
      clear e1 e2 e5
      go_simp; with_reducible rfl
    simp only [List.getElem_toArray, List.getElem_cons_succ, List.getElem_cons_zero, Act.put, List.setIfInBounds_toArray, List.set_cons_zero, List.set_cons_succ]
    refine wpLast_take (i := 9) (oi := _) (v := ?_) rfl (by kernel_rfl) (by kernel_rfl) (by decide) (by kernel_rfl) (by kernel_rfl) (fun _ _ _ h => h) (Or.inl ⟨by rfl, ?_⟩) hH.out ?_
    rotate_left
    · intro w1 hSw
      obtain ⟨e1, e2, e3, e4, e5⟩ := hSw
      obtain ⟨d0, d1, d2⟩ := three_cells e1
      have d3 := one_cell e2
      have d4 := one_cell e5
      clear e1 e2 e5
      go_simp; with_reducible rfl
    simp only [List.getElem_toArray, List.getElem_cons_succ, List.getElem_cons_zero, Act.put, List.setIfInBounds_toArray, List.set_cons_zero, List.set_cons_succ]
    refine wpLast_take (i := 10) (oi := _) (v := ?_) rfl (by kernel_rfl) (by kernel_rfl) (by decide) (by kernel_rfl) (by kernel_rfl) (fun _ _ _ h => h) (Or.inl ⟨by rfl, ?_⟩) hH.out ?_
    rotate_left
    · intro w1 hSw
      obtain ⟨e1, e2, e3, e4, e5⟩ := hSw
      obtain ⟨d0, d1, d2⟩ := three_cells e1
      have d3 := one_cell e2
      have d4 := one_cell e5
      clear e1 e2 e5
      go_simp; with_reducible rfl
    simp only [List.getElem_toArray, List.getElem_cons_succ, List.getElem_cons_zero, Act.put, List.setIfInBounds_toArray, List.set_cons_zero, List.set_cons_succ]
    refine wpLast_take (i := 11) (oi := _) (v := ?_) rfl (by kernel_rfl) (by kernel_rfl) (by decide) (by kernel_rfl) (by kernel_rfl) (fun _ _ _ h => h) (Or.inl ⟨by rfl, ?_⟩) hH.out ?_
    rotate_left
    · intro w1 hSw
      obtain ⟨e1, e2, e3, e4, e5⟩ := hSw
      obtain ⟨d0, d1, d2⟩ := three_cells e1
      have d3 := one_cell e2
      have d4 := one_cell e5
      clear e1 e2 e5
      go_simp; with_reducible rfl
    simp only [List.getElem_toArray, List.getElem_cons_succ, List.getElem_cons_zero, Act.put, List.setIfInBounds_toArray, List.set_cons_zero, List.set_cons_succ]
    refine wpLast_ready (rs := [12]) (by kernel_rfl) (by simp) ?_
    intro i hi; obtain rfl := List.mem_singleton.1 hi; clear hi
    refine wpOp_step rfl (fun K3 hK3 => ?_)
    have HK3 := Lib.hid hK3
    clear hK3
    rw [if_pos (by rfl)]
    go_simp
    refine (KO.out _).mono ?_
    rintro e Y1 ⟨rfl, hbn⟩
    have hH2 := And.intro (box_step (w0 := w) hH.out.1 hbn) (And.intro (box_step (w0 := w) hH.out.2.1 hbn) (And.intro ((hbn.cell (block_lt_of_cell hH.out.2.2.1)).trans hH.out.2.2.1) (And.intro ((hbn.cell (block_lt_of_cell hH.out.2.2.2.1)).trans hH.out.2.2.2.1) (box_step (w0 := w) hH.out.2.2.2.2 hbn))))
    replace hbX := hbX.trans (hbn.mono hbX.size)
    clear hH hbn
    have hH := Lib.hid hH2
    clear hH2
    refine HK3.out _ _ ⟨fun _ => hH.out, fun _ => ?_⟩
    clear HK3 K3
    try simp only [List.getElem_toArray, List.getElem_cons_succ, List.getElem_cons_zero, Act.put, List.setIfInBounds_toArray, List.set_cons_zero, List.set_cons_succ]
    refine wpLast_take (i := 13) (oi := _) (v := ?_) rfl (by kernel_rfl) (by kernel_rfl) (by decide) (by kernel_rfl) (by kernel_rfl) (fun _ _ _ h => h) (Or.inl ⟨by rfl, ?_⟩) hH.out ?_
    rotate_left
    · intro w1 hSw
      obtain ⟨e1, e2, e3, e4, e5⟩ := hSw
      obtain ⟨d0, d1, d2⟩ := three_cells e1
      have d3 := one_cell e2
      have d4 := one_cell e5
      clear e1 e2 e5
      go_simp; with_reducible rfl
    simp only [List.getElem_toArray, List.getElem_cons_succ, List.getElem_cons_zero, Act.put, List.setIfInBounds_toArray, List.set_cons_zero, List.set_cons_succ]
    have HBX := Lib.hid hbX
    have hG1 := hH.out.2.2.2.2
    have fG : Y1.frozen? ⟨G, 0, none⟩ = false := frozen_of hG1
    have cG := one_cell hG1
    have HZZ := Lib.hid (set_one hG1 (.int .i64 (m + v)))
    have HO := Lib.hid (show OnlyE (fun k => k = G) W (Y1.setCell ⟨G, 0, none⟩ (.int .i64 (m + v))) from OnlyE.set (E := fun k => k = G) (.of_below hbX) rfl _)
    clear hG1 hbX
    refine wpLast_ready (rs := [14]) (by kernel_rfl) (by simp) ?_
    intro i hi; obtain rfl := List.mem_singleton.1 hi; clear hi
    refine wpOp_step rfl (fun K3 hK3 => ?_)
    have HK3 := Lib.hid hK3
    clear hK3
    rw [if_pos (by rfl)]
    go_simp
    refine HK3.out _ _ ⟨fun h => absurd rfl h, fun _ => ?_⟩
    clear HK3 K3
    try simp only [List.getElem_toArray, List.getElem_cons_succ, List.getElem_cons_zero, Act.put, List.setIfInBounds_toArray, List.set_cons_zero, List.set_cons_succ]
    refine wpLast_done (by kernel_rfl) ?_ _
    clear fG cG
    obtain ⟨Y2, hY2⟩ : ∃ X, Y1.setCell ⟨G, 0, none⟩ (.int .i64 (m + v)) = X := ⟨_, rfl⟩
    rw [hY2] at HZZ HO ⊢
    clear hY2
    gi_wp2
    exact ⟨HO.out.from (by intro k hk; have := HS2.out; omega), HO.out.keep, HI1.out.trans HO.out, by rw [HNX.out]; exact HZZ.out⟩
  case done =>
    rintro D xs W hD rfl ⟨i1, i2⟩ hK
    rw [lagL_range _ l x y z l.length (Nat.le_refl _)] at i2
    have g0 := one_cell i2
    have HI1 := Lib.hid i1
    have HK := Lib.hid hK
    have HD := Lib.hid hD
    clear i1 i2 hK hD hM h22
    unfold markD
    gi_wp2
    refine ⟨by simp, .inl ⟨_, _, rfl, run_takeDeferred HK.out, ?_⟩⟩
    have hg := grownBy_putObj' W D (.deferred none)
    have hO : OnlyE (fun k => k = G ∨ k = D) W2 (W.putObj D (.deferred none)) :=
      ⟨hg.os.trans HI1.out.os, hg.tape.trans HI1.out.tape, hg.output.trans HI1.out.output, Nat.le_trans HI1.out.size hg.size, fun k hk he => (hg.block k (Nat.lt_of_lt_of_le hk HI1.out.size) (fun e => he (by cases e; exact .inr rfl))).trans (HI1.out.block k hk (fun e => he (.inl e)))⟩
    refine ⟨_, results_tmp rfl _ _ _, rfl, ?_⟩
    have hP := HS2.out
    exact HBW2.out.trans (hO.below (n := w.heap.size) (by omega) (by have := HD.out; intro k hk; omega))
set_option maxRecDepth 100000 in
set_option maxHeartbeats 6400000 in
theorem lag_greatest (l : List Pi) (hok : lineOk l = true) (a : Option Addr) (cp : Nat) (x y t : Int) (w : World) (hl : TabAt 3 piC w (.slice a l.length cp) l) : Calls Try.prog 55 #[.agg #[.slice a l.length cp, .int .i64 x, .int .i64 y], .int .i64 t, .iface 92 (.agg #[])] w fun e w' => e = .returned (.int .i64 (lagF true l x y t)) ∧ Below w.heap.size w w' := by
  have hmf : ∀ (fn : Fn) (first cap : Array Value) (w : World), (Instr.makeFunc fn first cap).run Try.prog w = .ok (.func fn first cap) w := fun _ _ _ _ => rfl
  have hna : ∀ X, Sem.run Try.prog (nilAhead 226 92 (.agg #[]) "meterworks/sound.of") X = .ok (some false) X := fun X => by kernel_rfl
  obtain ⟨z, hz⟩ : ∃ z, nearF (x, y) t = z := ⟨_, rfl⟩
  have hlag : lagF true l x y t = lagUp true l x y z l.length := by unfold lagF; rw [hz]
  rw [hlag]
  have HZ := Lib.hid hz
  clear hz hlag
  obtain ⟨hl1, hl8⟩ := line_few hok
  have hrow : ∀ b off, a = some ⟨b, off, none⟩ → b < w.heap.size := fun b off e => by
    obtain ⟨b', off', e', hb', _⟩ := hl.at (by omega)
    rw [e] at e'; cases e'; exact hb'
  obtain ⟨W0, hW0⟩ : ∃ X, X = (w.alloc (.cells #[.slice a l.length cp, .int .i64 x, .int .i64 y] 70)).alloc (.cells #[.iface 92 (.agg #[])] 103) := ⟨_, rfl⟩
  have hal : W0 = al w [(.cells #[.slice a l.length cp, .int .i64 x, .int .i64 y] 70), (.cells #[.iface 92 (.agg #[])] 103)] := hW0
  have hb0 : Below w.heap.size w W0 := by rw [hal]; exact al_below w _ (Nat.le_refl _)
  have hs0 : W0.heap.size = w.heap.size + 2 := by rw [hal]; exact al_size w _
  have hr0 : W0.heap[w.heap.size]? = some (.cells #[.slice a l.length cp, .int .i64 x, .int .i64 y] 70 (0, 0)) := by rw [hal]; exact al_get w _ 0 _ rfl
  have hr1 : W0.heap[w.heap.size + 1]? = some (.cells #[.iface 92 (.agg #[])] 103 (0, 0)) := by rw [hal]; exact al_get w _ 1 _ rfl
  obtain ⟨P, hP0⟩ : ∃ x, w.heap.size = x := ⟨_, rfl⟩
  rw [hP0] at hr0 hr1 hs0
  obtain ⟨Q, hP1⟩ : ∃ x, P + 1 = x := ⟨_, rfl⟩
  rw [hP1] at hr1
  clear hal
  rw [hP0] at hrow
  have HROW := Lib.hid hrow
  have HS0 := Lib.hid (show w.heap.size = P ∧ Q = P + 1 ∧ W0.heap.size = P + 2 from ⟨by omega, by omega, by omega⟩)
  have HB0 := Lib.hid hb0
  have HR0 := Lib.hid hr0
  have HR1 := Lib.hid hr1
  have HTL := Lib.hid hl
  obtain ⟨y0, y1, y2⟩ := three_cells (box_step (w0 := w) hr0 ((Below.refl W0.heap.size W0).alloc (Nat.le_refl _) (.cells #[.int .i64 0] 3)))
  clear hb0 hr0 hr1 hs0 hl hrow
  refine (callsIn_wide (n := 9)).1 ?_
  refine callsIn_of_wp_marks Try.func55 rfl trivial ?_ rfl
  simp only [Try.ntmps55, List.size_toArray, List.length_cons, List.length_nil, Nat.reduceAdd, Nat.reduceSub, Array.replicate_succ, Array.replicate_zero, List.push_toArray, List.append_toArray, List.nil_append, List.cons_append]
  replace hW0 := hW0.symm
  gi_wp2
  clear hW0 hP0 hP1
  obtain ⟨W1, hW1⟩ : ∃ X, W0.alloc (.cells #[.int .i64 0] 3) = X := ⟨_, rfl⟩
  obtain ⟨G, hG⟩ : ∃ x, W0.heap.size = x := ⟨_, rfl⟩
  rw [hW1, hG]
  have hb1 : Below W0.heap.size W0 W1 := by rw [← hW1]; exact (Below.refl _ _).alloc (Nat.le_refl _) _
  have HS := Lib.hid (show w.heap.size = P ∧ Q = P + 1 ∧ G = P + 2 ∧ W1.heap.size = P + 3 from ⟨by have := HS0.out; omega, by have := HS0.out; omega, by have := HS0.out; omega, by have := HS0.out; rw [← hW1]; simp; omega⟩)
  have HB := Lib.hid (HB0.out.trans (hb1.mono HB0.out.size))
  have H0 := Lib.hid (box_step (w0 := w) HR0.out hb1)
  have H1 := Lib.hid (box_step (w0 := w) HR1.out hb1)
  have H2 := Lib.hid (show W1.heap[G]? = some (.cells #[.int .i64 0] 3 (0, 0)) by rw [← hW1, ← hG]; exact alloc_heap W0 _)
  have HL0 := Lib.hid (HTL.out.below HB.out)
  clear hW1 hG hb1 HS0 HB0 HR0 HR1 HTL y0 y1 y2
  refine ⟨trivial, callsIn_wide.2 ((shares_any l a cp x y t W1 HL0.out).mono ?_)⟩
  rintro e W2 ⟨b, c, rfl, hb, hc, hM, hb2⟩
  have h02 := box_step (w0 := w) H0.out hb2
  have h12 := box_step (w0 := w) H1.out hb2
  have h22 := box_step (w0 := w) H2.out hb2
  have HBW2 := Lib.hid (HB.out.trans (hb2.mono (by have := HS.out; omega)))
  have HS2 := Lib.hid (show w.heap.size = P ∧ Q = P + 1 ∧ G = P + 2 ∧ P + 3 ≤ W2.heap.size ∧ P + 3 ≤ b ∧ P + 3 ≤ c by have := HS.out; have := hb2.size; omega)
  have H02 := Lib.hid h02
  have H12 := Lib.hid h12
  have HTB := Lib.hid hM.tb
  rw [HZ.out] at hM
  clear hb2 HL0 HS H0 H1 H2 HB h02 h12 hb hc
  gi_wp2
  refine wpIn_range_all rfl (enters_of Try.func63 (by kernel_rfl) rfl)
    (shares_all b c l hok a cp x y z (fun k => k = G) (fun e => by have := HS2.out; omega) (fun e => by have := HS2.out; omega) (fun b off e he => by have := HROW.out b off e; have := HS2.out; omega) W2 (fun k e => by have := HS2.out; omega) hM) (fun _ => rfl)
    (fun pre W => OnlyE (fun k => k = G) W2 W ∧ W.heap[G]? = some (.cells #[.int .i64 (lagL true l x y z pre)] 3 (0, 0)))
    (fun pre X Y row hs hg hr => by
      obtain ⟨s1, s2⟩ := hs
      exact ⟨s1.far hg (fun q e => (hr q e).1), cells_kept s2 hg hr⟩)
    ⟨OnlyE.refl _ _, h22⟩
    (fun i a' W => a' = { tmps := #[.agg #[.slice a l.length cp, .int .i64 x, .int .i64 y], .int .i64 t, .iface 92 (.agg #[]), .pointer (some ⟨P, 0, none⟩), undef, .pointer (some ⟨Q, 0, none⟩), .int .i64 0, .pointer (some ⟨G, 0, none⟩), .int .i64 (clN l.length i : Nat), .int .i64 (shareF l x y z (clN l.length i)), .agg #[.slice a l.length cp, .int .i64 x, .int .i64 y], .int .i64 t, .func (.func 63) #[] #[.pointer (some ⟨b, 0, none⟩), .pointer (some ⟨c, 0, none⟩)], .int .i64 (clN l.length i : Nat), .int .i64 (shareF l x y z (clN l.length i)), undef, undef, undef, undef, undef, undef, undef, undef, undef, undef, undef, undef, undef, undef, undef], defers := [] })
    (fun i a' _ X Y row hs hg hr => hs)
    ?assign ?body ?done
  case assign =>
    rintro l2 pre i W K2 hI hK
    unfold encS
    have HK := Lib.hid (hK _ _ (KeepsFrom.refl _ _) (KeepE.refl _ _) hI rfl)
    clear hK
    gi_wp2
    exact HK.out
  case body =>
    rintro l2 pre i a' W hl ⟨i1, i2⟩ rfl hlt
    have hnx := lagL_snoc true l x y z pre i
    have hli := lagL_in hok true x y z pre
    have hcl := clN_lt (n := l.length) i (by omega)
    obtain ⟨k, hk⟩ : ∃ k, clN l.length i = k := ⟨_, rfl⟩
    rw [hk] at hnx hcl ⊢
    have hsi := share_in hok hcl x y z
    have hpi := pipe_in hok hcl
    obtain ⟨lb, lo, e1, hlb, hlx⟩ := HTB.out.at (by omega)
    subst e1
    have x1 := hlx k hcl 1 (by omega)
    have x2 := hlx k hcl 2 (by omega)
    have hlbP := HROW.out lb lo rfl
    obtain ⟨⟨t0, t1, t2⟩, hrw⟩ : ∃ p : Pi, l.getD k default = p := ⟨_, rfl⟩
    rw [hrw] at x1 x2 hnx hpi
    simp only [piC] at x1 x2 hnx hpi
    obtain ⟨s, hs⟩ : ∃ s, shareF l x y z k = s := ⟨_, rfl⟩
    rw [hs] at hnx hsi ⊢
    have hoi := of_in (e := true) hsi hpi.2.2.1 hpi.2.2.2.1 hpi.2.2.2.2
    have KO := Lib.hid (fun X => greatest_any s t1 t2 hsi hpi.2.2.1 hpi.2.2.2.1 hpi.2.2.2.2 X)
    obtain ⟨v, hv⟩ : ∃ v, ofF true s t1 t2 = v := ⟨_, rfl⟩
    obtain ⟨m, hm⟩ : ∃ m, lagL true l x y z pre = m := ⟨_, rfl⟩
    rw [hv] at hoi hnx
    simp only [hv] at KO
    rw [hm] at hli hnx i2
    have w1 : IntKind.i64.wrap (m + v) = m + v := IntWalk.i64_in _ (by omega)
    have ij1 : (k : Int) < (l.length : Int) := Int.ofNat_lt.2 hcl
    have x1W := (cell_same (o := lo + k * 3 + 1) (i1.block lb (by have := HS2.out; omega) (by have := HS2.out; omega))).trans x1
    have x2W := (cell_same (o := lo + k * 3 + 2) (i1.block lb (by have := HS2.out; omega) (by have := HS2.out; omega))).trans x2
    have hPW := i1.get H02.out (by have := HS2.out; omega)
    have hQW := i1.get H12.out (by have := HS2.out; omega)
    have HNX := Lib.hid hnx
    have HI1 := Lib.hid i1
    have HG := Lib.hid i2
    have HF := Lib.hid (And.intro hPW (And.intro hQW (And.intro x1W x2W)))
    clear hnx hli hk hsi hpi hlx x1 x2 hlbP hrw hs hoi hv hm i1 i2 x1W x2W hPW hQW hlb
    gi_wp2
    refine wpIn_region_last_round (fun w' => w'.heap[P]? = some (.cells #[.slice (some ⟨lb, lo, none⟩) l.length cp, .int .i64 x, .int .i64 y] 70 (0, 0)) ∧ w'.heap[Q]? = some (.cells #[.iface 92 (.agg #[])] 103 (0, 0)) ∧ w'.cell? ⟨lb, lo + k * 3 + 1, none⟩ = some (.int .i64 t1) ∧ w'.cell? ⟨lb, lo + k * 3 + 2, none⟩ = some (.int .i64 t2) ∧ w'.heap[G]? = some (.cells #[.int .i64 m] 3 (0, 0))) 14 (by kernel_rfl) (by kernel_rfl) ?_ ⟨HF.out.1, HF.out.2.1, HF.out.2.2.1, HF.out.2.2.2, HG.out⟩ (fun hHeld => ?_)
    · first | (rintro ⟨_, _, h⟩; exact h) | (rintro ⟨_, _, h, _⟩; cases h) | (intro h; simp [LetsOut] at h)
    obtain ⟨Y0, hY0⟩ : ∃ X, X = World.drew W := ⟨_, rfl⟩
    have hbX : Below W.heap.size W Y0 := by rw [hY0]; exact (Below.refl _ _).drew
    rw [← hY0] at hHeld ⊢
    have hH := Lib.hid hHeld
    clear hY0 hHeld
    refine wpLast_take (i := 0) (oi := _) (v := ?_) rfl (by kernel_rfl) (by kernel_rfl) (by decide) (by kernel_rfl) (by kernel_rfl) (fun _ _ _ h => h) (Or.inl ⟨by rfl, ?_⟩) hH.out ?_
    rotate_left
    · intro w1 hSw
      obtain ⟨e1, e2, e3, e4, e5⟩ := hSw
      obtain ⟨d0, d1, d2⟩ := three_cells e1
      have d3 := one_cell e2
      have d4 := one_cell e5
      clear e1 e2 e5
      go_simp; with_reducible rfl
    simp only [List.getElem_toArray, List.getElem_cons_succ, List.getElem_cons_zero, Act.put, List.setIfInBounds_toArray, List.set_cons_zero, List.set_cons_succ]
    refine wpLast_take (i := 1) (oi := _) (v := ?_) rfl (by kernel_rfl) (by kernel_rfl) (by decide) (by kernel_rfl) (by kernel_rfl) (fun _ _ _ h => h) (Or.inl ⟨by rfl, ?_⟩) hH.out ?_
    rotate_left
    · intro w1 hSw
      obtain ⟨e1, e2, e3, e4, e5⟩ := hSw
      obtain ⟨d0, d1, d2⟩ := three_cells e1
      have d3 := one_cell e2
      have d4 := one_cell e5
      clear e1 e2 e5
      go_simp; with_reducible rfl
    simp only [List.getElem_toArray, List.getElem_cons_succ, List.getElem_cons_zero, Act.put, List.setIfInBounds_toArray, List.set_cons_zero, List.set_cons_succ]
    refine wpLast_take (i := 2) (oi := _) (v := ?_) rfl (by kernel_rfl) (by kernel_rfl) (by decide) (by kernel_rfl) (by kernel_rfl) (fun _ _ _ h => h) (Or.inl ⟨by rfl, ?_⟩) hH.out ?_
    rotate_left
    · intro w1 hSw
      obtain ⟨e1, e2, e3, e4, e5⟩ := hSw
      obtain ⟨d0, d1, d2⟩ := three_cells e1
      have d3 := one_cell e2
      have d4 := one_cell e5
      clear e1 e2 e5
      go_simp; with_reducible rfl
    simp only [List.getElem_toArray, List.getElem_cons_succ, List.getElem_cons_zero, Act.put, List.setIfInBounds_toArray, List.set_cons_zero, List.set_cons_succ]
    refine wpLast_take (i := 3) (oi := _) (v := ?_) rfl (by kernel_rfl) (by kernel_rfl) (by decide) (by kernel_rfl) (by kernel_rfl) (fun _ _ _ h => h) (Or.inl ⟨by rfl, ?_⟩) hH.out ?_
    rotate_left
    · intro w1 hSw
      obtain ⟨e1, e2, e3, e4, e5⟩ := hSw
      obtain ⟨d0, d1, d2⟩ := three_cells e1
      have d3 := one_cell e2
      have d4 := one_cell e5
      clear e1 e2 e5
      go_simp; with_reducible rfl
    simp only [List.getElem_toArray, List.getElem_cons_succ, List.getElem_cons_zero, Act.put, List.setIfInBounds_toArray, List.set_cons_zero, List.set_cons_succ]
    refine wpLast_take (i := 4) (oi := _) (v := ?_) rfl (by kernel_rfl) (by kernel_rfl) (by decide) (by kernel_rfl) (by kernel_rfl) (fun _ _ _ h => h) (Or.inl ⟨by rfl, ?_⟩) hH.out ?_
    rotate_left
    · intro w1 hSw
      obtain ⟨e1, e2, e3, e4, e5⟩ := hSw
      obtain ⟨d0, d1, d2⟩ := three_cells e1
      have d3 := one_cell e2
      have d4 := one_cell e5
      clear e1 e2 e5
      go_simp; with_reducible rfl
    simp only [List.getElem_toArray, List.getElem_cons_succ, List.getElem_cons_zero, Act.put, List.setIfInBounds_toArray, List.set_cons_zero, List.set_cons_succ]
    refine wpLast_take (i := 5) (oi := _) (v := ?_) rfl (by kernel_rfl) (by kernel_rfl) (by decide) (by kernel_rfl) (by kernel_rfl) (fun _ _ _ h => h) (Or.inl ⟨by rfl, ?_⟩) hH.out ?_
    rotate_left
    · intro w1 hSw
      obtain ⟨e1, e2, e3, e4, e5⟩ := hSw
      obtain ⟨d0, d1, d2⟩ := three_cells e1
      have d3 := one_cell e2
      have d4 := one_cell e5
      clear e1 e2 e5
      go_simp; with_reducible rfl
    simp only [List.getElem_toArray, List.getElem_cons_succ, List.getElem_cons_zero, Act.put, List.setIfInBounds_toArray, List.set_cons_zero, List.set_cons_succ]
    refine wpLast_take (i := 6) (oi := _) (v := ?_) rfl (by kernel_rfl) (by kernel_rfl) (by decide) (by kernel_rfl) (by kernel_rfl) (fun _ _ _ h => h) (Or.inl ⟨by rfl, ?_⟩) hH.out ?_
    rotate_left
    · intro w1 hSw
      obtain ⟨e1, e2, e3, e4, e5⟩ := hSw
      obtain ⟨d0, d1, d2⟩ := three_cells e1
      have d3 := one_cell e2
      have d4 := one_cell e5
      clear e1 e2 e5
      go_simp; with_reducible rfl
    simp only [List.getElem_toArray, List.getElem_cons_succ, List.getElem_cons_zero, Act.put, List.setIfInBounds_toArray, List.set_cons_zero, List.set_cons_succ]
    refine wpLast_take (i := 7) (oi := _) (v := ?_) rfl (by kernel_rfl) (by kernel_rfl) (by decide) (by kernel_rfl) (by kernel_rfl) (fun _ _ _ h => h) (Or.inl ⟨by rfl, ?_⟩) hH.out ?_
    rotate_left
    · intro w1 hSw
      obtain ⟨e1, e2, e3, e4, e5⟩ := hSw
      obtain ⟨d0, d1, d2⟩ := three_cells e1
      have d3 := one_cell e2
      have d4 := one_cell e5
      clear e1 e2 e5
      go_simp; with_reducible rfl
    simp only [List.getElem_toArray, List.getElem_cons_succ, List.getElem_cons_zero, Act.put, List.setIfInBounds_toArray, List.set_cons_zero, List.set_cons_succ]
    refine wpLast_take (i := 8) (oi := _) (v := ?_) rfl (by kernel_rfl) (by kernel_rfl) (by decide) (by kernel_rfl) (by kernel_rfl) (fun _ _ _ h => h) (Or.inl ⟨by rfl, ?_⟩) hH.out ?_
    rotate_left
    · intro w1 hSw
      obtain ⟨e1, e2, e3, e4, e5⟩ := hSw
      obtain ⟨d0, d1, d2⟩ := three_cells e1
      have d3 := one_cell e2
      have d4 := one_cell e5
      clear e1 e2 e5
      go_simp; with_reducible rfl
    simp only [List.getElem_toArray, List.getElem_cons_succ, List.getElem_cons_zero, Act.put, List.setIfInBounds_toArray, List.set_cons_zero, List.set_cons_succ]
    refine wpLast_take (i := 9) (oi := _) (v := ?_) rfl (by kernel_rfl) (by kernel_rfl) (by decide) (by kernel_rfl) (by kernel_rfl) (fun _ _ _ h => h) (Or.inl ⟨by rfl, ?_⟩) hH.out ?_
    rotate_left
    · intro w1 hSw
      obtain ⟨e1, e2, e3, e4, e5⟩ := hSw
      obtain ⟨d0, d1, d2⟩ := three_cells e1
      have d3 := one_cell e2
      have d4 := one_cell e5
      clear e1 e2 e5
      go_simp; with_reducible rfl
    simp only [List.getElem_toArray, List.getElem_cons_succ, List.getElem_cons_zero, Act.put, List.setIfInBounds_toArray, List.set_cons_zero, List.set_cons_succ]
    refine wpLast_take (i := 10) (oi := _) (v := ?_) rfl (by kernel_rfl) (by kernel_rfl) (by decide) (by kernel_rfl) (by kernel_rfl) (fun _ _ _ h => h) (Or.inl ⟨by rfl, ?_⟩) hH.out ?_
    rotate_left
    · intro w1 hSw
      obtain ⟨e1, e2, e3, e4, e5⟩ := hSw
      obtain ⟨d0, d1, d2⟩ := three_cells e1
      have d3 := one_cell e2
      have d4 := one_cell e5
      clear e1 e2 e5
      go_simp; with_reducible rfl
    simp only [List.getElem_toArray, List.getElem_cons_succ, List.getElem_cons_zero, Act.put, List.setIfInBounds_toArray, List.set_cons_zero, List.set_cons_succ]
    refine wpLast_take (i := 11) (oi := _) (v := ?_) rfl (by kernel_rfl) (by kernel_rfl) (by decide) (by kernel_rfl) (by kernel_rfl) (fun _ _ _ h => h) (Or.inl ⟨by rfl, ?_⟩) hH.out ?_
    rotate_left
    · intro w1 hSw
      obtain ⟨e1, e2, e3, e4, e5⟩ := hSw
      obtain ⟨d0, d1, d2⟩ := three_cells e1
      have d3 := one_cell e2
      have d4 := one_cell e5
      clear e1 e2 e5
      go_simp; with_reducible rfl
    simp only [List.getElem_toArray, List.getElem_cons_succ, List.getElem_cons_zero, Act.put, List.setIfInBounds_toArray, List.set_cons_zero, List.set_cons_succ]
    refine wpLast_ready (rs := [12]) (by kernel_rfl) (by simp) ?_
    intro i hi; obtain rfl := List.mem_singleton.1 hi; clear hi
    refine wpOp_step rfl (fun K3 hK3 => ?_)
    have HK3 := Lib.hid hK3
    clear hK3
    rw [if_pos (by rfl)]
    go_simp
    refine (KO.out _).mono ?_
    rintro e Y1 ⟨rfl, hbn⟩
    have hH2 := And.intro (box_step (w0 := w) hH.out.1 hbn) (And.intro (box_step (w0 := w) hH.out.2.1 hbn) (And.intro ((hbn.cell (block_lt_of_cell hH.out.2.2.1)).trans hH.out.2.2.1) (And.intro ((hbn.cell (block_lt_of_cell hH.out.2.2.2.1)).trans hH.out.2.2.2.1) (box_step (w0 := w) hH.out.2.2.2.2 hbn))))
    replace hbX := hbX.trans (hbn.mono hbX.size)
    clear hH hbn
    have hH := Lib.hid hH2
    clear hH2
    refine HK3.out _ _ ⟨fun _ => hH.out, fun _ => ?_⟩
    clear HK3 K3
    try simp only [List.getElem_toArray, List.getElem_cons_succ, List.getElem_cons_zero, Act.put, List.setIfInBounds_toArray, List.set_cons_zero, List.set_cons_succ]
    refine wpLast_take (i := 13) (oi := _) (v := ?_) rfl (by kernel_rfl) (by kernel_rfl) (by decide) (by kernel_rfl) (by kernel_rfl) (fun _ _ _ h => h) (Or.inl ⟨by rfl, ?_⟩) hH.out ?_
    rotate_left
    · intro w1 hSw
      obtain ⟨e1, e2, e3, e4, e5⟩ := hSw
      obtain ⟨d0, d1, d2⟩ := three_cells e1
      have d3 := one_cell e2
      have d4 := one_cell e5
      clear e1 e2 e5
      go_simp; with_reducible rfl
    simp only [List.getElem_toArray, List.getElem_cons_succ, List.getElem_cons_zero, Act.put, List.setIfInBounds_toArray, List.set_cons_zero, List.set_cons_succ]
    have HBX := Lib.hid hbX
    have hG1 := hH.out.2.2.2.2
    have fG : Y1.frozen? ⟨G, 0, none⟩ = false := frozen_of hG1
    have cG := one_cell hG1
    have HZZ := Lib.hid (set_one hG1 (.int .i64 (m + v)))
    have HO := Lib.hid (show OnlyE (fun k => k = G) W (Y1.setCell ⟨G, 0, none⟩ (.int .i64 (m + v))) from OnlyE.set (E := fun k => k = G) (.of_below hbX) rfl _)
    clear hG1 hbX
    refine wpLast_ready (rs := [14]) (by kernel_rfl) (by simp) ?_
    intro i hi; obtain rfl := List.mem_singleton.1 hi; clear hi
    refine wpOp_step rfl (fun K3 hK3 => ?_)
    have HK3 := Lib.hid hK3
    clear hK3
    rw [if_pos (by rfl)]
    go_simp
    refine HK3.out _ _ ⟨fun h => absurd rfl h, fun _ => ?_⟩
    clear HK3 K3
    try simp only [List.getElem_toArray, List.getElem_cons_succ, List.getElem_cons_zero, Act.put, List.setIfInBounds_toArray, List.set_cons_zero, List.set_cons_succ]
    refine wpLast_done (by kernel_rfl) ?_ _
    clear fG cG
    obtain ⟨Y2, hY2⟩ : ∃ X, Y1.setCell ⟨G, 0, none⟩ (.int .i64 (m + v)) = X := ⟨_, rfl⟩
    rw [hY2] at HZZ HO ⊢
    clear hY2
    gi_wp2
    exact ⟨HO.out.from (by intro k hk; have := HS2.out; omega), HO.out.keep, HI1.out.trans HO.out, by rw [HNX.out]; exact HZZ.out⟩
  case done =>
    rintro D xs W hD rfl ⟨i1, i2⟩ hK
    rw [lagL_range _ l x y z l.length (Nat.le_refl _)] at i2
    have g0 := one_cell i2
    have HI1 := Lib.hid i1
    have HK := Lib.hid hK
    have HD := Lib.hid hD
    clear i1 i2 hK hD hM h22
    unfold markD
    gi_wp2
    refine ⟨by simp, .inl ⟨_, _, rfl, run_takeDeferred HK.out, ?_⟩⟩
    have hg := grownBy_putObj' W D (.deferred none)
    have hO : OnlyE (fun k => k = G ∨ k = D) W2 (W.putObj D (.deferred none)) :=
      ⟨hg.os.trans HI1.out.os, hg.tape.trans HI1.out.tape, hg.output.trans HI1.out.output, Nat.le_trans HI1.out.size hg.size, fun k hk he => (hg.block k (Nat.lt_of_lt_of_le hk HI1.out.size) (fun e => he (by cases e; exact .inr rfl))).trans (HI1.out.block k hk (fun e => he (.inl e)))⟩
    refine ⟨_, results_tmp rfl _ _ _, rfl, ?_⟩
    have hP := HS2.out
    exact HBW2.out.trans (hO.below (n := w.heap.size) (by omega) (by have := HD.out; intro k hk; omega))
end Go.Proofs.Ytdbjifpnbghbaaa
