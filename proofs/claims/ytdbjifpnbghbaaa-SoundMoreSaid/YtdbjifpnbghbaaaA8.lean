/- Sound: shares. -/
import Derived.Test.YtdbjifpnbghbaaaA7
import Derived.Test.YtdbjifpnbghbaaaG5
namespace Go.Proofs.Ytdbjifpnbghbaaa
set_option linter.unusedSimpArgs false
set_option linter.unusedVariables false
open Go.RowKit Go.Shelf Go.Maps
attribute [local go_sem] Oper.semAt_some

/-- what shares' iterator reads -/
structure EMem (b c : Nat) (l : List Pi) (a : Option Addr) (cp : Nat) (x y t : Int) (W : World) : Prop where
  er : W.heap[b]? = some (.cells #[.slice a l.length cp, .int .i64 x, .int .i64 y] 70 (0, 0))
  at' : W.heap[c]? = some (.cells #[.int .i64 t] 3 (0, 0))
  tb : TabAt 3 piC W (.slice a l.length cp) l
theorem EMem.below {b c : Nat} {l : List Pi} {a : Option Addr} {cp : Nat} {x y t : Int} {w W : World} (h : EMem b c l a cp x y t w) (hb : Below w.heap.size w W) : EMem b c l a cp x y t W :=
  ⟨box_step (w0 := w) h.er hb, box_step (w0 := w) h.at' hb, h.tb.below hb⟩
set_option maxRecDepth 100000 in
set_option maxHeartbeats 3200000 in
theorem shares_any (l : List Pi) (a : Option Addr) (cp : Nat) (x y t : Int) (w : World) (hl : TabAt 3 piC w (.slice a l.length cp) l) : Calls Try.prog 56 #[.agg #[.slice a l.length cp, .int .i64 x, .int .i64 y], .int .i64 t] w fun e w' =>
    ∃ b c, e = .returned (.func (.func 63) #[] #[.pointer (some ⟨b, 0, none⟩), .pointer (some ⟨c, 0, none⟩)]) ∧ w.heap.size ≤ b ∧ w.heap.size ≤ c ∧ EMem b c l a cp x y (nearF (x, y) t) w' ∧ Below w.heap.size w w' := by
  have hmf : ∀ (fn : Fn) (first cap : Array Value) (w : World), (Instr.makeFunc fn first cap).run Try.prog w = .ok (.func fn first cap) w := fun _ _ _ _ => rfl
  obtain ⟨W0, hW0⟩ : ∃ X, X = (w.alloc (.cells #[.slice a l.length cp, .int .i64 x, .int .i64 y] 70)).alloc (.cells #[.int .i64 t] 3) := ⟨_, rfl⟩
  have hal : W0 = al w [(.cells #[.slice a l.length cp, .int .i64 x, .int .i64 y] 70), (.cells #[.int .i64 t] 3)] := hW0
  have hb0 : Below w.heap.size w W0 := by rw [hal]; exact al_below w _ (Nat.le_refl _)
  have hs0 : W0.heap.size = w.heap.size + 2 := by rw [hal]; exact al_size w _
  have hr0 : W0.heap[w.heap.size]? = some (.cells #[.slice a l.length cp, .int .i64 x, .int .i64 y] 70 (0, 0)) := by rw [hal]; exact al_get w _ 0 _ rfl
  have hr1 : W0.heap[w.heap.size + 1]? = some (.cells #[.int .i64 t] 3 (0, 0)) := by rw [hal]; exact al_get w _ 1 _ rfl
  obtain ⟨P, hP0⟩ : ∃ x, w.heap.size = x := ⟨_, rfl⟩
  rw [hP0] at hr0 hr1 hs0
  obtain ⟨Q, hP1⟩ : ∃ x, P + 1 = x := ⟨_, rfl⟩
  rw [hP1] at hr1
  clear hal
  have HB0 := Lib.hid hb0
  have H0 := Lib.hid hr0
  have H1 := Lib.hid hr1
  have HS := Lib.hid (show w.heap.size = P ∧ P < Q ∧ Q < W0.heap.size by omega)
  have HL := Lib.hid hl
  have KN := Lib.hid (fun X => nearest_any x y t X)
  obtain ⟨z, hz⟩ : ∃ z, nearF (x, y) t = z := ⟨_, rfl⟩
  simp only [hz] at KN ⊢
  obtain ⟨y0, y1, y2⟩ := three_cells hr0
  have x0 := one_cell hr1
  clear hb0 hr0 hr1 hs0 hl hz
  go_enter Try.func56, Try.ntmps56
  go_upto_region 1 with fail
  rw [← hW0]
  clear hW0 hP0 hP1
  go_wp2_with (go_at_call 62; fail)
  refine (KN.out _).mono ?_
  rintro e w2 ⟨rfl, hb2⟩
  have h02 := box_step (w0 := w) H0.out hb2
  have h12 := box_step (w0 := w) H1.out hb2
  have hbw := HB0.out.trans (hb2.mono HB0.out.size)
  have fz : w2.frozen? ⟨Q, 0, none⟩ = false := frozen_of h12
  have x02 := one_cell h12
  have hz2 := set_one h12 (.int .i64 z)
  have hy2 := (set_other w2 Q 0 P (.int .i64 z) (by have := HS.out; omega)).trans h02
  have hbz := hbw.setCell (p := ⟨Q, 0, none⟩) (by have := HS.out; simp; omega) (.int .i64 z)
  have HE := Lib.hid (show EMem P Q l a cp x y z (w2.setCell ⟨Q, 0, none⟩ (.int .i64 z)) from ⟨hy2, hz2, HL.out.below hbz⟩)
  have HBZ := Lib.hid hbz
  clear hb2 h02 h12 hbw hz2 hy2 hbz y0 y1 y2 x0
  go_wp2
  go_ret
  exact ⟨P, Q, rfl, by have := HS.out; omega, by have := HS.out; omega, HE.out, HBZ.out⟩
def encS (l : List Pi) (x y t : Int) (i : Nat) : Array Value := #[.int .i64 (clN l.length i : Nat), .int .i64 (shareF l x y t (clN l.length i))]
set_option maxRecDepth 100000 in
set_option maxHeartbeats 6400000 in
theorem shares_all (b c : Nat) (l : List Pi) (hok : lineOk l = true) (a : Option Addr) (cp : Nat) (x y t : Int) (E : Nat → Prop) (e1 : ¬ E b) (e2 : ¬ E c) (e3 : ∀ b off, a = some ⟨b, off, none⟩ → ¬ E b) (w : World) (e4 : ∀ k, E k → k < w.heap.size) (hM : EMem b c l a cp x y t w) :
    SeqAll 63 #[.pointer (some ⟨b, 0, none⟩), .pointer (some ⟨c, 0, none⟩)] (encS l x y t) E (fun xs => xs = List.range l.length) l.length w := by
  intro q J W hbW hJ hY h0
  replace e4 : ∀ k, E k → k < W.heap.size := fun k hk => Nat.lt_of_lt_of_le (e4 k hk) hbW.size
  replace hM := hM.below hbW
  obtain ⟨hl1, hl8⟩ := line_few hok
  obtain ⟨W0, hW0⟩ : ∃ X, X = W.alloc (.cells #[.func (.yield q) #[] #[]] 72) := ⟨_, rfl⟩
  have hb0 : Below W.heap.size W W0 := by rw [hW0]; exact (Below.refl _ _).alloc (Nat.le_refl _) _
  have hr0 : W0.heap[W.heap.size]? = some (.cells #[.func (.yield q) #[] #[]] 72 (0, 0)) := by rw [hW0]; exact alloc_heap W _
  have hs0 : W0.heap.size = W.heap.size + 1 := by rw [hW0]; simp
  have hJ0 : J [] W0 := by rw [hW0]; exact hJ.alloc _ h0
  obtain ⟨T, hT⟩ : ∃ x, W.heap.size = x := ⟨_, rfl⟩
  rw [hT] at hr0 hs0 e4 hJ hb0 hY
  have hM0 := hM.below (by rw [hT]; exact hb0)
  obtain ⟨y0, y1, y2⟩ := three_cells hM0.er
  have HM0 := Lib.hid hM0
  have HT0 := Lib.hid hr0
  have HY := Lib.hid hY
  have E1 := Lib.hid e1
  have E2 := Lib.hid e2
  have E3 := Lib.hid e3
  have E4 := Lib.hid e4
  have HOK := Lib.hid hok
  have HJ := Lib.hid hJ
  have HJ0 := Lib.hid hJ0
  have HS := Lib.hid hs0
  clear hM0 hr0 hY e1 e2 e3 e4 hM hJ hJ0 hs0 h0 hbW hb0
  refine callsIn_of_wp_marks Try.func63 rfl trivial ?_ rfl
  simp only [Try.ntmps63, List.size_toArray, List.length_cons, List.length_nil, Nat.reduceAdd, Nat.reduceSub, Array.replicate_succ, Array.replicate_zero, List.push_toArray, List.append_toArray, List.nil_append, List.cons_append]
  replace hW0 := hW0.symm
  gi_wp2
  clear hW0
  refine ⟨trivial, callsIn_wide.2 ((pipes_any a l.length cp W0).mono ?_)⟩
  rintro e W2 ⟨rfl, rfl⟩
  obtain ⟨B, hBs⟩ : ∃ x, W0.heap.size = x := ⟨_, rfl⟩
  obtain ⟨W2, hW2⟩ : ∃ X, W0.alloc (.cells #[.slice a l.length cp] 68) = X := ⟨_, rfl⟩
  have hb2 : Below W0.heap.size W0 W2 := by rw [← hW2]; exact (Below.refl _ _).alloc (Nat.le_refl _) _
  have hs2 : W2.heap.size = B + 1 := by rw [← hW2, ← hBs]; simp
  have hr3 : W2.heap[B]? = some (.cells #[.slice a l.length cp] 68 (0, 0)) := by rw [← hW2, ← hBs]; exact alloc_heap W0 _
  have hM : LMem B l a cp W2 := ⟨hr3, HM0.out.tb.below hb2⟩
  have hT2 := box_step (w0 := w) HT0.out hb2
  have hM2 := HM0.out.below hb2
  have hJ2 : J [] W2 := by rw [← hW2]; exact HJ.out.alloc _ HJ0.out
  have HS2 := Lib.hid (show B = T + 1 ∧ W2.heap.size = T + 2 by have := HS.out; omega)
  rw [hW2, hBs]
  have HM2 := Lib.hid hM2
  have HT2 := Lib.hid hT2
  have HNT := Lib.hid (show ¬ E T from fun e => by have := E4.out T e; omega)
  clear hW2 hBs hb2 hs2 HM0 HT0 HJ0 HS y0 y1 y2 hM2 hT2 hr3
  gi_wp2
  refine wpIn_rangeFunc_ownH rfl (by omega) (gf := 66) (lb := #[.pointer (some ⟨B, 0, none⟩)]) rfl trivial (enters_of Try.func66 (by kernel_rfl) rfl)
    (pipes_stops 7 (by omega) B l hok a cp E (fun e => by have := E4.out _ e; have := HS2.out; omega) E3.out W2 (fun k e => by have := E4.out _ e; have := HS2.out; omega) hM)
    KeepE.trans (fun W l o o' _ hl hc _ => KeepE.of_grown (grownBy_putObj' W l o') (fun q e => by cases e; exact .inr (fun o2 h2 => by rw [hl] at h2; cases h2; exact hc))) (Below.refl _ _) (fun _ => rfl)
    (fun pre W => J pre W ∧ KeepE E W2 W)
    (fun cc pre W => False)
    (fun pre X Y row hs hg hr => by
      obtain ⟨s1, s2⟩ := hs
      exact ⟨HJ.out pre X Y row s1 hg (fun r e => by obtain ⟨h1, h2⟩ := hr r e; have := HS2.out; exact ⟨by omega, h2⟩), s2.trans (.of_grown hg (fun r e => .inr (fun o ho => by obtain ⟨_, o', ho', hc⟩ := hr r e; rw [ho] at ho'; cases ho'; exact hc)))⟩)
    (fun cc pre X Y row hs hg hr => hs)
    ⟨hJ2, KeepE.refl _ _⟩
    (fun i a' W => ∃ R, W2.heap.size ≤ R ∧ a' = { tmps := #[.func (.yield q) #[] #[], .pointer (some ⟨b, 0, none⟩), .pointer (some ⟨c, 0, none⟩), .pointer (some ⟨T, 0, none⟩), .int .i64 (clN l.length i : Nat), .pointer (some ⟨R, 0, none⟩), undef, undef, .pointer (some ⟨b, 0, none⟩), .slice a l.length cp, .func (.func 66) #[] #[.pointer (some ⟨B, 0, none⟩)], .int .i64 (clN l.length i : Nat), .agg #[.int .i64 (posF l (clN l.length i)), .int .i64 (posF l (clN l.length i + 1))], undef, undef, undef, undef, undef, undef, undef, undef, undef, undef, undef, undef, undef, undef, undef, undef, undef, undef, undef, undef, undef, undef, undef], defers := [] } ∧ W.heap[R]? = some (.cells #[.int .i64 (posF l (clN l.length i)), .int .i64 (posF l (clN l.length i + 1))] 24 (0, 0)))
    (fun i a' _ X Y row hs hg hr => by
      obtain ⟨R, h1, h2, h3⟩ := hs
      exact ⟨R, h1, h2, cells_kept h3 hg hr⟩)
    ?assign ?body ?done ?stop
  case stop =>
    rintro D cc pre W hD hpre h hK
    exact absurd h id
  case assign =>
    rintro l2 pre i W K2 hI hK
    unfold encL
    obtain ⟨u, hu⟩ : ∃ u, posF l (clN l.length i) = u := ⟨_, rfl⟩
    obtain ⟨u1, hu1⟩ : ∃ u, posF l (clN l.length i + 1) = u := ⟨_, rfl⟩
    rw [hu, hu1] at hK ⊢
    have hb4 : Below W.heap.size W (W.alloc (.cells #[.int .i64 u, .int .i64 u1] 24)) := (Below.refl _ _).alloc (Nat.le_refl _) _
    have HK := Lib.hid (hK _ _ (keeps_grown (n := W2.heap.size) (World.grownBy_alloc W (.cells #[.int .i64 u, .int .i64 u1] 24) none) (fun r o e _ => by cases e)) (KeepE.of_below hb4) ⟨HJ.out.alloc _ hI.1, hI.2.trans (.of_below hb4)⟩ ⟨W.heap.size, hI.2.size, rfl, alloc_heap W _⟩)
    clear hK hb4 hI hu hu1
    gi_wp2
    exact HK.out
  case body =>
    rintro l2 pre i a' W hl ⟨rr, hrr⟩ ⟨i1, i2⟩ ⟨R, hR, rfl, h3⟩ hlt
    have hsh : shareF l x y t (clN l.length i) = (nearF (posF l (clN l.length i), posF l (clN l.length i + 1)) t - nearF (posF l (clN l.length i), posF l (clN l.length i + 1)) x) - (nearF (posF l (clN l.length i), posF l (clN l.length i + 1)) y - nearF (posF l (clN l.length i), posF l (clN l.length i + 1)) t) := rfl
    have hcl := clN_lt (n := l.length) i (by omega)
    have hu0 := pos_small HOK.out (i := clN l.length i) (by omega)
    have hu2 := pos_small HOK.out (i := clN l.length i + 1) (by omega)
    have hum := pos_mono HOK.out (i := clN l.length i) (j := clN l.length i + 1) (by omega) (by omega)
    have hY' := HY.out pre i
    unfold encS at hY'
    obtain ⟨k, hk⟩ : ∃ k, clN l.length i = k := ⟨_, rfl⟩
    rw [hk] at hsh hu0 hu2 hum hcl h3 hY' ⊢
    obtain ⟨s, hs⟩ : ∃ s, shareF l x y t k = s := ⟨_, rfl⟩
    rw [hs] at hsh hY'
    obtain ⟨u, hu⟩ : ∃ u, posF l k = u := ⟨_, rfl⟩
    obtain ⟨u1, hu1⟩ : ∃ u, posF l (k + 1) = u := ⟨_, rfl⟩
    rw [hu] at hsh hu0 hum h3 ⊢
    rw [hu1] at hsh hu2 hum h3 ⊢
    have n1 := near_in (s := (u, u1)) t hum
    have n2 := near_in (s := (u, u1)) x hum
    have n3 := near_in (s := (u, u1)) y hum
    simp only [] at n1 n2 n3
    have KT := Lib.hid (fun X => nearest_any u u1 t X)
    have KX := Lib.hid (fun X => nearest_any u u1 x X)
    have KY := Lib.hid (fun X => nearest_any u u1 y X)
    obtain ⟨vt, hvt⟩ : ∃ v, nearF (u, u1) t = v := ⟨_, rfl⟩
    obtain ⟨vx, hvx⟩ : ∃ v, nearF (u, u1) x = v := ⟨_, rfl⟩
    obtain ⟨vy, hvy⟩ : ∃ v, nearF (u, u1) y = v := ⟨_, rfl⟩
    simp only [hvt] at KT hsh n1
    simp only [hvx] at KX hsh n2
    simp only [hvy] at KY hsh n3
    obtain ⟨d1, hd1⟩ : ∃ d, vt - vx = d := ⟨_, rfl⟩
    obtain ⟨d2, hd2⟩ : ∃ d, vy - vt = d := ⟨_, rfl⟩
    rw [hd1, hd2] at hsh
    have w1 : IntKind.i64.wrap (vt - vx) = d1 := by rw [hd1]; exact IntWalk.i64_in _ (by omega)
    have w2 : IntKind.i64.wrap (vy - vt) = d2 := by rw [hd2]; exact IntWalk.i64_in _ (by omega)
    have w3 : IntKind.i64.wrap (d1 - d2) = s := by rw [hsh]; exact IntWalk.i64_in _ (by omega)
    have hF := And.intro (i2.block HM2.out.er E1.out) (And.intro (i2.block HM2.out.at' E2.out) h3)
    have hTW := i2.block HT2.out HNT.out
    have HF := Lib.hid hF
    have HTW := Lib.hid hTW
    have HI1 := Lib.hid i1
    have HI2 := Lib.hid i2
    have HYY := Lib.hid hY'
    have HLT := Lib.hid hlt
    clear hsh hcl hu0 hu2 hum hk hs hu hu1 n1 n2 n3 hvt hvx hvy hd1 hd2 hF hTW i1 i2 h3 hY' hlt hrr
    gi_wp2
    refine wpIn_region_held_round (fun w' => w'.heap[b]? = some (.cells #[.slice a l.length cp, .int .i64 x, .int .i64 y] 70 (0, 0)) ∧ w'.heap[c]? = some (.cells #[.int .i64 t] 3 (0, 0)) ∧ w'.heap[R]? = some (.cells #[.int .i64 u, .int .i64 u1] 24 (0, 0))) (by kernel_rfl) (by kernel_rfl) ?_ ⟨HF.out.1, HF.out.2.1, HF.out.2.2⟩ (fun hHeld => ?_)
    · first | (rintro ⟨_, _, h⟩; exact h) | (intro h; simp [LetsOut] at h)
    obtain ⟨Y0, hY0⟩ : ∃ X, X = World.drew W := ⟨_, rfl⟩
    have hbX : Below W.heap.size W Y0 := by rw [hY0]; exact (Below.refl _ _).drew
    rw [← hY0] at hHeld ⊢
    have hH := Lib.hid hHeld
    clear hY0 hHeld
    refine wpAnyH_take (i := 0) (oi := _) (v := ?_) rfl (by kernel_rfl) (by kernel_rfl) (by kernel_rfl) (fun _ _ _ h => h) (Or.inl ⟨by rfl, ?_⟩) hH.out ?_
    rotate_left
    · intro w1 hSw
      obtain ⟨e1, e2, e3⟩ := hSw
      obtain ⟨d0, d1, d2⟩ := three_cells e1
      have d3 := one_cell e2
      obtain ⟨d4, d5⟩ := two_cells e3
      clear e1 e2 e3
      go_simp; with_reducible rfl
    simp only [List.getElem_toArray, List.getElem_cons_succ, List.getElem_cons_zero, Act.put, List.setIfInBounds_toArray, List.set_cons_zero, List.set_cons_succ]
    refine wpAnyH_take (i := 1) (oi := _) (v := ?_) rfl (by kernel_rfl) (by kernel_rfl) (by kernel_rfl) (fun _ _ _ h => h) (Or.inl ⟨by rfl, ?_⟩) hH.out ?_
    rotate_left
    · intro w1 hSw
      obtain ⟨e1, e2, e3⟩ := hSw
      obtain ⟨d0, d1, d2⟩ := three_cells e1
      have d3 := one_cell e2
      obtain ⟨d4, d5⟩ := two_cells e3
      clear e1 e2 e3
      go_simp; with_reducible rfl
    simp only [List.getElem_toArray, List.getElem_cons_succ, List.getElem_cons_zero, Act.put, List.setIfInBounds_toArray, List.set_cons_zero, List.set_cons_succ]
    refine wpAnyH_take (i := 3) (oi := _) (v := ?_) rfl (by kernel_rfl) (by kernel_rfl) (by kernel_rfl) (fun _ _ _ h => h) (Or.inl ⟨by rfl, ?_⟩) hH.out ?_
    rotate_left
    · intro w1 hSw
      obtain ⟨e1, e2, e3⟩ := hSw
      obtain ⟨d0, d1, d2⟩ := three_cells e1
      have d3 := one_cell e2
      obtain ⟨d4, d5⟩ := two_cells e3
      clear e1 e2 e3
      go_simp; with_reducible rfl
    simp only [List.getElem_toArray, List.getElem_cons_succ, List.getElem_cons_zero, Act.put, List.setIfInBounds_toArray, List.set_cons_zero, List.set_cons_succ]
    refine wpAnyH_take (i := 4) (oi := _) (v := ?_) rfl (by kernel_rfl) (by kernel_rfl) (by kernel_rfl) (fun _ _ _ h => h) (Or.inl ⟨by rfl, ?_⟩) hH.out ?_
    rotate_left
    · intro w1 hSw
      obtain ⟨e1, e2, e3⟩ := hSw
      obtain ⟨d0, d1, d2⟩ := three_cells e1
      have d3 := one_cell e2
      obtain ⟨d4, d5⟩ := two_cells e3
      clear e1 e2 e3
      go_simp; with_reducible rfl
    simp only [List.getElem_toArray, List.getElem_cons_succ, List.getElem_cons_zero, Act.put, List.setIfInBounds_toArray, List.set_cons_zero, List.set_cons_succ]
    refine wpAnyH_take (i := 5) (oi := _) (v := ?_) rfl (by kernel_rfl) (by kernel_rfl) (by kernel_rfl) (fun _ _ _ h => h) (Or.inl ⟨by rfl, ?_⟩) hH.out ?_
    rotate_left
    · intro w1 hSw
      obtain ⟨e1, e2, e3⟩ := hSw
      obtain ⟨d0, d1, d2⟩ := three_cells e1
      have d3 := one_cell e2
      obtain ⟨d4, d5⟩ := two_cells e3
      clear e1 e2 e3
      go_simp; with_reducible rfl
    simp only [List.getElem_toArray, List.getElem_cons_succ, List.getElem_cons_zero, Act.put, List.setIfInBounds_toArray, List.set_cons_zero, List.set_cons_succ]
    refine wpAnyH_all (rs := [2]) (by kernel_rfl) (by simp) ?_
    intro i hi; obtain rfl := List.mem_singleton.1 hi; clear hi
    refine wpOp_step rfl (fun K3 hK3 => ?_)
    have HK3 := Lib.hid hK3
    clear hK3
    rw [if_pos (by rfl)]
    go_simp
    refine (KT.out _).mono ?_
    rintro e Y1 ⟨rfl, hbn⟩
    have hH2 := And.intro (box_step (w0 := Y0) hH.out.1 hbn) (And.intro (box_step (w0 := Y0) hH.out.2.1 hbn) (box_step (w0 := Y0) hH.out.2.2 hbn))
    replace hbX := hbX.trans (hbn.mono hbX.size)
    clear hH hbn
    have hH := Lib.hid hH2
    clear hH2
    refine HK3.out _ _ ⟨hH.out, ?_⟩
    clear HK3 K3
    try simp only [List.getElem_toArray, List.getElem_cons_succ, List.getElem_cons_zero, Act.put, List.setIfInBounds_toArray, List.set_cons_zero, List.set_cons_succ]
    refine wpAnyH_all (rs := [6]) (by kernel_rfl) (by simp) ?_
    intro i hi; obtain rfl := List.mem_singleton.1 hi; clear hi
    refine wpOp_step rfl (fun K3 hK3 => ?_)
    have HK3 := Lib.hid hK3
    clear hK3
    rw [if_pos (by rfl)]
    go_simp
    refine (KX.out _).mono ?_
    rintro e Y2 ⟨rfl, hbn⟩
    have hH2 := And.intro (box_step (w0 := Y1) hH.out.1 hbn) (And.intro (box_step (w0 := Y1) hH.out.2.1 hbn) (box_step (w0 := Y1) hH.out.2.2 hbn))
    replace hbX := hbX.trans (hbn.mono hbX.size)
    clear hH hbn
    have hH := Lib.hid hH2
    clear hH2
    refine HK3.out _ _ ⟨hH.out, ?_⟩
    clear HK3 K3
    try simp only [List.getElem_toArray, List.getElem_cons_succ, List.getElem_cons_zero, Act.put, List.setIfInBounds_toArray, List.set_cons_zero, List.set_cons_succ]
    refine wpAnyH_take (i := 7) (oi := _) (v := ?_) rfl (by kernel_rfl) (by kernel_rfl) (by kernel_rfl) (fun _ _ _ h => h) (Or.inl ⟨by rfl, ?_⟩) hH.out ?_
    rotate_left
    · intro w1 hSw
      obtain ⟨e1, e2, e3⟩ := hSw
      obtain ⟨d0, d1, d2⟩ := three_cells e1
      have d3 := one_cell e2
      obtain ⟨d4, d5⟩ := two_cells e3
      clear e1 e2 e3
      go_simp; with_reducible rfl
    simp only [List.getElem_toArray, List.getElem_cons_succ, List.getElem_cons_zero, Act.put, List.setIfInBounds_toArray, List.set_cons_zero, List.set_cons_succ]
    refine wpAnyH_take (i := 8) (oi := _) (v := ?_) rfl (by kernel_rfl) (by kernel_rfl) (by kernel_rfl) (fun _ _ _ h => h) (Or.inl ⟨by rfl, ?_⟩) hH.out ?_
    rotate_left
    · intro w1 hSw
      obtain ⟨e1, e2, e3⟩ := hSw
      obtain ⟨d0, d1, d2⟩ := three_cells e1
      have d3 := one_cell e2
      obtain ⟨d4, d5⟩ := two_cells e3
      clear e1 e2 e3
      go_simp; with_reducible rfl
    simp only [List.getElem_toArray, List.getElem_cons_succ, List.getElem_cons_zero, Act.put, List.setIfInBounds_toArray, List.set_cons_zero, List.set_cons_succ]
    refine wpAnyH_done (by kernel_rfl) ?_ _
    have HFY := hH
    have hbY := hbX
    clear hH hbX
    gi_wp2
    refine wpIn_region_held_round (fun w' => w'.heap[b]? = some (.cells #[.slice a l.length cp, .int .i64 x, .int .i64 y] 70 (0, 0)) ∧ w'.heap[c]? = some (.cells #[.int .i64 t] 3 (0, 0)) ∧ w'.heap[R]? = some (.cells #[.int .i64 u, .int .i64 u1] 24 (0, 0))) (by kernel_rfl) (by kernel_rfl) ?_ ⟨HFY.out.1, HFY.out.2.1, HFY.out.2.2⟩ (fun hHeld => ?_)
    · first | (rintro ⟨_, _, h⟩; exact h) | (intro h; simp [LetsOut] at h)
    obtain ⟨Z0, hY0⟩ : ∃ X, X = World.drew Y2 := ⟨_, rfl⟩
    have hbX : Below Y2.heap.size Y2 Z0 := by rw [hY0]; exact (Below.refl _ _).drew
    rw [← hY0] at hHeld ⊢
    have hH := Lib.hid hHeld
    clear hY0 hHeld
    refine wpAnyH_take (i := 0) (oi := _) (v := ?_) rfl (by kernel_rfl) (by kernel_rfl) (by kernel_rfl) (fun _ _ _ h => h) (Or.inl ⟨by rfl, ?_⟩) hH.out ?_
    rotate_left
    · intro w1 hSw
      obtain ⟨e1, e2, e3⟩ := hSw
      obtain ⟨d0, d1, d2⟩ := three_cells e1
      have d3 := one_cell e2
      obtain ⟨d4, d5⟩ := two_cells e3
      clear e1 e2 e3
      go_simp; with_reducible rfl
    simp only [List.getElem_toArray, List.getElem_cons_succ, List.getElem_cons_zero, Act.put, List.setIfInBounds_toArray, List.set_cons_zero, List.set_cons_succ]
    refine wpAnyH_take (i := 1) (oi := _) (v := ?_) rfl (by kernel_rfl) (by kernel_rfl) (by kernel_rfl) (fun _ _ _ h => h) (Or.inl ⟨by rfl, ?_⟩) hH.out ?_
    rotate_left
    · intro w1 hSw
      obtain ⟨e1, e2, e3⟩ := hSw
      obtain ⟨d0, d1, d2⟩ := three_cells e1
      have d3 := one_cell e2
      obtain ⟨d4, d5⟩ := two_cells e3
      clear e1 e2 e3
      go_simp; with_reducible rfl
    simp only [List.getElem_toArray, List.getElem_cons_succ, List.getElem_cons_zero, Act.put, List.setIfInBounds_toArray, List.set_cons_zero, List.set_cons_succ]
    refine wpAnyH_take (i := 2) (oi := _) (v := ?_) rfl (by kernel_rfl) (by kernel_rfl) (by kernel_rfl) (fun _ _ _ h => h) (Or.inl ⟨by rfl, ?_⟩) hH.out ?_
    rotate_left
    · intro w1 hSw
      obtain ⟨e1, e2, e3⟩ := hSw
      obtain ⟨d0, d1, d2⟩ := three_cells e1
      have d3 := one_cell e2
      obtain ⟨d4, d5⟩ := two_cells e3
      clear e1 e2 e3
      go_simp; with_reducible rfl
    simp only [List.getElem_toArray, List.getElem_cons_succ, List.getElem_cons_zero, Act.put, List.setIfInBounds_toArray, List.set_cons_zero, List.set_cons_succ]
    refine wpAnyH_take (i := 4) (oi := _) (v := ?_) rfl (by kernel_rfl) (by kernel_rfl) (by kernel_rfl) (fun _ _ _ h => h) (Or.inl ⟨by rfl, ?_⟩) hH.out ?_
    rotate_left
    · intro w1 hSw
      obtain ⟨e1, e2, e3⟩ := hSw
      obtain ⟨d0, d1, d2⟩ := three_cells e1
      have d3 := one_cell e2
      obtain ⟨d4, d5⟩ := two_cells e3
      clear e1 e2 e3
      go_simp; with_reducible rfl
    simp only [List.getElem_toArray, List.getElem_cons_succ, List.getElem_cons_zero, Act.put, List.setIfInBounds_toArray, List.set_cons_zero, List.set_cons_succ]
    refine wpAnyH_take (i := 5) (oi := _) (v := ?_) rfl (by kernel_rfl) (by kernel_rfl) (by kernel_rfl) (fun _ _ _ h => h) (Or.inl ⟨by rfl, ?_⟩) hH.out ?_
    rotate_left
    · intro w1 hSw
      obtain ⟨e1, e2, e3⟩ := hSw
      obtain ⟨d0, d1, d2⟩ := three_cells e1
      have d3 := one_cell e2
      obtain ⟨d4, d5⟩ := two_cells e3
      clear e1 e2 e3
      go_simp; with_reducible rfl
    simp only [List.getElem_toArray, List.getElem_cons_succ, List.getElem_cons_zero, Act.put, List.setIfInBounds_toArray, List.set_cons_zero, List.set_cons_succ]
    refine wpAnyH_all (rs := [3]) (by kernel_rfl) (by simp) ?_
    intro i hi; obtain rfl := List.mem_singleton.1 hi; clear hi
    refine wpOp_step rfl (fun K3 hK3 => ?_)
    have HK3 := Lib.hid hK3
    clear hK3
    rw [if_pos (by rfl)]
    go_simp
    refine (KY.out _).mono ?_
    rintro e Z1 ⟨rfl, hbn⟩
    have hH2 := And.intro (box_step (w0 := Z0) hH.out.1 hbn) (And.intro (box_step (w0 := Z0) hH.out.2.1 hbn) (box_step (w0 := Z0) hH.out.2.2 hbn))
    replace hbX := hbX.trans (hbn.mono hbX.size)
    clear hH hbn
    have hH := Lib.hid hH2
    clear hH2
    refine HK3.out _ _ ⟨hH.out, ?_⟩
    clear HK3 K3
    try simp only [List.getElem_toArray, List.getElem_cons_succ, List.getElem_cons_zero, Act.put, List.setIfInBounds_toArray, List.set_cons_zero, List.set_cons_succ]
    refine wpAnyH_all (rs := [6]) (by kernel_rfl) (by simp) ?_
    intro i hi; obtain rfl := List.mem_singleton.1 hi; clear hi
    refine wpOp_step rfl (fun K3 hK3 => ?_)
    have HK3 := Lib.hid hK3
    clear hK3
    rw [if_pos (by rfl)]
    go_simp
    refine (KT.out _).mono ?_
    rintro e Z2 ⟨rfl, hbn⟩
    have hH2 := And.intro (box_step (w0 := Z1) hH.out.1 hbn) (And.intro (box_step (w0 := Z1) hH.out.2.1 hbn) (box_step (w0 := Z1) hH.out.2.2 hbn))
    replace hbX := hbX.trans (hbn.mono hbX.size)
    clear hH hbn
    have hH := Lib.hid hH2
    clear hH2
    refine HK3.out _ _ ⟨hH.out, ?_⟩
    clear HK3 K3
    try simp only [List.getElem_toArray, List.getElem_cons_succ, List.getElem_cons_zero, Act.put, List.setIfInBounds_toArray, List.set_cons_zero, List.set_cons_succ]
    refine wpAnyH_take (i := 7) (oi := _) (v := ?_) rfl (by kernel_rfl) (by kernel_rfl) (by kernel_rfl) (fun _ _ _ h => h) (Or.inl ⟨by rfl, ?_⟩) hH.out ?_
    rotate_left
    · intro w1 hSw
      obtain ⟨e1, e2, e3⟩ := hSw
      obtain ⟨d0, d1, d2⟩ := three_cells e1
      have d3 := one_cell e2
      obtain ⟨d4, d5⟩ := two_cells e3
      clear e1 e2 e3
      go_simp; with_reducible rfl
    simp only [List.getElem_toArray, List.getElem_cons_succ, List.getElem_cons_zero, Act.put, List.setIfInBounds_toArray, List.set_cons_zero, List.set_cons_succ]
    refine wpAnyH_take (i := 8) (oi := _) (v := ?_) rfl (by kernel_rfl) (by kernel_rfl) (by kernel_rfl) (fun _ _ _ h => h) (Or.inl ⟨by rfl, ?_⟩) hH.out ?_
    rotate_left
    · intro w1 hSw
      obtain ⟨e1, e2, e3⟩ := hSw
      obtain ⟨d0, d1, d2⟩ := three_cells e1
      have d3 := one_cell e2
      obtain ⟨d4, d5⟩ := two_cells e3
      clear e1 e2 e3
      go_simp; with_reducible rfl
    simp only [List.getElem_toArray, List.getElem_cons_succ, List.getElem_cons_zero, Act.put, List.setIfInBounds_toArray, List.set_cons_zero, List.set_cons_succ]
    refine wpAnyH_done (by kernel_rfl) ?_ _
    have HFZ := hH
    have hbZ := hbX
    clear hH hbX
    have hbYY := hbY.trans (hbZ.mono hbY.size)
    have hTZ := box_step (w0 := w) HTW.out hbYY
    have hJZ := HJ.out _ _ _ none HI1.out (grown_of_below hbYY) (fun r e => by cases e)
    obtain ⟨fn, tmps, assign, body, hy', hRR⟩ := HYY.out _ hJZ HLT.out
    have Hr := Lib.hid hRR
    have HBYY := Lib.hid hbYY
    have t0 := one_cell hTZ
    clear hRR hJZ hTZ hbYY hbY hbZ HYY HFY
    gi_wp2
    refine (round_in Hr.out).mono ?_
    rintro e W3 ⟨rfl, hJ3, hk3, hkf3⟩
    have HJ3 := Lib.hid hJ3
    have HK3 := Lib.hid ((KeepE.of_below HBYY.out).trans hk3)
    have HKF := Lib.hid ((keeps_grown (n := W2.heap.size) (grown_of_below HBYY.out) (fun r o e _ => by cases e)).trans (keeps_weak hkf3 (by have := HS2.out; omega)))
    clear hJ3 hk3 hkf3 t0 hy'
    gi_wp2
    exact ⟨HKF.out, HK3.out, HJ3.out, HI2.out.trans HK3.out⟩
  case done =>
    rintro D xs W hD rfl ⟨i1, i2⟩ hK
    have HK := Lib.hid hK
    have HI1 := Lib.hid i1
    have HD := Lib.hid hD
    clear hK i1 i2 hD hM hJ2
    gi_wp2
    refine ⟨by simp, .inl ⟨_, _, rfl, run_takeDeferred HK.out, ?_⟩⟩
    have hJD := HJ.out.putObj (.deferred none) HI1.out (by have := HD.out; have := HS2.out; omega) HK.out rfl
    exact ⟨_, results_none rfl _ _ _, ⟨_, rfl⟩, _, rfl, hJD⟩
end Go.Proofs.Ytdbjifpnbghbaaa
