/- Size: Starved. -/
import Derived.Test.YtlcmedfjghcigaaA17
namespace Go.Proofs.Ytlcmedfjghcigaa
set_option linter.unusedSimpArgs false
set_option linter.unusedVariables false
open Go.RowKit Go.Shelf Go.Maps
attribute [local go_sem] Oper.semAt_some

theorem starved_bad {h : Hs} {z : Sz} (k : errF h [z] ≠ 0) : starvedF h z = (0, false, errF h [z]) := by unfold starvedF; rw [if_neg k]
theorem starved_none {h : Hs} {z : Sz} (k : errF h [z] = 0) (e : ∀ x ∈ setsF h, badF h z x = false) : starvedF h z = (0, false, 4) := by
  unfold starvedF
  rw [if_pos k]
  have : starveF h z = none := by
    unfold starveF
    rw [List.find?_eq_none]
    intro x hx
    rw [e x hx]; simp
  rw [this]
theorem starved_some {h : Hs} {z : Sz} (k : errF h [z] = 0) {pre : List Nat} {x : Nat} (hp : pre ++ [x] <+: setsF h) (e : ∀ y ∈ pre, badF h z y = false) (hx : badF h z x = true) : starvedF h z = (((x : Nat) : Int), (findF h z x).2, (0 : Int)) := by
  unfold starvedF
  rw [if_pos k]
  have : starveF h z = some x := by
    obtain ⟨t, ht⟩ := hp
    unfold starveF
    rw [← ht, List.append_assoc, List.find?_append]
    have : pre.find? (badF h z) = none := by
      rw [List.find?_eq_none]
      intro y hy
      rw [e y hy]; simp
    rw [this]
    simp [hx]
  rw [this]
def MixR (w : World) (r : Int × Bool × Int) (e : Ending) (w' : World) : Prop := e = .returned (.tuple #[.int .i64 r.1, .bool r.2.1, .int .i64 r.2.2]) ∧ Below w.heap.size w w'
theorem err_one_sz {h : Hs} {z : Sz} (k : errF h [z] = 0) : hsOk h = true ∧ SzSane z := by
  obtain ⟨h1, h2⟩ := errF_zero k
  exact ⟨h1, by simpa using (szs_sane h2).2 0 (by simp)⟩
theorem tab_one {w : World} {q : Nat} {s0 s1 s2 s3 : Int} (h : w.heap[q]? = some (.cells #[.int .i64 s0, .int .i64 s1, .int .i64 s2, .int .i64 s3] 27 (0, 0))) : TabAt 4 szC w (.slice (some ⟨q, 0, none⟩) 1 1) [(⟨s0, s1, s2, s3⟩ : Sz)] := by
  refine ⟨by simp [maxLen], .inr ⟨q, 0, 1, rfl, by simp, by simp [maxLen], (Array.getElem?_eq_some_iff.1 h).1, fun i hi j hj => ?_⟩⟩
  obtain ⟨z0, z1, z2, z3⟩ := four_cells h
  have hi0 : i = 0 := by simp at hi; exact hi
  subst hi0
  match j, hj with
  | 0, _ => simpa [szC] using z0
  | 1, _ => simpa [szC] using z1
  | 2, _ => simpa [szC] using z2
  | 3, _ => simpa [szC] using z3
  | j + 4, hj => omega
/-- the boxes of Starved -/
structure SB (h : Hs) (a1 : Option Addr) (c1 : Nat) (a2 : Option Addr) (c2 : Nat) (s0 s1 s2 s3 : Int) (P Q R T U : Nat) (w : World) : Prop where
  p : w.heap[P]? = some (.cells #[.int .i64 h.head, .int .i64 h.drip, .slice a1 h.tp.length c1, .slice a2 h.rl.length c2] 25 (0, 0))
  q : w.heap[Q]? = some (.cells #[.int .i64 s0, .int .i64 s1, .int .i64 s2, .int .i64 s3] 27 (0, 0))
  r : w.heap[R]? = some (.cells #[.int .i64 0] 3 (0, 0))
  t : w.heap[T]? = some (.cells #[.bool false] 4 (0, 0))
  u : w.heap[U]? = some (.cells #[.int .i64 0] 32 (0, 0))
theorem SB.next {h : Hs} {a1 : Option Addr} {c1 : Nat} {a2 : Option Addr} {c2 : Nat} {s0 s1 s2 s3 : Int} {P Q R T U : Nat} {w w' : World} (k : SB h a1 c1 a2 c2 s0 s1 s2 s3 P Q R T U w) (hb : Below w.heap.size w w') : SB h a1 c1 a2 c2 s0 s1 s2 s3 P Q R T U w' :=
  ⟨box_step (w0 := w) k.p hb, box_step (w0 := w) k.q hb, box_step (w0 := w) k.r hb, box_step (w0 := w) k.t hb, box_step (w0 := w) k.u hb⟩
theorem var3 {w : World} {g : Nat} {v : Value} {t : TypeId} (h : w.heap[g]? = some (.cells #[v] t (0, 0))) : w.cell? ⟨g, 0, none⟩ = some v := one_cell h
/-- three boxes written -/
theorem set_three {X : World} {R T U : Nat} {a b c A B C : Value} {x y z : TypeId} (h1 : X.heap[R]? = some (.cells #[a] x (0, 0))) (h2 : X.heap[T]? = some (.cells #[b] y (0, 0))) (h3 : X.heap[U]? = some (.cells #[c] z (0, 0))) (n1 : R ≠ T) (n2 : R ≠ U) (n3 : T ≠ U) :
    (((X.setCell ⟨R, 0, none⟩ A).setCell ⟨T, 0, none⟩ B).setCell ⟨U, 0, none⟩ C).heap[R]? = some (.cells #[A] x (0, 0)) ∧ (((X.setCell ⟨R, 0, none⟩ A).setCell ⟨T, 0, none⟩ B).setCell ⟨U, 0, none⟩ C).heap[T]? = some (.cells #[B] y (0, 0)) ∧ (((X.setCell ⟨R, 0, none⟩ A).setCell ⟨T, 0, none⟩ B).setCell ⟨U, 0, none⟩ C).heap[U]? = some (.cells #[C] z (0, 0)) := by
  refine ⟨?_, ?_, ?_⟩
  · rw [set_other _ _ _ _ _ n2, set_other _ _ _ _ _ n1]; exact set_one h1 A
  · rw [set_other _ _ _ _ _ n3]
    exact set_one ((set_other _ _ _ _ _ n1.symm).trans h2) B
  · exact set_one ((set_other _ _ _ _ _ n3.symm).trans ((set_other _ _ _ _ _ n2.symm).trans h3)) C
theorem three_only (X : World) (R T U : Nat) (A B C : Value) : OnlyE (fun k => k = R ∨ k = T ∨ k = U) X (((X.setCell ⟨R, 0, none⟩ A).setCell ⟨T, 0, none⟩ B).setCell ⟨U, 0, none⟩ C) :=
  OnlyE.set (E := fun k => k = R ∨ k = T ∨ k = U) (OnlyE.set (E := fun k => k = R ∨ k = T ∨ k = U) (OnlyE.set (E := fun k => k = R ∨ k = T ∨ k = U) (OnlyE.refl _ _) (.inl rfl) _) (.inr (.inl rfl)) _) (.inr (.inr rfl)) _
set_option maxRecDepth 100000 in
set_option maxHeartbeats 6400000 in
theorem Starved_any (h : Hs) (a1 : Option Addr) (c1 : Nat) (a2 : Option Addr) (c2 : Nat) (z : Sz) (w : World) (hh : HsAt w h a1 c1 a2 c2) : Calls Try.prog 16 #[hsV h a1 c1 a2 c2, szV z] w (MixR w (starvedF h z)) := by
  obtain ⟨s0, s1, s2, s3⟩ := z
  have mt : h.tp.length ≤ 9223372036854775807 := hh.tp.1
  obtain ⟨W0, hW0⟩ : ∃ X, X = ((((w.alloc (.cells #[.int .i64 h.head, .int .i64 h.drip, .slice a1 h.tp.length c1, .slice a2 h.rl.length c2] 25)).alloc (.cells #[.int .i64 s0, .int .i64 s1, .int .i64 s2, .int .i64 s3] 27)).alloc (.cells #[.int .i64 0] 3)).alloc (.cells #[.bool false] 4)).alloc (.cells #[.int .i64 0] 32) := ⟨_, rfl⟩
  have hal : W0 = al w [(.cells #[.int .i64 h.head, .int .i64 h.drip, .slice a1 h.tp.length c1, .slice a2 h.rl.length c2] 25), (.cells #[.int .i64 s0, .int .i64 s1, .int .i64 s2, .int .i64 s3] 27), (.cells #[.int .i64 0] 3), (.cells #[.bool false] 4), (.cells #[.int .i64 0] 32)] := hW0
  have hb0 : Below w.heap.size w W0 := by rw [hal]; exact al_below w _ (Nat.le_refl _)
  have hs0 : W0.heap.size = w.heap.size + 5 := by rw [hal]; exact al_size w _
  have hr0 : W0.heap[w.heap.size]? = some (.cells #[.int .i64 h.head, .int .i64 h.drip, .slice a1 h.tp.length c1, .slice a2 h.rl.length c2] 25 (0, 0)) := by rw [hal]; exact al_get w _ 0 _ rfl
  have hr1 : W0.heap[w.heap.size + 1]? = some (.cells #[.int .i64 s0, .int .i64 s1, .int .i64 s2, .int .i64 s3] 27 (0, 0)) := by rw [hal]; exact al_get w _ 1 _ rfl
  have hr2 : W0.heap[w.heap.size + 1 + 1]? = some (.cells #[.int .i64 0] 3 (0, 0)) := by rw [hal]; exact al_get w _ 2 _ rfl
  have hr3 : W0.heap[w.heap.size + 1 + 1 + 1]? = some (.cells #[.bool false] 4 (0, 0)) := by rw [hal]; exact al_get w _ 3 _ rfl
  have hr4 : W0.heap[w.heap.size + 1 + 1 + 1 + 1]? = some (.cells #[.int .i64 0] 32 (0, 0)) := by rw [hal]; exact al_get w _ 4 _ rfl
  obtain ⟨P, hP0⟩ : ∃ x, w.heap.size = x := ⟨_, rfl⟩
  rw [hP0] at hr0 hr1 hr2 hr3 hr4 hs0
  obtain ⟨Q, hP1⟩ : ∃ x, P + 1 = x := ⟨_, rfl⟩
  rw [hP1] at hr1 hr2 hr3 hr4
  obtain ⟨R, hP2⟩ : ∃ x, Q + 1 = x := ⟨_, rfl⟩
  rw [hP2] at hr2 hr3 hr4
  obtain ⟨T, hP3⟩ : ∃ x, R + 1 = x := ⟨_, rfl⟩
  rw [hP3] at hr3 hr4
  obtain ⟨U, hP4⟩ : ∃ x, T + 1 = x := ⟨_, rfl⟩
  rw [hP4] at hr4
  clear hal
  rw [hP0] at hb0
  have HS := Lib.hid (show w.heap.size = P ∧ Q = P + 1 ∧ R = P + 2 ∧ T = P + 3 ∧ U = P + 4 ∧ W0.heap.size = P + 5 from ⟨by omega, by omega, by omega, by omega, by omega, by omega⟩)
  have HB := Lib.hid hb0
  have H0 := Lib.hid hr0
  have H1 := Lib.hid hr1
  have H2 := Lib.hid hr2
  have H3 := Lib.hid hr3
  have H4 := Lib.hid hr4
  have hh0 := hh.below (by rw [hP0]; exact hb0)
  have HROW := Lib.hid (tab_row hh.rl)
  obtain ⟨q, hq⟩ : ∃ x, W0.heap.size = x := ⟨_, rfl⟩
  obtain ⟨W1, hW1⟩ : ∃ X, W0.alloc (.cells #[.int .i64 s0, .int .i64 s1, .int .i64 s2, .int .i64 s3] 27) = X := ⟨_, rfl⟩
  have hb1 : Below W0.heap.size W0 W1 := by rw [← hW1]; exact (Below.refl _ _).alloc (Nat.le_refl _) _
  have hz1 : W1.heap.size = W0.heap.size + 1 := by rw [← hW1]; simp
  have hq1 : W1.heap[q]? = some (.cells #[.int .i64 s0, .int .i64 s1, .int .i64 s2, .int .i64 s3] 27 (0, 0)) := by rw [← hW1, ← hq]; exact alloc_heap W0 _
  have hh1 := hh0.below hb1
  have KE := Lib.hid (sizesError_any h a1 c1 a2 c2 [⟨s0, s1, s2, s3⟩] _ W1 hh1 (tab_one hq1))
  have HH1 := Lib.hid hh1
  have HB1 := Lib.hid (HB.out.trans (hb1.mono (by have := HS.out; omega)))
  have HS1 := Lib.hid (show w.heap.size = P ∧ Q = P + 1 ∧ R = P + 2 ∧ T = P + 3 ∧ U = P + 4 ∧ W1.heap.size = P + 6 by have := HS.out; omega)
  have SB1 := Lib.hid (SB.next (h := h) (a1 := a1) (c1 := c1) (a2 := a2) (c2 := c2) (s0 := s0) (s1 := s1) (s2 := s2) (s3 := s3) ⟨H0.out, H1.out, H2.out, H3.out, H4.out⟩ hb1)
  have h1 := starved_bad (h := h) (z := ⟨s0, s1, s2, s3⟩)
  have h2 := starved_none (h := h) (z := ⟨s0, s1, s2, s3⟩)
  have h3 := fun pre x => starved_some (h := h) (z := ⟨s0, s1, s2, s3⟩) (pre := pre) (x := x)
  have hz := err_one_sz (h := h) (z := ⟨s0, s1, s2, s3⟩)
  obtain ⟨RR, hRR⟩ : ∃ r, starvedF h ⟨s0, s1, s2, s3⟩ = r := ⟨_, rfl⟩
  obtain ⟨E, hE⟩ : ∃ r, errF h [⟨s0, s1, s2, s3⟩] = r := ⟨_, rfl⟩
  rw [hRR] at h1 h2 ⊢
  simp only [hRR, hE] at h3
  rw [hE] at h1 h2 hz KE
  have F1 := Lib.hid h1
  have F2 := Lib.hid h2
  have F3 := Lib.hid h3
  have FZ := Lib.hid hz
  obtain ⟨y0, y1, y2, y3⟩ := four_cells hr0
  obtain ⟨x0, x1, x2, x3⟩ := four_cells hr1
  clear hb0 hr0 hr1 hr2 hr3 hr4 hs0 hh hh0 hb1 hz1 hq1 hh1 h1 h2 h3 hRR hE hz HB HS H0 H1 H2 H3 H4
  unfold hsV szV at *
  simp only []
  by_cases he : E = 0
  · subst he
    have ⟨hok, hsane⟩ := FZ.out rfl
    refine (callsIn_wide (n := 9)).1 ?_
    refine callsIn_of_wp_marks Try.func16 rfl trivial ?_ rfl
    simp only [Try.ntmps16, List.size_toArray, List.length_cons, List.length_nil, Nat.reduceAdd, Nat.reduceSub, Array.replicate_succ, Array.replicate_zero, List.push_toArray, List.append_toArray, List.nil_append, List.cons_append]
    replace hW0 := hW0.symm
    gi_wp2
    clear hW0 hW1 hq hP0 hP1 hP2 hP3 hP4
    refine ⟨trivial, callsIn_wide.2 (KE.out.mono ?_)⟩
    rintro e w2 ⟨rfl, hb2⟩
    have sb2 := SB1.out.next hb2
    have hh2 := HH1.out.below hb2
    have HB2 := Lib.hid (HB1.out.trans (hb2.mono (by have := HS1.out; omega)))
    have hs2 : P + 6 ≤ w2.heap.size := by have := hb2.size; have := HS1.out; omega
    have KD := Lib.hid (demandOf_any h hok a1 c1 a2 c2 w2 hh2)
    unfold hsV at KD
    have SB2 := Lib.hid sb2
    clear hb2 y0 y1 y2 y3 x0 x1 x2 x3
    obtain ⟨y0, y1, y2, y3⟩ := four_cells sb2.p
    clear sb2
    gi_wp2
    refine ⟨trivial, callsIn_wide.2 (KD.out.mono ?_)⟩
    rintro e w3 ⟨M, rfl, hm3, hb3⟩
    have hd3 := dat_of hh2 hb3 hm3
    have sb3 := SB2.out.next hb3
    have HB3 := Lib.hid (HB2.out.trans (hb3.mono (by omega)))
    have hs3 : P + 6 ≤ w3.heap.size := by have := hb3.size; omega
    obtain ⟨V, hV⟩ : ∃ x, w3.heap.size = x := ⟨_, rfl⟩
    obtain ⟨W4, hW4⟩ : ∃ X, w3.alloc (.cells (setsCells h a1 c1 a2 c2 M) 72) = X := ⟨_, rfl⟩
    have hb4 : Below w3.heap.size w3 W4 := by rw [← hW4]; exact (Below.refl _ _).alloc (Nat.le_refl _) _
    have hz4 : W4.heap.size = V + 1 := by rw [← hW4, ← hV]; simp
    have hr4 : W4.heap[V]? = some (.cells (setsCells h a1 c1 a2 c2 M) 72 (0, 0)) := by rw [← hW4, ← hV]; exact alloc_heap w3 _
    have HD4 := Lib.hid (hd3.below hb4)
    have SB4 := Lib.hid (sb3.next hb4)
    have HB4 := Lib.hid (HB3.out.trans (hb4.mono (by omega)))
    have HR4 := Lib.hid hr4
    have HS4 := Lib.hid (show w.heap.size = P ∧ Q = P + 1 ∧ R = P + 2 ∧ T = P + 3 ∧ U = P + 4 ∧ P + 6 ≤ V ∧ W4.heap.size = V + 1 by have := HS1.out; omega)
    obtain ⟨v0, v1, v2, v3, v4⟩ := five_cells hr4
    unfold dV
    unfold setsCells at hW4 ⊢
    clear hb3 hm3 hd3 hh2 sb3 hb4 hr4 hz4 hs2 hs3 y0 y1 y2 y3 HS1
    gi_wp2
    clear hW4 hV
    refine ⟨trivial, callsIn_wide.2 ((sets_any h a1 c1 a2 c2 M W4).mono ?_)⟩
    rintro e W5 ⟨rfl, rfl⟩
    obtain ⟨B, hBs⟩ : ∃ x, W4.heap.size = x := ⟨_, rfl⟩
    obtain ⟨W5, hW5⟩ : ∃ X, W4.alloc (.cells (setsCells h a1 c1 a2 c2 M) 72) = X := ⟨_, rfl⟩
    have hb5 : Below W4.heap.size W4 W5 := by rw [← hW5]; exact (Below.refl _ _).alloc (Nat.le_refl _) _
    have hs5 : W5.heap.size = B + 1 := by rw [← hW5, ← hBs]; simp
    have hr5 : W5.heap[B]? = some (.cells (setsCells h a1 c1 a2 c2 M) 72 (0, 0)) := by rw [← hW5, ← hBs]; exact alloc_heap W4 _
    have hd5 := HD4.out.below hb5
    have HD5 := Lib.hid hd5
    have SB5 := Lib.hid (SB4.out.next hb5)
    have HV5 := Lib.hid (box_step (w0 := w) HR4.out hb5)
    have HB5 := Lib.hid (HB4.out.trans (hb5.mono (by have := HS4.out; omega)))
    have HS5 := Lib.hid (show w.heap.size = P ∧ Q = P + 1 ∧ R = P + 2 ∧ T = P + 3 ∧ U = P + 4 ∧ P + 6 ≤ V ∧ B = V + 1 ∧ W5.heap.size = V + 2 by have := HS4.out; omega)
    rw [hW5, hBs]
    have hSM : SMem B h a1 c1 a2 c2 M W5 := ⟨hr5, hd5.rl⟩
    have hpw := pow_table (few_taps hok).2
    have HPW := Lib.hid hpw
    have HSA := Lib.hid hsane
    clear hW5 hBs hb5 hs5 hd5 hpw hsane v0 v1 v2 v3 v4 HS4 hr5
    gi_wp2
    refine wpIn_rangeFunc_ownH rfl (by omega) (gf := 56) (lb := #[.pointer (some ⟨B, 0, none⟩)]) rfl trivial (enters_of Try.func56 (by kernel_rfl) rfl)
      (sets_stops 8 (by omega) B h hok a1 c1 a2 c2 M (fun k => k = R ∨ k = T ∨ k = U) (fun e => by have := HS5.out; omega) (fun hl b off e he => by have := HROW.out hl b off e; have := HS5.out; omega) W5 hSM)
      KeepE.trans (fun W l o o' _ hl hc _ => KeepE.of_grown (grownBy_putObj' W l o') (fun q e => by cases e; exact .inr (fun o2 h2 => by rw [hl] at h2; cases h2; exact hc))) (Below.refl _ _) (fun _ => rfl)
      (fun pre W => pre.length ≤ 2 ^ h.tp.length ∧ OnlyE (fun _ => False) W5 W ∧ ∀ x ∈ pre.map (clS (setsF h)), badF h ⟨s0, s1, s2, s3⟩ x = false)
      (fun cc pre W => cc = .ret ∧ OnlyE (fun k => k = R ∨ k = T ∨ k = U) W5 W ∧ ∃ pre0 x, pre = pre0 ++ [x] ∧ (∀ y ∈ pre0.map (clS (setsF h)), badF h ⟨s0, s1, s2, s3⟩ y = false) ∧ badF h ⟨s0, s1, s2, s3⟩ (clS (setsF h) x) = true ∧ W.heap[R]? = some (.cells #[.int .i64 (clS (setsF h) x : Nat)] 3 (0, 0)) ∧ W.heap[T]? = some (.cells #[.bool (findF h ⟨s0, s1, s2, s3⟩ (clS (setsF h) x)).2] 4 (0, 0)) ∧ W.heap[U]? = some (.cells #[.int .i64 0] 32 (0, 0)))
      (fun pre X Y row hs hg hr => ⟨hs.1, hs.2.1.far hg (fun q e => (hr q e).1), hs.2.2⟩)
      (fun cc pre X Y row hs hg hr => by
        obtain ⟨e1, e2, p0, x, e3, e4, e5, e6, e7, e8⟩ := hs
        exact ⟨e1, e2.far hg (fun q e => (hr q e).1), p0, x, e3, e4, e5, cells_kept e6 hg hr, cells_kept e7 hg hr, cells_kept e8 hg hr⟩)
      ⟨by simp, OnlyE.refl _ _, fun x hx => by cases hx⟩
      (fun x a' W => a' = { tmps := #[.agg #[.int .i64 h.head, .int .i64 h.drip, .slice a1 h.tp.length c1, .slice a2 h.rl.length c2], .agg #[.int .i64 s0, .int .i64 s1, .int .i64 s2, .int .i64 s3], .pointer (some ⟨P, 0, none⟩), .pointer (some ⟨Q, 0, none⟩), .pointer (some ⟨R, 0, none⟩), .pointer (some ⟨T, 0, none⟩), .pointer (some ⟨U, 0, none⟩), .int .i64 0, .pointer (some ⟨V, 0, none⟩), .int .i64 (clS (setsF h) x : Nat), undef, .agg #[.int .i64 h.head, .int .i64 h.drip, .slice a1 h.tp.length c1, .slice a2 h.rl.length c2], .agg #[.int .i64 s0, .int .i64 s1, .int .i64 s2, .int .i64 s3], .slice (some ⟨q, 0, none⟩) 1 1, .int .i64 0, .int .i64 0, .bool false, undef, .agg #[.int .i64 h.head, .int .i64 h.drip, .slice a1 h.tp.length c1, .slice a2 h.rl.length c2], .agg #[.int .i64 h.head, .int .i64 h.drip, .slice a1 h.tp.length c1, .slice a2 h.rl.length c2, .map (some M)], .agg #[.int .i64 h.head, .int .i64 h.drip, .slice a1 h.tp.length c1, .slice a2 h.rl.length c2, .map (some M)], .func (.func 56) #[] #[.pointer (some ⟨B, 0, none⟩)], .int .i64 (clS (setsF h) x : Nat), undef, undef, undef, undef, undef, undef, undef, undef, undef, undef], defers := [] })
      (fun x a' _ X Y row hs hg hr => hs)
      ?assign ?body ?done ?stop
    case assign =>
      rintro l2 pre x W K2 hI hK
      unfold encS
      gi_wp2
      exact hK _ _ (KeepsFrom.refl _ _) (KeepE.refl _ _) hI rfl
    case body =>
      rintro l2 pre x a' W hl ⟨rr, hrr⟩ ⟨i1, i2, i3⟩ rfl hlt2
      have hcm := clS_mem x (sets_ne hok)
      have hmp : (pre ++ [x]).map (clS (setsF h)) = pre.map (clS (setsF h)) ++ [clS (setsF h) x] := by simp
      obtain ⟨y, hy⟩ : ∃ y, clS (setsF h) x = y := ⟨_, rfl⟩
      rw [hy] at hcm hmp ⊢
      have hbW := i2.below (Nat.le_refl _) (fun k e => e.elim)
      have hdW := HD5.out.below hbW
      have sbW := SB5.out.next hbW
      have hvW := box_step (w0 := w) HV5.out hbW
      have KF := find_any h hok a1 c1 a2 c2 M ⟨s0, s1, s2, s3⟩ HSA.out y hcm W hdW
      obtain ⟨v0, v1, v2, v3, v4⟩ := five_cells hvW
      obtain ⟨z0, z1, z2, z3⟩ := four_cells sbW.q
      have hbad : badF h ⟨s0, s1, s2, s3⟩ y = decide (findF h ⟨s0, s1, s2, s3⟩ y ≠ (false, false)) := rfl
      obtain ⟨⟨f1, f2⟩, hf⟩ : ∃ f, findF h ⟨s0, s1, s2, s3⟩ y = f := ⟨_, rfl⟩
      rw [hf] at KF hbad
      simp only [fiV] at KF
      unfold dV setsCells szV at KF
      simp only [] at KF
      have KFF := Lib.hid KF
      have HBAD := Lib.hid hbad
      have HFD := Lib.hid hf
      have HYY := Lib.hid hy
      have HI2 := Lib.hid i2
      have HI3 := Lib.hid i3
      have HMP := Lib.hid hmp
      have HSB := Lib.hid sbW
      have hWs : V + 2 ≤ W.heap.size := by have := i2.size; have := HS5.out; omega
      clear KF hbad hf i2 i3 hmp hcm hbW hdW sbW hvW hy
      gi_wp2
      refine ⟨trivial, CallsIn.inRound _ (callsIn_wide.2 (KFF.out.mono ?_))⟩
      rintro e W6 ⟨rfl, hb6⟩
      clear v0 v1 v2 v3 v4 z0 z1 z2 z3
      obtain ⟨F, hF⟩ : ∃ x, W6.heap.size = x := ⟨_, rfl⟩
      obtain ⟨W7, hW7⟩ : ∃ X, W6.alloc (.cells #[.bool f1, .bool f2] 85) = X := ⟨_, rfl⟩
      have hb7 : Below W6.heap.size W6 W7 := by rw [← hW7]; exact (Below.refl _ _).alloc (Nat.le_refl _) _
      have hf7 : W7.heap[F]? = some (.cells #[.bool f1, .bool f2] 85 (0, 0)) := by rw [← hW7, ← hF]; exact alloc_heap W6 _
      have hb67 := hb6.trans (hb7.mono hb6.size)
      have HO7 := Lib.hid (show OnlyE (fun _ => False) W W7 from .of_below hb67)
      have SB7 := Lib.hid (HSB.out.next hb67)
      have HF7 := Lib.hid hf7
      have hFs : V + 2 ≤ F := by have := hb6.size; omega
      obtain ⟨g0, g1⟩ := two_cells hf7
      clear hb6 hb7 hf7 hb67
      by_cases hg : f1 = false ∧ f2 = false
      · obtain ⟨rfl, rfl⟩ := hg
        have HB := Lib.hid (show badF h ⟨s0, s1, s2, s3⟩ y = false by rw [HBAD.out]; rfl)
        subst hW7
        gi_wp2
        exact ⟨HO7.out.from (by intro k hk; exact hk.elim), ⟨HO7.out.size, fun k o _ ho hc => HO7.out.keep.same k o (fun e => e) ho hc⟩, by simp; omega, HI2.out.trans HO7.out, fun z hz => by
          rw [HMP.out] at hz
          rcases List.mem_append.1 hz with hz | hz
          · exact HI3.out z hz
          · simp at hz; rw [hz]; exact HB.out⟩
      · have HB := Lib.hid (show badF h ⟨s0, s1, s2, s3⟩ y = true by
          rw [HBAD.out]
          simp only [ne_eq, Prod.mk.injEq, decide_eq_true_eq]
          exact hg)
        have hne : (f1 = true ∧ f2 = false) ∨ (f1 = false ∧ f2 = true) ∨ (f1 = true ∧ f2 = true) := by
          cases f1 <;> cases f2 <;> simp at hg ⊢
        clear hg
        rcases hne with ⟨rfl, rfl⟩ | ⟨rfl, rfl⟩ | ⟨rfl, rfl⟩
        · subst hW7
          gi_wp2
          refine wpIn_region_held_round (fun w' => w'.heap[F]? = some (.cells #[.bool true, .bool false] 85 (0, 0)) ∧ (∃ u, w'.heap[R]? = some (.cells #[u] 3 (0, 0))) ∧ (∃ u, w'.heap[T]? = some (.cells #[u] 4 (0, 0))) ∧ (∃ u, w'.heap[U]? = some (.cells #[u] 32 (0, 0)))) (by kernel_rfl) (by kernel_rfl) ?_ ⟨HF7.out, ⟨_, SB7.out.r⟩, ⟨_, SB7.out.t⟩, ⟨_, SB7.out.u⟩⟩ (fun hHeld => ?_)
          · rintro ⟨_, _, h⟩; exact h
          obtain ⟨Y0, hY0⟩ : ∃ X, X = (W6.alloc (.cells #[.bool true, .bool false] 85)).drew := ⟨_, rfl⟩
          have hb0' : OnlyE (fun k => k = R ∨ k = T ∨ k = U) W Y0 := by rw [hY0]; exact (OnlyE.trans ⟨HO7.out.os, HO7.out.tape, HO7.out.output, HO7.out.size, fun k hk _ => HO7.out.block k hk (fun e => e)⟩ (OnlyE.refl _ _)).drew
          have hr0 : Y0.heap[R]? = some (.cells #[.int .i64 0] 3 (0, 0)) := by rw [hY0]; exact SB7.out.r
          have ht0 : Y0.heap[T]? = some (.cells #[.bool false] 4 (0, 0)) := by rw [hY0]; exact SB7.out.t
          have hu0 : Y0.heap[U]? = some (.cells #[.int .i64 0] 32 (0, 0)) := by rw [hY0]; exact SB7.out.u
          rw [← hY0] at hHeld ⊢
          have hH := Lib.hid hHeld
          have HB0 := Lib.hid hb0'
          clear hY0 hHeld hb0'
          refine wpAnyH_take (i := 0) (oi := _) (v := ?_) rfl (by kernel_rfl) (by kernel_rfl) (by kernel_rfl) (fun _ _ _ h => h) (Or.inl ⟨by rfl, ?_⟩) hH.out ?_
          rotate_left
          · intro w1 hSw
            obtain ⟨e1, ⟨e2, e2'⟩, ⟨e3, e3'⟩, ⟨e4, e4'⟩⟩ := hSw
            obtain ⟨d0, d1⟩ := two_cells e1
            clear e2' e3' e4' e1
            go_simp; with_reducible rfl
          simp only [List.getElem_toArray, List.getElem_cons_succ, List.getElem_cons_zero, Act.put, List.setIfInBounds_toArray, List.set_cons_zero, List.set_cons_succ]
          refine wpAnyH_take (i := 1) (oi := _) (v := ?_) rfl (by kernel_rfl) (by kernel_rfl) (by kernel_rfl) (fun _ _ _ h => h) (Or.inl ⟨by rfl, ?_⟩) hH.out ?_
          rotate_left
          · intro w1 hSw
            obtain ⟨e1, ⟨e2, e2'⟩, ⟨e3, e3'⟩, ⟨e4, e4'⟩⟩ := hSw
            obtain ⟨d0, d1⟩ := two_cells e1
            clear e2' e3' e4' e1
            go_simp; with_reducible rfl
          simp only [List.getElem_toArray, List.getElem_cons_succ, List.getElem_cons_zero, Act.put, List.setIfInBounds_toArray, List.set_cons_zero, List.set_cons_succ]
          refine wpAnyH_take (i := 2) (oi := _) (v := ?_) rfl (by kernel_rfl) (by kernel_rfl) (by kernel_rfl) (fun _ _ _ h => h) (Or.inl ⟨by rfl, ?_⟩) hH.out ?_
          rotate_left
          · intro w1 hSw
            obtain ⟨e1, ⟨e2, e2'⟩, ⟨e3, e3'⟩, ⟨e4, e4'⟩⟩ := hSw
            obtain ⟨d0, d1⟩ := two_cells e1
            clear e2' e3' e4' e1
            go_simp; with_reducible rfl
          simp only [List.getElem_toArray, List.getElem_cons_succ, List.getElem_cons_zero, Act.put, List.setIfInBounds_toArray, List.set_cons_zero, List.set_cons_succ]
          have fR : Y0.frozen? ⟨R, 0, none⟩ = false := frozen_of hr0
          have cR := one_cell hr0
          have hRT : R ≠ T := by have := HS5.out; omega
          have hRU : R ≠ U := by have := HS5.out; omega
          have hTU : T ≠ U := by have := HS5.out; omega
          have hFR : F ≠ R := by have := HS5.out; omega
          have hFT : F ≠ T := by have := HS5.out; omega
          have hFU : F ≠ U := by have := HS5.out; omega
          have hr1 := set_one hr0 (.int .i64 (y : Nat))
          have ht1 := (set_other Y0 R 0 T (.int .i64 (y : Nat)) hRT.symm).trans ht0
          have hu1 := (set_other Y0 R 0 U (.int .i64 (y : Nat)) hRU.symm).trans hu0
          have hx1 := (set_other Y0 R 0 F (.int .i64 (y : Nat)) hFR).trans hH.out.1
          have fT : (Y0.setCell ⟨R, 0, none⟩ (.int .i64 (y : Nat))).frozen? ⟨T, 0, none⟩ = false := frozen_of ht1
          have cT := one_cell ht1
          have hr2 := (set_other _ T 0 R (.bool false) hRT).trans hr1
          have ht2 := set_one ht1 (.bool false)
          have hu2 := (set_other _ T 0 U (.bool false) hTU.symm).trans hu1
          have hx2 := (set_other _ T 0 F (.bool false) hFT).trans hx1
          have fU : ((Y0.setCell ⟨R, 0, none⟩ (.int .i64 (y : Nat))).setCell ⟨T, 0, none⟩ (.bool false)).frozen? ⟨U, 0, none⟩ = false := frozen_of hu2
          have cU := one_cell hu2
          have h3 := set_three (A := .int .i64 (y : Nat)) (B := .bool false) (C := .int .i64 0) hr0 ht0 hu0 hRT hRU hTU
          have ho3 := HB0.out.trans (three_only Y0 R T U (.int .i64 (y : Nat)) (.bool false) (.int .i64 0))
          have hx3 := (set_other _ U 0 F (.int .i64 0) hFU).trans hx2
          have HH1 := Lib.hid (And.intro hx1 (And.intro hr1 (And.intro ht1 hu1)))
          have HH2 := Lib.hid (And.intro hx2 (And.intro hr2 (And.intro ht2 hu2)))
          have HH3 := Lib.hid (And.intro hx3 (And.intro h3.1 (And.intro h3.2.1 h3.2.2)))
          have H3' := Lib.hid h3
          have HO3 := Lib.hid ho3
          clear hr0 ht0 hu0 hr1 ht1 hu1 hx1 hr2 ht2 hu2 hx2 h3 ho3 hx3
          refine wpAnyH_all (rs := [3]) (by kernel_rfl) (by simp) ?_
          intro i hi; obtain rfl := List.mem_singleton.1 hi; clear hi
          refine wpOp_step rfl (fun K3 hK3 => ?_)
          have HK3 := Lib.hid hK3
          clear hK3
          rw [if_pos (by rfl)]
          go_simp
          refine HK3.out _ _ ⟨⟨HH1.out.1, ⟨_, HH1.out.2.1⟩, ⟨_, HH1.out.2.2.1⟩, ⟨_, HH1.out.2.2.2⟩⟩, ?_⟩
          clear HK3 K3
          try simp only [List.getElem_toArray, List.getElem_cons_succ, List.getElem_cons_zero, Act.put, List.setIfInBounds_toArray, List.set_cons_zero, List.set_cons_succ]
          refine wpAnyH_all (rs := [4]) (by kernel_rfl) (by simp) ?_
          intro i hi; obtain rfl := List.mem_singleton.1 hi; clear hi
          refine wpOp_step rfl (fun K3 hK3 => ?_)
          have HK3 := Lib.hid hK3
          clear hK3
          rw [if_pos (by rfl)]
          go_simp
          refine HK3.out _ _ ⟨⟨HH2.out.1, ⟨_, HH2.out.2.1⟩, ⟨_, HH2.out.2.2.1⟩, ⟨_, HH2.out.2.2.2⟩⟩, ?_⟩
          clear HK3 K3
          try simp only [List.getElem_toArray, List.getElem_cons_succ, List.getElem_cons_zero, Act.put, List.setIfInBounds_toArray, List.set_cons_zero, List.set_cons_succ]
          refine wpAnyH_all (rs := [5]) (by kernel_rfl) (by simp) ?_
          intro i hi; obtain rfl := List.mem_singleton.1 hi; clear hi
          refine wpOp_step rfl (fun K3 hK3 => ?_)
          have HK3 := Lib.hid hK3
          clear hK3
          rw [if_pos (by rfl)]
          go_simp
          refine HK3.out _ _ ⟨⟨HH3.out.1, ⟨_, HH3.out.2.1⟩, ⟨_, HH3.out.2.2.1⟩, ⟨_, HH3.out.2.2.2⟩⟩, ?_⟩
          clear HK3 K3
          try simp only [List.getElem_toArray, List.getElem_cons_succ, List.getElem_cons_zero, Act.put, List.setIfInBounds_toArray, List.set_cons_zero, List.set_cons_succ]
          refine wpAnyH_done (by kernel_rfl) ?_ _
          clear fR cR fT cT fU cU
          gi_wp2
          have hfx : (findF h ⟨s0, s1, s2, s3⟩ y).2 = false := by rw [HFD.out]
          exact ⟨HO3.out.from (by intro k hk; have := HS5.out; omega), rfl, OnlyE.trans ⟨HI2.out.os, HI2.out.tape, HI2.out.output, HI2.out.size, fun k hk _ => HI2.out.block k hk (fun e => e)⟩ HO3.out, pre, x, rfl, HI3.out, by rw [HYY.out]; exact HB.out, by rw [HYY.out]; exact H3'.out.1, by rw [HYY.out, hfx]; exact H3'.out.2.1, H3'.out.2.2⟩
        · subst hW7
          gi_wp2
          refine wpIn_region_held_round (fun w' => w'.heap[F]? = some (.cells #[.bool false, .bool true] 85 (0, 0)) ∧ (∃ u, w'.heap[R]? = some (.cells #[u] 3 (0, 0))) ∧ (∃ u, w'.heap[T]? = some (.cells #[u] 4 (0, 0))) ∧ (∃ u, w'.heap[U]? = some (.cells #[u] 32 (0, 0)))) (by kernel_rfl) (by kernel_rfl) ?_ ⟨HF7.out, ⟨_, SB7.out.r⟩, ⟨_, SB7.out.t⟩, ⟨_, SB7.out.u⟩⟩ (fun hHeld => ?_)
          · rintro ⟨_, _, h⟩; exact h
          obtain ⟨Y0, hY0⟩ : ∃ X, X = (W6.alloc (.cells #[.bool false, .bool true] 85)).drew := ⟨_, rfl⟩
          have hb0' : OnlyE (fun k => k = R ∨ k = T ∨ k = U) W Y0 := by rw [hY0]; exact (OnlyE.trans ⟨HO7.out.os, HO7.out.tape, HO7.out.output, HO7.out.size, fun k hk _ => HO7.out.block k hk (fun e => e)⟩ (OnlyE.refl _ _)).drew
          have hr0 : Y0.heap[R]? = some (.cells #[.int .i64 0] 3 (0, 0)) := by rw [hY0]; exact SB7.out.r
          have ht0 : Y0.heap[T]? = some (.cells #[.bool false] 4 (0, 0)) := by rw [hY0]; exact SB7.out.t
          have hu0 : Y0.heap[U]? = some (.cells #[.int .i64 0] 32 (0, 0)) := by rw [hY0]; exact SB7.out.u
          rw [← hY0] at hHeld ⊢
          have hH := Lib.hid hHeld
          have HB0 := Lib.hid hb0'
          clear hY0 hHeld hb0'
          refine wpAnyH_take (i := 0) (oi := _) (v := ?_) rfl (by kernel_rfl) (by kernel_rfl) (by kernel_rfl) (fun _ _ _ h => h) (Or.inl ⟨by rfl, ?_⟩) hH.out ?_
          rotate_left
          · intro w1 hSw
            obtain ⟨e1, ⟨e2, e2'⟩, ⟨e3, e3'⟩, ⟨e4, e4'⟩⟩ := hSw
            obtain ⟨d0, d1⟩ := two_cells e1
            clear e2' e3' e4' e1
            go_simp; with_reducible rfl
          simp only [List.getElem_toArray, List.getElem_cons_succ, List.getElem_cons_zero, Act.put, List.setIfInBounds_toArray, List.set_cons_zero, List.set_cons_succ]
          refine wpAnyH_take (i := 1) (oi := _) (v := ?_) rfl (by kernel_rfl) (by kernel_rfl) (by kernel_rfl) (fun _ _ _ h => h) (Or.inl ⟨by rfl, ?_⟩) hH.out ?_
          rotate_left
          · intro w1 hSw
            obtain ⟨e1, ⟨e2, e2'⟩, ⟨e3, e3'⟩, ⟨e4, e4'⟩⟩ := hSw
            obtain ⟨d0, d1⟩ := two_cells e1
            clear e2' e3' e4' e1
            go_simp; with_reducible rfl
          simp only [List.getElem_toArray, List.getElem_cons_succ, List.getElem_cons_zero, Act.put, List.setIfInBounds_toArray, List.set_cons_zero, List.set_cons_succ]
          refine wpAnyH_take (i := 2) (oi := _) (v := ?_) rfl (by kernel_rfl) (by kernel_rfl) (by kernel_rfl) (fun _ _ _ h => h) (Or.inl ⟨by rfl, ?_⟩) hH.out ?_
          rotate_left
          · intro w1 hSw
            obtain ⟨e1, ⟨e2, e2'⟩, ⟨e3, e3'⟩, ⟨e4, e4'⟩⟩ := hSw
            obtain ⟨d0, d1⟩ := two_cells e1
            clear e2' e3' e4' e1
            go_simp; with_reducible rfl
          simp only [List.getElem_toArray, List.getElem_cons_succ, List.getElem_cons_zero, Act.put, List.setIfInBounds_toArray, List.set_cons_zero, List.set_cons_succ]
          have fR : Y0.frozen? ⟨R, 0, none⟩ = false := frozen_of hr0
          have cR := one_cell hr0
          have hRT : R ≠ T := by have := HS5.out; omega
          have hRU : R ≠ U := by have := HS5.out; omega
          have hTU : T ≠ U := by have := HS5.out; omega
          have hFR : F ≠ R := by have := HS5.out; omega
          have hFT : F ≠ T := by have := HS5.out; omega
          have hFU : F ≠ U := by have := HS5.out; omega
          have hr1 := set_one hr0 (.int .i64 (y : Nat))
          have ht1 := (set_other Y0 R 0 T (.int .i64 (y : Nat)) hRT.symm).trans ht0
          have hu1 := (set_other Y0 R 0 U (.int .i64 (y : Nat)) hRU.symm).trans hu0
          have hx1 := (set_other Y0 R 0 F (.int .i64 (y : Nat)) hFR).trans hH.out.1
          have fT : (Y0.setCell ⟨R, 0, none⟩ (.int .i64 (y : Nat))).frozen? ⟨T, 0, none⟩ = false := frozen_of ht1
          have cT := one_cell ht1
          have hr2 := (set_other _ T 0 R (.bool true) hRT).trans hr1
          have ht2 := set_one ht1 (.bool true)
          have hu2 := (set_other _ T 0 U (.bool true) hTU.symm).trans hu1
          have hx2 := (set_other _ T 0 F (.bool true) hFT).trans hx1
          have fU : ((Y0.setCell ⟨R, 0, none⟩ (.int .i64 (y : Nat))).setCell ⟨T, 0, none⟩ (.bool true)).frozen? ⟨U, 0, none⟩ = false := frozen_of hu2
          have cU := one_cell hu2
          have h3 := set_three (A := .int .i64 (y : Nat)) (B := .bool true) (C := .int .i64 0) hr0 ht0 hu0 hRT hRU hTU
          have ho3 := HB0.out.trans (three_only Y0 R T U (.int .i64 (y : Nat)) (.bool true) (.int .i64 0))
          have hx3 := (set_other _ U 0 F (.int .i64 0) hFU).trans hx2
          have HH1 := Lib.hid (And.intro hx1 (And.intro hr1 (And.intro ht1 hu1)))
          have HH2 := Lib.hid (And.intro hx2 (And.intro hr2 (And.intro ht2 hu2)))
          have HH3 := Lib.hid (And.intro hx3 (And.intro h3.1 (And.intro h3.2.1 h3.2.2)))
          have H3' := Lib.hid h3
          have HO3 := Lib.hid ho3
          clear hr0 ht0 hu0 hr1 ht1 hu1 hx1 hr2 ht2 hu2 hx2 h3 ho3 hx3
          refine wpAnyH_all (rs := [3]) (by kernel_rfl) (by simp) ?_
          intro i hi; obtain rfl := List.mem_singleton.1 hi; clear hi
          refine wpOp_step rfl (fun K3 hK3 => ?_)
          have HK3 := Lib.hid hK3
          clear hK3
          rw [if_pos (by rfl)]
          go_simp
          refine HK3.out _ _ ⟨⟨HH1.out.1, ⟨_, HH1.out.2.1⟩, ⟨_, HH1.out.2.2.1⟩, ⟨_, HH1.out.2.2.2⟩⟩, ?_⟩
          clear HK3 K3
          try simp only [List.getElem_toArray, List.getElem_cons_succ, List.getElem_cons_zero, Act.put, List.setIfInBounds_toArray, List.set_cons_zero, List.set_cons_succ]
          refine wpAnyH_all (rs := [4]) (by kernel_rfl) (by simp) ?_
          intro i hi; obtain rfl := List.mem_singleton.1 hi; clear hi
          refine wpOp_step rfl (fun K3 hK3 => ?_)
          have HK3 := Lib.hid hK3
          clear hK3
          rw [if_pos (by rfl)]
          go_simp
          refine HK3.out _ _ ⟨⟨HH2.out.1, ⟨_, HH2.out.2.1⟩, ⟨_, HH2.out.2.2.1⟩, ⟨_, HH2.out.2.2.2⟩⟩, ?_⟩
          clear HK3 K3
          try simp only [List.getElem_toArray, List.getElem_cons_succ, List.getElem_cons_zero, Act.put, List.setIfInBounds_toArray, List.set_cons_zero, List.set_cons_succ]
          refine wpAnyH_all (rs := [5]) (by kernel_rfl) (by simp) ?_
          intro i hi; obtain rfl := List.mem_singleton.1 hi; clear hi
          refine wpOp_step rfl (fun K3 hK3 => ?_)
          have HK3 := Lib.hid hK3
          clear hK3
          rw [if_pos (by rfl)]
          go_simp
          refine HK3.out _ _ ⟨⟨HH3.out.1, ⟨_, HH3.out.2.1⟩, ⟨_, HH3.out.2.2.1⟩, ⟨_, HH3.out.2.2.2⟩⟩, ?_⟩
          clear HK3 K3
          try simp only [List.getElem_toArray, List.getElem_cons_succ, List.getElem_cons_zero, Act.put, List.setIfInBounds_toArray, List.set_cons_zero, List.set_cons_succ]
          refine wpAnyH_done (by kernel_rfl) ?_ _
          clear fR cR fT cT fU cU
          gi_wp2
          have hfx : (findF h ⟨s0, s1, s2, s3⟩ y).2 = true := by rw [HFD.out]
          exact ⟨HO3.out.from (by intro k hk; have := HS5.out; omega), rfl, OnlyE.trans ⟨HI2.out.os, HI2.out.tape, HI2.out.output, HI2.out.size, fun k hk _ => HI2.out.block k hk (fun e => e)⟩ HO3.out, pre, x, rfl, HI3.out, by rw [HYY.out]; exact HB.out, by rw [HYY.out]; exact H3'.out.1, by rw [HYY.out, hfx]; exact H3'.out.2.1, H3'.out.2.2⟩
        · subst hW7
          gi_wp2
          refine wpIn_region_held_round (fun w' => w'.heap[F]? = some (.cells #[.bool true, .bool true] 85 (0, 0)) ∧ (∃ u, w'.heap[R]? = some (.cells #[u] 3 (0, 0))) ∧ (∃ u, w'.heap[T]? = some (.cells #[u] 4 (0, 0))) ∧ (∃ u, w'.heap[U]? = some (.cells #[u] 32 (0, 0)))) (by kernel_rfl) (by kernel_rfl) ?_ ⟨HF7.out, ⟨_, SB7.out.r⟩, ⟨_, SB7.out.t⟩, ⟨_, SB7.out.u⟩⟩ (fun hHeld => ?_)
          · rintro ⟨_, _, h⟩; exact h
          obtain ⟨Y0, hY0⟩ : ∃ X, X = (W6.alloc (.cells #[.bool true, .bool true] 85)).drew := ⟨_, rfl⟩
          have hb0' : OnlyE (fun k => k = R ∨ k = T ∨ k = U) W Y0 := by rw [hY0]; exact (OnlyE.trans ⟨HO7.out.os, HO7.out.tape, HO7.out.output, HO7.out.size, fun k hk _ => HO7.out.block k hk (fun e => e)⟩ (OnlyE.refl _ _)).drew
          have hr0 : Y0.heap[R]? = some (.cells #[.int .i64 0] 3 (0, 0)) := by rw [hY0]; exact SB7.out.r
          have ht0 : Y0.heap[T]? = some (.cells #[.bool false] 4 (0, 0)) := by rw [hY0]; exact SB7.out.t
          have hu0 : Y0.heap[U]? = some (.cells #[.int .i64 0] 32 (0, 0)) := by rw [hY0]; exact SB7.out.u
          rw [← hY0] at hHeld ⊢
          have hH := Lib.hid hHeld
          have HB0 := Lib.hid hb0'
          clear hY0 hHeld hb0'
          refine wpAnyH_take (i := 0) (oi := _) (v := ?_) rfl (by kernel_rfl) (by kernel_rfl) (by kernel_rfl) (fun _ _ _ h => h) (Or.inl ⟨by rfl, ?_⟩) hH.out ?_
          rotate_left
          · intro w1 hSw
            obtain ⟨e1, ⟨e2, e2'⟩, ⟨e3, e3'⟩, ⟨e4, e4'⟩⟩ := hSw
            obtain ⟨d0, d1⟩ := two_cells e1
            clear e2' e3' e4' e1
            go_simp; with_reducible rfl
          simp only [List.getElem_toArray, List.getElem_cons_succ, List.getElem_cons_zero, Act.put, List.setIfInBounds_toArray, List.set_cons_zero, List.set_cons_succ]
          refine wpAnyH_take (i := 1) (oi := _) (v := ?_) rfl (by kernel_rfl) (by kernel_rfl) (by kernel_rfl) (fun _ _ _ h => h) (Or.inl ⟨by rfl, ?_⟩) hH.out ?_
          rotate_left
          · intro w1 hSw
            obtain ⟨e1, ⟨e2, e2'⟩, ⟨e3, e3'⟩, ⟨e4, e4'⟩⟩ := hSw
            obtain ⟨d0, d1⟩ := two_cells e1
            clear e2' e3' e4' e1
            go_simp; with_reducible rfl
          simp only [List.getElem_toArray, List.getElem_cons_succ, List.getElem_cons_zero, Act.put, List.setIfInBounds_toArray, List.set_cons_zero, List.set_cons_succ]
          refine wpAnyH_take (i := 2) (oi := _) (v := ?_) rfl (by kernel_rfl) (by kernel_rfl) (by kernel_rfl) (fun _ _ _ h => h) (Or.inl ⟨by rfl, ?_⟩) hH.out ?_
          rotate_left
          · intro w1 hSw
            obtain ⟨e1, ⟨e2, e2'⟩, ⟨e3, e3'⟩, ⟨e4, e4'⟩⟩ := hSw
            obtain ⟨d0, d1⟩ := two_cells e1
            clear e2' e3' e4' e1
            go_simp; with_reducible rfl
          simp only [List.getElem_toArray, List.getElem_cons_succ, List.getElem_cons_zero, Act.put, List.setIfInBounds_toArray, List.set_cons_zero, List.set_cons_succ]
          have fR : Y0.frozen? ⟨R, 0, none⟩ = false := frozen_of hr0
          have cR := one_cell hr0
          have hRT : R ≠ T := by have := HS5.out; omega
          have hRU : R ≠ U := by have := HS5.out; omega
          have hTU : T ≠ U := by have := HS5.out; omega
          have hFR : F ≠ R := by have := HS5.out; omega
          have hFT : F ≠ T := by have := HS5.out; omega
          have hFU : F ≠ U := by have := HS5.out; omega
          have hr1 := set_one hr0 (.int .i64 (y : Nat))
          have ht1 := (set_other Y0 R 0 T (.int .i64 (y : Nat)) hRT.symm).trans ht0
          have hu1 := (set_other Y0 R 0 U (.int .i64 (y : Nat)) hRU.symm).trans hu0
          have hx1 := (set_other Y0 R 0 F (.int .i64 (y : Nat)) hFR).trans hH.out.1
          have fT : (Y0.setCell ⟨R, 0, none⟩ (.int .i64 (y : Nat))).frozen? ⟨T, 0, none⟩ = false := frozen_of ht1
          have cT := one_cell ht1
          have hr2 := (set_other _ T 0 R (.bool true) hRT).trans hr1
          have ht2 := set_one ht1 (.bool true)
          have hu2 := (set_other _ T 0 U (.bool true) hTU.symm).trans hu1
          have hx2 := (set_other _ T 0 F (.bool true) hFT).trans hx1
          have fU : ((Y0.setCell ⟨R, 0, none⟩ (.int .i64 (y : Nat))).setCell ⟨T, 0, none⟩ (.bool true)).frozen? ⟨U, 0, none⟩ = false := frozen_of hu2
          have cU := one_cell hu2
          have h3 := set_three (A := .int .i64 (y : Nat)) (B := .bool true) (C := .int .i64 0) hr0 ht0 hu0 hRT hRU hTU
          have ho3 := HB0.out.trans (three_only Y0 R T U (.int .i64 (y : Nat)) (.bool true) (.int .i64 0))
          have hx3 := (set_other _ U 0 F (.int .i64 0) hFU).trans hx2
          have HH1 := Lib.hid (And.intro hx1 (And.intro hr1 (And.intro ht1 hu1)))
          have HH2 := Lib.hid (And.intro hx2 (And.intro hr2 (And.intro ht2 hu2)))
          have HH3 := Lib.hid (And.intro hx3 (And.intro h3.1 (And.intro h3.2.1 h3.2.2)))
          have H3' := Lib.hid h3
          have HO3 := Lib.hid ho3
          clear hr0 ht0 hu0 hr1 ht1 hu1 hx1 hr2 ht2 hu2 hx2 h3 ho3 hx3
          refine wpAnyH_all (rs := [3]) (by kernel_rfl) (by simp) ?_
          intro i hi; obtain rfl := List.mem_singleton.1 hi; clear hi
          refine wpOp_step rfl (fun K3 hK3 => ?_)
          have HK3 := Lib.hid hK3
          clear hK3
          rw [if_pos (by rfl)]
          go_simp
          refine HK3.out _ _ ⟨⟨HH1.out.1, ⟨_, HH1.out.2.1⟩, ⟨_, HH1.out.2.2.1⟩, ⟨_, HH1.out.2.2.2⟩⟩, ?_⟩
          clear HK3 K3
          try simp only [List.getElem_toArray, List.getElem_cons_succ, List.getElem_cons_zero, Act.put, List.setIfInBounds_toArray, List.set_cons_zero, List.set_cons_succ]
          refine wpAnyH_all (rs := [4]) (by kernel_rfl) (by simp) ?_
          intro i hi; obtain rfl := List.mem_singleton.1 hi; clear hi
          refine wpOp_step rfl (fun K3 hK3 => ?_)
          have HK3 := Lib.hid hK3
          clear hK3
          rw [if_pos (by rfl)]
          go_simp
          refine HK3.out _ _ ⟨⟨HH2.out.1, ⟨_, HH2.out.2.1⟩, ⟨_, HH2.out.2.2.1⟩, ⟨_, HH2.out.2.2.2⟩⟩, ?_⟩
          clear HK3 K3
          try simp only [List.getElem_toArray, List.getElem_cons_succ, List.getElem_cons_zero, Act.put, List.setIfInBounds_toArray, List.set_cons_zero, List.set_cons_succ]
          refine wpAnyH_all (rs := [5]) (by kernel_rfl) (by simp) ?_
          intro i hi; obtain rfl := List.mem_singleton.1 hi; clear hi
          refine wpOp_step rfl (fun K3 hK3 => ?_)
          have HK3 := Lib.hid hK3
          clear hK3
          rw [if_pos (by rfl)]
          go_simp
          refine HK3.out _ _ ⟨⟨HH3.out.1, ⟨_, HH3.out.2.1⟩, ⟨_, HH3.out.2.2.1⟩, ⟨_, HH3.out.2.2.2⟩⟩, ?_⟩
          clear HK3 K3
          try simp only [List.getElem_toArray, List.getElem_cons_succ, List.getElem_cons_zero, Act.put, List.setIfInBounds_toArray, List.set_cons_zero, List.set_cons_succ]
          refine wpAnyH_done (by kernel_rfl) ?_ _
          clear fR cR fT cT fU cU
          gi_wp2
          have hfx : (findF h ⟨s0, s1, s2, s3⟩ y).2 = true := by rw [HFD.out]
          exact ⟨HO3.out.from (by intro k hk; have := HS5.out; omega), rfl, OnlyE.trans ⟨HI2.out.os, HI2.out.tape, HI2.out.output, HI2.out.size, fun k hk _ => HI2.out.block k hk (fun e => e)⟩ HO3.out, pre, x, rfl, HI3.out, by rw [HYY.out]; exact HB.out, by rw [HYY.out]; exact H3'.out.1, by rw [HYY.out, hfx]; exact H3'.out.2.1, H3'.out.2.2⟩
    case done =>
      rintro D xs W hD rfl ⟨i1, i2, i3⟩ hK
      rw [clS_map] at i3
      have hrr := F2.out (by simp) i3
      have sbW := SB5.out.next (i2.below (Nat.le_refl _) (fun k e => e.elim))
      have hDl := (Array.getElem?_eq_some_iff.1 hK).1
      have hRT : R ≠ T := by have := HS5.out; omega
      have hRU : R ≠ U := by have := HS5.out; omega
      have hTU : T ≠ U := by have := HS5.out; omega
      have hDR : D ≠ R := by have := HS5.out; omega
      have hDT : D ≠ T := by have := HS5.out; omega
      have hDU : D ≠ U := by have := HS5.out; omega
      have cR := one_cell sbW.r
      have cT := one_cell sbW.t
      have cU := one_cell sbW.u
      have fR : W.frozen? ⟨R, 0, none⟩ = false := frozen_of sbW.r
      have fT : W.frozen? ⟨T, 0, none⟩ = false := frozen_of sbW.t
      have fU : W.frozen? ⟨U, 0, none⟩ = false := frozen_of sbW.u
      have h3 := set_three (A := .int .i64 0) (B := .bool false) (C := .int .i64 4) sbW.r sbW.t sbW.u hRT hRU hTU
      have ho3 := three_only W R T U (.int .i64 0) (.bool false) (.int .i64 4)
      have hK3 : (((W.setCell ⟨R, 0, none⟩ (.int .i64 0)).setCell ⟨T, 0, none⟩ (.bool false)).setCell ⟨U, 0, none⟩ (.int .i64 4)).heap[D]? = some (.deferred (some [])) := by
        rw [set_other _ _ _ _ _ hDU, set_other _ _ _ _ _ hDT, set_other _ _ _ _ _ hDR]; exact hK
      have H3' := Lib.hid h3
      have HO3 := Lib.hid (OnlyE.trans (E := fun k => k = R ∨ k = T ∨ k = U) ⟨i2.os, i2.tape, i2.output, i2.size, fun k hk _ => i2.block k hk (fun e => e)⟩ ho3)
      have HK3 := Lib.hid hK3
      have HD := Lib.hid (And.intro hD hDl)
      subst hrr
      clear i2 i3 sbW h3 ho3 hK3 hK hD hDl hSM i1 F1 F2 F3
      gi_wp2
      generalize (((W.setCell ⟨R, 0, none⟩ (.int .i64 0)).setCell ⟨T, 0, none⟩ (.bool false)).setCell ⟨U, 0, none⟩ (.int .i64 4)) = W8 at H3' HO3 HK3 ⊢
      have hrT := H3'.out
      refine ⟨by simp, .inl ⟨_, _, rfl, run_takeDeferred HK3.out, ?_⟩⟩
      have hg := grownBy_putObj' W8 D (.deferred none)
      have c1 := one_cell ((World.putObj_heap_other (w := W8) (o := .deferred none) (show R ≠ D from hDR.symm)).trans hrT.1)
      have c2 := one_cell ((World.putObj_heap_other (w := W8) (o := .deferred none) (show T ≠ D from hDT.symm)).trans hrT.2.1)
      have c3 := one_cell ((World.putObj_heap_other (w := W8) (o := .deferred none) (show U ≠ D from hDU.symm)).trans hrT.2.2)
      refine ⟨.tuple #[.int .i64 0, .bool false, .int .i64 4], ?_, rfl, ?_⟩
      · simp [results, Try.results16, go_sem, c1, c2, c3]
      · rw [HS5.out.1]
        exact (HB5.out.trans (HO3.out.below (n := P) (by have := HS5.out; omega) (fun k hk => by have := HS5.out; omega))).grown hg (by have := HO3.out.size; have := HS5.out; omega) (fun r e => by cases e; have := HD.out; have := HS5.out; omega)
    case stop =>
      rintro D cc pre W hD hpre ⟨rfl, i2, pre0, x, rfl, i4, i5, i6, i7, i8⟩ hK
      have hsub : ∀ z ∈ pre0 ++ [x], z ∈ setsF h := fun z hz => hpre.subset hz
      have hx : clS (setsF h) x = x := clS_same (hsub x (by simp))
      have hp0 : pre0.map (clS (setsF h)) = pre0 := by
        conv => rhs; rw [← List.map_id pre0]
        exact List.map_congr_left (fun z hz => clS_same (hsub z (by simp [hz])))
      rw [hx] at i5 i6 i7
      rw [hp0] at i4
      have hrr := F3.out pre0 x (by simp) hpre i4 i5
      have hDl := (Array.getElem?_eq_some_iff.1 hK).1
      have hDR : R ≠ D := by have := HS5.out; omega
      have hDT : T ≠ D := by have := HS5.out; omega
      have hDU : U ≠ D := by have := HS5.out; omega
      have HI2 := Lib.hid i2
      have HK3 := Lib.hid hK
      have HD := Lib.hid (And.intro hD hDl)
      subst hrr
      gi_wp2
      refine ⟨by simp, .inl ⟨_, _, rfl, run_takeDeferred HK3.out, ?_⟩⟩
      have hg := grownBy_putObj' W D (.deferred none)
      have c1 := one_cell ((World.putObj_heap_other (w := W) (o := .deferred none) hDR).trans i6)
      have c2 := one_cell ((World.putObj_heap_other (w := W) (o := .deferred none) hDT).trans i7)
      have c3 := one_cell ((World.putObj_heap_other (w := W) (o := .deferred none) hDU).trans i8)
      refine ⟨.tuple #[.int .i64 (x : Nat), .bool (findF h ⟨s0, s1, s2, s3⟩ x).2, .int .i64 0], ?_, rfl, ?_⟩
      · simp [results, Try.results16, go_sem, c1, c2, c3]
      · rw [HS5.out.1]
        exact (HB5.out.trans (HI2.out.below (n := P) (by have := HS5.out; omega) (fun k hk => by have := HS5.out; omega))).grown hg (by have := HI2.out.size; have := HS5.out; omega) (fun r e => by cases e; have := HD.out; have := HS5.out; omega)
  · have hrr := F1.out he
    have hne : (E != 0) = true := by simpa using he
    subst hrr
    clear F2 F3 F1 FZ
    refine (callsIn_wide (n := 9)).1 ?_
    refine callsIn_of_wp_marks Try.func16 rfl trivial ?_ rfl
    simp only [Try.ntmps16, List.size_toArray, List.length_cons, List.length_nil, Nat.reduceAdd, Nat.reduceSub, Array.replicate_succ, Array.replicate_zero, List.push_toArray, List.append_toArray, List.nil_append, List.cons_append]
    replace hW0 := hW0.symm
    gi_wp2
    clear hW0 hW1 hq hP0 hP1 hP2 hP3 hP4
    refine ⟨trivial, callsIn_wide.2 (KE.out.mono ?_)⟩
    rintro e w2 ⟨rfl, hb2⟩
    have sb2 := SB1.out.next hb2
    have HB2 := Lib.hid (HB1.out.trans (hb2.mono (by have := HS1.out; omega)))
    have hs2 : P + 6 ≤ w2.heap.size := by have := hb2.size; have := HS1.out; omega
    have hRT : R ≠ T := by have := HS1.out; omega
    have hRU : R ≠ U := by have := HS1.out; omega
    have hTU : T ≠ U := by have := HS1.out; omega
    have cR := one_cell sb2.r
    have cT := one_cell sb2.t
    have cU := one_cell sb2.u
    have fR : w2.frozen? ⟨R, 0, none⟩ = false := frozen_of sb2.r
    have fT : w2.frozen? ⟨T, 0, none⟩ = false := frozen_of sb2.t
    have fU : w2.frozen? ⟨U, 0, none⟩ = false := frozen_of sb2.u
    have h3 := set_three (A := .int .i64 0) (B := .bool false) (C := .int .i64 E) sb2.r sb2.t sb2.u hRT hRU hTU
    have H3' := Lib.hid h3
    have HO3 := Lib.hid (three_only w2 R T U (.int .i64 0) (.bool false) (.int .i64 E))
    clear hb2 sb2 h3 y0 y1 y2 y3 x0 x1 x2 x3
    gi_wp2
    generalize (((w2.setCell ⟨R, 0, none⟩ (.int .i64 0)).setCell ⟨T, 0, none⟩ (.bool false)).setCell ⟨U, 0, none⟩ (.int .i64 E)) = W8 at H3' HO3 ⊢
    have hrT := H3'.out
    have c1 := one_cell hrT.1
    have c2 := one_cell hrT.2.1
    have c3 := one_cell hrT.2.2
    refine ⟨.tuple #[.int .i64 0, .bool false, .int .i64 E], ?_, rfl, ?_⟩
    · simp [results, Try.results16, go_sem, c1, c2, c3]
    · rw [HS1.out.1]
      exact HB2.out.trans (HO3.out.below (n := P) (by omega) (fun k hk => by have := HS1.out; omega))
end Go.Proofs.Ytlcmedfjghcigaa
