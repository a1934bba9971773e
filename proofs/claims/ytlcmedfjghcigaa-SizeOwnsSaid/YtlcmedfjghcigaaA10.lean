/- Size: what starves a set. -/
import Derived.Test.YtlcmedfjghcigaaA9
namespace Go.Proofs.Ytlcmedfjghcigaa
set_option linter.unusedSimpArgs false
set_option linter.unusedVariables false
open Go.RowKit Go.Maps

theorem need_bnd {ts : List Tp} (hok : ∀ i, i < ts.length → tapOk (ts.getD i default) = true) (s : Nat) : ∀ k : Nat, k ≤ ts.length → 0 ≤ (loadUp ts s k).n ∧ (loadUp ts s k).n ≤ 10000
  | 0, _ => by simp [loadUp]
  | k + 1, hk => by
    have ih := need_bnd hok s k (by omega)
    have ht := tapOk_iff.1 (hok k (by omega))
    rw [getD_bang ts (by omega)] at ht
    unfold loadUp
    by_cases hh : hasF s k = true
    · rw [if_pos hh]
      unfold withF
      simp only []
      omega
    · rw [if_neg hh]
      omega
theorem load_in {h : Hs} (hok : hsOk h = true) (s : Nat) : (0 ≤ (loadF h.tp s).f.1 ∧ (loadF h.tp s).f.1 ≤ 1000000) ∧ (0 ≤ (loadF h.tp s).f.2 ∧ (loadF h.tp s).f.2 ≤ 1000000) ∧ (0 ≤ (loadF h.tp s).n ∧ (loadF h.tp s).n ≤ 10000) := by
  have h1 := load_bnd (hsOk_iff.1 hok).2.1 s h.tp.length (Nat.le_refl _)
  have h2 := need_bnd (hsOk_iff.1 hok).2.1 s h.tp.length (Nat.le_refl _)
  have h3 := (few_taps hok).2
  unfold LdIn at h1
  unfold loadF
  omega
theorem prod_in {a b : Int} {A B : Int} (ha : -A ≤ a ∧ a ≤ A) (hb : 0 ≤ b ∧ b ≤ B) (hA : 0 ≤ A) : -(A * B) ≤ a * b ∧ a * b ≤ A * B := by
  have h1 : a * b ≤ A * b := Int.mul_le_mul_of_nonneg_right ha.2 hb.1
  have h2 : A * b ≤ A * B := Int.mul_le_mul_of_nonneg_left hb.2 hA
  have h3 : -A * b ≤ a * b := Int.mul_le_mul_of_nonneg_right ha.1 hb.1
  have h4 : -A * b = -(A * b) := Int.neg_mul _ _
  omega
def fiV (f : Bool × Bool) : Value := .agg #[.bool f.1, .bool f.2]
def SzSane (z : Sz) : Prop := (1 ≤ z.full ∧ z.full ≤ 1000000) ∧ (0 ≤ z.loss ∧ z.loss ≤ 10000)
theorem szOk_sane {z : Sz} (h : szOk z = true) : SzSane z := by
  have := szOk_iff.1 h
  exact ⟨this.1, this.2.2.1⟩
set_option maxRecDepth 100000 in
set_option maxHeartbeats 3200000 in
theorem find_any (h : Hs) (hok : hsOk h = true) (a1 : Option Addr) (c1 : Nat) (a2 : Option Addr) (c2 M : Nat) (z : Sz) (hz : SzSane z) (y : Nat) (hy : y ∈ setsF h) (w : World) (hd : DAt w h a1 c1 a2 c2 M) : Calls Try.prog 43 #[dV h a1 c1 a2 c2 M, .int .i64 (y : Nat), szV z] w fun e w' => e = .returned (fiV (findF h z y)) ∧ Below w.heap.size w w' := by
  have hyb : y < 1024 := by have := (mem_sets.1 hy).1; have := pow_table (few_taps hok).2; omega
  obtain ⟨hb1, hb2, hb3⟩ := load_in hok y
  have hhead := (headOk_iff.1 (hsOk_iff.1 hok).1).1
  obtain ⟨W0, hW0⟩ : ∃ X, X = ((w.alloc (.cells #[.int .i64 h.head, .int .i64 h.drip, .slice a1 h.tp.length c1, .slice a2 h.rl.length c2, .map (some M)] 72)).alloc (.cells #[.int .i64 z.start, .int .i64 z.full, .int .i64 z.loss, .int .i64 z.price] 27)).alloc (.cells #[.bool false, .bool false] 85) := ⟨_, rfl⟩
  have hal : W0 = al w [(.cells #[.int .i64 h.head, .int .i64 h.drip, .slice a1 h.tp.length c1, .slice a2 h.rl.length c2, .map (some M)] 72), (.cells #[.int .i64 z.start, .int .i64 z.full, .int .i64 z.loss, .int .i64 z.price] 27), (.cells #[.bool false, .bool false] 85)] := hW0
  have hb0 : Below w.heap.size w W0 := by rw [hal]; exact al_below w _ (Nat.le_refl _)
  have hs0 : W0.heap.size = w.heap.size + 3 := by rw [hal]; exact al_size w _
  have hr0 : W0.heap[w.heap.size]? = some (.cells #[.int .i64 h.head, .int .i64 h.drip, .slice a1 h.tp.length c1, .slice a2 h.rl.length c2, .map (some M)] 72 (0, 0)) := by rw [hal]; exact al_get w _ 0 _ rfl
  have hr1 : W0.heap[w.heap.size + 1]? = some (.cells #[.int .i64 z.start, .int .i64 z.full, .int .i64 z.loss, .int .i64 z.price] 27 (0, 0)) := by rw [hal]; exact al_get w _ 1 _ rfl
  have hr2 : W0.heap[w.heap.size + 1 + 1]? = some (.cells #[.bool false, .bool false] 85 (0, 0)) := by rw [hal]; exact al_get w _ 2 _ rfl
  obtain ⟨P, hP0⟩ : ∃ x, w.heap.size = x := ⟨_, rfl⟩
  rw [hP0] at hr0 hr1 hr2 hs0
  obtain ⟨Q, hP1⟩ : ∃ x, P + 1 = x := ⟨_, rfl⟩
  rw [hP1] at hr1 hr2
  obtain ⟨R, hP2⟩ : ∃ x, Q + 1 = x := ⟨_, rfl⟩
  rw [hP2] at hr2
  clear hal
  rw [hP0] at hb0
  have HS := Lib.hid (show w.heap.size = P ∧ Q = P + 1 ∧ R = P + 2 ∧ W0.heap.size = P + 3 from ⟨by omega, by omega, by omega, by omega⟩)
  have hm0 := (hd.below (by rw [hP0]; exact hb0)).mp
  have K1 := Lib.hid (most_any M h.tp (setsF h) y (by omega) hy W0 hm0)
  have K2 := Lib.hid (fun (X : World) (hX : MapAt X M h.tp (setsF h)) => need_any M h.tp (setsF h) y (by omega) hy X hX)
  have HM0 := Lib.hid hm0
  have HB := Lib.hid hb0
  have H2 := Lib.hid hr2
  have fz : ∀ o, W0.frozen? ⟨R, o, none⟩ = false := fun o => frozen_of hr2
  have fz0 := fz 0
  have fz1 := fz 1
  obtain ⟨y0, y1, y2, y3, y4⟩ := five_cells hr0
  obtain ⟨x0, x1, x2, x3⟩ := four_cells hr1
  obtain ⟨r0, r1⟩ := two_cells hr2
  have hF : findF h z y = if z.full < (loadF h.tp y).f.2 then (true, false) else (false, decide ((h.head - (loadF h.tp y).n) * z.full * z.full < z.loss * (loadF h.tp y).f.2 * (loadF h.tp y).f.2)) := rfl
  obtain ⟨f, hf⟩ : ∃ f, (loadF h.tp y).f.2 = f := ⟨_, rfl⟩
  obtain ⟨nd, hnd⟩ : ∃ f, (loadF h.tp y).n = f := ⟨_, rfl⟩
  rw [hf] at hF hb2 K1
  rw [hnd] at hF hb3 K2
  obtain ⟨⟨hz1, hz2⟩, hz3, hz4⟩ := hz
  obtain ⟨s0, s1, s2, s3⟩ := z
  obtain ⟨hd0, dr0, tp0, rl0⟩ := h
  simp only [] at *
  have HF := Lib.hid hF
  clear hb0 hr0 hr1 hr2 hs0 hd hm0 hy hb1 hF hf hnd fz
  unfold dV setsCells szV
  simp only []
  by_cases hlt : s1 < f
  · have HR := Lib.hid (HF.out.trans (if_pos hlt))
    have HZ := Lib.hid (set2 (A := .bool true) (B := .bool false) H2.out)
    have HB3 := Lib.hid (show Below P w ((W0.setCell ⟨R, 0, none⟩ (.bool true)).setCell ⟨R, 1, none⟩ (.bool false)) from (HB.out.setCell (by have := HS.out; simp; omega) _).setCell (by have := HS.out; simp; omega) _)
    clear HF
    go_enter Try.func43, Try.ntmps43
    go_upto_region 1 with fail
    rw [← hW0]
    clear hW0 hP0 hP1 hP2
    go_wp2_with (go_at_call 39; (with_reducible refine K1.out.mono ?_); rintro e w2 ⟨rfl, rfl⟩)
    exact bodyPost_ret (res1_85 Try.results43 rfl HZ.out) rfl ⟨by rw [HR.out]; rfl, by rw [HS.out.1]; exact HB3.out⟩
  · have HR := Lib.hid (HF.out.trans (if_neg hlt))
    have hg : decide (s1 < f) = false := decide_eq_false hlt
    have hg2 : ¬ s1 < f := hlt
    clear hlt
    obtain ⟨l, hl⟩ : ∃ l, hd0 - nd = l := ⟨_, rfl⟩
    have w0 : IntKind.i64.wrap (hd0 - nd) = l := by rw [hl]; exact IntWalk.i64_in _ (by omega)
    have p1 := prod_in (a := l) (b := s1) (A := 10000) (B := 1000000) (by omega) (by omega) (by omega)
    obtain ⟨l1, hl1⟩ : ∃ x, l * s1 = x := ⟨_, rfl⟩
    have p2 := prod_in (a := l1) (b := s1) (A := 10000 * 1000000) (B := 1000000) (by rw [← hl1]; exact p1) (by omega) (by omega)
    obtain ⟨l2, hl2⟩ : ∃ x, l1 * s1 = x := ⟨_, rfl⟩
    have p3 := prod_in (a := s2) (b := f) (A := 10000) (B := 1000000) (by omega) (by omega) (by omega)
    obtain ⟨m1, hm1⟩ : ∃ x, s2 * f = x := ⟨_, rfl⟩
    have p4 := prod_in (a := m1) (b := f) (A := 10000 * 1000000) (B := 1000000) (by rw [← hm1]; exact p3) (by omega) (by omega)
    obtain ⟨m2, hm2⟩ : ∃ x, m1 * f = x := ⟨_, rfl⟩
    have hr := HR.out
    rw [hl, hl1, hl2, hm1, hm2] at hr
    rw [hl1] at p1
    rw [hl2] at p2
    rw [hm1] at p3
    rw [hm2] at p4
    have w1 : IntKind.i64.wrap (l * s1) = l1 := by rw [hl1]; exact IntWalk.i64_in _ (by omega)
    have w2 : IntKind.i64.wrap (l1 * s1) = l2 := by rw [hl2]; exact IntWalk.i64_in _ (by omega)
    have w3 : IntKind.i64.wrap (s2 * f) = m1 := by rw [hm1]; exact IntWalk.i64_in _ (by omega)
    have w4 : IntKind.i64.wrap (m1 * f) = m2 := by rw [hm2]; exact IntWalk.i64_in _ (by omega)
    have HRR := Lib.hid hr
    clear HR HF hr hl hl1 hl2 hm1 hm2 p1 p2 p3 p4
    go_enter Try.func43, Try.ntmps43
    go_upto_region 1 with fail
    rw [← hW0]
    clear hW0 hP0 hP1 hP2
    go_wp2_with (go_at_call 39; (with_reducible refine K1.out.mono ?_); rintro e w2 ⟨rfl, rfl⟩)
    have K3 := Lib.hid (fun q => K2.out (W0.drewN q) (HM0.out.below (below_drewn (Below.refl _ _) q)))
    go_quiet ((go_at_call 58; with_reducible exact Calls.quiet_of_same ((K3.out _).mono fun _ _ ⟨a, b⟩ => ⟨a, b.symm⟩)))
    have hY : (W0.drewN nq).heap[R]? = some (.cells #[.bool false, .bool false] 85 (0, 0)) := H2.out
    have HBY := Lib.hid (below_drewn HB.out nq)
    have v1 : (W0.drewN nq).cell? ⟨Q, 1, none⟩ = some (.int .i64 s1) := x1
    have v2 : (W0.drewN nq).cell? ⟨Q, 2, none⟩ = some (.int .i64 s2) := x2
    have q0 : (W0.drewN nq).cell? ⟨R, 0, none⟩ = some (.bool false) := r0
    have q1 : (W0.drewN nq).cell? ⟨R, 1, none⟩ = some (.bool false) := r1
    have g0 : (W0.drewN nq).frozen? ⟨R, 0, none⟩ = false := fz0
    have g1 : (W0.drewN nq).frozen? ⟨R, 1, none⟩ = false := fz1
    generalize W0.drewN nq = Y at hY HBY v1 v2 q0 q1 g0 g1 ⊢
    clear x0 x1 x2 x3 y0 y1 y2 y3 y4 r0 r1 fz0 fz1 w0 K3
    have HZ := Lib.hid (set2 (A := .bool false) (B := .bool (decide (l2 < m2))) hY)
    have HB3 := Lib.hid (show Below P w ((Y.setCell ⟨R, 0, none⟩ (.bool false)).setCell ⟨R, 1, none⟩ (.bool (decide (l2 < m2)))) from (HBY.out.setCell (by have := HS.out; simp; omega) _).setCell (by have := HS.out; simp; omega) _)
    clear hY
    go_wp2
    exact bodyPost_ret (res1_85 Try.results43 rfl HZ.out) rfl ⟨by rw [HRR.out]; rfl, by rw [HS.out.1]; exact HB3.out⟩
end Go.Proofs.Ytlcmedfjghcigaa
