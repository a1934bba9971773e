/- slices.AppendSeq and slices.Collect over the iterator of totals. -/
import Derived.Test.YtmcndecmnfbggaaD21
import Derived.Maps.AppendAt
import Derived.RangeFuncBox
namespace Go.Proofs.Ytmcndecmnfbggaa
set_option linter.unusedSimpArgs false
set_option linter.unusedVariables false
open Go.RowKit Go.Shelf
attribute [local go_sem] Oper.semAt_some

theorem Try.info45 : (Try.prog.info? 45).map (fun i => (i.zero, i.size, i.bytes)) = some (some (.agg #[.int .i64 0, .int .i64 0]), 2, 16) := by kernel_rfl
def flatS (L : List (Int × Int)) : List Value := L.flatMap fun x => [.int .i64 x.1, .int .i64 x.2]
theorem flatS_snoc (L : List (Int × Int)) (x : Int × Int) : flatS (L ++ [x]) = flatS L ++ [.int .i64 x.1, .int .i64 x.2] := by unfold flatS; rw [List.flatMap_append]; simp
theorem news_two {X : World} {q : Nat} {x y : Int} {t : TypeId} (h : X.heap[q]? = some (.cells #[.int .i64 x, .int .i64 y] t)) : ∀ (j : Nat) u, ([.int .i64 x, .int .i64 y] : List Value)[j]? = some u → X.cell? ((⟨q, 0, none⟩ : Addr).add j) = some u := by
  obtain ⟨c0, c1⟩ := two_cells h
  intro j u hj
  match j, hj with
  | 0, hj => simp at hj; rw [← hj]; simpa [Addr.add] using c0
  | 1, hj => simp at hj; rw [← hj]; simpa [Addr.add] using c1
theorem two_oneCell (x y : Int) : ∀ v ∈ ([.int .i64 x, .int .i64 y] : List Value), v.oneCell' = true := by
  intro v hv; simp at hv; rcases hv with rfl | rfl <;> rfl
/-- what lies between two rounds -/
structure Between (w : World) (rec : LoopState → Loop) (D : Nat) (pre : List (Int × Int)) (X : World) : Prop where
  box : ∃ v, X.heap[w.heap.size]? = some (.cells #[v] 35 (0, 0)) ∧ X.ownsRow w.heap.size 45 2 v pre.length (flatS pre)
  l : X.heap[D + 1]? = some (.loop (rec .ready))
  d : X.heap[D]? = some (.deferred (some []))
  below : Below w.heap.size w X
theorem own_kept {w : World} {base n : Nat} {v : Value} {xs : List Value} {X Y : World} {row : Option Nat} (h : X.ownsRow base 45 2 v n xs) (hg : X.grownBy Y row) (hr : ∀ q, row = some q → ∀ cs f, X.heap[q]? ≠ some (.cells cs 45 f)) : Y.ownsRow base 45 2 v n xs := by
  refine h.kept hg ?_
  rcases h.2 with ⟨rfl, _⟩ | ⟨g, cap, cur, rfl, _, hgb, _⟩
  · exact .inl rfl
  · refine .inr fun e' => ?_
    exact hr g (by simpa [Value.ownBlock] using e'.symm) _ _ hgb
theorem between_own {w : World} {rec : LoopState → Loop} {D B : Nat} (hw : w.heap.size ≤ D) (hB : D + 1 < B) : OwnFrom B (Between w rec D) := fun pre X Y row h hg hr => by
  obtain ⟨v, hv, ho⟩ := h.box
  refine ⟨⟨v, (hg.block _ (Array.getElem?_eq_some_iff.1 hv).1 (fun e => ?_)).trans hv, own_kept (w := w) ho hg (fun q e cs f hq => ?_)⟩, (hg.block _ (Array.getElem?_eq_some_iff.1 h.l).1 (fun e => ?_)).trans h.l, (hg.block _ (Array.getElem?_eq_some_iff.1 h.d).1 (fun e => ?_)).trans h.d, h.below.grown hg h.below.size (fun q e => ?_)⟩
  · have := (hr _ e.symm).1; omega
  · obtain ⟨_, o, h1, h2⟩ := hr q e
    rw [hq] at h1; cases h1; cases h2
  · have := (hr _ e.symm).1; omega
  · have := (hr _ e.symm).1; omega
  · have := (hr _ e).1; omega
theorem own_ne {base n : Nat} {v : Value} {xs : List Value} {X : World} (h : X.ownsRow base 45 2 v n xs) {k : Nat} (hk : ∀ cs f, X.heap[k]? ≠ some (.cells cs 45 f)) : some k ≠ v.ownBlock := by
  rcases h.2 with ⟨rfl, _⟩ | ⟨g, cap, cur, rfl, _, hgb, _⟩
  · simp [Value.ownBlock]
  · intro e
    obtain rfl : k = g := by simpa [Value.ownBlock] using e
    exact hk _ _ hgb
theorem own_is {base n : Nat} {v : Value} {xs : List Value} {X : World} (h : X.ownsRow base 45 2 v n xs) {q : Nat} (e : v.ownBlock = some q) : base ≤ q ∧ ∃ cs f, X.heap[q]? = some (.cells cs 45 f) := by
  rcases h.2 with ⟨rfl, _⟩ | ⟨g, cap, cur, rfl, hb, hgb, _⟩
  · simp [Value.ownBlock] at e
  · obtain rfl : g = q := by simpa [Value.ownBlock] using e
    exact ⟨hb, _, _, hgb⟩
set_option maxRecDepth 100000 in
set_option maxHeartbeats 6400000 in
theorem appendSeq_any (figs : List Int) (wi : Int) (hw : 0 ≤ wi ∧ wi ≤ 999) (hf9 : ∀ f ∈ figs, 0 ≤ f ∧ f ≤ 9) (fb off fc Bw Rb Sb : Nat) (hlen : figs.length ≤ 6) (w : World) (hM : Mem figs wi fb off fc Bw w.heap.size Rb Sb st0 w) :
    Calls Try.prog 61 #[.slice none 0 0, .func (.func 64) #[] #[.pointer (some ⟨Sb, 0, none⟩), .pointer (some ⟨Rb, 0, none⟩)]] w fun e w' => ∃ v, e = .returned v ∧ w'.ownsRow w.heap.size 45 2 v (totalsP wi figs st0).length (flatS (totalsP wi figs st0)) ∧ Below w.heap.size w w' := by
  obtain ⟨i0, hi, hz0, hz1, hz2⟩ := info_parts Try.info45
  have hlim : (totalsP wi figs st0).length ≤ 1000000 := Nat.le_trans (totals_len wi figs st0) (Nat.pow_le_pow_right (n := 10) (by decide) hlen)
  obtain ⟨W0, hW0⟩ : ∃ X, X = w.alloc (.cells #[.slice none 0 0] 35) := ⟨_, rfl⟩
  have hb0 : Below w.heap.size w W0 := by rw [hW0]; exact (Below.refl _ _).alloc (Nat.le_refl _) _
  have g0 : W0.heap[w.heap.size]? = some (.cells #[.slice none 0 0] 35 (0, 0)) := by rw [hW0]; exact (MapKept.heap_alloc w _).1
  have hz00 : W0.heap.size = w.heap.size + 1 := by rw [hW0]; simp
  refine (callsIn_wide (n := 9)).1 ?_
  refine callsIn_of_wp_marks Try.func61 rfl trivial ?_ rfl
  simp only [Try.ntmps61, List.size_toArray, List.length_cons, List.length_nil, Nat.reduceAdd, Nat.reduceSub, Array.replicate_succ, Array.replicate_zero, List.push_toArray, List.append_toArray, List.nil_append, List.cons_append]
  gi_wp2
  rw [← hW0]
  clear hW0
  refine range_begin (gf := 64) (lb := #[.pointer (some ⟨Sb, 0, none⟩), .pointer (some ⟨Rb, 0, none⟩)]) rfl (enters_of Try.func64 (by kernel_rfl) rfl) ?_
  intro fn D W3 rec hrec hD hb3 hz3 hL3 hD3
  have hbw3 : Below w.heap.size w W3 := hb0.trans (hb3.mono hb0.size)
  have hBet : Between w rec D [] W3 := ⟨⟨_, (hb3.block _ (by omega)).trans g0, World.ownsRow_nil _ _ _ _⟩, hL3, hD3, hbw3⟩
  refine (callsIn_wide (n := 8)).2 ((callsIn_wide (n := 9)).1 ((iter_any figs wi hw hf9 fb off fc Bw w.heap.size 1000000 hlen figs 0 (by simp) (by intro i _; simp) (D + 1) (D + 1 + 1) Rb Sb st0 st0_ok (Between w rec D) [] W3 (by omega) (by omega) (between_own (by omega) (by omega)) ?_ (hM.keep (B := 0) (Keep.of_below hbw3 (Nat.le_refl _))) (by simpa using hlim) hBet).mono ?_))
  · rintro pre ⟨xv, yv⟩ X hX hlt
    have h2 := hX.l
    have hxl := (Array.getElem?_eq_some_iff.1 h2).1
    have h2' := h2
    rw [hrec] at h2'
    refine round_of h2' ?_
    unfold encSp
    gi_wp2
    obtain ⟨Xa, hXa⟩ : ∃ Z, Z = X.alloc (.cells #[.int .i64 xv, .int .i64 yv] 45) := ⟨_, rfl⟩
    have hba : Below X.heap.size X Xa := by rw [hXa]; exact (Below.refl _ _).alloc (Nat.le_refl _) _
    have xa : Xa.heap[X.heap.size]? = some (.cells #[.int .i64 xv, .int .i64 yv] 45 (0, 0)) := by rw [hXa]; exact (MapKept.heap_alloc X _).1
    have hza : Xa.heap.size = X.heap.size + 1 := by rw [hXa]; simp
    rw [← hXa]
    clear hXa
    have hnX : w.heap.size ≤ X.heap.size := by omega
    have h2a := (hba.block _ hxl).trans h2
    have hXa2 := own_below (between_own (B := D + 1 + 1) (rec := rec) (by omega) (by omega)) hX hba
    refine ⟨_, begin_of hrec h2a, ?_⟩
    obtain ⟨Xb, hXb⟩ : ∃ Z, Z = Xa.putObj (D + 1) (.loop (rec .busy)) := ⟨_, rfl⟩
    have ho : ∀ k, k ≠ D + 1 → Xb.heap[k]? = Xa.heap[k]? := fun k hk => by rw [hXb]; exact World.putObj_heap_other hk
    have Lb : Xb.heap[D + 1]? = some (.loop (rec .busy)) := by rw [hXb]; exact World.putObj_heap_same (by omega)
    have kx : Keep w.heap.size (D + 1 + 1) X Xb := by rw [hXb]; exact (Keep.of_below hba hnX).trans (Keep.turn h2a rfl (by omega) (by omega) (by omega) _)
    have hgb := grownBy_putObj' Xa (D + 1) (.loop (rec .busy))
    rw [← hXb] at hgb
    obtain ⟨v, hv, hown⟩ := hXa2.box
    have hvb := (ho _ (by omega)).trans hv
    have db := (ho D (by omega)).trans hXa2.d
    have xb := (ho X.heap.size (by omega)).trans xa
    have hownb := own_kept (w := w) hown hgb (fun q e cs f hq => by cases e; rw [h2a] at hq; cases hq)
    have hbelb : Below w.heap.size w Xb := hXa2.below.grown hgb hXa2.below.size (fun q e => by cases e; omega)
    have hzb : Xb.heap.size = X.heap.size + 1 := by rw [hXb]; simp [hza]
    rw [← hXb]
    have v0 : Xb.cell? ⟨w.heap.size, 0, none⟩ = some v := by simp [World.cell?, hvb]
    obtain ⟨x0, x1⟩ := two_cells xb
    have hlB : w.heap.size < Xb.heap.size := by omega
    have hlX : X.heap.size < Xb.heap.size := by omega
    have hfl := flatS_snoc pre (xv, yv)
    simp only [] at hfl
    have HFL := Lib.hid hfl
    have hbz := hbelb.size
    have hlen1 : pre.length + 1 ≤ maxLen := by unfold maxLen; omega
    clear hXb ho hX h2 hba xa h2a h2' xb hXa2 hgb hv hown hfl hz3 hzb
    gi_wp2_with (gi_at_builtin; refine wpListIn_append_own _ rfl _ _ 35 rfl w.heap.size 45 i0 (.agg #[.int .i64 0, .int .i64 0]) 2 16 Try.underlying35 hi hz0 hz1 hz2 rfl (by decide) _ _ _ rfl (hownb.alloc _) ⟨Xb.heap.size, 0, none⟩ 1 1 [.int .i64 xv, .int .i64 yv] rfl rfl (news_two (MapKept.heap_alloc _ _).1) (two_oneCell xv yv) hlen1 (by omega) (by simp; omega) ?_; intro v' X4 hown4 hg4 hnil4; obtain ⟨g', cap', rfl⟩ := ownsRow_succ hown4; have hv4 := (hg4.block w.heap.size (by simp; omega) (own_ne hownb (fun cs f hq => by rw [hvb] at hq; cases hq))).trans ((Below.heap_alloc _ _ _ hlB).trans hvb); have v4 : X4.cell? ⟨w.heap.size, 0, none⟩ = some v := (by simp [World.cell?, hv4]); have f4 := frozen_of hv4)
    have hgx : Xb.grownBy X4 v.ownBlock := (World.grownBy_alloc Xb _ v.ownBlock).trans hg4
    have L4 := (hgx.block _ (Array.getElem?_eq_some_iff.1 Lb).1 (own_ne hownb (fun cs f hq => by rw [Lb] at hq; cases hq))).trans Lb
    have d4 := (hgx.block _ (Array.getElem?_eq_some_iff.1 db).1 (own_ne hownb (fun cs f hq => by rw [db] at hq; cases hq))).trans db
    have kb4 : Keep w.heap.size (D + 1 + 1) Xb X4 := by
      refine ⟨(Below.refl _ _).grown hgx (by omega) (fun q e => (own_is hownb e).1), hgx.size, fun k o hk hc hn' => ?_⟩
      refine (hgx.block k (Array.getElem?_eq_some_iff.1 hk).1 (fun e => ?_)).trans hk
      obtain ⟨-, cs, f, hq⟩ := own_is hownb e.symm
      rw [hk] at hq
      cases hq
      exact (hc _ _ _ rfl).2 rfl
    have hbel4 : Below w.heap.size w X4 := hbelb.trans kb4.1
    have hg5 := grownBy_setCell' X4 w.heap.size (.slice (some ⟨g', 0, none⟩) (pre.length + 1) cap')
    obtain ⟨X5, hX5⟩ : ∃ Z, Z = X4.setCell ⟨w.heap.size, 0, none⟩ (.slice (some ⟨g', 0, none⟩) (pre.length + 1) cap') := ⟨_, rfl⟩
    rw [← hX5] at hg5
    have hv5 : X5.heap[w.heap.size]? = some (.cells #[.slice (some ⟨g', 0, none⟩) (pre.length + 1) cap'] 35 (0, 0)) := by
      rw [hX5]
      obtain ⟨hlt, hk⟩ := Array.getElem?_eq_some_iff.1 hv4
      show (X4.heap.modify w.heap.size _)[w.heap.size]? = _
      rw [Array.getElem?_eq_getElem (by rw [Array.size_modify]; exact hlt), Array.getElem_modify_self, hk]
      rfl
    have L5 := (hg5.block _ (Array.getElem?_eq_some_iff.1 L4).1 (fun e => by have := Option.some.inj e; omega)).trans L4
    have d5 := (hg5.block _ (Array.getElem?_eq_some_iff.1 d4).1 (fun e => by have := Option.some.inj e; omega)).trans d4
    have hown5 := own_kept (w := w) hown4 hg5 (fun q e cs f hq => by cases e; rw [hv4] at hq; cases hq)
    have k45 : Keep w.heap.size (D + 1 + 1) X4 X5 := by
      refine ⟨(Below.refl _ _).grown hg5 (Nat.le_of_lt (Array.getElem?_eq_some_iff.1 hv4).1) (fun q e => by cases e; exact Nat.le_refl _), hg5.size, fun k o hk hc hn' => ?_⟩
      refine (hg5.block k (Array.getElem?_eq_some_iff.1 hk).1 (fun e => ?_)).trans hk
      cases e
      rw [hk] at hv4
      cases hv4
      exact (hc _ _ _ rfl).1 rfl
    have hbel5 := hbel4.trans k45.1
    rw [← hX5]
    have hg6 := grownBy_putObj' X5 (D + 1) (.loop (rec .ready))
    have hz5 := (Array.getElem?_eq_some_iff.1 L5).1
    refine ⟨_, _, end_of hrec L5, rfl, ⟨⟨_, (World.putObj_heap_other (by omega)).trans hv5, ?_⟩, World.putObj_heap_same hz5, (World.putObj_heap_other (by omega)).trans d5, hbel5.grown hg6 hbel5.size (fun q e => by cases e; omega)⟩, kx.trans (kb4.trans (k45.trans (Keep.turn L5 rfl (by omega) (by omega) (by omega) _)))⟩
    rw [HFL.out, List.length_append]
    exact own_kept (w := w) hown5 hg6 (fun q e cs f hq => by cases e; rw [L5] at hq; cases hq)
  · rintro e X ⟨⟨v, rfl⟩, hX, -⟩
    refine ⟨none, _, endLoop_of hrec hX.l, ?_⟩
    obtain ⟨Y, hY'⟩ : ∃ Z, Z = X.putObj (D + 1) (.loop (rec .exhausted)) := ⟨_, rfl⟩
    have hgX := grownBy_putObj' X (D + 1) (.loop (rec .exhausted))
    rw [← hY'] at hgX
    obtain ⟨v, hv, hown⟩ := hX.box
    have hvY : Y.heap[w.heap.size]? = some (.cells #[v] 35 (0, 0)) := by rw [hY']; exact (World.putObj_heap_other (by omega)).trans hv
    have dY : Y.heap[D]? = some (.deferred (some [])) := by rw [hY']; exact (World.putObj_heap_other (by omega)).trans hX.d
    have hownY := own_kept (w := w) hown hgX (fun q e cs f hq => by cases e; rw [hX.l] at hq; cases hq)
    have hbY := hX.below.grown hgX hX.below.size (fun q e => by cases e; omega)
    rw [← hY']
    have v0 : Y.cell? ⟨w.heap.size, 0, none⟩ = some v := by simp [World.cell?, hvY]
    clear hY' hX hgX hv hown
    simp only []
    gi_wp2
    refine ⟨by simp, .inl ⟨_, _, rfl, run_takeDeferred dY, ?_⟩⟩
    have hgD := grownBy_putObj' Y D (.deferred none)
    exact ⟨_, results_tmp rfl _ _ _, v, rfl, own_kept (w := w) hownY hgD (fun q e cs f hq => by cases e; rw [dY] at hq; cases hq), hbY.grown hgD hbY.size (fun q e => by cases e; omega)⟩
end Go.Proofs.Ytmcndecmnfbggaa
