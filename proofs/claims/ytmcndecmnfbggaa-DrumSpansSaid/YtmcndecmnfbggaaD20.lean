/- The iterator of totals: one digit after the other. -/
import Derived.Test.YtmcndecmnfbggaaD19c
namespace Go.Proofs.Ytmcndecmnfbggaa
set_option linter.unusedSimpArgs false
set_option linter.unusedVariables false
open Go.RowKit Go.Shelf
attribute [local go_sem] Oper.semAt_some

/-- the totals with so many digits of the next drum -/
def stepP (wi : Int) (f : Int) (fs : List Int) (s : St) (d : Nat) : List (Int × Int) := match withS wi s d f with | none => [] | some s' => totalsP wi fs s'
def upto (wi : Int) (f : Int) (fs : List Int) (s : St) (d : Nat) : List (Int × Int) := (List.range d).flatMap (stepP wi f fs s)
theorem upto_succ (wi f : Int) (fs : List Int) (s : St) (d : Nat) : upto wi f fs s (d + 1) = upto wi f fs s d ++ stepP wi f fs s d := by
  unfold upto; rw [List.range_succ, List.flatMap_append]; simp
theorem upto_ten (wi f : Int) (fs : List Int) (s : St) : upto wi f fs s 10 = totalsP wi (f :: fs) s := rfl
theorem upto_le (wi f : Int) (fs : List Int) (s : St) : ∀ d e, d ≤ e → (upto wi f fs s d).length ≤ (upto wi f fs s e).length := by
  intro d e h
  induction e with
  | zero => obtain rfl : d = 0 := by omega
            exact Nat.le_refl _
  | succ e ih =>
    by_cases h2 : d = e + 1
    · subst h2; exact Nat.le_refl _
    · have := ih (by omega)
      rw [upto_succ, List.length_append]; omega
theorem leaves_marks {fn : Func} {tmps : Array Value} {R : Ending → World → Prop} (G : World → Prop) (hE : ∀ W, G W → LeavesInM Fence.wide 9 Try.prog fn tmps R [] .returning W) :
    ∀ (ds : List Nat) (W : World), ds.Nodup → (∀ D ∈ ds, W.heap[D]? = some (.deferred (some []))) → (∀ X D, D ∈ ds → G X → X.heap[D]? = some (.deferred (some [])) → G (X.putObj D (.deferred none))) → G W → LeavesInM Fence.wide 9 Try.prog fn tmps R (ds.map mark) .returning W
  | [], W, _, _, _, h => hE W h
  | D :: ds, W, hn, hd, hg, h => by
    rw [List.nodup_cons] at hn
    have hD := hd D (List.mem_cons_self ..)
    refine ⟨by simp, .inl ⟨D, _, rfl, run_takeDeferred hD, ?_⟩⟩
    refine leaves_marks G hE ds _ hn.2 (fun E hE' => ?_) (fun X E hE' => hg X E (List.mem_cons_of_mem _ hE')) (hg W D (List.mem_cons_self ..) h hD)
    exact (World.putObj_heap_other (fun e => hn.1 (by rw [← e]; exact hE'))).trans (hd E (List.mem_cons_of_mem _ hE'))

structure Head (figs : List Int) (wi f : Int) (fs : List Int) (fb off fc Bw n0 Rb Sb l B : Nat) (s : St) (J : List (Int × Int) → World → Prop) (pre : List (Int × Int)) (W W0 : World) (d : Nat) (ds : List Nat) (w : World) : Prop where
  le : d ≤ 10
  keep : Keep n0 B W0 w
  mem : Mem figs wi fb off fc Bw n0 Rb Sb s w
  y : w.heap[W.heap.size]? = some (.cells #[.func (.yield l) #[] #[]] 95 (0, 0))
  j : J (pre ++ upto wi f fs s d) w
  nd : ds.Nodup
  ds : ∀ D ∈ ds, w.heap[D]? = some (.deferred (some [])) ∧ W.heap.size ≤ D
theorem Head.below {figs : List Int} {wi f : Int} {fs : List Int} {fb off fc Bw n0 Rb Sb l B : Nat} {s : St} {J : List (Int × Int) → World → Prop} {pre : List (Int × Int)} {W W0 : World} {d : Nat} {ds : List Nat} {w w' : World}
    (h : Head figs wi f fs fb off fc Bw n0 Rb Sb l B s J pre W W0 d ds w) (hJ : OwnFrom B J) (hb : Below w.heap.size w w') (hn : n0 ≤ w.heap.size) : Head figs wi f fs fb off fc Bw n0 Rb Sb l B s J pre W W0 d ds w' :=
  ⟨h.le, h.keep.trans (Keep.of_below hb hn), h.mem.keep (Keep.of_below (B := B) hb hn), (hb.block _ (Array.getElem?_eq_some_iff.1 h.y).1).trans h.y, own_below hJ h.j hb, h.nd, fun D hD => ⟨(hb.block D (Array.getElem?_eq_some_iff.1 (h.ds D hD).1).1).trans (h.ds D hD).1, (h.ds D hD).2⟩⟩
theorem Head.next {figs : List Int} {wi f : Int} {fs : List Int} {fb off fc Bw n0 Rb Sb l B : Nat} {s : St} {J : List (Int × Int) → World → Prop} {pre : List (Int × Int)} {W W0 : World} {d : Nat} {ds : List Nat} {w : World}
    (h : Head figs wi f fs fb off fc Bw n0 Rb Sb l B s J pre W W0 d ds w) (hd : d < 10) (he : upto wi f fs s (d + 1) = upto wi f fs s d) : Head figs wi f fs fb off fc Bw n0 Rb Sb l B s J pre W W0 (d + 1) ds w :=
  ⟨by omega, h.keep, h.mem, h.y, by rw [he]; exact h.j, h.nd, h.ds⟩
theorem totalsFrom_any (v g : Value) (s : St) (X : World) : Calls Try.prog 59 #[.agg #[v, g], s.val] X fun e w' => e = .returned (.func (.func 64) #[] #[.pointer (some ⟨X.heap.size + 1, 0, none⟩), .pointer (some ⟨X.heap.size, 0, none⟩)]) ∧ w' = (X.alloc (.cells #[v, g] 71)).alloc (.cells #[.int .i64 s.drum, .int .i64 s.size, .int .i64 s.digits, .int .i64 s.lo, .int .i64 s.hi, .bool s.moves] 88) := by
  unfold St.val
  go_enter Try.func59, Try.ntmps59
  go_wp2
  go_ret
  exact ⟨rfl, rfl⟩
set_option maxRecDepth 100000 in
set_option maxHeartbeats 3200000 in
theorem iter_cons (figs : List Int) (wi : Int) (hw : 0 ≤ wi ∧ wi ≤ 999) (hf9 : ∀ f ∈ figs, 0 ≤ f ∧ f ≤ 9) (fb off fc Bw n0 Rb Sb l B N j : Nat) (f : Int) (fs : List Int) (s : St) (hlen : figs.length ≤ 6) (hj : j < figs.length) (hfj : figs.getD j 0 = f) (hs : StOk s j) (J : List (Int × Int) → World → Prop) (pre : List (Int × Int)) (W : World)
    (hn : n0 ≤ B) (hB : B ≤ W.heap.size) (hJ : OwnFrom B J)
    (hY : ∀ pre x W1, J pre W1 → pre.length < N → YieldAt Fence.wide 8 Try.prog l #[encSp x] W1 fun e W' => e = .returned (.bool true) ∧ J (pre ++ [x]) W' ∧ Keep n0 B W1 W')
    (hM : Mem figs wi fb off fc Bw n0 Rb Sb s W) (hN : pre.length + (totalsP wi (f :: fs) s).length ≤ N) (h0 : J pre W)
    (IH : ∀ (l B Rb Sb : Nat) (s : St) (_ : StOk s (j + 1)) (J : List (Int × Int) → World → Prop) (pre : List (Int × Int)) (W : World), n0 ≤ B → B ≤ W.heap.size → OwnFrom B J →
      (∀ pre x W1, J pre W1 → pre.length < N → YieldAt Fence.wide 8 Try.prog l #[encSp x] W1 fun e W' => e = .returned (.bool true) ∧ J (pre ++ [x]) W' ∧ Keep n0 B W1 W') →
      Mem figs wi fb off fc Bw n0 Rb Sb s W → pre.length + (totalsP wi fs s).length ≤ N → J pre W →
      CallsIn Fence.wide 9 Try.prog 64 #[.func (.yield l) #[] #[], .pointer (some ⟨Sb, 0, none⟩), .pointer (some ⟨Rb, 0, none⟩)] W fun e W' => (∃ v, e = .returned v) ∧ J (pre ++ totalsP wi fs s) W' ∧ Keep n0 B W W') :
    CallsIn Fence.wide 9 Try.prog 64 #[.func (.yield l) #[] #[], .pointer (some ⟨Sb, 0, none⟩), .pointer (some ⟨Rb, 0, none⟩)] W fun e W' => (∃ v, e = .returned v) ∧ J (pre ++ totalsP wi (f :: fs) s) W' ∧ Keep n0 B W W' := by
  have hne : ((s.drum : Int) == (figs.length : Nat)) = false := by rw [hs.1]; simp; omega
  have htp := tenP_bd j (by omega)
  have hM' := hM
  obtain ⟨gr, gs, gf, gb, l1, l2⟩ := hM'
  obtain ⟨W0, hW0⟩ : ∃ X, X = W.alloc (.cells #[.func (.yield l) #[] #[]] 95) := ⟨_, rfl⟩
  have hb0 : Below W.heap.size W W0 := by rw [hW0]; exact (Below.refl _ _).alloc (Nat.le_refl _) _
  have gy : W0.heap[W.heap.size]? = some (.cells #[.func (.yield l) #[] #[]] 95 (0, 0)) := by rw [hW0]; exact (MapKept.heap_alloc W _).1
  have gr0 := (hb0.block Rb (Array.getElem?_eq_some_iff.1 gr).1).trans gr
  have gs0 := (hb0.block Sb (Array.getElem?_eq_some_iff.1 gs).1).trans gs
  obtain ⟨r0, r1⟩ := two_cells gr0
  obtain ⟨q0, q1, q2, q3, q4, q5⟩ := six_cells gs0
  refine callsIn_of_wp_marks Try.func64 rfl trivial ?_ rfl
  simp only [Try.ntmps64, List.size_toArray, List.length_cons, List.length_nil, Nat.reduceAdd, Nat.reduceSub, Array.replicate_succ, Array.replicate_zero, List.push_toArray, List.append_toArray, List.nil_append, List.cons_append]
  gi_wp2
  rw [← hW0]
  clear hW0
  refine wpIn_wide.2 ?_
  go_step3
  go_wp2_with fail
  go_step3
  go_wp2_with fail
  refine wp_loop (I := fun a w => ∃ (d : Nat) (ds : List Nat) (u4 u5 u6 u7 u22 u23 u24 u25 u26 u27 u28 u29 u30 u31 u32 u33 u34 u35 u36 u37 u38 u39 u40 u41 : Value), a = ⟨#[.func (.yield l) #[] #[], .pointer (some ⟨Sb, 0, none⟩), .pointer (some ⟨Rb, 0, none⟩), .pointer (some ⟨W.heap.size, 0, none⟩), u4, u5, u6, u7, .pointer (some ⟨Sb, 0, none⟩), .int .i64 s.drum, .pointer (some ⟨Rb, 0, none⟩), .slice (some ⟨fb, off, none⟩) figs.length fc, .int .i64 (figs.length : Nat), .bool false, undef, undef, undef, undef, undef, undef, undef, .int .i64 (d : Nat), u22, u23, u24, u25, u26, u27, u28, u29, u30, u31, u32, u33, u34, u35, u36, u37, u38, u39, u40, u41], ds.map mark⟩ ∧ Head figs wi f fs fb off fc Bw n0 Rb Sb l B s J pre W W0 d ds w) (μ := fun a _ => 10 - (intOf (a.tmps.getD 21 undef)).toNat) ?_ ?_
  · exact ⟨0, [], _, _, _, _, _, _, _, _, _, _, _, _, _, _, _, _, _, _, _, _, _, _, _, _, rfl, by omega, Keep.refl _ _ _, hM.keep (Keep.of_below (B := B) hb0 (by omega)), gy, by simpa [upto] using own_below hJ h0 hb0, List.nodup_nil, fun D hD => by cases hD⟩
  · rintro a wr ⟨d, ds, u4, u5, u6, u7, u22, u23, u24, u25, u26, u27, u28, u29, u30, u31, u32, u33, u34, u35, u36, u37, u38, u39, u40, u41, rfl, hH⟩
    have hM1 := hH.mem
    obtain ⟨gr1, gs1, gf1, gb1, -, -⟩ := hM1
    have hy1 := hH.y
    by_cases hlt : d < 10
    · have hlt' : (d : Int) < 10 := by omega
      obtain ⟨r0, r1⟩ := two_cells gr1
      obtain ⟨q0, q1, q2, q3, q4, q5⟩ := six_cells gs1
      have hfj' := gf1 j hj
      rw [hfj] at hfj'
      have hwith := with_any s d f wi wr Bw fb off figs.length fc gb1 hw (by rw [← hfj]; exact hf9 _ (by simp [List.getD, hj])) (by rw [hs.1]; simpa using hfj') (by omega) (by rw [hs.1]; omega) (by rw [hs.1]; omega) (by have := hs.2.2.2.2; omega) (by have := hs.2.2.2.2; omega) (by rw [hs.2.1]; omega) (by have := hs.2.2.1; have := hs.2.2.2.1; rw [hs.2.1] at this; omega)
      unfold readV St.val at hwith
      have hup := upto_succ wi f fs s d
      have HW := Lib.hid hwith
      have HUP := Lib.hid hup
      clear hwith hup hfj'
      go_wp2_with fail
      refine HW.out.mono ?_
      rintro e w1 ⟨rfl, hb1⟩
      have hbw := hb1
      have hkw : Keep n0 B wr w1 := Keep.of_below hb1 (by have := hH.keep.2.1; have := hb0.size; omega)
      have hH1 : Head figs wi f fs fb off fc Bw n0 Rb Sb l B s J pre W W0 d ds w1 := hH.below hJ hb1 (by have := hH.keep.2.1; have := hb0.size; omega)
      clear r0 r1 q0 q1 q2 q3 q4 q5 HW
      obtain ⟨r0, r1⟩ := two_cells hH1.mem.r
      have rlt := (Array.getElem?_eq_some_iff.1 hH1.mem.r).1
      cases hws : withS wi s d f with
      | none =>
        have hH2 : ∀ o, Head figs wi f fs fb off fc Bw n0 Rb Sb l B s J pre W W0 (d + 1) ds (w1.alloc o) := fun o => by
          have := hH1.below hJ ((Below.refl w1.heap.size w1).alloc (Nat.le_refl _) o) (by have := hH1.keep.2.1; have := hb0.size; omega)
          exact this.next hlt (by rw [HUP.out]; unfold stepP; rw [hws]; simp)
        have HH2 := Lib.hid hH2
        clear hH2
        unfold withV
        simp only []
        go_wp2
        refine ⟨⟨d + 1, ds, _, _, _, _, _, _, _, _, _, _, _, _, _, _, _, _, _, _, _, _, _, _, _, _, rfl, HH2.out _⟩, ?_⟩
        simp [intOf]; omega
      | some s' =>
        have hT := totalsFrom_any (.slice (some ⟨fb, off, none⟩) figs.length fc) (.func (.func 56) #[] #[.pointer (some ⟨Bw, 0, none⟩)]) s'
        unfold St.val at hT
        have HT := Lib.hid hT
        clear hT
        unfold withV St.val
        simp only []
        go_wp2_with fail
        refine (HT.out _).mono ?_
        rintro e w2 ⟨rfl, rfl⟩
        go_wp2_with fail
        obtain ⟨w2, hw2⟩ : ∃ Z, Z = ((w1.alloc (.cells #[.int .i64 s'.drum, .int .i64 s'.size, .int .i64 s'.digits, .int .i64 s'.lo, .int .i64 s'.hi, .bool s'.moves] 88)).alloc (.cells #[.slice (some ⟨fb, off, none⟩) figs.length fc, .func (.func 56) #[] #[.pointer (some ⟨Bw, 0, none⟩)]] 71)).alloc (.cells #[.int .i64 s'.drum, .int .i64 s'.size, .int .i64 s'.digits, .int .i64 s'.lo, .int .i64 s'.hi, .bool s'.moves] 88) := ⟨_, rfl⟩
        have hn1 : n0 ≤ w1.heap.size := by have := hH1.keep.2.1; have := hb0.size; omega
        have hb2 : Below w1.heap.size w1 w2 := by rw [hw2]; exact (((Below.refl _ _).alloc (Nat.le_refl _) _).alloc (by simp) _).alloc (by simp; omega) _
        have hz2 : w2.heap.size = w1.heap.size + 3 := by rw [hw2]; simp
        have hH2 : Head figs wi f fs fb off fc Bw n0 Rb Sb l B s J pre W W0 d ds w2 := hH1.below hJ hb2 hn1
        have hM2 : Mem figs wi fb off fc Bw n0 (w1.heap.size + 1) (w1.heap.size + 1 + 1) s' w2 := by
          refine ⟨?_, ?_, hH2.mem.f, hH2.mem.b, hH2.mem.fb, hH2.mem.bb⟩
          · rw [hw2, Below.heap_alloc _ _ _ (by simp)]
            have := (MapKept.heap_alloc (w1.alloc (.cells #[.int .i64 s'.drum, .int .i64 s'.size, .int .i64 s'.digits, .int .i64 s'.lo, .int .i64 s'.hi, .bool s'.moves] 88)) (.cells #[.slice (some ⟨fb, off, none⟩) figs.length fc, .func (.func 56) #[] #[.pointer (some ⟨Bw, 0, none⟩)]] 71)).1
            simpa using this
          · rw [hw2]
            have := (MapKept.heap_alloc ((w1.alloc (.cells #[.int .i64 s'.drum, .int .i64 s'.size, .int .i64 s'.digits, .int .i64 s'.lo, .int .i64 s'.hi, .bool s'.moves] 88)).alloc (.cells #[.slice (some ⟨fb, off, none⟩) figs.length fc, .func (.func 56) #[] #[.pointer (some ⟨Bw, 0, none⟩)]] 71)) (.cells #[.int .i64 s'.drum, .int .i64 s'.size, .int .i64 s'.digits, .int .i64 s'.lo, .int .i64 s'.hi, .bool s'.moves] 88)).1
            simpa using this
        rw [← hw2]
        clear hw2 r0 r1 rlt
        refine (wpIn_wide (n := 9)).1 ?_
        refine range_begin (gf := 64) (lb := #[.pointer (some ⟨w1.heap.size + 1 + 1, 0, none⟩), .pointer (some ⟨w1.heap.size + 1, 0, none⟩)]) rfl (enters_of Try.func64 (by kernel_rfl) rfl) ?_
        intro fn D W3 rec hrec hD hb3 hz3 hL3 hD3
        have hn2 : n0 ≤ w2.heap.size := by omega
        have hH3 := hH2.below hJ hb3 hn2
        have hH3d : ∀ E ∈ D :: ds, W3.heap[E]? = some (.deferred (some [])) := fun E hE => by
          rcases List.mem_cons.1 hE with rfl | hE
          · exact hD3
          · exact (hH3.ds E hE).1
        have hM3 := hM2.keep (Keep.of_below (B := B) hb3 hn2)
        have hW0D : W0.heap.size ≤ D := by have := hH2.keep.2.1; omega
        have hDs : W.heap.size ≤ D := by have := hH2.keep.2.1; have := hb0.size; omega
        have hle := upto_le wi f fs s (d + 1) 10 (by omega)
        rw [upto_ten, HUP.out, List.length_append] at hle
        have hst : stepP wi f fs s d = totalsP wi fs s' := by unfold stepP; rw [hws]
        rw [hst] at hle
        refine (callsIn_wide (n := 8)).2 ((callsIn_wide (n := 9)).1 ((IH (D + 1) (D + 1 + 1) (w1.heap.size + 1) (w1.heap.size + 1 + 1) s' (withS_ok hw (by omega) hs hws) (fun pre' X => J pre' X ∧ X.heap[D + 1]? = some (.loop (rec .ready)) ∧ (∀ E ∈ D :: ds, X.heap[E]? = some (.deferred (some []))) ∧ Keep n0 B W0 X) (pre ++ upto wi f fs s d) W3 (by omega) (by omega) ?_ ?_ hM3 (by rw [List.length_append]; omega) ⟨hH3.j, hL3, ?_, hH3.keep⟩).mono ?_))
        · intro pre' X Y row hs hg hr
          obtain ⟨h1, h2, h3, h4⟩ := hs
          refine ⟨hJ pre' X Y row h1 hg (fun q e => ⟨by have := (hr q e).1; omega, (hr q e).2⟩), (hg.block _ (Array.getElem?_eq_some_iff.1 h2).1 (fun e => by have := (hr _ e.symm).1; omega)).trans h2, fun E hE => (hg.block _ (Array.getElem?_eq_some_iff.1 (h3 E hE)).1 (fun e => ?_)).trans (h3 E hE), ?_⟩
          · have h5 := (hr _ e.symm).1
            have h6 := (Array.getElem?_eq_some_iff.1 (hH3d E hE)).1
            omega
          · refine ⟨h4.1.grown hg (by have := h4.2.1; have := hb0.size; omega) (fun q e => by have := (hr q e).1; omega), Nat.le_trans h4.2.1 hg.size, fun k o hk hc hn' => ?_⟩
            have h5 := (Array.getElem?_eq_some_iff.1 hk).1
            exact (hg.block k (Array.getElem?_eq_some_iff.1 (h4.2.2 k o hk hc hn')).1 (fun e => by have := (hr _ e.symm).1; omega)).trans (h4.2.2 k o hk hc hn')
        · rintro pre' x X ⟨h1, h2, h3, h4⟩ hlen'
          have hxl := (Array.getElem?_eq_some_iff.1 h2).1
          have h2' := h2
          rw [hrec] at h2'
          refine round_of h2' ?_
          unfold encSp
          have yX : X.heap[W.heap.size]? = some (.cells #[.func (.yield l) #[] #[]] 95 (0, 0)) := h4.cells gy (by decide) (by decide)
          gi_wp2
          obtain ⟨Xa, hXa⟩ : ∃ Z, Z = X.alloc (.cells #[.int .i64 x.1, .int .i64 x.2] 45) := ⟨_, rfl⟩
          have hba : Below X.heap.size X Xa := by rw [hXa]; exact (Below.refl _ _).alloc (Nat.le_refl _) _
          have xa : Xa.heap[X.heap.size]? = some (.cells #[.int .i64 x.1, .int .i64 x.2] 45 (0, 0)) := by rw [hXa]; exact (MapKept.heap_alloc X _).1
          have hza : Xa.heap.size = X.heap.size + 1 := by rw [hXa]; simp
          rw [← hXa]
          clear hXa
          have hnX : n0 ≤ X.heap.size := by omega
          have h2a := (hba.block _ hxl).trans h2
          have h3a : ∀ E ∈ D :: ds, Xa.heap[E]? = some (.deferred (some [])) := fun E hE => (hba.block E (Array.getElem?_eq_some_iff.1 (h3 E hE)).1).trans (h3 E hE)
          refine ⟨_, begin_of hrec h2a, ?_⟩
          obtain ⟨Xb, hXb⟩ : ∃ Z, Z = Xa.putObj (D + 1) (.loop (rec .busy)) := ⟨_, rfl⟩
          have ho : ∀ k, k ≠ D + 1 → Xb.heap[k]? = Xa.heap[k]? := fun k hk => by rw [hXb]; exact World.putObj_heap_other hk
          have jb : J pre' Xb := by rw [hXb]; exact hJ.putObj _ (own_below hJ h1 hba) (by omega) h2a rfl
          have Lb : Xb.heap[D + 1]? = some (.loop (rec .busy)) := by rw [hXb]; exact World.putObj_heap_same (by omega)
          have kb : Keep n0 B W0 Xb := by rw [hXb]; exact (h4.trans (Keep.of_below hba hnX)).put (by omega) (by have := hb0.size; omega) (by omega) _
          have kx : Keep n0 (D + 1 + 1) X Xb := by rw [hXb]; exact (Keep.of_below hba hnX).trans (Keep.turn h2a rfl (by omega) (by omega) (by omega) _)
          have hWD : W.heap.size ≠ D + 1 := by omega
          have yb := (ho _ hWD).trans ((hba.block _ (Array.getElem?_eq_some_iff.1 yX).1).trans yX)
          have xb := (ho X.heap.size (by omega)).trans xa
          have h3b : ∀ E ∈ D :: ds, Xb.heap[E]? = some (.deferred (some [])) := fun E hE => (ho E (fun e => by rw [e] at hE; have := h2a.symm.trans (h3a _ hE); cases this)).trans (h3a E hE)
          rw [← hXb]
          have y1 : Xb.cell? ⟨W.heap.size, 0, none⟩ = some (.func (.yield l) #[] #[]) := by simp [World.cell?, yb]
          obtain ⟨x0, x1⟩ := two_cells xb
          obtain ⟨fn2, tm2, as2, bd2, hy, hR⟩ := hY pre' x Xb jb hlen'
          unfold encSp at hy
          clear hXb ho h1 h2 h3 h4 hba xa h2a h3a yX h2' yb xb
          gi_wp2_with fail
          refine round_in (hR.mono ?_)
          rintro e X3 ⟨rfl, hJ3, hk3⟩
          gi_wp2
          have L3 := hk3.2.2 _ _ Lb (fun cs t f e => by cases e) (fun _ => by omega)
          have hz3' := (Array.getElem?_eq_some_iff.1 L3).1
          refine ⟨_, _, end_of hrec L3, rfl, ⟨hJ.putObj _ hJ3 (by omega) L3 rfl, World.putObj_heap_same hz3', fun E hE => ?_, (kb.trans hk3).put (by omega) (by have := hb0.size; omega) (by omega) _⟩, kx.trans ((hk3.weak (by omega)).trans (Keep.turn L3 rfl (by omega) (by omega) (by omega) _))⟩
          have hEb := h3b E hE
          have h9 := hk3.2.2 E _ hEb (fun cs t f e => by cases e) (fun _ => ?_)
          · exact (World.putObj_heap_other (fun e => by rw [e] at h9; have := h9.symm.trans L3; cases this)).trans h9
          · rcases List.mem_cons.1 hE with rfl | hE
            · omega
            · have := (hH3.ds E hE).2; omega
        · exact hH3d
        · rintro e X ⟨⟨v, rfl⟩, ⟨hj4, hl4, hds4, hk4⟩, -⟩
          refine ⟨none, _, endLoop_of hrec hl4, ?_⟩
          obtain ⟨Y, hY'⟩ : ∃ Z, Z = X.putObj (D + 1) (.loop (rec .exhausted)) := ⟨_, rfl⟩
          have hgX := grownBy_putObj' X (D + 1) (.loop (rec .exhausted))
          have hHY : Head figs wi f fs fb off fc Bw n0 Rb Sb l B s J pre W W0 (d + 1) (D :: ds) Y := by
            have hkY : Keep n0 B W0 Y := by rw [hY']; exact hk4.put (by omega) (by have := hb0.size; omega) (by omega) _
            refine ⟨by omega, hkY, (hM.keep (Keep.of_below (B := B) hb0 (by omega))).keep hkY, hkY.cells gy (by decide) (by decide), ?_, ?_, fun E hE => ⟨?_, ?_⟩⟩
            · rw [hY', HUP.out, hst, ← List.append_assoc]; exact hJ.putObj _ hj4 (by omega) hl4 rfl
            · rw [List.nodup_cons]
              refine ⟨fun hE => ?_, hH3.nd⟩
              have := (Array.getElem?_eq_some_iff.1 (hH2.ds D hE).1).1
              omega
            · rw [hY']
              exact (World.putObj_heap_other (fun e => by rw [e] at hE; have := (hds4 _ hE).symm.trans hl4; cases this)).trans (hds4 E hE)
            · rcases List.mem_cons.1 hE with rfl | hE
              · exact hDs
              · exact (hH3.ds E hE).2
          rw [← hY']
          clear hY' hgX hj4 hl4 hds4 hk4 IH hH3d hle hst hD hz2 hz3
          go_wp2
          rw [show Value.int .i64 ((d : Int) + 1) = .int .i64 ((d + 1 : Nat) : Int) by go_num]
          refine ⟨⟨d + 1, D :: ds, _, _, _, _, _, _, _, _, _, _, _, _, _, _, _, _, _, _, _, _, _, _, _, _, rfl, hHY⟩, ?_⟩
          simp [intOf]; omega
    · have hge : ¬ (d : Int) < 10 := by omega
      have hd10 : d = 10 := by have := hH.le; omega
      subst hd10
      go_wp2
      refine leaves_marks (fun X => J (pre ++ upto wi f fs s 10) X ∧ Keep n0 B W X) (fun X hX => ⟨_, results_none rfl _ _ _, ⟨_, rfl⟩, by rw [← upto_ten]; exact hX.1, hX.2⟩) ds wr hH.nd (fun E hE => (hH.ds E hE).1) (fun X E hE hX hXE => ⟨hJ.putObj _ hX.1 (by have := (hH.ds E hE).2; omega) hXE rfl, hX.2.put (hH.ds E hE).2 (by omega) (by have := (hH.ds E hE).2; omega) _⟩) ⟨hH.j, (Keep.of_below hb0 (by omega)).trans hH.keep⟩
end Go.Proofs.Ytmcndecmnfbggaa
