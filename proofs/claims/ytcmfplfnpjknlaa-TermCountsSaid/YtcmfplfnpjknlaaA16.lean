/- Term: contract of enterProofs: the walk. -/
import Derived.Test.YtcmfplfnpjknlaaA15
namespace Go.Proofs.Ytcmfplfnpjknlaa
set_option linter.unusedSimpArgs false
set_option linter.unusedVariables false
open Go.RowKit Go.Shelf
attribute [local go_sem] Oper.semAt_some

set_option maxRecDepth 100000 in
set_option maxHeartbeats 6400000 in
theorem enterProofs_any (s : Stk) (ca : Option Addr) (cc : Nat) (rv bv : Value) (pa : Option Addr) (pc R M : Nat) (w0 w : World) (G : Value) (ptrs : List Nat) (sa : Nat → Option Addr) (sc : Nat → Nat) (hs : stkOk s = true) (hc : TabAt 4 clsC w0 (.slice ca s.cs.length cc) s.cs) (hp : PrfAt w0 (.slice pa s.ps.length pc) s.ps)
    (hsl : ∀ b off, pa = some ⟨b, off, none⟩ → ∀ i, i < s.ps.length → w0.cell? ⟨b, off + i * 4 + 2, none⟩ = some (.slice (sa i) (s.ps.getD i default).seals.length (sc i)) ∧ TabAt 1 numC w0 (.slice (sa i) (s.ps.getD i default).seals.length (sc i)) (s.ps.getD i default).seals) (hb : Below w0.heap.size w0 w)
    (h : RecAt w0.heap.size (.slice ca s.cs.length cc) rv (.slice pa s.ps.length pc) bv R M w G ptrs (enteredL s) s.bs) :
    Calls Try.prog 38 #[.pointer (some ⟨R, 0, none⟩)] w (ProofsEntered w0 w s (.slice ca s.cs.length cc) rv (.slice pa s.ps.length pc) bv R M G ptrs) := by
  obtain ⟨f1, f2, f3, _⟩ := stk_few hs
  obtain ⟨ga, gc, hG⟩ := h.shape
  rw [enteredL_len] at hG
  subst hG
  have hen : enteredL s = rowsT s (beginF s) := by
    unfold enteredL rowsT beginF
    apply List.ext_getElem
    · simp
    · intro i h1 h2; simp
  rw [hen] at h
  have hlt : ∀ p ∈ ptrs, p < w.heap.size := fun p hp => by
    obtain ⟨i, hi, rfl⟩ := List.mem_iff_getElem.1 hp
    have := (Array.getElem?_eq_some_iff.1 (h.seen i (by rw [← h.len]; exact hi))).1
    rwa [show ptrs.getD i 0 = ptrs[i] by simp [List.getD, hi]] at this
  have hRl := (Array.getElem?_eq_some_iff.1 h.box).1
  have hMl := h.map.lt
  obtain ⟨W0, hW0⟩ : ∃ X, X = ((w.alloc (.cells #[.pointer (some ⟨R, 0, none⟩)] 59)).alloc (.cells #[.int .i64 0] 3)).alloc (.cells #[.int .i64 0] 33) := ⟨_, rfl⟩
  have hb0 : Below w.heap.size w W0 := by rw [hW0]; exact (((Below.refl _ _).alloc (Nat.le_refl _) _).alloc (by simp) _).alloc (by simp; omega) _
  refine (callsIn_wide (n := 9)).1 ?_
  refine callsIn_of_wp_marks Try.func38 rfl trivial ?_ rfl
  simp only [Try.ntmps38, List.size_toArray, List.length_cons, List.length_nil, Nat.reduceAdd, Nat.reduceSub, Array.replicate_succ, Array.replicate_zero, List.push_toArray, List.append_toArray, List.nil_append, List.cons_append]
  gi_wp2
  rw [← hW0]
  have hz0 : W0.heap.size = w.heap.size + 3 := by rw [hW0]; simp
  obtain ⟨H, hH⟩ : ∃ H, H = w.heap.size := ⟨_, rfl⟩
  have k1 : W0.heap[H]? = some (.cells #[.pointer (some ⟨R, 0, none⟩)] 59 (0, 0)) := by
    rw [hW0, hH, Below.heap_alloc _ _ _ (by simp; omega), Below.heap_alloc _ _ _ (by simp)]; exact alloc_heap w _
  have k2 : W0.heap[H + 1]? = some (.cells #[.int .i64 0] 3 (0, 0)) := by
    rw [hW0, hH, Below.heap_alloc _ _ _ (by simp)]
    have := alloc_heap (w.alloc (.cells #[.pointer (some ⟨R, 0, none⟩)] 59)) (.cells #[.int .i64 0] 3)
    simpa using this
  have k3 : W0.heap[H + 1 + 1]? = some (.cells #[.int .i64 0] 33 (0, 0)) := by
    rw [hW0, hH]
    have := alloc_heap ((w.alloc (.cells #[.pointer (some ⟨R, 0, none⟩)] 59)).alloc (.cells #[.int .i64 0] 3)) (.cells #[.int .i64 0] 33)
    simpa using this
  rw [← hH] at hz0 hRl hMl hlt ⊢
  have HH := Lib.hid hH
  have c0 := one_cell k1
  have hrec0 := h.below hb0
  clear hW0 hH
  gi_wp2
  refine ⟨trivial, callsIn_wide.2 ((happ_any R W0).mono ?_)⟩
  rintro e W1 ⟨rfl, rfl⟩
  obtain ⟨W1, hW1⟩ : ∃ X, X = W0.alloc (.cells #[.pointer (some ⟨R, 0, none⟩)] 59) := ⟨_, rfl⟩
  have hb1 : Below W0.heap.size W0 W1 := by rw [hW1]; exact (Below.refl _ _).alloc (Nat.le_refl _) _
  have hz1 : W1.heap.size = H + 4 := by rw [hW1]; simp [hz0]
  have k4 : W1.heap[H + 3]? = some (.cells #[.pointer (some ⟨R, 0, none⟩)] 59 (0, 0)) := by
    rw [hW1, ← hz0]; exact alloc_heap W0 _
  rw [← hW1]
  rw [hz0]
  clear hW1
  have hrec1 := hrec0.below hb1
  have hbw0 : Below w0.heap.size w0 W1 := (hb.trans ((hb0.trans (hb1.mono hb0.size)).mono hb.size))
  obtain ⟨_, _, r2, _, _, _⟩ := six_cells hrec1.box
  have hM : HMem (H + 3) R pa pc s.ps sa sc W1 := ⟨k4, r2, hp.below hbw0, fun b off e i hi => by
    subst e
    obtain ⟨b2, off2, e, hbl, _⟩ := hp.at (by omega)
    simp only [Option.some.injEq, Addr.mk.injEq, and_true] at e
    obtain ⟨rfl, rfl⟩ := e
    exact (hbw0.cell (p := ⟨b, _, none⟩) hbl).trans (hsl b off rfl i hi).1⟩
  have hpe : ∀ b off, pa = some ⟨b, off, none⟩ → 0 < s.ps.length → b < w0.heap.size := fun b off e hn => by
    subst e
    obtain ⟨b2, off2, e, hbl, _⟩ := hp.at hn
    simp only [Option.some.injEq, Addr.mk.injEq, and_true] at e
    obtain ⟨rfl, rfl⟩ := e
    exact hbl
  gi_wp2
  have hO1 : OnlyE (fun k => k ∈ ptrs ∨ k = H + 1 ∨ k = H + 1 + 1) W0 W1 := .of_below hb1
  have htE : ∀ k, (k ∈ ptrs ∨ k = H + 1 ∨ k = H + 1 + 1) → k < H + 3 := by
    intro k hk
    rcases hk with hk | hk | hk
    · have := hlt k hk; omega
    · omega
    · omega
  have hgeE : ∀ k, (k ∈ ptrs ∨ k = H + 1 ∨ k = H + 1 + 1) → w0.heap.size ≤ k := by
    intro k hk
    have hbs := hb.size
    have := HH.out
    rcases hk with hk | hk | hk
    · exact h.ge k hk
    · omega
    · omega
  have hnE : ∀ k, k < w0.heap.size → ¬ (k ∈ ptrs ∨ k = H + 1 ∨ k = H + 1 + 1) := fun k hk he => by have := hgeE k he; omega
  have hk01 : K87 w W1 := (K87.of_below hb0).trans (K87.of_below hb1)
  have hk1O : ∀ W, OnlyE (fun k => k ∈ ptrs ∨ k = H + 1 ∨ k = H + 1 + 1) W1 W → K87 W1 W := fun W hW b cs hb => hW.get hb (by
    intro he
    rcases he with he | he | he
    · obtain ⟨i, hi, rfl⟩ := List.mem_iff_getElem.1 he
      have h2 := hrec1.seen i (by rw [← hrec1.len]; exact hi)
      rw [show ptrs.getD i 0 = ptrs[i] by simp [List.getD, hi]] at h2
      unfold SeenAt at h2
      rw [hb] at h2
      simp at h2
    · rw [he, (hb1.block _ (by omega)).trans k2] at hb
      simp at hb
    · rw [he, (hb1.block _ (by omega)).trans k3] at hb
      simp at hb)
  refine wpIn_rangeFunc_ownH rfl (by omega) (gf := 57) (lb := #[.pointer (some ⟨H + 3, 0, none⟩)]) rfl trivial (enters_of Try.func57 (by kernel_rfl) rfl)
    (happ_stops 8 (by omega) (H + 3) R pa pc s.ps sa sc (fun k => k ∈ ptrs ∨ k = H + 1 ∨ k = H + 1 + 1) (by omega) (fun hn b off e hE2 => hnE b (hpe b off e hn) hE2) W1 hM (fun k hk => by have := htE k hk; omega) (by omega))
    KeepE.trans (fun W l o o' _ hl hc _ => KeepE.of_grown (grownBy_putObj' W l o') (fun q e => by cases e; exact .inr (fun o2 h2 => by rw [hl] at h2; cases h2; exact hc))) (Below.refl _ _) (fun _ => rfl)
    (fun pre W => RecAt w0.heap.size (.slice ca s.cs.length cc) rv (.slice pa s.ps.length pc) bv R M W (.slice ga s.rs.length gc) ptrs (rowsT s (tsF s pre)) s.bs ∧ OnlyE (fun k => k ∈ ptrs ∨ k = H + 1 ∨ k = H + 1 + 1) W1 W ∧ W.heap[H + 1]? = some (.cells #[.int .i64 0] 3 (0, 0)) ∧ W.heap[H + 1 + 1]? = some (.cells #[.int .i64 0] 33 (0, 0)) ∧ okF s (beginF s) pre)
    (fun c pre W => c = .ret ∧ OnlyE (fun k => k ∈ ptrs ∨ k = H + 1 ∨ k = H + 1 + 1) W1 W ∧ ∃ pre' x, pre = pre' ++ [x] ∧ okF s (beginF s) pre' ∧ prfErr s (tsF s pre') s.ps[cl s.ps x]! ≠ 0 ∧ W.heap[H + 1]? = some (.cells #[.int .i64 ((cl s.ps x : Nat) : Int)] 3 (0, 0)) ∧ W.heap[H + 1 + 1]? = some (.cells #[.int .i64 (prfErr s (tsF s pre') s.ps[cl s.ps x]!)] 33 (0, 0)))
    (fun pre X Y row hs hg hr => ⟨hs.1.own hg hr (by omega), hs.2.1.far hg (fun q e => (hr q e).1), cells_kept hs.2.2.1 hg hr, cells_kept hs.2.2.2.1 hg hr, hs.2.2.2.2⟩)
    (fun c pre X Y row hs hg hr => by
      obtain ⟨g1, g2, pre', x, g3, g4, g5, g6, g7⟩ := hs
      exact ⟨g1, g2.far hg (fun q e => (hr q e).1), pre', x, g3, g4, g5, cells_kept g6 hg hr, cells_kept g7 hg hr⟩)
    ⟨hrec1, OnlyE.refl _ _, (hb1.block _ (by omega)).trans k2, (hb1.block _ (by omega)).trans k3, okF_nil _ _⟩
    (fun x a' W => ∃ Bq, W1.heap.size ≤ Bq ∧ W.heap[Bq]? = some (.cells #[.int .i64 (s.ps.getD (cl s.ps x) default).cls, .int .i64 (s.ps.getD (cl s.ps x) default).day, .slice (sa (cl s.ps x)) (s.ps.getD (cl s.ps x) default).seals.length (sc (cl s.ps x)), .int .i64 (s.ps.getD (cl s.ps x) default).failed] 52 (0, 0)) ∧ a' = epAct R H (cl s.ps x) Bq (PV s.ps sa sc (cl s.ps x)))
    (fun x a' _ X Y row hs hg hr => by
      obtain ⟨Bq, h1, h2, h3⟩ := hs
      exact ⟨Bq, h1, cells_kept h2 hg hr, h3⟩)
    ?assign ?body ?done ?stop
  case assign =>
    rintro l pre x W K ⟨i1, i2, i3, i4, i5⟩ hK
    unfold encH PV
    gi_wp2
    have hs3 := i2.size
    refine hK _ _ ((KeepsOthers.alloc _ _).from _) ((KeepE.refl _ _).alloc _) ⟨i1.below ((Below.refl _ _).alloc (Nat.le_refl _) _), i2.alloc _, (Below.heap_alloc _ _ _ (Array.getElem?_eq_some_iff.1 i3).1).trans i3, (Below.heap_alloc _ _ _ (Array.getElem?_eq_some_iff.1 i4).1).trans i4, i5⟩ ⟨W.heap.size, hs3, alloc_heap _ _, ?_⟩
    unfold epAct PV
    rfl
  case body =>
    rintro l pre x a' W hl ⟨rr, hrr⟩ ⟨i1, i2, i3, i4, i5⟩ ⟨Bq, hBq, hX, rfl⟩ hlen
    have hn0 : 0 < s.ps.length := by omega
    have hxl : cl s.ps x < s.ps.length := by unfold cl; omega
    obtain ⟨y, hy⟩ : ∃ y, cl s.ps x = y := ⟨_, rfl⟩
    rw [hy] at hX hxl ⊢
    obtain ⟨c, hcls, hcl, d1, d2, d3, d4, d5⟩ := prfOk_of hs hxl
    have hgd : s.ps.getD y default = s.ps[y]! := by rw [getElem!_pos s.ps y hxl]; simp [List.getD, hxl]
    obtain ⟨pb, poff, epa, _, _⟩ := hp.at (by omega)
    obtain ⟨_, hst0⟩ := hsl pb poff epa y hxl
    have hbW : Below w0.heap.size w0 W := hbw0.trans (i2.below hbw0.size hgeE)
    have hst := hst0.below hbW
    rw [hgd] at hX hst
    have hts := tsOk_fold hs hn0 pre (beginF s) (tsOk_begin hs)
    change TsOk s (tsF s pre) at hts
    have hrl := hts.1
    have kpe := proofError_any s (tsF s pre) s.ps[y]! (.slice (sa y) s.ps[y]!.seals.length (sc y)) i1 (rowsT_fst hrl) (rowsT_snd hrl) hst d5
    obtain ⟨ts, hTs⟩ : ∃ ts, tsF s pre = ts := ⟨_, rfl⟩
    have hsnoc : tsF s (pre ++ [x]) = afterF s ts s.ps[y]! := by unfold tsF; rw [foldT_snoc, hy]; rw [← hTs]; rfl
    rw [hTs] at kpe i1 hts hrl
    have hokn : prfErr s ts s.ps[y]! = 0 → okF s (beginF s) (pre ++ [x]) := fun h0 => okF_snoc i5 (by rw [hy]; rw [← hTs] at h0; exact h0)
    have HY := Lib.hid hy
    have HTS := Lib.hid hTs
    have HSN := Lib.hid hsnoc
    have HOKN := Lib.hid hokn
    have I5 := Lib.hid i5
    unfold epAct PV
    rw [hgd]
    obtain ⟨⟨qc, qd, qs, qf⟩, hq⟩ : ∃ p, s.ps[y]! = p := ⟨_, rfl⟩
    rw [hq] at kpe hX hcls d1 d2 d3 d4 d5 hst ⊢
    simp only [] at kpe hX hcls d1 d2 d3 d4 d5 hst ⊢
    subst hcls
    have HQ := Lib.hid hq
    obtain ⟨er, her⟩ : ∃ er, prfErr s ts ⟨c, qd, qs, qf⟩ = er := ⟨_, rfl⟩
    rw [her] at kpe
    have HER := Lib.hid her
    obtain ⟨sax, hsax⟩ : ∃ a, sa y = a := ⟨_, rfl⟩
    obtain ⟨scx, hscx⟩ : ∃ a, sc y = a := ⟨_, rfl⟩
    rw [hsax, hscx] at kpe hX ⊢
    have y1 : W.heap[H]? = some (.cells #[.pointer (some ⟨R, 0, none⟩)] 59 (0, 0)) := i2.get ((hb1.block _ (by omega)).trans k1) (by
      intro he
      rcases he with he | he | he
      · have := hlt H he; omega
      · omega
      · omega)
    have KPE := Lib.hid kpe
    have I1 := Lib.hid i1
    have I2 := Lib.hid i2
    have I3 := Lib.hid i3
    have I4 := Lib.hid i4
    have HXX := Lib.hid hX
    have Y1 := Lib.hid y1
    have HTK := Lib.hid hts
    have x0 := one_cell y1
    obtain ⟨x1, x2, x3, x4⟩ := four_cells hX
    clear hq her hsax hscx kpe i1 i2 i3 i4 i5 hX y1 hst hst0 hbW hts hrl hy hTs hsnoc hokn hgd epa
    gi_wp2
    refine ⟨trivial, callsIn_wide.2 (KPE.out.mono ?_)⟩
    rintro e w2 ⟨rfl, hb2⟩
    have j1 := I1.out.below hb2
    have j3 := box_step (w0 := w) I3.out hb2
    have j4 := box_step (w0 := w) I4.out hb2
    have jX := box_step (w0 := w) HXX.out hb2
    have jH := box_step (w0 := w) Y1.out hb2
    have jO : OnlyE (fun k => k ∈ ptrs ∨ k = H + 1 ∨ k = H + 1 + 1) W w2 := .of_below hb2
    clear x0 x1 x2 x3 x4 hb2
    by_cases her0 : er = 0
    · subst her0
      have u0 := one_cell jH
      obtain ⟨v0, v1, v2, v3, v4, v5⟩ := six_cells j1.box
      have hz := HER.out
      have J1 := Lib.hid j1
      have J3 := Lib.hid j3
      have J4 := Lib.hid j4
      have JX := Lib.hid jX
      have JH := Lib.hid jH
      have JO := Lib.hid jO
      clear v0 v1 v2 v3 v5 j1 j3 j4 jX jH jO hz
      gi_wp2
      clear u0 v4
      obtain ⟨cb, co, eca, hcb, hcc⟩ := hc.at (by omega)
      have HCC := Lib.hid hcc
      have HCA := Lib.hid eca
      clear hcc eca
      obtain ⟨⟨ct, cx, cm, cf⟩, hcv⟩ : ∃ v, s.cs[c]! = v := ⟨_, rfl⟩
      have HCV := Lib.hid hcv
      have HBW2 := Lib.hid (show Below w0.heap.size w0 w2 from (hbw0.trans (I2.out.below hbw0.size hgeE)).trans (JO.out.below (hbw0.trans (I2.out.below hbw0.size hgeE)).size hgeE))
      have hcok := clsOk_of hs hcl
      rw [hcv] at hcok
      simp only [] at hcok
      clear hcv
      gi_loopw [25] (fun i wr => ∃ k : Nat, k ≤ s.rs.length ∧ i = .int .i64 k ∧ RecAt w0.heap.size (.slice ca s.cs.length cc) rv (.slice pa s.ps.length pc) bv R M wr (.slice ga s.rs.length gc) ptrs (rowsT s (mixT s ts ⟨c, qd, qs, qf⟩ k)) s.bs ∧ OnlyE (fun k => k ∈ ptrs ∨ k = H + 1 ∨ k = H + 1 + 1) w2 wr ∧ wr.heap[H + 1]? = some (.cells #[.int .i64 0] 3 (0, 0)) ∧ wr.heap[H + 1 + 1]? = some (.cells #[.int .i64 0] 33 (0, 0)) ∧ wr.heap[Bq]? = some (.cells #[.int .i64 c, .int .i64 qd, .slice sax qs.length scx, .int .i64 qf] 52 (0, 0)) ∧ wr.heap[H]? = some (.cells #[.pointer (some ⟨R, 0, none⟩)] 59 (0, 0))) (fun i _ => s.rs.length - (intOf i).toNat)
      case atStart => exact ⟨0, by omega, rfl, by rw [mixT_zero]; exact J1.out, OnlyE.refl _ _, J3.out, J4.out, JX.out, JH.out⟩
      case round =>
        obtain ⟨k, hk, rfl, hrec, hO, l3, l4, lX, lH⟩ := hrel
        have htl := HTK.out.1
        have hml := mixT_len htl ⟨c, qd, qs, qf⟩ hk
        have hll := rowsT_len hml
        by_cases hlk : k < s.rs.length
        · obtain ⟨g, eg, _, hgl, hgc⟩ := hrec.at (by rw [hll]; omega)
          have u0 := hgc k (by rw [hll]; exact hlk)
          have hsn := hrec.seen k (by rw [hll]; exact hlk)
          rw [rowsT_get hml hlk, mixT_get htl _ hlk] at hsn
          simp only [] at hsn
          have hag := afterF_get htl ⟨c, qd, qs, qf⟩ hlk
          simp only [Int.toNat_natCast] at hag
          rw [HCV.out] at hag
          obtain ⟨tb0, tb1, tb2, tb3⟩ := HTK.out.2 k hlk
          obtain ⟨pt, hpt⟩ : ∃ p, ptrs.getD k 0 = p := ⟨_, rfl⟩
          obtain ⟨r, hr⟩ : ∃ r, s.rs[k]! = r := ⟨_, rfl⟩
          obtain ⟨⟨ta, tb⟩, ht⟩ : ∃ t, ts[k]! = t := ⟨_, rfl⟩
          have hptE : pt ∈ ptrs := by rw [← hpt]; exact hrec.ptr (by rw [hll]; exact hlk)
          have hptH := hlt pt hptE
          have hptg := hrec.ge pt hptE
          have hptR : R ≠ pt := fun e => by
            have h1 := hrec.box
            have h2 := hsn
            unfold SeenAt at h2
            rw [hpt, ← e, h1] at h2
            simp at h2
          rw [hr, ht] at hsn hag
          rw [ht] at tb0 tb1 tb2 tb3
          simp only [] at tb0 tb1 tb2 tb3
          rw [hpt] at u0 hsn
          have hset : ∀ w' t', SeenAt w' pt r t' → wr.grownBy w' (some pt) → t' = (afterF s ts ⟨c, qd, qs, qf⟩)[k]! → RecAt w0.heap.size (.slice ca s.cs.length cc) rv (.slice pa s.ps.length pc) bv R M w' (.slice ga s.rs.length gc) ptrs (rowsT s (mixT s ts ⟨c, qd, qs, qf⟩ (k + 1))) s.bs := fun w' t' h1 h2 h3 => by
            have h4 := rec_set (t := t') hrec (k := k) (by rw [hll]; exact hlk) (by rw [hpt, rowsT_get hml hlk, hr]; exact h1) (by rw [hpt]; exact h2)
            rw [rowsT_get hml hlk] at h4
            simp only [] at h4
            rw [rowsT_set hml hlk, h3, ← mixT_step htl _ hlk] at h4
            exact h4
          have hkeep : (afterF s ts ⟨c, qd, qs, qf⟩)[k]! = (ta, tb) → RecAt w0.heap.size (.slice ca s.cs.length cc) rv (.slice pa s.ps.length pc) bv R M wr (.slice ga s.rs.length gc) ptrs (rowsT s (mixT s ts ⟨c, qd, qs, qf⟩ (k + 1))) s.bs := fun h3 => hset wr (ta, tb) hsn ⟨rfl, rfl, rfl, Nat.le_refl _, fun _ _ _ => rfl⟩ h3.symm
          have HSET := Lib.hid hset
          have HKEEP := Lib.hid hkeep
          have HAG := Lib.hid hag
          have HREC := Lib.hid hrec
          have HO := Lib.hid hO
          have HSN := Lib.hid hsn
          have L3 := Lib.hid l3
          have L4 := Lib.hid l4
          have LX := Lib.hid lX
          have LH := Lib.hid lH
          have kk0 : (0 : Int) ≤ (k : Int) := by omega
          have kk1 : (k : Int) < (s.rs.length : Int) := by omega
          have hbW : Below w0.heap.size w0 wr := HBW2.out.trans (hO.below HBW2.out.size hgeE)
          have HBW := Lib.hid hbW
          subst eg
          clear hset hkeep hag hrec hO hsn l3 l4 lX lH hpt hr ht htl hml hll hgc hbW
          gi_wp2
          refine wpIn_region_held_round (fun w' => SeenAt w' pt r (ta, tb) ∧ w'.heap[Bq]? = some (.cells #[.int .i64 c, .int .i64 qd, .slice sax qs.length scx, .int .i64 qf] 52 (0, 0))) (by kernel_rfl) (by kernel_rfl) ?_ ⟨HSN.out, LX.out⟩ (fun hHeld => ?_)
          · rintro ⟨_, _, h⟩; exact h
          refine wpAnyH_take (i := 0) (oi := _) (v := ?_) rfl (by kernel_rfl) (by kernel_rfl) (by kernel_rfl) (fun _ _ _ h => h) (Or.inl ⟨by rfl, ?_⟩) hHeld ?_
          rotate_left
          · intro w1 hSw
            obtain ⟨s1, s2⟩ := hSw
            obtain ⟨z0, z1, z2, z3, z4, z5⟩ := six_cells s1
            obtain ⟨y0, y1, y2, y3⟩ := four_cells s2
            go_simp; with_reducible rfl
          simp only [List.getElem_toArray, List.getElem_cons_succ, List.getElem_cons_zero, Act.put, List.setIfInBounds_toArray, List.set_cons_zero, List.set_cons_succ]
          refine wpAnyH_take (i := 1) (oi := _) (v := ?_) rfl (by kernel_rfl) (by kernel_rfl) (by kernel_rfl) (fun _ _ _ h => h) (Or.inl ⟨by rfl, ?_⟩) hHeld ?_
          rotate_left
          · intro w1 hSw
            obtain ⟨s1, s2⟩ := hSw
            obtain ⟨z0, z1, z2, z3, z4, z5⟩ := six_cells s1
            obtain ⟨y0, y1, y2, y3⟩ := four_cells s2
            go_simp; with_reducible rfl
          simp only [List.getElem_toArray, List.getElem_cons_succ, List.getElem_cons_zero, Act.put, List.setIfInBounds_toArray, List.set_cons_zero, List.set_cons_succ]
          refine wpAnyH_take (i := 2) (oi := _) (v := ?_) rfl (by kernel_rfl) (by kernel_rfl) (by kernel_rfl) (fun _ _ _ h => h) (Or.inl ⟨by rfl, ?_⟩) hHeld ?_
          rotate_left
          · intro w1 hSw
            obtain ⟨s1, s2⟩ := hSw
            obtain ⟨z0, z1, z2, z3, z4, z5⟩ := six_cells s1
            obtain ⟨y0, y1, y2, y3⟩ := four_cells s2
            go_simp; with_reducible rfl
          simp only [List.getElem_toArray, List.getElem_cons_succ, List.getElem_cons_zero, Act.put, List.setIfInBounds_toArray, List.set_cons_zero, List.set_cons_succ]
          refine wpAnyH_take (i := 3) (oi := _) (v := ?_) rfl (by kernel_rfl) (by kernel_rfl) (by kernel_rfl) (fun _ _ _ h => h) (Or.inl ⟨by rfl, ?_⟩) hHeld ?_
          rotate_left
          · intro w1 hSw
            obtain ⟨s1, s2⟩ := hSw
            obtain ⟨z0, z1, z2, z3, z4, z5⟩ := six_cells s1
            obtain ⟨y0, y1, y2, y3⟩ := four_cells s2
            go_simp; with_reducible rfl
          simp only [List.getElem_toArray, List.getElem_cons_succ, List.getElem_cons_zero, Act.put, List.setIfInBounds_toArray, List.set_cons_zero, List.set_cons_succ]
          refine wpAnyH_take (i := 4) (oi := _) (v := ?_) rfl (by kernel_rfl) (by kernel_rfl) (by kernel_rfl) (fun _ _ _ h => h) (Or.inl ⟨by rfl, ?_⟩) hHeld ?_
          rotate_left
          · intro w1 hSw
            obtain ⟨s1, s2⟩ := hSw
            obtain ⟨z0, z1, z2, z3, z4, z5⟩ := six_cells s1
            obtain ⟨y0, y1, y2, y3⟩ := four_cells s2
            go_simp; with_reducible rfl
          simp only [List.getElem_toArray, List.getElem_cons_succ, List.getElem_cons_zero, Act.put, List.setIfInBounds_toArray, List.set_cons_zero, List.set_cons_succ]
          refine wpAnyH_take (i := 5) (oi := _) (v := ?_) rfl (by kernel_rfl) (by kernel_rfl) (by kernel_rfl) (fun _ _ _ h => h) (Or.inl ⟨by rfl, ?_⟩) hHeld ?_
          rotate_left
          · intro w1 hSw
            obtain ⟨s1, s2⟩ := hSw
            obtain ⟨z0, z1, z2, z3, z4, z5⟩ := six_cells s1
            obtain ⟨y0, y1, y2, y3⟩ := four_cells s2
            go_simp; with_reducible rfl
          simp only [List.getElem_toArray, List.getElem_cons_succ, List.getElem_cons_zero, Act.put, List.setIfInBounds_toArray, List.set_cons_zero, List.set_cons_succ]
          refine wpAnyH_take (i := 6) (oi := _) (v := ?_) rfl (by kernel_rfl) (by kernel_rfl) (by kernel_rfl) (fun _ _ _ h => h) (Or.inl ⟨by rfl, ?_⟩) hHeld ?_
          rotate_left
          · intro w1 hSw
            obtain ⟨s1, s2⟩ := hSw
            obtain ⟨z0, z1, z2, z3, z4, z5⟩ := six_cells s1
            obtain ⟨y0, y1, y2, y3⟩ := four_cells s2
            go_simp; with_reducible rfl
          simp only [List.getElem_toArray, List.getElem_cons_succ, List.getElem_cons_zero, Act.put, List.setIfInBounds_toArray, List.set_cons_zero, List.set_cons_succ]
          refine wpAnyH_take (i := 7) (oi := _) (v := ?_) rfl (by kernel_rfl) (by kernel_rfl) (by kernel_rfl) (fun _ _ _ h => h) (Or.inl ⟨by rfl, ?_⟩) hHeld ?_
          rotate_left
          · intro w1 hSw
            obtain ⟨s1, s2⟩ := hSw
            obtain ⟨z0, z1, z2, z3, z4, z5⟩ := six_cells s1
            obtain ⟨y0, y1, y2, y3⟩ := four_cells s2
            go_simp; with_reducible rfl
          simp only [List.getElem_toArray, List.getElem_cons_succ, List.getElem_cons_zero, Act.put, List.setIfInBounds_toArray, List.set_cons_zero, List.set_cons_succ]
          refine wpAnyH_done (by kernel_rfl) ?_ _
          clear hHeld
          by_cases hcls : r.cls = (c : Int)
          · have e1 : (r.cls == (c : Int)) = true := by simpa using hcls
            have kpv := prove_any pt r ta tb ⟨c, qd, qs, qf⟩ sax qs.length scx ⟨ct, cx, cm, cf⟩ wr.drew.drew HSN.out ⟨d1, d2⟩ ⟨d3, d4⟩ ⟨by omega, by omega⟩ ⟨by simp only []; omega, by simp only []; omega⟩ ⟨by omega, by omega⟩
            simp only [clsV] at kpv
            have KPV := Lib.hid kpv
            have HCLS := Lib.hid hcls
            have hcell : ∀ j, j < 4 → wr.drew.drew.cell? ⟨cb, co + c * 4 + j, none⟩ = some (.int .i64 (clsC (s.cs.getD c default) j)) := fun j hj => (HBW.out.cell (p := ⟨cb, _, none⟩) hcb).trans (HCC.out c hcl j hj)
            have hcg : s.cs.getD c default = ⟨ct, cx, cm, cf⟩ := by rw [← HCV.out, getElem!_pos s.cs c hcl]; simp [List.getD, hcl]
            rw [hcg] at hcell
            have hc0 := hcell 0 (by omega)
            have hc1 := hcell 1 (by omega)
            have hc2 := hcell 2 (by omega)
            have hc3 := hcell 3 (by omega)
            simp only [Nat.add_zero, clsC] at hc0 hc1 hc2 hc3
            have hbx := HREC.out.box
            rw [HCA.out] at hbx
            have hS11 : wr.drew.drew.heap[Bq]? = some (.cells #[.int .i64 c, .int .i64 qd, .slice sax qs.length scx, .int .i64 qf] 52 (0, 0)) ∧ wr.drew.drew.heap[H]? = some (.cells #[.pointer (some ⟨R, 0, none⟩)] 59 (0, 0)) ∧ wr.drew.drew.heap[R]? = some (.cells #[.slice (some ⟨cb, co, none⟩) s.cs.length cc, rv, .slice pa s.ps.length pc, bv, .slice (some ⟨g, 0, none⟩) s.rs.length gc, .map (some M)] 86 (0, 0)) ∧ wr.drew.drew.cell? ⟨cb, co + c * 4, none⟩ = some (.int .i64 ct) ∧ wr.drew.drew.cell? ⟨cb, co + c * 4 + 1, none⟩ = some (.int .i64 cx) ∧ wr.drew.drew.cell? ⟨cb, co + c * 4 + 2, none⟩ = some (.int .i64 cm) ∧ wr.drew.drew.cell? ⟨cb, co + c * 4 + 3, none⟩ = some (.int .i64 cf) := ⟨LX.out, LH.out, hbx, hc0, hc1, hc2, hc3⟩
            have cc0 : (0 : Int) ≤ (c : Int) := by omega
            have cc1 : (c : Int) < (s.cs.length : Int) := by omega
            clear kpv hcls hcell hcg hc0 hc1 hc2 hc3 hbx
            gi_wp2
            refine wpIn_region_held_round (fun w' => w'.heap[Bq]? = some (.cells #[.int .i64 c, .int .i64 qd, .slice sax qs.length scx, .int .i64 qf] 52 (0, 0)) ∧ w'.heap[H]? = some (.cells #[.pointer (some ⟨R, 0, none⟩)] 59 (0, 0)) ∧ w'.heap[R]? = some (.cells #[.slice (some ⟨cb, co, none⟩) s.cs.length cc, rv, .slice pa s.ps.length pc, bv, .slice (some ⟨g, 0, none⟩) s.rs.length gc, .map (some M)] 86 (0, 0)) ∧ w'.cell? ⟨cb, co + c * 4, none⟩ = some (.int .i64 ct) ∧ w'.cell? ⟨cb, co + c * 4 + 1, none⟩ = some (.int .i64 cx) ∧ w'.cell? ⟨cb, co + c * 4 + 2, none⟩ = some (.int .i64 cm) ∧ w'.cell? ⟨cb, co + c * 4 + 3, none⟩ = some (.int .i64 cf)) (by kernel_rfl) (by kernel_rfl) ?_ hS11 (fun hHeld => ?_)
            · rintro ⟨_, _, h⟩; exact h
            refine wpAnyH_take (i := 0) (oi := _) (v := ?_) rfl (by kernel_rfl) (by kernel_rfl) (by kernel_rfl) (fun _ _ _ h => h) (Or.inl ⟨by rfl, ?_⟩) hHeld ?_
            rotate_left
            · intro w1 hSw
              obtain ⟨s1, s2, s3, s4, s5, s6, s7⟩ := hSw
              obtain ⟨y0, y1, y2, y3⟩ := four_cells s1
              have h0 := one_cell s2
              obtain ⟨r0, r1, r2, r3, r4, r5⟩ := six_cells s3
              go_simp; with_reducible rfl
            simp only [List.getElem_toArray, List.getElem_cons_succ, List.getElem_cons_zero, Act.put, List.setIfInBounds_toArray, List.set_cons_zero, List.set_cons_succ]
            refine wpAnyH_take (i := 1) (oi := _) (v := ?_) rfl (by kernel_rfl) (by kernel_rfl) (by kernel_rfl) (fun _ _ _ h => h) (Or.inl ⟨by rfl, ?_⟩) hHeld ?_
            rotate_left
            · intro w1 hSw
              obtain ⟨s1, s2, s3, s4, s5, s6, s7⟩ := hSw
              obtain ⟨y0, y1, y2, y3⟩ := four_cells s1
              have h0 := one_cell s2
              obtain ⟨r0, r1, r2, r3, r4, r5⟩ := six_cells s3
              go_simp; with_reducible rfl
            simp only [List.getElem_toArray, List.getElem_cons_succ, List.getElem_cons_zero, Act.put, List.setIfInBounds_toArray, List.set_cons_zero, List.set_cons_succ]
            refine wpAnyH_take (i := 2) (oi := _) (v := ?_) rfl (by kernel_rfl) (by kernel_rfl) (by kernel_rfl) (fun _ _ _ h => h) (Or.inl ⟨by rfl, ?_⟩) hHeld ?_
            rotate_left
            · intro w1 hSw
              obtain ⟨s1, s2, s3, s4, s5, s6, s7⟩ := hSw
              obtain ⟨y0, y1, y2, y3⟩ := four_cells s1
              have h0 := one_cell s2
              obtain ⟨r0, r1, r2, r3, r4, r5⟩ := six_cells s3
              go_simp; with_reducible rfl
            simp only [List.getElem_toArray, List.getElem_cons_succ, List.getElem_cons_zero, Act.put, List.setIfInBounds_toArray, List.set_cons_zero, List.set_cons_succ]
            refine wpAnyH_take (i := 3) (oi := _) (v := ?_) rfl (by kernel_rfl) (by kernel_rfl) (by kernel_rfl) (fun _ _ _ h => h) (Or.inl ⟨by rfl, ?_⟩) hHeld ?_
            rotate_left
            · intro w1 hSw
              obtain ⟨s1, s2, s3, s4, s5, s6, s7⟩ := hSw
              obtain ⟨y0, y1, y2, y3⟩ := four_cells s1
              have h0 := one_cell s2
              obtain ⟨r0, r1, r2, r3, r4, r5⟩ := six_cells s3
              go_simp; with_reducible rfl
            simp only [List.getElem_toArray, List.getElem_cons_succ, List.getElem_cons_zero, Act.put, List.setIfInBounds_toArray, List.set_cons_zero, List.set_cons_succ]
            refine wpAnyH_take (i := 4) (oi := _) (v := ?_) rfl (by kernel_rfl) (by kernel_rfl) (by kernel_rfl) (fun _ _ _ h => h) (Or.inl ⟨by rfl, ?_⟩) hHeld ?_
            rotate_left
            · intro w1 hSw
              obtain ⟨s1, s2, s3, s4, s5, s6, s7⟩ := hSw
              obtain ⟨y0, y1, y2, y3⟩ := four_cells s1
              have h0 := one_cell s2
              obtain ⟨r0, r1, r2, r3, r4, r5⟩ := six_cells s3
              go_simp; with_reducible rfl
            simp only [List.getElem_toArray, List.getElem_cons_succ, List.getElem_cons_zero, Act.put, List.setIfInBounds_toArray, List.set_cons_zero, List.set_cons_succ]
            refine wpAnyH_take (i := 5) (oi := _) (v := ?_) rfl (by kernel_rfl) (by kernel_rfl) (by kernel_rfl) (fun _ _ _ h => h) (Or.inl ⟨by rfl, ?_⟩) hHeld ?_
            rotate_left
            · intro w1 hSw
              obtain ⟨s1, s2, s3, s4, s5, s6, s7⟩ := hSw
              obtain ⟨y0, y1, y2, y3⟩ := four_cells s1
              have h0 := one_cell s2
              obtain ⟨r0, r1, r2, r3, r4, r5⟩ := six_cells s3
              go_simp; with_reducible rfl
            simp only [List.getElem_toArray, List.getElem_cons_succ, List.getElem_cons_zero, Act.put, List.setIfInBounds_toArray, List.set_cons_zero, List.set_cons_succ]
            refine wpAnyH_take (i := 6) (oi := _) (v := ?_) rfl (by kernel_rfl) (by kernel_rfl) (by kernel_rfl) (fun _ _ _ h => h) (Or.inl ⟨by rfl, ?_⟩) hHeld ?_
            rotate_left
            · intro w1 hSw
              obtain ⟨s1, s2, s3, s4, s5, s6, s7⟩ := hSw
              obtain ⟨y0, y1, y2, y3⟩ := four_cells s1
              have h0 := one_cell s2
              obtain ⟨r0, r1, r2, r3, r4, r5⟩ := six_cells s3
              go_simp; with_reducible rfl
            simp only [List.getElem_toArray, List.getElem_cons_succ, List.getElem_cons_zero, Act.put, List.setIfInBounds_toArray, List.set_cons_zero, List.set_cons_succ]
            refine wpAnyH_take (i := 7) (oi := _) (v := ?_) rfl (by kernel_rfl) (by kernel_rfl) (by kernel_rfl) (fun _ _ _ h => h) (Or.inl ⟨by rfl, ?_⟩) hHeld ?_
            rotate_left
            · intro w1 hSw
              obtain ⟨s1, s2, s3, s4, s5, s6, s7⟩ := hSw
              obtain ⟨y0, y1, y2, y3⟩ := four_cells s1
              have h0 := one_cell s2
              obtain ⟨r0, r1, r2, r3, r4, r5⟩ := six_cells s3
              go_simp; with_reducible rfl
            simp only [List.getElem_toArray, List.getElem_cons_succ, List.getElem_cons_zero, Act.put, List.setIfInBounds_toArray, List.set_cons_zero, List.set_cons_succ]
            refine wpAnyH_take (i := 8) (oi := _) (v := ?_) rfl (by kernel_rfl) (by kernel_rfl) (by kernel_rfl) (fun _ _ _ h => h) (Or.inl ⟨by rfl, ?_⟩) hHeld ?_
            rotate_left
            · intro w1 hSw
              obtain ⟨s1, s2, s3, s4, s5, s6, s7⟩ := hSw
              obtain ⟨y0, y1, y2, y3⟩ := four_cells s1
              have h0 := one_cell s2
              obtain ⟨r0, r1, r2, r3, r4, r5⟩ := six_cells s3
              go_simp; with_reducible rfl
            simp only [List.getElem_toArray, List.getElem_cons_succ, List.getElem_cons_zero, Act.put, List.setIfInBounds_toArray, List.set_cons_zero, List.set_cons_succ]
            refine wpAnyH_take (i := 9) (oi := _) (v := ?_) rfl (by kernel_rfl) (by kernel_rfl) (by kernel_rfl) (fun _ _ _ h => h) (Or.inl ⟨by rfl, ?_⟩) hHeld ?_
            rotate_left
            · intro w1 hSw
              obtain ⟨s1, s2, s3, s4, s5, s6, s7⟩ := hSw
              obtain ⟨y0, y1, y2, y3⟩ := four_cells s1
              have h0 := one_cell s2
              obtain ⟨r0, r1, r2, r3, r4, r5⟩ := six_cells s3
              go_simp; with_reducible rfl
            simp only [List.getElem_toArray, List.getElem_cons_succ, List.getElem_cons_zero, Act.put, List.setIfInBounds_toArray, List.set_cons_zero, List.set_cons_succ]
            refine wpAnyH_take (i := 10) (oi := _) (v := ?_) rfl (by kernel_rfl) (by kernel_rfl) (by kernel_rfl) (fun _ _ _ h => h) (Or.inl ⟨by rfl, ?_⟩) hHeld ?_
            rotate_left
            · intro w1 hSw
              obtain ⟨s1, s2, s3, s4, s5, s6, s7⟩ := hSw
              obtain ⟨y0, y1, y2, y3⟩ := four_cells s1
              have h0 := one_cell s2
              obtain ⟨r0, r1, r2, r3, r4, r5⟩ := six_cells s3
              go_simp; with_reducible rfl
            simp only [List.getElem_toArray, List.getElem_cons_succ, List.getElem_cons_zero, Act.put, List.setIfInBounds_toArray, List.set_cons_zero, List.set_cons_succ]
            refine wpAnyH_all (rs := [11]) (by kernel_rfl) (by simp) ?_
            intro i hi; obtain rfl := List.mem_singleton.1 hi; clear hi
            refine wpOp_step rfl (fun K3 hK3 => ?_)
            have HK3 := Lib.hid hK3
            clear hK3
            rw [if_pos (by rfl)]
            go_simp
            refine KPV.out.mono ?_
            rintro e w3 ⟨rfl, hs3, hg3⟩
            have hg4 : wr.grownBy w3 (some pt) := ⟨hg3.os, hg3.tape, hg3.output, hg3.size, hg3.block⟩
            have hbk : ∀ b o, wr.heap[b]? = some o → b ≠ pt → w3.heap[b]? = some o := fun b o hb hne => (hg4.block b (Array.getElem?_eq_some_iff.1 hb).1 (fun e => hne (by simpa using e))).trans hb
            have hce : ∀ o, w3.cell? ⟨cb, o, none⟩ = wr.cell? ⟨cb, o, none⟩ := fun o => World.cell?_of_block (w := wr) (hg4.block cb (by have := HBW.out.size; omega) (fun e => absurd (show cb = pt by simpa using e) (by omega)))
            obtain ⟨t1, t2, t3, t4, t5, t6, t7⟩ := hS11
            have hS3 := And.intro (hbk _ _ t1 (by omega)) (And.intro (hbk _ _ t2 (by omega)) (And.intro (hbk _ _ t3 (by omega)) (And.intro ((hce _).trans t4) (And.intro ((hce _).trans t5) (And.intro ((hce _).trans t6) ((hce _).trans t7))))))
            have hst := HAG.out
            unfold stepF at hst
            rw [if_pos (by simpa using HCLS.out)] at hst
            have hnew := HSET.out w3 _ hs3 hg4 hst.symm
            have HNEW := Lib.hid hnew
            have HO3 := Lib.hid (HO.out.trans (OnlyE.of_grown (E := fun k => k ∈ ptrs ∨ k = H + 1 ∨ k = H + 1 + 1) hg4 (fun q e => by cases e; exact .inl hptE)))
            have N3 := Lib.hid (hbk _ _ L3.out (by omega))
            have N4 := Lib.hid (hbk _ _ L4.out (by omega))
            have NX := Lib.hid (hbk _ _ LX.out (by omega))
            have NH := Lib.hid (hbk _ _ LH.out (by omega))
            clear t1 t2 t3 t4 t5 t6 t7 hst hnew hs3 hg3 hg4 hbk hce hHeld
            refine HK3.out _ _ ⟨hS3, ?_⟩
            clear HK3 K3
            try simp only [List.getElem_toArray, List.getElem_cons_succ, List.getElem_cons_zero, Act.put, List.setIfInBounds_toArray, List.set_cons_zero, List.set_cons_succ]
            refine wpAnyH_done (by kernel_rfl) ?_ _
            clear hS3
            gi_wp2
            go_roundw
            case rel => exact ⟨k + 1, by omega, by go_num, HNEW.out, HO3.out, N3.out, N4.out, NX.out, NH.out⟩
            case measure => simp [intOf]; omega
          · have e1 : (r.cls == (c : Int)) = false := by simpa using hcls
            have hst := HAG.out
            unfold stepF at hst
            rw [if_neg (by simpa using hcls)] at hst
            have HST := Lib.hid hst
            clear hst hcls
            gi_wp2
            go_roundw
            case rel => exact ⟨k + 1, by omega, by go_num, (HKEEP.out HST.out).below (below_drewn (Below.refl _ _) 1), HO.out.drew, L3.out, L4.out, LX.out, LH.out⟩
            case measure => simp [intOf]; omega
        · have hkn : k = s.rs.length := by omega
          rw [hkn, mixT_all htl] at hrec
          have HREC := Lib.hid hrec
          have hOW := JO.out.trans hO
          have HOW := Lib.hid hOW
          have L3 := Lib.hid l3
          have L4 := Lib.hid l4
          have hge : ¬ (k : Int) < (s.rs.length : Int) := by omega
          clear hkn hrec hO hOW l3 l4 lX lH htl hml hll
          gi_wp2
          refine ⟨HOW.out.from (fun k hk => by have := htE k hk; omega), HOW.out.keep, ?_, I2.out.trans HOW.out, L3.out, L4.out, HOKN.out ?_⟩
          · rw [HSN.out, HQ.out]; exact HREC.out
          · rw [HQ.out]; exact HER.out
    · have h1 := one_cell j3
      have h2 := one_cell j4
      have f1 : w2.frozen? ⟨H + 1, 0, none⟩ = false := by simp [World.frozen?, j3]
      have f2 : w2.frozen? ⟨H + 1 + 1, 0, none⟩ = false := by simp [World.frozen?, j4]
      have e1 : (er != 0) = true := by simpa using her0
      have e2 : (er == 0) = false := by simpa using her0
      have J3 := Lib.hid j3
      have J4 := Lib.hid j4
      have JO := Lib.hid jO
      have H0 := Lib.hid her0
      clear j1 j3 j4 jX jH jO her0
      gi_wp2
      have hO : OnlyE (fun k => k ∈ ptrs ∨ k = H + 1 ∨ k = H + 1 + 1) W ((w2.setCell ⟨H + 1, 0, none⟩ (.int .i64 (y : Int))).setCell ⟨H + 1 + 1, 0, none⟩ (.int .i64 er)) := (JO.out.set (.inr (.inl rfl)) _).set (.inr (.inr rfl)) _
      have s1 : ((w2.setCell ⟨H + 1, 0, none⟩ (.int .i64 (y : Int))).setCell ⟨H + 1 + 1, 0, none⟩ (.int .i64 er)).heap[H + 1]? = some (.cells #[.int .i64 (y : Int)] 3 (0, 0)) :=
        (Below.heap_setCell _ _ _ _ (by simp)).trans (by have := heap_set J3.out 0 (.int .i64 (y : Int)); simpa using this)
      have s2 : ((w2.setCell ⟨H + 1, 0, none⟩ (.int .i64 (y : Int))).setCell ⟨H + 1 + 1, 0, none⟩ (.int .i64 er)).heap[H + 1 + 1]? = some (.cells #[.int .i64 er] 33 (0, 0)) := by
        have := heap_set ((Below.heap_setCell w2 ⟨H + 1, 0, none⟩ (.int .i64 (y : Int)) (H + 1 + 1) (by simp)).trans J4.out) 0 (.int .i64 er)
        simpa using this
      refine ⟨hO.from (fun k hk => by have := htE k hk; omega), rfl, I2.out.trans hO, pre, x, rfl, I5.out, ?_, ?_, ?_⟩
      · rw [HY.out, HTS.out, HQ.out, HER.out]; exact H0.out
      · rw [HY.out]; exact s1
      · rw [HY.out, HTS.out, HQ.out, HER.out]; exact s2
  case done =>
    rintro D xs W hD rfl ⟨i1, i2, i3, i4, i5⟩ hK
    have hres : prfR s = (0, 0, tsF s (orderF s.ps s.ps.length)) := run_ok _ _ (orderF_lt s.ps s.ps.length) i5
    have x1 := one_cell i3
    have x2 := one_cell i4
    have f1 : W.frozen? ⟨H + 1, 0, none⟩ = false := by simp [World.frozen?, i3]
    have f2 : W.frozen? ⟨H + 1 + 1, 0, none⟩ = false := by simp [World.frozen?, i4]
    have HR := Lib.hid hres
    have I1 := Lib.hid i1
    have I2 := Lib.hid i2
    have HK := Lib.hid hK
    have I3 := Lib.hid i3
    have I4 := Lib.hid i4
    clear hres i1 i2 hK i3 i4 i5 k1 k2 k3 k4 c0
    gi_wp2
    have hHl := (Array.getElem?_eq_some_iff.1 I3.out).1
    have hDl := (Array.getElem?_eq_some_iff.1 HK.out).1
    obtain ⟨X, hX⟩ : ∃ X, (W.setCell ⟨H + 1, 0, none⟩ (.int .i64 0)).setCell ⟨H + 1 + 1, 0, none⟩ (.int .i64 0) = X := ⟨_, rfl⟩
    have hO : OnlyE (fun k => k ∈ ptrs ∨ k = H + 1 ∨ k = H + 1 + 1) W X := by rw [← hX]; exact ((OnlyE.refl _ _).set (.inr (.inl rfl)) _).set (.inr (.inr rfl)) _
    have s1 : X.heap[H + 1]? = some (.cells #[.int .i64 0] 3 (0, 0)) := by
      rw [← hX]; exact (Below.heap_setCell _ _ _ _ (by simp)).trans (by have := heap_set I3.out 0 (.int .i64 0); simpa using this)
    have s2 : X.heap[H + 1 + 1]? = some (.cells #[.int .i64 0] 33 (0, 0)) := by
      rw [← hX]
      have := heap_set ((Below.heap_setCell W ⟨H + 1, 0, none⟩ (.int .i64 0) (H + 1 + 1) (by simp)).trans I4.out) 0 (.int .i64 0)
      simpa using this
    have sD : X.heap[D]? = some (.deferred (some [])) := by
      rw [← hX]; exact (Below.heap_setCell _ _ _ _ (by simp; omega)).trans ((Below.heap_setCell _ _ _ _ (by simp; omega)).trans HK.out)
    have sR : RecAt w0.heap.size (.slice ca s.cs.length cc) rv (.slice pa s.ps.length pc) bv R M X (.slice ga s.rs.length gc) ptrs (rowsT s (tsF s (orderF s.ps s.ps.length))) s.bs := by
      have hne : ∀ b o, b < H ∨ b ∈ ptrs → W.heap[b]? = some o → X.heap[b]? = some o := fun b o hb ho => by
        have : b < H := by rcases hb with hb | hb; exact hb; exact hlt b hb
        rw [← hX]; exact (Below.heap_setCell _ _ _ _ (by simp; omega)).trans ((Below.heap_setCell _ _ _ _ (by simp; omega)).trans ho)
      have hb2 : Below H W X := ⟨hO.os, hO.tape, hO.output, hO.size, fun k hk => by
        rw [← hX]; exact (Below.heap_setCell _ _ _ _ (by simp; omega)).trans (Below.heap_setCell _ _ _ _ (by simp; omega))⟩
      have hi := I1.out
      refine ⟨hne _ _ (.inl hRl) hi.box, ?_, hi.len, fun i hi2 => hne _ _ (.inr (hi.ptr hi2)) (hi.seen i hi2), hi.few, ?_, hi.hR, hi.hM, hi.ge, hi.nd⟩
      · refine (hi.row.kept (setCell_grown W ⟨H + 1, 0, none⟩ (.int .i64 0)) (.inr (own_ne hi.row I3.out (by decide)))).kept (row := some (H + 1 + 1)) ?_ ?_
        · rw [← hX]; exact setCell_grown _ ⟨H + 1 + 1, 0, none⟩ _
        · exact .inr (own_ne hi.row I4.out (by decide))
      · refine (hi.map.kept (setCell_grown W ⟨H + 1, 0, none⟩ (.int .i64 0)) (fun e => absurd (show M = H + 1 by simpa using e) (by omega))).kept (row := some (H + 1 + 1)) ?_ (fun e => absurd (show M = H + 1 + 1 by simpa using e) (by omega))
        rw [← hX]; exact setCell_grown _ ⟨H + 1 + 1, 0, none⟩ _
    rw [hX]
    have hg := grownBy_putObj' X D (.deferred none)
    have q1 := one_cell ((World.putObj_heap_other (o := .deferred none) (show H + 1 ≠ D by omega)).trans s1)
    have q2 := one_cell ((World.putObj_heap_other (o := .deferred none) (show H + 1 + 1 ≠ D by omega)).trans s2)
    refine ⟨by simp, .inl ⟨_, _, rfl, run_takeDeferred sD, ?_⟩⟩
    refine ⟨.tuple #[.int .i64 0, .int .i64 0], ?_, ?_, ?_, ?_, fun _ => ?_⟩
    · simp [results, Try.results38, go_sem, q1, q2]
    · rw [HR.out]; rfl
    · exact (hbw0.trans ((I2.out.trans hO).below hbw0.size hgeE)).grown hg (hbw0.trans ((I2.out.trans hO).below hbw0.size hgeE)).size (fun k hk => by cases hk; have := hbw0.size; omega)
    · exact (hk01.trans (hk1O _ (I2.out.trans hO))).trans (K87.of_grown hg (fun r cs e h2 => by cases e; rw [sD] at h2; simp at h2))
    · rw [HR.out]
      exact sR.own (n := H + 4) hg (fun r hr => by cases hr; exact ⟨by omega, _, sD, rfl⟩) (by omega)
  case stop =>
    rintro D c pre W hD hpre ⟨rfl, i2, pre', x, rfl, g4, g5, g6, g7⟩ hK
    obtain ⟨rest, hrest⟩ := hpre
    rw [List.append_assoc, List.singleton_append] at hrest
    have hin := orderF_lt s.ps s.ps.length
    have hxl : x < s.ps.length := hin x (by rw [← hrest]; simp)
    rw [cl_same hxl] at g5 g6 g7
    have hres := run_stop (s := s) pre' x rest (beginF s) (fun y hy => hin y (by rw [← hrest]; exact hy)) g4 (by rw [cl_same hxl]; exact g5)
    rw [hrest, cl_same hxl] at hres
    change prfR s = _ at hres
    have x1 := one_cell g6
    have x2 := one_cell g7
    have HR := Lib.hid hres
    have I2 := Lib.hid i2
    have HK := Lib.hid hK
    have G5 := Lib.hid g5
    have G6 := Lib.hid g6
    have G7 := Lib.hid g7
    clear hres i2 hK k1 k2 k3 k4 c0 g4 g5 g6 g7 hrest
    gi_wp2
    have hHl := (Array.getElem?_eq_some_iff.1 G6.out).1
    have hDl := (Array.getElem?_eq_some_iff.1 HK.out).1
    have hg := grownBy_putObj' W D (.deferred none)
    have q1 := one_cell ((World.putObj_heap_other (o := .deferred none) (show H + 1 ≠ D by omega)).trans G6.out)
    have q2 := one_cell ((World.putObj_heap_other (o := .deferred none) (show H + 1 + 1 ≠ D by omega)).trans G7.out)
    refine ⟨by simp, .inl ⟨_, _, rfl, run_takeDeferred HK.out, ?_⟩⟩
    refine ⟨.tuple #[.int .i64 (x : Int), .int .i64 (prfErr s (tsF s pre') s.ps[x]!)], ?_, ?_, ?_, ?_, fun h0 => ?_⟩
    · simp [results, Try.results38, go_sem, q1, q2]
    · rw [HR.out]; rfl
    · exact (hbw0.trans (I2.out.below hbw0.size hgeE)).grown hg (hbw0.trans (I2.out.below hbw0.size hgeE)).size (fun k hk => by cases hk; have := hbw0.size; omega)
    · exact (hk01.trans (hk1O _ I2.out)).trans (K87.of_grown hg (fun r cs e h2 => by cases e; rw [HK.out] at h2; simp at h2))
    · rw [HR.out] at h0; exact absurd h0 G5.out
end Go.Proofs.Ytcmfplfnpjknlaa
