/- Term: contracts of count and Count. -/
import Derived.Test.YtcmfplfnpjknlaaA18
namespace Go.Proofs.Ytcmfplfnpjknlaa
set_option linter.unusedSimpArgs false
set_option linter.unusedVariables false
open Go.RowKit

/-- bounds of a tally -/
def TallyIn (k : Nat) (t : Int × Int × Int × Int) : Prop := (-1000 * (k : Int) ≤ t.1 ∧ t.1 ≤ 1000001 * (k : Int)) ∧ (-1000 * (k : Int) ≤ t.2.1 ∧ t.2.1 ≤ 1000001 * (k : Int)) ∧ (-1000 * (k : Int) ≤ t.2.2.1 ∧ t.2.2.1 ≤ 1000001 * (k : Int)) ∧ (0 ≤ t.2.2.2 ∧ t.2.2.2 ≤ 1000 * (k : Int))
theorem stands_3 (r : Row) (e day : Int) : standsF r e day = 0 ∨ standsF r e day = 1 ∨ standsF r e day = 2 := by
  unfold standsF
  split
  · exact .inl rfl
  · split
    · exact .inr (.inl rfl)
    · exact .inr (.inr rfl)
theorem tallyF_0 {bs : List (Int × Int)} {day : Int} {a b c d : Int} {x : Row × (Int × Int)} (h : standsF x.1 x.2.1 day = 0) : tallyF bs day (a, b, c, d) x = (a + wholeF bs x.1 day, b, c, d + (goneF bs x.1 day : Nat)) := by unfold tallyF; rw [h]; simp
theorem tallyF_1 {bs : List (Int × Int)} {day : Int} {a b c d : Int} {x : Row × (Int × Int)} (h : standsF x.1 x.2.1 day = 1) : tallyF bs day (a, b, c, d) x = (a, b + wholeF bs x.1 day, c, d + (goneF bs x.1 day : Nat)) := by unfold tallyF; rw [h]; simp
theorem tallyF_2 {bs : List (Int × Int)} {day : Int} {a b c d : Int} {x : Row × (Int × Int)} (h : standsF x.1 x.2.1 day = 2) : tallyF bs day (a, b, c, d) x = (a, b, c + wholeF bs x.1 day, d + (goneF bs x.1 day : Nat)) := by unfold tallyF; rw [h]; simp
theorem gone_le (bs : List (Int × Int)) (r : Row) (day : Int) : goneF bs r day ≤ bs.length := List.countP_le_length
theorem tally_step {s : Stk} {ts : List (Int × Int)} (hl : ts.length = s.rs.length) {k : Nat} (hk : k < s.rs.length) (day : Int) : ((rowsT s ts).take (k + 1)).foldl (tallyF s.bs day) (0, 0, 0, 0) = tallyF s.bs day (((rowsT s ts).take k).foldl (tallyF s.bs day) (0, 0, 0, 0)) (s.rs[k]!, ts[k]!) := by
  have hl2 : k < (rowsT s ts).length := by rw [rowsT_len hl]; exact hk
  rw [List.take_succ_eq_append_getElem hl2, List.foldl_append, List.foldl_cons, List.foldl_nil]
  congr 1
  have := rowsT_get hl hk
  rw [List.getD, List.getElem?_eq_getElem hl2] at this
  simpa using this
/-- the records are as they were where a block of another kind is turned -/
theorem rec_other {B : Nat} {cv rv pv bv : Value} {R M b : Nat} {w : World} {G : Value} {ps : List Nat} {L : List (Row × (Int × Int))} {bs : List (Int × Int)} {cs : Array Value} {T : TypeId} (h : RecAt B cv rv pv bv R M w G ps L bs) (hb : w.heap[b]? = some (.cells cs T (0, 0))) (h1 : T ≠ 86) (h2 : T ≠ 75) (h3 : T ≠ 78) (o : Nat) (v : Value) :
    RecAt B cv rv pv bv R M (w.setCell ⟨b, o, none⟩ v) G ps L bs := by
  have hne : ∀ (c : Nat) (ds : Array Value) (U : TypeId), U ≠ T → w.heap[c]? = some (.cells ds U (0, 0)) → (w.setCell ⟨b, o, none⟩ v).heap[c]? = some (.cells ds U (0, 0)) := fun c ds U hU hc =>
    (Below.heap_setCell w ⟨b, o, none⟩ v c (fun e => by
      simp only [] at e
      rw [e, hb] at hc
      simp at hc
      exact hU hc.2.symm)).trans hc
  refine ⟨hne _ _ _ h1.symm h.box, h.row.kept (setCell_grown w ⟨b, o, none⟩ v) (.inr (own_ne h.row hb h2)), h.len, fun i hi => hne _ _ _ h3.symm (h.seen i hi), h.few, h.map.kept (setCell_grown w ⟨b, o, none⟩ v) (fun e => ?_), h.hR, h.hM, h.ge, h.nd⟩
  obtain ⟨es, c, em⟩ := h.map.heap
  simp only [Option.some.injEq] at e
  rw [e, hb] at em
  simp at em
section
variable {B : Nat} {cv rv pv bv : Value} {R M : Nat} {w : World} {G : Value} {ptrs : List Nat}
set_option maxRecDepth 100000 in
set_option maxHeartbeats 6400000 in
theorem rcount_any (s : Stk) (ts : List (Int × Int)) (day : Int) (hok : stkOk s = true) (hnd : (s.bs.map (·.1)).Nodup) (hl : ts.length = s.rs.length) (h : RecAt B cv rv pv bv R M w G ptrs (rowsT s ts) s.bs) :
    Calls Try.prog 26 #[.pointer (some ⟨R, 0, none⟩), .int .i64 day] w fun e w' => e = .returned (.agg #[.int .i64 (tallyAll s ts day).1, .int .i64 (tallyAll s ts day).2.1, .int .i64 (tallyAll s ts day).2.2.1, .int .i64 (tallyAll s ts day).2.2.2]) ∧ Below w.heap.size w w' := by
  obtain ⟨f1, f2, f3, f4⟩ := stk_few hok
  obtain ⟨ga, gc, hG⟩ := h.shape
  rw [rowsT_len hl] at hG
  subst hG
  obtain ⟨W0, hW0⟩ : ∃ X, X = (w.alloc (.cells #[.int .i64 0, .int .i64 0, .int .i64 0, .int .i64 0] 64)).alloc (.cells #[.int .i64 0, .int .i64 0, .int .i64 0, .int .i64 0] 64) := ⟨_, rfl⟩
  have hb0 : Below w.heap.size w W0 := by rw [hW0]; exact ((Below.refl _ _).alloc (Nat.le_refl _) _).alloc (by simp) _
  have k1 : W0.heap[w.heap.size]? = some (.cells #[.int .i64 0, .int .i64 0, .int .i64 0, .int .i64 0] 64 (0, 0)) := by
    rw [hW0]; exact (Below.heap_alloc _ _ _ (by simp)).trans (alloc_heap w _)
  have k2 : W0.heap[w.heap.size + 1]? = some (.cells #[.int .i64 0, .int .i64 0, .int .i64 0, .int .i64 0] 64 (0, 0)) := by
    have := alloc_heap (w.alloc (.cells #[.int .i64 0, .int .i64 0, .int .i64 0, .int .i64 0] 64)) (.cells #[.int .i64 0, .int .i64 0, .int .i64 0, .int .i64 0] 64)
    rw [hW0]; simpa using this
  obtain ⟨S, hS⟩ : ∃ S, w.heap.size = S := ⟨_, rfl⟩
  rw [hS] at k1 k2 hb0
  have hrec0 := h.below (by rw [hS]; exact hb0)
  obtain ⟨c0, c1, c2, c3, c4, c5⟩ := six_cells hrec0.box
  have HS := Lib.hid hS
  have H1 := Lib.hid k1
  have H2 := Lib.hid k2
  have HB := Lib.hid hb0
  have HREC := Lib.hid hrec0
  have hRl := (Array.getElem?_eq_some_iff.1 h.box).1
  have hlt : ∀ p ∈ ptrs, p < S := fun p hp => by
    obtain ⟨i, hi, rfl⟩ := List.mem_iff_getElem.1 hp
    have := (Array.getElem?_eq_some_iff.1 (h.seen i (by rw [← h.len]; exact hi))).1
    rw [hS] at this
    rwa [show ptrs.getD i 0 = ptrs[i] by simp [List.getD, hi]] at this
  have hBS : B ≤ S := by have := h.hR; omega
  have HALL := Lib.hid (show tallyAll s ts day = ((rowsT s ts).take s.rs.length).foldl (tallyF s.bs day) (0, 0, 0, 0) by unfold tallyAll; rw [List.take_of_length_le (by rw [rowsT_len hl]; exact Nat.le_refl _)])
  obtain ⟨⟨ra, rb, rc, rd⟩, hRS⟩ : ∃ t, tallyAll s ts day = t := ⟨_, rfl⟩
  rw [hRS]
  simp only []
  have HRS := Lib.hid hRS
  have HL := Lib.hid hl
  have HND := Lib.hid hnd
  have HOK := Lib.hid hok
  clear c0 c1 c2 c3 c5 k1 k2 hb0 h hRS hl hnd hok hrec0
  go_enter Try.func26, Try.ntmps26
  go_upto_region 2 with fail
  rw [← hW0]
  clear hW0 hS
  go_wp2_with fail
  clear c4
  go_loopw [14] (fun i wr => ∃ (k : Nat) (a b c d : Int), k ≤ s.rs.length ∧ i = .int .i64 k ∧ Below S w wr ∧ RecAt B cv rv pv bv R M wr (.slice ga s.rs.length gc) ptrs (rowsT s ts) s.bs ∧ wr.heap[S]? = some (.cells #[.int .i64 0, .int .i64 0, .int .i64 0, .int .i64 0] 64 (0, 0)) ∧ wr.heap[S + 1]? = some (.cells #[.int .i64 a, .int .i64 b, .int .i64 c, .int .i64 d] 64 (0, 0)) ∧ ((rowsT s ts).take k).foldl (tallyF s.bs day) (0, 0, 0, 0) = (a, b, c, d) ∧ TallyIn k (a, b, c, d)) (fun i _ => s.rs.length - (intOf i).toNat)
  case atStart => exact ⟨0, 0, 0, 0, 0, by omega, rfl, HB.out, HREC.out, H1.out, H2.out, rfl, by simp [TallyIn]⟩
  case round =>
    obtain ⟨k, a, b, c, d, hk, rfl, hbel, hrec, l1, l2, hfold, htal⟩ := hrel
    have hll := rowsT_len HL.out
    by_cases hlk : k < s.rs.length
    · obtain ⟨g, eg, _, hgl, hgc⟩ := hrec.at (by rw [hll]; omega)
      subst eg
      have u0 := hgc k (by rw [hll]; exact hlk)
      have hsn := rec_row hrec HL.out hlk
      obtain ⟨cc, hcls, hcl, g1, g2, g3, g4, g5, _, _⟩ := rowOk_of HOK.out hlk
      have hptE := hrec.ptr (i := k) (by rw [hll]; exact hlk)
      have hstep := tally_step HL.out hlk day
      rw [hfold] at hstep
      obtain ⟨pt, hpt⟩ : ∃ p, ptrs.getD k 0 = p := ⟨_, rfl⟩
      obtain ⟨r, hr⟩ : ∃ r, s.rs[k]! = r := ⟨_, rfl⟩
      obtain ⟨t, ht⟩ : ∃ t, ts[k]! = t := ⟨_, rfl⟩
      rw [hr, ht] at hsn hstep
      rw [hr] at g1 g2 g3
      rw [hpt] at u0 hsn hptE
      have hptS := hlt pt hptE
      have k40 := unbroken_any pt r t day hrec hsn (by omega) (by omega) (by omega) (by omega) f4 HND.out
      have gl := gone_le s.bs r day
      obtain ⟨gn, hgn⟩ : ∃ n, goneF s.bs r day = n := ⟨_, rfl⟩
      have hwh : wholeF s.bs r day = sizeF r - (gn : Nat) := by unfold wholeF; rw [hgn]
      have hsz : 0 ≤ sizeF r ∧ sizeF r ≤ 1000000 := by unfold sizeF; omega
      obtain ⟨hsz0, hsz1⟩ := hsz
      obtain ⟨sz, hsze⟩ : ∃ z, sizeF r = z := ⟨_, rfl⟩
      rw [hsze] at hwh hsz0 hsz1
      obtain ⟨wh, hwhe⟩ : ∃ z, wholeF s.bs r day = z := ⟨_, rfl⟩
      rw [hwhe] at k40 hwh
      rw [hgn] at gl
      have wb1 : -24 ≤ wh ∧ wh ≤ 1000000 ∧ 0 ≤ sz - wh ∧ sz - wh ≤ 24 := by omega
      obtain ⟨wb1, wb2, wb3, wb4⟩ := wb1
      have HWQ := Lib.hid hwh
      clear hwh
      have K40 := Lib.hid k40
      have HREC2 := Lib.hid hrec
      have HBEL := Lib.hid hbel
      have L1 := Lib.hid l1
      have L2 := Lib.hid l2
      have HSN := Lib.hid hsn
      have HSTEP := Lib.hid hstep
      have HGN := Lib.hid hgn
      have HWH := Lib.hid hwhe
      have HSZ := Lib.hid hsze
      have HSIZE := Lib.hid (fun X hx => size_any pt r t X hx (by omega) (by omega) (by omega) (by omega))
      obtain ⟨⟨ta0, ta1⟩, ⟨tb0, tb1⟩, ⟨tc0, tc1⟩, ⟨td0, td1⟩⟩ := htal
      simp only [] at ta0 ta1 tb0 tb1 tc0 tc1 td0 td1
      have kk0 : (0 : Int) ≤ (k : Int) := by omega
      have kk1 : (k : Int) < (s.rs.length : Int) := by omega
      have k24 : (k : Int) ≤ 24 := by omega
      clear k40 hrec hbel l1 l2 hsn hstep hgn hwhe hsze hgc hpt hr ht hll hfold
      go_upto_region 6 with (go_at_call 40; (with_reducible refine K40.out.mono ?_); rintro e w2 ⟨rfl, hb2⟩)
      have hrec2 := HREC2.out.below hb2
      have m1 := box_step (w0 := w) L1.out hb2
      have m2 := box_step (w0 := w) L2.out hb2
      have n2 := HSN.out.below (B := 0) hb2
      have hbel2 := HBEL.out.trans (hb2.mono (by have := HBEL.out.size; have := HS.out; omega))
      have kst := rstands_any pt r t day w2 n2
      obtain ⟨x0, x1, x2, x3⟩ := four_cells m2
      have fz : ∀ o, w2.frozen? ⟨S + 1, o, none⟩ = false := fun o => by simp [World.frozen?, m2]
      have fz0 := fz 0
      have fz1 := fz 1
      have fz2 := fz 2
      have HRC := Lib.hid hrec2
      have M1 := Lib.hid m1
      have M2 := Lib.hid m2
      have N2 := Lib.hid n2
      have HBL := Lib.hid hbel2
      have ewa : IntKind.i64.wrap (a + wh) = a + wh := IntWalk.i64_in _ (by omega)
      have ewb : IntKind.i64.wrap (b + wh) = b + wh := IntWalk.i64_in _ (by omega)
      have ewc : IntKind.i64.wrap (c + wh) = c + wh := IntWalk.i64_in _ (by omega)
      have ews : IntKind.i64.wrap (sz - wh) = sz - wh := IntWalk.i64_in _ (by omega)
      have ewd : IntKind.i64.wrap (d + (sz - wh)) = d + (sz - wh) := IntWalk.i64_in _ (by omega)
      clear hrec2 m1 m2 n2 hbel2 hb2 fz
      -- the three ways to stand
      obtain ⟨st, hste⟩ : ∃ z, standsF r t.1 day = z := ⟨_, rfl⟩
      have hst3 := stands_3 r t.1 day
      rw [hste] at hst3 kst
      have HST := Lib.hid hste
      have KST := Lib.hid kst
      clear kst hste
      rcases hst3 with rfl | rfl | rfl
      · go_upto_region 7 with (go_at_call 41; (with_reducible refine KST.out.mono ?_); rintro e w3 ⟨rfl, rfl⟩)
        have hv : (w2.setCell ⟨S + 1, 0, none⟩ (.int .i64 (a + wh))).heap[S + 1]? = some (.cells #[.int .i64 (a + wh), .int .i64 b, .int .i64 c, .int .i64 d] 64 (0, 0)) := by
          have := heap_set M2.out 0 (.int .i64 (a + wh)); simpa using this
        have hbs : Below S w (w2.setCell ⟨S + 1, 0, none⟩ (.int .i64 (a + wh))) := HBL.out.setCell (by simp) _
        have hob : ∀ bl o, bl ≠ S + 1 → w2.heap[bl]? = some o → (w2.setCell ⟨S + 1, 0, none⟩ (.int .i64 (a + wh))).heap[bl]? = some o := fun bl o hb ho => (Below.heap_setCell _ _ _ _ hb).trans ho
        have hrs : RecAt B cv rv pv bv R M (w2.setCell ⟨S + 1, 0, none⟩ (.int .i64 (a + wh))) (.slice (some ⟨g, 0, none⟩) s.rs.length gc) ptrs (rowsT s ts) s.bs := rec_other HRC.out M2.out (by decide) (by decide) (by decide) 0 _
        have hsn := N2.out
        have hsn2 : SeenAt (w2.setCell ⟨S + 1, 0, none⟩ (.int .i64 (a + wh))) pt r t := hob _ _ (by omega) hsn
        have hl1 := hob _ _ (by omega) M1.out
        clear hsn
        generalize (w2.setCell ⟨S + 1, 0, none⟩ (.int .i64 (a + wh))) = w4 at *
        have ks := HSIZE.out w4.drew hsn2
        rw [HSZ.out] at ks
        have KS := Lib.hid ks
        have HV := Lib.hid hv
        have HBS := Lib.hid hbs
        have HRS2 := Lib.hid hrs
        have HS2 := Lib.hid hsn2
        have HL1 := Lib.hid hl1
        have hT : SeenAt w4.drew pt r t ∧ w4.drew.heap[S + 1]? = some (.cells #[.int .i64 (a + wh), .int .i64 b, .int .i64 c, .int .i64 d] 64 (0, 0)) := ⟨hsn2, hv⟩
        clear hv hbs hob hrs hsn2 hl1 ks x0 x1 x2 x3 fz0 fz1 fz2 ewa ewb ewc
        refine wp_region_last (fun w' => SeenAt w' pt r t ∧ w'.heap[S + 1]? = some (.cells #[.int .i64 (a + wh), .int .i64 b, .int .i64 c, .int .i64 d] 64 (0, 0))) 8 (by kernel_rfl) hT (fun hHeld => ?_)
        refine wpLast_take (i := 0) (oi := _) (v := ?_) rfl (by kernel_rfl) (by kernel_rfl) (by decide) (by kernel_rfl) (by kernel_rfl) (fun _ _ _ h => h) (Or.inl ⟨by rfl, ?_⟩) hT ?_
        rotate_left
        · intro w1 hSw
          obtain ⟨s1, s2⟩ := hSw
          obtain ⟨x0, x1, x2, x3⟩ := four_cells s2
          go_simp; with_reducible rfl
        simp only [List.getElem_toArray, List.getElem_cons_succ, List.getElem_cons_zero, Act.put, List.setIfInBounds_toArray, List.set_cons_zero, List.set_cons_succ]
        refine wpLast_take (i := 1) (oi := _) (v := ?_) rfl (by kernel_rfl) (by kernel_rfl) (by decide) (by kernel_rfl) (by kernel_rfl) (fun _ _ _ h => h) (Or.inl ⟨by rfl, ?_⟩) hT ?_
        rotate_left
        · intro w1 hSw
          obtain ⟨s1, s2⟩ := hSw
          obtain ⟨x0, x1, x2, x3⟩ := four_cells s2
          go_simp; with_reducible rfl
        simp only [List.getElem_toArray, List.getElem_cons_succ, List.getElem_cons_zero, Act.put, List.setIfInBounds_toArray, List.set_cons_zero, List.set_cons_succ]
        refine wpLast_take (i := 2) (oi := _) (v := ?_) rfl (by kernel_rfl) (by kernel_rfl) (by decide) (by kernel_rfl) (by kernel_rfl) (fun _ _ _ h => h) (Or.inl ⟨by rfl, ?_⟩) hT ?_
        rotate_left
        · intro w1 hSw
          obtain ⟨s1, s2⟩ := hSw
          obtain ⟨x0, x1, x2, x3⟩ := four_cells s2
          go_simp; with_reducible rfl
        simp only [List.getElem_toArray, List.getElem_cons_succ, List.getElem_cons_zero, Act.put, List.setIfInBounds_toArray, List.set_cons_zero, List.set_cons_succ]
        refine wpLast_take (i := 4) (oi := _) (v := ?_) rfl (by kernel_rfl) (by kernel_rfl) (by decide) (by kernel_rfl) (by kernel_rfl) (fun _ _ _ h => h) (Or.inl ⟨by rfl, ?_⟩) hT ?_
        rotate_left
        · intro w1 hSw
          obtain ⟨s1, s2⟩ := hSw
          obtain ⟨x0, x1, x2, x3⟩ := four_cells s2
          go_simp; with_reducible rfl
        simp only [List.getElem_toArray, List.getElem_cons_succ, List.getElem_cons_zero, Act.put, List.setIfInBounds_toArray, List.set_cons_zero, List.set_cons_succ]
        refine wpLast_ready (rs := [3]) (by kernel_rfl) (by simp) ?_
        intro i hi; obtain rfl := List.mem_singleton.1 hi; clear hi
        refine wpOp_step rfl (fun K3 hK3 => ?_)
        have HK3 := Lib.hid hK3
        clear hK3
        rw [if_pos (by rfl)]
        go_simp
        refine KS.out.mono ?_
        rintro e w5 ⟨rfl, q5, rfl⟩
        refine HK3.out _ _ ⟨fun _ => hT, fun _ => ?_⟩
        clear HK3 K3
        try simp only [List.getElem_toArray, List.getElem_cons_succ, List.getElem_cons_zero, Act.put, List.setIfInBounds_toArray, List.set_cons_zero, List.set_cons_succ]
        refine wpLast_take (i := 5) (oi := _) (v := ?_) rfl (by kernel_rfl) (by kernel_rfl) (by decide) (by kernel_rfl) (by kernel_rfl) (fun _ _ _ h => h) (Or.inl ⟨by rfl, ?_⟩) hT ?_
        rotate_left
        · intro w1 hSw
          obtain ⟨s1, s2⟩ := hSw
          obtain ⟨x0, x1, x2, x3⟩ := four_cells s2
          go_simp; with_reducible rfl
        simp only [List.getElem_toArray, List.getElem_cons_succ, List.getElem_cons_zero, Act.put, List.setIfInBounds_toArray, List.set_cons_zero, List.set_cons_succ]
        refine wpLast_take (i := 6) (oi := _) (v := ?_) rfl (by kernel_rfl) (by kernel_rfl) (by decide) (by kernel_rfl) (by kernel_rfl) (fun _ _ _ h => h) (Or.inl ⟨by rfl, ?_⟩) hT ?_
        rotate_left
        · intro w1 hSw
          obtain ⟨s1, s2⟩ := hSw
          obtain ⟨x0, x1, x2, x3⟩ := four_cells s2
          go_simp; with_reducible rfl
        simp only [List.getElem_toArray, List.getElem_cons_succ, List.getElem_cons_zero, Act.put, List.setIfInBounds_toArray, List.set_cons_zero, List.set_cons_succ]
        refine wpLast_take (i := 7) (oi := _) (v := ?_) rfl (by kernel_rfl) (by kernel_rfl) (by decide) (by kernel_rfl) (by kernel_rfl) (fun _ _ _ h => h) (Or.inl ⟨by rfl, ?_⟩) hT ?_
        rotate_left
        · intro w1 hSw
          obtain ⟨s1, s2⟩ := hSw
          obtain ⟨x0, x1, x2, x3⟩ := four_cells s2
          go_simp; with_reducible rfl
        simp only [List.getElem_toArray, List.getElem_cons_succ, List.getElem_cons_zero, Act.put, List.setIfInBounds_toArray, List.set_cons_zero, List.set_cons_succ]
        obtain ⟨x0, x1, x2, x3⟩ := four_cells HV.out
        have fz3 : w4.frozen? ⟨S + 1, 3, none⟩ = false := by have := HV.out; simp [World.frozen?, this]
        refine wpLast_ready (rs := [8]) (by kernel_rfl) (by simp) ?_
        intro i hi; obtain rfl := List.mem_singleton.1 hi; clear hi
        refine wpOp_step rfl (fun K3 hK3 => ?_)
        have HK3 := Lib.hid hK3
        clear hK3
        rw [if_pos (by rfl)]
        go_simp
        refine HK3.out _ _ ⟨fun h => absurd rfl h, fun _ => ?_⟩
        clear HK3 K3
        try simp only [List.getElem_toArray, List.getElem_cons_succ, List.getElem_cons_zero, Act.put, List.setIfInBounds_toArray, List.set_cons_zero, List.set_cons_succ]
        refine wpLast_done (by kernel_rfl) ?_ _
        have hv2 : ((w4.setCell ⟨S + 1, 3, none⟩ (.int .i64 (d + (sz - wh)))).drewN (1 + q5)).heap[S + 1]? = some (.cells #[.int .i64 (a + wh), .int .i64 b, .int .i64 c, .int .i64 (d + (sz - wh))] 64 (0, 0)) := by
          have := heap_set HV.out 3 (.int .i64 (d + (sz - wh))); simpa using this
        have hob2 : ∀ bl o, bl ≠ S + 1 → w4.heap[bl]? = some o → ((w4.setCell ⟨S + 1, 3, none⟩ (.int .i64 (d + (sz - wh)))).drewN (1 + q5)).heap[bl]? = some o := fun bl o hb ho => (Below.heap_setCell _ _ _ _ hb).trans ho
        have hl3 := hob2 _ _ (by omega) HL1.out
        have hbs3 : Below S w ((w4.setCell ⟨S + 1, 3, none⟩ (.int .i64 (d + (sz - wh)))).drewN (1 + q5)) := below_drewn (HBS.out.setCell (by simp) _) _
        have hrs3 : RecAt B cv rv pv bv R M ((w4.setCell ⟨S + 1, 3, none⟩ (.int .i64 (d + (sz - wh)))).drewN (1 + q5)) (.slice (some ⟨g, 0, none⟩) s.rs.length gc) ptrs (rowsT s ts) s.bs := (rec_other HRS2.out HV.out (by decide) (by decide) (by decide) 3 _).drewN _
        have HV2 := Lib.hid hv2
        have HL3 := Lib.hid hl3
        have HBS3 := Lib.hid hbs3
        have HRS3 := Lib.hid hrs3
        have hst2 := HSTEP.out
        rw [tallyF_0 (by rw [HST.out])] at hst2
        simp only [] at hst2
        rw [HWH.out, HGN.out, show (gn : Int) = sz - wh by have := HWQ.out; omega] at hst2
        have HST2 := Lib.hid hst2
        clear hv2 hob2 hl3 hbs3 hrs3 hst2 hT x0 x1 x2 x3 fz3
        go_wp2
        go_roundw
        case rel => exact ⟨k + 1, _, _, _, _, by omega, by go_num, HBS3.out, HRS3.out, HL3.out, HV2.out, HST2.out, by simp only [TallyIn]; omega⟩
        case measure => simp [intOf]; omega
      · go_upto_region 7 with (go_at_call 41; (with_reducible refine KST.out.mono ?_); rintro e w3 ⟨rfl, rfl⟩)
        have hv : (w2.setCell ⟨S + 1, 1, none⟩ (.int .i64 (b + wh))).heap[S + 1]? = some (.cells #[.int .i64 a, .int .i64 (b + wh), .int .i64 c, .int .i64 d] 64 (0, 0)) := by
          have := heap_set M2.out 1 (.int .i64 (b + wh)); simpa using this
        have hbs : Below S w (w2.setCell ⟨S + 1, 1, none⟩ (.int .i64 (b + wh))) := HBL.out.setCell (by simp) _
        have hob : ∀ bl o, bl ≠ S + 1 → w2.heap[bl]? = some o → (w2.setCell ⟨S + 1, 1, none⟩ (.int .i64 (b + wh))).heap[bl]? = some o := fun bl o hb ho => (Below.heap_setCell _ _ _ _ hb).trans ho
        have hrs : RecAt B cv rv pv bv R M (w2.setCell ⟨S + 1, 1, none⟩ (.int .i64 (b + wh))) (.slice (some ⟨g, 0, none⟩) s.rs.length gc) ptrs (rowsT s ts) s.bs := rec_other HRC.out M2.out (by decide) (by decide) (by decide) 1 _
        have hsn := N2.out
        have hsn2 : SeenAt (w2.setCell ⟨S + 1, 1, none⟩ (.int .i64 (b + wh))) pt r t := hob _ _ (by omega) hsn
        have hl1 := hob _ _ (by omega) M1.out
        clear hsn
        generalize (w2.setCell ⟨S + 1, 1, none⟩ (.int .i64 (b + wh))) = w4 at *
        have ks := HSIZE.out w4.drew hsn2
        rw [HSZ.out] at ks
        have KS := Lib.hid ks
        have HV := Lib.hid hv
        have HBS := Lib.hid hbs
        have HRS2 := Lib.hid hrs
        have HS2 := Lib.hid hsn2
        have HL1 := Lib.hid hl1
        have hT : SeenAt w4.drew pt r t ∧ w4.drew.heap[S + 1]? = some (.cells #[.int .i64 a, .int .i64 (b + wh), .int .i64 c, .int .i64 d] 64 (0, 0)) := ⟨hsn2, hv⟩
        clear hv hbs hob hrs hsn2 hl1 ks x0 x1 x2 x3 fz0 fz1 fz2 ewa ewb ewc
        refine wp_region_last (fun w' => SeenAt w' pt r t ∧ w'.heap[S + 1]? = some (.cells #[.int .i64 a, .int .i64 (b + wh), .int .i64 c, .int .i64 d] 64 (0, 0))) 8 (by kernel_rfl) hT (fun hHeld => ?_)
        refine wpLast_take (i := 0) (oi := _) (v := ?_) rfl (by kernel_rfl) (by kernel_rfl) (by decide) (by kernel_rfl) (by kernel_rfl) (fun _ _ _ h => h) (Or.inl ⟨by rfl, ?_⟩) hT ?_
        rotate_left
        · intro w1 hSw
          obtain ⟨s1, s2⟩ := hSw
          obtain ⟨x0, x1, x2, x3⟩ := four_cells s2
          go_simp; with_reducible rfl
        simp only [List.getElem_toArray, List.getElem_cons_succ, List.getElem_cons_zero, Act.put, List.setIfInBounds_toArray, List.set_cons_zero, List.set_cons_succ]
        refine wpLast_take (i := 1) (oi := _) (v := ?_) rfl (by kernel_rfl) (by kernel_rfl) (by decide) (by kernel_rfl) (by kernel_rfl) (fun _ _ _ h => h) (Or.inl ⟨by rfl, ?_⟩) hT ?_
        rotate_left
        · intro w1 hSw
          obtain ⟨s1, s2⟩ := hSw
          obtain ⟨x0, x1, x2, x3⟩ := four_cells s2
          go_simp; with_reducible rfl
        simp only [List.getElem_toArray, List.getElem_cons_succ, List.getElem_cons_zero, Act.put, List.setIfInBounds_toArray, List.set_cons_zero, List.set_cons_succ]
        refine wpLast_take (i := 2) (oi := _) (v := ?_) rfl (by kernel_rfl) (by kernel_rfl) (by decide) (by kernel_rfl) (by kernel_rfl) (fun _ _ _ h => h) (Or.inl ⟨by rfl, ?_⟩) hT ?_
        rotate_left
        · intro w1 hSw
          obtain ⟨s1, s2⟩ := hSw
          obtain ⟨x0, x1, x2, x3⟩ := four_cells s2
          go_simp; with_reducible rfl
        simp only [List.getElem_toArray, List.getElem_cons_succ, List.getElem_cons_zero, Act.put, List.setIfInBounds_toArray, List.set_cons_zero, List.set_cons_succ]
        refine wpLast_take (i := 4) (oi := _) (v := ?_) rfl (by kernel_rfl) (by kernel_rfl) (by decide) (by kernel_rfl) (by kernel_rfl) (fun _ _ _ h => h) (Or.inl ⟨by rfl, ?_⟩) hT ?_
        rotate_left
        · intro w1 hSw
          obtain ⟨s1, s2⟩ := hSw
          obtain ⟨x0, x1, x2, x3⟩ := four_cells s2
          go_simp; with_reducible rfl
        simp only [List.getElem_toArray, List.getElem_cons_succ, List.getElem_cons_zero, Act.put, List.setIfInBounds_toArray, List.set_cons_zero, List.set_cons_succ]
        refine wpLast_ready (rs := [3]) (by kernel_rfl) (by simp) ?_
        intro i hi; obtain rfl := List.mem_singleton.1 hi; clear hi
        refine wpOp_step rfl (fun K3 hK3 => ?_)
        have HK3 := Lib.hid hK3
        clear hK3
        rw [if_pos (by rfl)]
        go_simp
        refine KS.out.mono ?_
        rintro e w5 ⟨rfl, q5, rfl⟩
        refine HK3.out _ _ ⟨fun _ => hT, fun _ => ?_⟩
        clear HK3 K3
        try simp only [List.getElem_toArray, List.getElem_cons_succ, List.getElem_cons_zero, Act.put, List.setIfInBounds_toArray, List.set_cons_zero, List.set_cons_succ]
        refine wpLast_take (i := 5) (oi := _) (v := ?_) rfl (by kernel_rfl) (by kernel_rfl) (by decide) (by kernel_rfl) (by kernel_rfl) (fun _ _ _ h => h) (Or.inl ⟨by rfl, ?_⟩) hT ?_
        rotate_left
        · intro w1 hSw
          obtain ⟨s1, s2⟩ := hSw
          obtain ⟨x0, x1, x2, x3⟩ := four_cells s2
          go_simp; with_reducible rfl
        simp only [List.getElem_toArray, List.getElem_cons_succ, List.getElem_cons_zero, Act.put, List.setIfInBounds_toArray, List.set_cons_zero, List.set_cons_succ]
        refine wpLast_take (i := 6) (oi := _) (v := ?_) rfl (by kernel_rfl) (by kernel_rfl) (by decide) (by kernel_rfl) (by kernel_rfl) (fun _ _ _ h => h) (Or.inl ⟨by rfl, ?_⟩) hT ?_
        rotate_left
        · intro w1 hSw
          obtain ⟨s1, s2⟩ := hSw
          obtain ⟨x0, x1, x2, x3⟩ := four_cells s2
          go_simp; with_reducible rfl
        simp only [List.getElem_toArray, List.getElem_cons_succ, List.getElem_cons_zero, Act.put, List.setIfInBounds_toArray, List.set_cons_zero, List.set_cons_succ]
        refine wpLast_take (i := 7) (oi := _) (v := ?_) rfl (by kernel_rfl) (by kernel_rfl) (by decide) (by kernel_rfl) (by kernel_rfl) (fun _ _ _ h => h) (Or.inl ⟨by rfl, ?_⟩) hT ?_
        rotate_left
        · intro w1 hSw
          obtain ⟨s1, s2⟩ := hSw
          obtain ⟨x0, x1, x2, x3⟩ := four_cells s2
          go_simp; with_reducible rfl
        simp only [List.getElem_toArray, List.getElem_cons_succ, List.getElem_cons_zero, Act.put, List.setIfInBounds_toArray, List.set_cons_zero, List.set_cons_succ]
        obtain ⟨x0, x1, x2, x3⟩ := four_cells HV.out
        have fz3 : w4.frozen? ⟨S + 1, 3, none⟩ = false := by have := HV.out; simp [World.frozen?, this]
        refine wpLast_ready (rs := [8]) (by kernel_rfl) (by simp) ?_
        intro i hi; obtain rfl := List.mem_singleton.1 hi; clear hi
        refine wpOp_step rfl (fun K3 hK3 => ?_)
        have HK3 := Lib.hid hK3
        clear hK3
        rw [if_pos (by rfl)]
        go_simp
        refine HK3.out _ _ ⟨fun h => absurd rfl h, fun _ => ?_⟩
        clear HK3 K3
        try simp only [List.getElem_toArray, List.getElem_cons_succ, List.getElem_cons_zero, Act.put, List.setIfInBounds_toArray, List.set_cons_zero, List.set_cons_succ]
        refine wpLast_done (by kernel_rfl) ?_ _
        have hv2 : ((w4.setCell ⟨S + 1, 3, none⟩ (.int .i64 (d + (sz - wh)))).drewN (1 + q5)).heap[S + 1]? = some (.cells #[.int .i64 a, .int .i64 (b + wh), .int .i64 c, .int .i64 (d + (sz - wh))] 64 (0, 0)) := by
          have := heap_set HV.out 3 (.int .i64 (d + (sz - wh))); simpa using this
        have hob2 : ∀ bl o, bl ≠ S + 1 → w4.heap[bl]? = some o → ((w4.setCell ⟨S + 1, 3, none⟩ (.int .i64 (d + (sz - wh)))).drewN (1 + q5)).heap[bl]? = some o := fun bl o hb ho => (Below.heap_setCell _ _ _ _ hb).trans ho
        have hl3 := hob2 _ _ (by omega) HL1.out
        have hbs3 : Below S w ((w4.setCell ⟨S + 1, 3, none⟩ (.int .i64 (d + (sz - wh)))).drewN (1 + q5)) := below_drewn (HBS.out.setCell (by simp) _) _
        have hrs3 : RecAt B cv rv pv bv R M ((w4.setCell ⟨S + 1, 3, none⟩ (.int .i64 (d + (sz - wh)))).drewN (1 + q5)) (.slice (some ⟨g, 0, none⟩) s.rs.length gc) ptrs (rowsT s ts) s.bs := (rec_other HRS2.out HV.out (by decide) (by decide) (by decide) 3 _).drewN _
        have HV2 := Lib.hid hv2
        have HL3 := Lib.hid hl3
        have HBS3 := Lib.hid hbs3
        have HRS3 := Lib.hid hrs3
        have hst2 := HSTEP.out
        rw [tallyF_1 (by rw [HST.out])] at hst2
        simp only [] at hst2
        rw [HWH.out, HGN.out, show (gn : Int) = sz - wh by have := HWQ.out; omega] at hst2
        have HST2 := Lib.hid hst2
        clear hv2 hob2 hl3 hbs3 hrs3 hst2 hT x0 x1 x2 x3 fz3
        go_wp2
        go_roundw
        case rel => exact ⟨k + 1, _, _, _, _, by omega, by go_num, HBS3.out, HRS3.out, HL3.out, HV2.out, HST2.out, by simp only [TallyIn]; omega⟩
        case measure => simp [intOf]; omega
      · go_upto_region 7 with (go_at_call 41; (with_reducible refine KST.out.mono ?_); rintro e w3 ⟨rfl, rfl⟩)
        have hv : (w2.setCell ⟨S + 1, 2, none⟩ (.int .i64 (c + wh))).heap[S + 1]? = some (.cells #[.int .i64 a, .int .i64 b, .int .i64 (c + wh), .int .i64 d] 64 (0, 0)) := by
          have := heap_set M2.out 2 (.int .i64 (c + wh)); simpa using this
        have hbs : Below S w (w2.setCell ⟨S + 1, 2, none⟩ (.int .i64 (c + wh))) := HBL.out.setCell (by simp) _
        have hob : ∀ bl o, bl ≠ S + 1 → w2.heap[bl]? = some o → (w2.setCell ⟨S + 1, 2, none⟩ (.int .i64 (c + wh))).heap[bl]? = some o := fun bl o hb ho => (Below.heap_setCell _ _ _ _ hb).trans ho
        have hrs : RecAt B cv rv pv bv R M (w2.setCell ⟨S + 1, 2, none⟩ (.int .i64 (c + wh))) (.slice (some ⟨g, 0, none⟩) s.rs.length gc) ptrs (rowsT s ts) s.bs := rec_other HRC.out M2.out (by decide) (by decide) (by decide) 2 _
        have hsn := N2.out
        have hsn2 : SeenAt (w2.setCell ⟨S + 1, 2, none⟩ (.int .i64 (c + wh))) pt r t := hob _ _ (by omega) hsn
        have hl1 := hob _ _ (by omega) M1.out
        clear hsn
        generalize (w2.setCell ⟨S + 1, 2, none⟩ (.int .i64 (c + wh))) = w4 at *
        have ks := HSIZE.out w4.drew hsn2
        rw [HSZ.out] at ks
        have KS := Lib.hid ks
        have HV := Lib.hid hv
        have HBS := Lib.hid hbs
        have HRS2 := Lib.hid hrs
        have HS2 := Lib.hid hsn2
        have HL1 := Lib.hid hl1
        have hT : SeenAt w4.drew pt r t ∧ w4.drew.heap[S + 1]? = some (.cells #[.int .i64 a, .int .i64 b, .int .i64 (c + wh), .int .i64 d] 64 (0, 0)) := ⟨hsn2, hv⟩
        clear hv hbs hob hrs hsn2 hl1 ks x0 x1 x2 x3 fz0 fz1 fz2 ewa ewb ewc
        refine wp_region_last (fun w' => SeenAt w' pt r t ∧ w'.heap[S + 1]? = some (.cells #[.int .i64 a, .int .i64 b, .int .i64 (c + wh), .int .i64 d] 64 (0, 0))) 8 (by kernel_rfl) hT (fun hHeld => ?_)
        refine wpLast_take (i := 0) (oi := _) (v := ?_) rfl (by kernel_rfl) (by kernel_rfl) (by decide) (by kernel_rfl) (by kernel_rfl) (fun _ _ _ h => h) (Or.inl ⟨by rfl, ?_⟩) hT ?_
        rotate_left
        · intro w1 hSw
          obtain ⟨s1, s2⟩ := hSw
          obtain ⟨x0, x1, x2, x3⟩ := four_cells s2
          go_simp; with_reducible rfl
        simp only [List.getElem_toArray, List.getElem_cons_succ, List.getElem_cons_zero, Act.put, List.setIfInBounds_toArray, List.set_cons_zero, List.set_cons_succ]
        refine wpLast_take (i := 1) (oi := _) (v := ?_) rfl (by kernel_rfl) (by kernel_rfl) (by decide) (by kernel_rfl) (by kernel_rfl) (fun _ _ _ h => h) (Or.inl ⟨by rfl, ?_⟩) hT ?_
        rotate_left
        · intro w1 hSw
          obtain ⟨s1, s2⟩ := hSw
          obtain ⟨x0, x1, x2, x3⟩ := four_cells s2
          go_simp; with_reducible rfl
        simp only [List.getElem_toArray, List.getElem_cons_succ, List.getElem_cons_zero, Act.put, List.setIfInBounds_toArray, List.set_cons_zero, List.set_cons_succ]
        refine wpLast_take (i := 2) (oi := _) (v := ?_) rfl (by kernel_rfl) (by kernel_rfl) (by decide) (by kernel_rfl) (by kernel_rfl) (fun _ _ _ h => h) (Or.inl ⟨by rfl, ?_⟩) hT ?_
        rotate_left
        · intro w1 hSw
          obtain ⟨s1, s2⟩ := hSw
          obtain ⟨x0, x1, x2, x3⟩ := four_cells s2
          go_simp; with_reducible rfl
        simp only [List.getElem_toArray, List.getElem_cons_succ, List.getElem_cons_zero, Act.put, List.setIfInBounds_toArray, List.set_cons_zero, List.set_cons_succ]
        refine wpLast_take (i := 4) (oi := _) (v := ?_) rfl (by kernel_rfl) (by kernel_rfl) (by decide) (by kernel_rfl) (by kernel_rfl) (fun _ _ _ h => h) (Or.inl ⟨by rfl, ?_⟩) hT ?_
        rotate_left
        · intro w1 hSw
          obtain ⟨s1, s2⟩ := hSw
          obtain ⟨x0, x1, x2, x3⟩ := four_cells s2
          go_simp; with_reducible rfl
        simp only [List.getElem_toArray, List.getElem_cons_succ, List.getElem_cons_zero, Act.put, List.setIfInBounds_toArray, List.set_cons_zero, List.set_cons_succ]
        refine wpLast_ready (rs := [3]) (by kernel_rfl) (by simp) ?_
        intro i hi; obtain rfl := List.mem_singleton.1 hi; clear hi
        refine wpOp_step rfl (fun K3 hK3 => ?_)
        have HK3 := Lib.hid hK3
        clear hK3
        rw [if_pos (by rfl)]
        go_simp
        refine KS.out.mono ?_
        rintro e w5 ⟨rfl, q5, rfl⟩
        refine HK3.out _ _ ⟨fun _ => hT, fun _ => ?_⟩
        clear HK3 K3
        try simp only [List.getElem_toArray, List.getElem_cons_succ, List.getElem_cons_zero, Act.put, List.setIfInBounds_toArray, List.set_cons_zero, List.set_cons_succ]
        refine wpLast_take (i := 5) (oi := _) (v := ?_) rfl (by kernel_rfl) (by kernel_rfl) (by decide) (by kernel_rfl) (by kernel_rfl) (fun _ _ _ h => h) (Or.inl ⟨by rfl, ?_⟩) hT ?_
        rotate_left
        · intro w1 hSw
          obtain ⟨s1, s2⟩ := hSw
          obtain ⟨x0, x1, x2, x3⟩ := four_cells s2
          go_simp; with_reducible rfl
        simp only [List.getElem_toArray, List.getElem_cons_succ, List.getElem_cons_zero, Act.put, List.setIfInBounds_toArray, List.set_cons_zero, List.set_cons_succ]
        refine wpLast_take (i := 6) (oi := _) (v := ?_) rfl (by kernel_rfl) (by kernel_rfl) (by decide) (by kernel_rfl) (by kernel_rfl) (fun _ _ _ h => h) (Or.inl ⟨by rfl, ?_⟩) hT ?_
        rotate_left
        · intro w1 hSw
          obtain ⟨s1, s2⟩ := hSw
          obtain ⟨x0, x1, x2, x3⟩ := four_cells s2
          go_simp; with_reducible rfl
        simp only [List.getElem_toArray, List.getElem_cons_succ, List.getElem_cons_zero, Act.put, List.setIfInBounds_toArray, List.set_cons_zero, List.set_cons_succ]
        refine wpLast_take (i := 7) (oi := _) (v := ?_) rfl (by kernel_rfl) (by kernel_rfl) (by decide) (by kernel_rfl) (by kernel_rfl) (fun _ _ _ h => h) (Or.inl ⟨by rfl, ?_⟩) hT ?_
        rotate_left
        · intro w1 hSw
          obtain ⟨s1, s2⟩ := hSw
          obtain ⟨x0, x1, x2, x3⟩ := four_cells s2
          go_simp; with_reducible rfl
        simp only [List.getElem_toArray, List.getElem_cons_succ, List.getElem_cons_zero, Act.put, List.setIfInBounds_toArray, List.set_cons_zero, List.set_cons_succ]
        obtain ⟨x0, x1, x2, x3⟩ := four_cells HV.out
        have fz3 : w4.frozen? ⟨S + 1, 3, none⟩ = false := by have := HV.out; simp [World.frozen?, this]
        refine wpLast_ready (rs := [8]) (by kernel_rfl) (by simp) ?_
        intro i hi; obtain rfl := List.mem_singleton.1 hi; clear hi
        refine wpOp_step rfl (fun K3 hK3 => ?_)
        have HK3 := Lib.hid hK3
        clear hK3
        rw [if_pos (by rfl)]
        go_simp
        refine HK3.out _ _ ⟨fun h => absurd rfl h, fun _ => ?_⟩
        clear HK3 K3
        try simp only [List.getElem_toArray, List.getElem_cons_succ, List.getElem_cons_zero, Act.put, List.setIfInBounds_toArray, List.set_cons_zero, List.set_cons_succ]
        refine wpLast_done (by kernel_rfl) ?_ _
        have hv2 : ((w4.setCell ⟨S + 1, 3, none⟩ (.int .i64 (d + (sz - wh)))).drewN (1 + q5)).heap[S + 1]? = some (.cells #[.int .i64 a, .int .i64 b, .int .i64 (c + wh), .int .i64 (d + (sz - wh))] 64 (0, 0)) := by
          have := heap_set HV.out 3 (.int .i64 (d + (sz - wh))); simpa using this
        have hob2 : ∀ bl o, bl ≠ S + 1 → w4.heap[bl]? = some o → ((w4.setCell ⟨S + 1, 3, none⟩ (.int .i64 (d + (sz - wh)))).drewN (1 + q5)).heap[bl]? = some o := fun bl o hb ho => (Below.heap_setCell _ _ _ _ hb).trans ho
        have hl3 := hob2 _ _ (by omega) HL1.out
        have hbs3 : Below S w ((w4.setCell ⟨S + 1, 3, none⟩ (.int .i64 (d + (sz - wh)))).drewN (1 + q5)) := below_drewn (HBS.out.setCell (by simp) _) _
        have hrs3 : RecAt B cv rv pv bv R M ((w4.setCell ⟨S + 1, 3, none⟩ (.int .i64 (d + (sz - wh)))).drewN (1 + q5)) (.slice (some ⟨g, 0, none⟩) s.rs.length gc) ptrs (rowsT s ts) s.bs := (rec_other HRS2.out HV.out (by decide) (by decide) (by decide) 3 _).drewN _
        have HV2 := Lib.hid hv2
        have HL3 := Lib.hid hl3
        have HBS3 := Lib.hid hbs3
        have HRS3 := Lib.hid hrs3
        have hst2 := HSTEP.out
        rw [tallyF_2 (by rw [HST.out])] at hst2
        simp only [] at hst2
        rw [HWH.out, HGN.out, show (gn : Int) = sz - wh by have := HWQ.out; omega] at hst2
        have HST2 := Lib.hid hst2
        clear hv2 hob2 hl3 hbs3 hrs3 hst2 hT x0 x1 x2 x3 fz3
        go_wp2
        go_roundw
        case rel => exact ⟨k + 1, _, _, _, _, by omega, by go_num, HBS3.out, HRS3.out, HL3.out, HV2.out, HST2.out, by simp only [TallyIn]; omega⟩
        case measure => simp [intOf]; omega
    · have hkl : k = s.rs.length := by omega
      rw [hkl, ← HALL.out, HRS.out] at hfold
      simp only [Prod.mk.injEq] at hfold
      obtain ⟨rfl, rfl, rfl, rfl⟩ := hfold
      obtain ⟨x0, x1, x2, x3⟩ := four_cells l2
      obtain ⟨y0, y1, y2, y3⟩ := four_cells l1
      have fz : ∀ o, wr.frozen? ⟨S, o, none⟩ = false := fun o => by simp [World.frozen?, l1]
      have fz0 := fz 0
      have fz1 := fz 1
      have fz2 := fz 2
      have fz3 := fz 3
      have i1 : ¬ (k : Int) < (s.rs.length : Int) := by omega
      have HBEL := Lib.hid hbel
      have L1 := Lib.hid l1
      clear hkl hbel hrec htal hll l1 l2 fz
      have H4 := Lib.hid (show ((((wr.setCell ⟨S, 0, none⟩ (.int .i64 ra)).setCell ⟨S, 1, none⟩ (.int .i64 rb)).setCell ⟨S, 2, none⟩ (.int .i64 rc)).setCell ⟨S, 3, none⟩ (.int .i64 rd)).heap[S]? = some (.cells #[.int .i64 ra, .int .i64 rb, .int .i64 rc, .int .i64 rd] 64 (0, 0)) by
        have := heap_set (heap_set (heap_set (heap_set L1.out 0 (.int .i64 ra)) 1 (.int .i64 rb)) 2 (.int .i64 rc)) 3 (.int .i64 rd)
        simpa using this)
      go_wp2
      have h4 := H4.out
      have hb4 : Below S w ((((wr.setCell ⟨S, 0, none⟩ (.int .i64 ra)).setCell ⟨S, 1, none⟩ (.int .i64 rb)).setCell ⟨S, 2, none⟩ (.int .i64 rc)).setCell ⟨S, 3, none⟩ (.int .i64 rd)) := (((HBEL.out.setCell (Nat.le_refl _) _).setCell (Nat.le_refl _) _).setCell (Nat.le_refl _) _).setCell (Nat.le_refl _) _
      generalize ((((wr.setCell ⟨S, 0, none⟩ (.int .i64 ra)).setCell ⟨S, 1, none⟩ (.int .i64 rb)).setCell ⟨S, 2, none⟩ (.int .i64 rc)).setCell ⟨S, 3, none⟩ (.int .i64 rd)) = w5 at *
      obtain ⟨v0, v1, v2, v3⟩ := four_cells h4
      refine bodyPost_ret (v := .agg #[.int .i64 ra, .int .i64 rb, .int .i64 rc, .int .i64 rd]) (by simp [results, Try.results26, go_sem, v0, v1, v2, v3]) rfl ⟨rfl, by rw [HS.out]; exact hb4⟩
end
end Go.Proofs.Ytcmfplfnpjknlaa
