/- Term: the walk of TermStands. -/
import Derived.Test.YtcmfplfnpjknlaaA29
import Derived.Test.YtcmfplfnpjknlaaA27
import Derived.Test.YtcmfplfnpjknlaaM4
namespace Go.Proofs.Ytcmfplfnpjknlaa
set_option linter.unusedSimpArgs false
set_option linter.unusedVariables false
open Go.RowKit

theorem getD_bang {α : Type} [Inhabited α] (l : List α) {k : Nat} (hk : k < l.length) : l.getD k default = l[k]! := by
  rw [getElem!_pos l k hk, List.getD, List.getElem?_eq_getElem hk]; rfl
def SeenOk (ps : List Prf) (r : Row) (c : Cls) (t : Int × Int) (j q : Nat) (f : Bool) : Prop := q = (ps.take j).countP (passP r c.fail) ∧ f = (ps.take j).any (failP r c.fail c.more t)
def EndOk (more e : Int) (p : Prf) (f : Bool) (m : Nat) (b : Bool) : Prop := b = (f || endsP more e p m)
theorem end_next {more e : Int} {p : Prf} {f : Bool} {m : Nat} {b : Bool} (h : EndOk more e p f m b) : EndOk more e p f (m + 1) (b || (e == p.day + 1 + (m : Int) * more)) := by
  unfold EndOk endsP at *
  rw [List.range_succ, List.any_append, ← Bool.or_assoc, ← h]
  simp
  rfl
theorem seen_step {ps : List Prf} {r : Row} {c : Cls} {t : Int × Int} {j q : Nat} {f : Bool} (hj : j < ps.length) (h : SeenOk ps r c t j q f) : SeenOk ps r c t (j + 1) (if passP r c.fail ps[j]! then q + 1 else q) (f || failP r c.fail c.more t ps[j]!) := by
  obtain ⟨h1, h2⟩ := h
  have e : ps[j]! = ps[j] := getElem!_pos ps j hj
  rw [e]
  refine ⟨?_, ?_⟩
  · rw [List.take_succ_eq_append_getElem hj, List.countP_append, ← h1]
    simp [List.countP_cons]
    split <;> rfl
  · rw [List.take_succ_eq_append_getElem hj, List.any_append, ← h2]
    simp
set_option maxRecDepth 100000 in
set_option maxHeartbeats 12800000 in
theorem stands_law (s : Stk) (n day : Int) (v : Value) (w : World) (hs : StkAt w v s) : Calls Try.prog 5 #[v, .int .i64 n, .int .i64 day] w fun e w' => e = .returned (.bool true) ∧ Below w.heap.size w w' := by
  obtain ⟨cv, rv, pv, bv, rfl, hc, hr, hp, hb⟩ := hs
  obtain ⟨cs, rs, ps, bs⟩ := s
  simp only [] at hc hr hp hb
  obtain ⟨ca, cc, rfl⟩ := hc.shape
  obtain ⟨ra, rc, rfl⟩ := hr.shape
  obtain ⟨pa, pc, rfl⟩ := hp.shape
  obtain ⟨ba, bc, rfl⟩ := hb.shape
  have m1 : cs.length ≤ 9223372036854775807 := hc.1
  have m2 : rs.length ≤ 9223372036854775807 := hr.1
  have m3 : ps.length ≤ 9223372036854775807 := hp.1
  have m4 : bs.length ≤ 9223372036854775807 := hb.1
  obtain ⟨W0, hW0⟩ : ∃ X, X = w.alloc (.cells #[.slice ca cs.length cc, .slice ra rs.length rc, .slice pa ps.length pc, .slice ba bs.length bc] 27) := ⟨_, rfl⟩
  have hb0 : Below w.heap.size w W0 := by rw [hW0]; exact (Below.refl _ _).alloc (Nat.le_refl _) _
  have hr0 : W0.heap[w.heap.size]? = some (.cells #[.slice ca cs.length cc, .slice ra rs.length rc, .slice pa ps.length pc, .slice ba bs.length bc] 27 (0, 0)) := by rw [hW0]; exact alloc_heap w _
  have hc0 := Lib.hid (hc.below hb0)
  have hq0 := Lib.hid (hr.below hb0)
  have hp0 := Lib.hid (hp.below hb0)
  have hs0 := Lib.hid (hb.below hb0)
  obtain ⟨P, hP⟩ : ∃ P, w.heap.size = P := ⟨_, rfl⟩
  rw [hP] at hr0
  obtain ⟨d0, d1, d2, d3⟩ := four_cells hr0
  have HB := Lib.hid hb0
  have HR0 := Lib.hid hr0
  clear hr0 hb0 hc hr hp hb
  have hz0 : StkAt W0 (.agg #[.slice ca cs.length cc, .slice ra rs.length rc, .slice pa ps.length pc, .slice ba bs.length bc]) ⟨cs, rs, ps, bs⟩ := ⟨_, _, _, _, rfl, hc0.out, hq0.out, hp0.out, hs0.out⟩
  have KL := Lib.hid (fun (X : World) (hX : Below W0.heap.size W0 X) => large_any ⟨cs, rs, ps, bs⟩ 1099511627776 _ X (hz0.below hX))
  have KA := Lib.hid (fun (X : World) => awake_any X)
  obtain ⟨⟨ea, eb, ec⟩, hen⟩ : ∃ x, endF ⟨cs, rs, ps, bs⟩ n = x := ⟨_, rfl⟩
  obtain ⟨⟨xa, xc⟩, hst⟩ : ∃ x, statusF ⟨cs, rs, ps, bs⟩ n day = x := ⟨_, rfl⟩
  have ke := fun (X : World) (hX : Below W0.heap.size W0 X) => end_any ⟨cs, rs, ps, bs⟩ _ n X (hz0.below hX)
  have kt := fun (X : World) (hX : Below W0.heap.size W0 X) => status_any ⟨cs, rs, ps, bs⟩ _ n day X (hz0.below hX)
  rw [hen] at ke
  rw [hst] at kt
  simp only [] at ke kt
  have KE := Lib.hid ke
  have KT := Lib.hid kt
  have HEN := Lib.hid hen
  have HST := Lib.hid hst
  have HZ0 := Lib.hid hz0
  clear ke kt hen hst hz0
  go_enter Try.func5, Try.ntmps5
  go_upto_region 1 with fail
  rw [← hW0]
  clear hW0 hP
  go_wp2_with fail
  refine (KL.out W0 (Below.refl _ _)).mono ?_
  rintro e W1 ⟨⟨b, rfl⟩, hb1⟩
  clear d0 d1 d2 d3
  obtain ⟨d0, d1, d2, d3⟩ := four_cells (box_step (w0 := w) HR0.out hb1)
  have H1 := Lib.hid hb1
  clear hb1
  cases b with
  | true =>
    go_wp2_with fail
    refine (KA.out _).mono ?_
    rintro e W2 ⟨rfl, hb2⟩
    go_wp2
    go_ret
    exact ⟨rfl, HB.out.trans ((H1.out.trans (hb2.mono H1.out.size)).mono HB.out.size)⟩
  | false =>
    go_wp2_with fail
    refine (KE.out _ H1.out).mono ?_
    rintro e W2 ⟨rfl, hb2⟩
    have H2 := Lib.hid (H1.out.trans (hb2.mono H1.out.size))
    clear hb2 d0 d1 d2 d3
    obtain ⟨d0, d1, d2, d3⟩ := four_cells (box_step (w0 := w) HR0.out H2.out)
    go_wp2_with fail
    refine (KT.out _ H2.out).mono ?_
    rintro e W3 ⟨rfl, hb3⟩
    have H3 := Lib.hid (H2.out.trans (hb3.mono H2.out.size))
    clear hb3 d0 d1 d2 d3
    obtain ⟨d0, d1, d2, d3⟩ := four_cells (box_step (w0 := w) HR0.out H3.out)
    by_cases h0 : (termsF ⟨cs, rs, ps, bs⟩).2.1 = 0
    · cases hix : rowIx rs n with
      | none =>
        have hen := HEN.out
        have hst := HST.out
        rw [end_good h0] at hen
        rw [status_good h0] at hst
        simp only [hix, Prod.mk.injEq] at hen hst
        obtain ⟨rfl, rfl, rfl⟩ := hen
        obtain ⟨rfl, rfl⟩ := hst
        clear h0 hix
        go_wp2_with fail
        refine (KA.out _).mono ?_
        rintro e W4 ⟨rfl, hb4⟩
        go_wp2
        go_ret
        exact ⟨rfl, HB.out.trans ((H3.out.trans (hb4.mono H3.out.size)).mono HB.out.size)⟩
      | some k =>
        have hen := HEN.out
        rw [end_good h0] at hen
        simp only [hix, Prod.mk.injEq] at hen
        obtain ⟨he1, he2, rfl⟩ := hen
        have hst := HST.out
        rw [status_good h0] at hst
        simp only [hix] at hst
        have hlate := fun h => brk_late (day := day) h0 hix h
        obtain ⟨hk, hkh⟩ := rowIx_lt hix
        try simp only [] at hk
        have hm := stands_math h0 hk
        obtain ⟨hok, _, _, _⟩ := right_parts h0
        obtain ⟨c, hc1, hc2, q1, q2, q3, q4, q5, q6, q7⟩ := rowOk_of hok hk
        try simp only [] at hc2
        obtain ⟨p1, p2, p3, p4, p5, p6, p7, p8⟩ := clsOk_of hok hc2
        have hpr := fun j (hj : j < ps.length) => prfOk_of hok hj
        have hfew : ps.length ≤ 12 := by
          unfold stkOk at hok
          simp only [Bool.and_eq_true, decide_eq_true_eq] at hok
          exact hok.1.2.2.1
        have ht : (termsF ⟨cs, rs, ps, bs⟩).2.2[k]! = (ea, eb) := Prod.ext he1 he2
        have er := getD_bang rs hk
        have ek := getD_bang cs hc2
        simp only [hc1, Int.toNat_natCast] at hm
        simp only [ht] at hm hst
        obtain ⟨⟨r0, r1, r2, r3⟩, hr⟩ : ∃ r, rs[k]! = r := ⟨_, rfl⟩
        obtain ⟨⟨c0, c1, c2, c3⟩, hcc⟩ : ∃ r, cs[c]! = r := ⟨_, rfl⟩
        simp only [hr, hcc] at hm hst hc1 q1 q2 q3 q4 q5 q6 q7 p1 p2 p3 p4 p5 p6 p7 p8 er ek hlate
        subst hc1
        have kr := fun (X : World) (hX : Below W0.heap.size W0 X) => refRow_any ⟨cs, rs, ps, bs⟩ n _ X (HZ0.out.below hX)
        have ks := fun (X : World) (hX : Below W0.heap.size W0 X) => refStock_any ⟨cs, rs, ps, bs⟩ _ X (HZ0.out.below hX)
        have hi : ixI rs n = (k : Int) := by unfold ixI; rw [hix]
        simp only [hi] at kr
        rw [hok] at ks
        have KR := Lib.hid kr
        have KS := Lib.hid ks
        have KB := Lib.hid (fun (X : World) (hX : Below W0.heap.size W0 X) => refBroken_any ⟨cs, rs, ps, bs⟩ n day _ X (HZ0.out.below hX))
        have HM := Lib.hid hm
        have HST2 := Lib.hid hst
        have HLATE := Lib.hid hlate
        have HPR := Lib.hid hpr
        clear kr ks hi hm hst hlate hpr he1 he2 ht hr hcc hix h0 hok hkh HEN HST
        go_wp2_with fail
        refine (KR.out _ H3.out).mono ?_
        rintro e W4 ⟨rfl, hb4⟩
        have H4 := Lib.hid (H3.out.trans (hb4.mono H3.out.size))
        clear hb4 d0 d1 d2 d3
        obtain ⟨d0, d1, d2, d3⟩ := four_cells (box_step (w0 := w) HR0.out H4.out)
        have i1 : ¬ (k : Int) < 0 := by omega
        go_wp2_with fail
        refine (KS.out _ H4.out).mono ?_
        rintro e W5 ⟨rfl, hb5⟩
        have H5 := Lib.hid (H4.out.trans (hb5.mono H4.out.size))
        clear hb5 d0 d1 d2 d3
        obtain ⟨d0, d1, d2, d3⟩ := four_cells (box_step (w0 := w) HR0.out H5.out)
        obtain ⟨rb, ro, e1, hrb, hrx⟩ := (hq0.out.below H5.out).at (by omega)
        subst e1
        have g0 := hrx k hk 0 (by omega)
        have g1 := hrx k hk 1 (by omega)
        have g2 := hrx k hk 2 (by omega)
        have g3 := hrx k hk 3 (by omega)
        obtain ⟨cb, co, e1, hcb, hcx⟩ := (hc0.out.below H5.out).at (by omega)
        subst e1
        have u0 := hcx c hc2 0 (by omega)
        have u1 := hcx c hc2 1 (by omega)
        have u2 := hcx c hc2 2 (by omega)
        have u3 := hcx c hc2 3 (by omega)
        rw [er] at g0 g1 g2 g3
        rw [ek] at u0 u1 u2 u3
        simp only [Nat.add_zero, rowC] at g0 g1 g2 g3
        simp only [Nat.add_zero, clsC] at u0 u1 u2 u3
        have i2 : (k : Int) < (rs.length : Int) := by omega
        have i3 : (c : Int) < (cs.length : Int) := by omega
        have hek := ek
        clear hrx hcx er ek
        obtain ⟨X1, hX1⟩ : ∃ X, X = W5.alloc (.cells #[.int .i64 r0, .int .i64 r1, .int .i64 (c : Int), .int .i64 r3] 42) := ⟨_, rfl⟩
        have hB1 : Below W5.heap.size W5 X1 := by rw [hX1]; exact (Below.refl _ _).alloc (Nat.le_refl _) _
        have hR1 : X1.heap[W5.heap.size]? = some (.cells #[.int .i64 r0, .int .i64 r1, .int .i64 (c : Int), .int .i64 r3] 42 (0, 0)) := by rw [hX1]; exact alloc_heap W5 _
        obtain ⟨R, hR⟩ : ∃ R, W5.heap.size = R := ⟨_, rfl⟩
        rw [hR] at hR1
        have H6 := Lib.hid (H5.out.trans (hB1.mono H5.out.size))
        have HR1 := Lib.hid hR1
        have v0 := (hB1.cell (p := ⟨cb, co + c * 4, none⟩) hcb).trans u0
        have v1 := (hB1.cell (p := ⟨cb, co + c * 4 + 1, none⟩) hcb).trans u1
        have v2 := (hB1.cell (p := ⟨cb, co + c * 4 + 2, none⟩) hcb).trans u2
        have v3 := (hB1.cell (p := ⟨cb, co + c * 4 + 3, none⟩) hcb).trans u3
        clear hR1 hB1
        go_upto_region 11 with fail
        rw [← hX1]
        clear hX1 hR d0 d1 d2 d3 g0 g1 g2 g3 u0 u1 u2 u3
        obtain ⟨d0, d1, d2, d3⟩ := four_cells (box_step (w0 := w) HR0.out H6.out)
        obtain ⟨g0, g1, g2, g3⟩ := four_cells HR1.out
        obtain ⟨X2, hX2⟩ : ∃ X, X = X1.alloc (.cells #[.int .i64 c0, .int .i64 c1, .int .i64 c2, .int .i64 c3] 50) := ⟨_, rfl⟩
        have hB2 : Below X1.heap.size X1 X2 := by rw [hX2]; exact (Below.refl _ _).alloc (Nat.le_refl _) _
        have hR2 : X2.heap[X1.heap.size]? = some (.cells #[.int .i64 c0, .int .i64 c1, .int .i64 c2, .int .i64 c3] 50 (0, 0)) := by rw [hX2]; exact alloc_heap X1 _
        obtain ⟨C, hC⟩ : ∃ R, X1.heap.size = R := ⟨_, rfl⟩
        rw [hC] at hR2
        have H7 := Lib.hid (H6.out.trans (hB2.mono H6.out.size))
        have HR2 := Lib.hid hR2
        have HR1' := Lib.hid (box_step (w0 := w) HR1.out hB2)
        clear hR2 hB2
        go_upto_region 12 with fail
        rw [← hX2]
        clear hX2 hC d0 d1 d2 d3 g0 g1 g2 g3 v0 v1 v2 v3 HR1
        have HEK := Lib.hid hek
        obtain ⟨m1', m2', hm3, hm4, hm5⟩ := HM.out
        have HM3 := Lib.hid hm3
        have HM4 := Lib.hid hm4
        have HM5 := Lib.hid hm5
        have i4 : ¬ eb < 0 := by omega
        have i5 : ¬ c1 < eb := by omega
        obtain ⟨s0, s1, s2, s3⟩ := four_cells HR2.out
        clear hek hm3 hm4 hm5 HM KL KE KT KR KS
        go_wp2
        clear s0 s1 s2 s3
        go_loopw [15, 16, 17] (fun q f i wr => ∃ (j q' : Nat) (f' : Bool), j ≤ ps.length ∧ q = .int .i64 q' ∧ f = .bool f' ∧ i = .int .i64 j ∧ SeenOk ps ⟨r0, r1, (c : Int), r3⟩ ⟨c0, c1, c2, c3⟩ (ea, eb) j q' f' ∧ Below X2.heap.size X2 wr) (fun q f i _ => ps.length - (intOf i).toNat)
        case atStart => exact ⟨0, 0, false, by omega, rfl, rfl, rfl, ⟨by simp, by simp⟩, Below.refl _ _⟩
        case round =>
          obtain ⟨j, q, f, hj, rfl, rfl, rfl, hseen, hbel⟩ := hrel
          have HS := Lib.hid hseen
          have H8 := Lib.hid (H7.out.trans (hbel.mono H7.out.size))
          have HX := Lib.hid hbel
          obtain ⟨d0, d1, d2, d3⟩ := four_cells (box_step (w0 := w) HR0.out H8.out)
          clear hbel hseen
          by_cases hlt : j < ps.length
          · obtain ⟨pb, po, e1, hpb, hpx⟩ := (hp0.out.below H8.out).at (by omega)
            subst e1
            obtain ⟨sv, t0, t1, t2, t3, t4⟩ := hpx j hlt
            obtain ⟨sa, sc, rfl⟩ := t4.shape
            have hpj := getD_bang ps hlt
            obtain ⟨pcl, z1, z2, z3, z4, z5, z6, z7⟩ := HPR.out j hlt
            have hq12 : q ≤ 12 := by have := HS.out.1; have h2 := List.countP_le_length (p := passP ⟨r0, r1, (c : Int), r3⟩ c3) (l := ps.take j); simp only [List.length_take] at h2; rw [this]; exact Nat.le_trans h2 (by omega)
            have hstep := seen_step hlt HS.out
            obtain ⟨⟨y0, y1, y2, y3⟩, hy⟩ : ∃ p, ps[j]! = p := ⟨_, rfl⟩
            rw [hpj] at t0 t1 t2 t3 t4
            rw [hy] at t0 t1 t2 t3 t4 z1 z3 z4 z5 z6 hstep
            simp only [] at t0 t1 t2 t3 t4 z1 z3 z4 z5 z6
            subst z1
            obtain ⟨y2n, hy2n⟩ : ∃ k, y2.length = k := ⟨_, rfl⟩
            rw [hy2n] at t2 t4
            have HSTEP := Lib.hid hstep
            have my : y2n ≤ 9223372036854775807 := by rw [← hy2n]; exact t4.1
            clear hpx hpj hy hstep z7
            obtain ⟨X3, hX3⟩ : ∃ X, X = wr.alloc (.cells #[.int .i64 (pcl : Int), .int .i64 y1, .slice sa y2n sc, .int .i64 y3] 52) := ⟨_, rfl⟩
            have hB3 : Below wr.heap.size wr X3 := by rw [hX3]; exact (Below.refl _ _).alloc (Nat.le_refl _) _
            have hR3 : X3.heap[wr.heap.size]? = some (.cells #[.int .i64 (pcl : Int), .int .i64 y1, .slice sa y2n sc, .int .i64 y3] 52 (0, 0)) := by rw [hX3]; exact alloc_heap wr _
            obtain ⟨Q, hQ⟩ : ∃ R, wr.heap.size = R := ⟨_, rfl⟩
            have HTB := Lib.hid (t4.below hB3)
            have HX3 := Lib.hid (HX.out.trans (hB3.mono HX.out.size))
            have H9 := Lib.hid (H7.out.trans (HX3.out.mono H7.out.size))
            rw [hQ] at hR3
            have HR3 := Lib.hid hR3
            have ij1 : (j : Int) < (ps.length : Int) := by omega
            clear hR3 hB3 t4
            go_upto_region 19 with fail
            rw [← hX3]
            clear hX3 hQ d0 d1 d2 d3 t0 t1 t2 t3
            obtain ⟨d0, d1, d2, d3⟩ := four_cells (box_step (w0 := w) HR0.out H9.out)
            obtain ⟨g0, g1, g2, g3⟩ := four_cells (box_step (w0 := w) HR1'.out HX3.out)
            obtain ⟨t0, t1, t2, t3⟩ := four_cells HR3.out
            by_cases hc : pcl = c
            · subst hc
              by_cases hd : y1 < r3
              · have hst := HSTEP.out
                have hp : passP ⟨r0, r1, (pcl : Int), r3⟩ c3 ⟨(pcl : Int), y1, y2, y3⟩ = false := by unfold passP; simp only [Bool.and_eq_false_iff, decide_eq_false_iff_not]; right; left; omega
                have hf : failP ⟨r0, r1, (pcl : Int), r3⟩ c3 c2 (ea, eb) ⟨(pcl : Int), y1, y2, y3⟩ = false := by unfold failP; simp only [Bool.and_eq_false_iff, decide_eq_false_iff_not]; right; left; omega
                simp only [hp, hf, Bool.or_false, Bool.false_eq_true, if_false] at hst
                have HST3 := Lib.hid hst
                clear hst hp hf
                go_wp2
                go_roundw
                case rel => exact ⟨j + 1, q, f, by omega, rfl, rfl, by go_num, HST3.out, HX3.out⟩
                case measure => simp [intOf]; omega
              · have i6 : ¬ y1 < r3 := hd
                have kp := passes_any ⟨cs, rs, ps, bs⟩ ⟨(pcl : Int), y1, y2, y3⟩ _ (.slice sa y2n sc) X3 (HZ0.out.below H9.out) HTB.out z5 z6 (by show (0 : Int) ≤ (pcl : Int); omega) (by show (pcl : Int) < (cs.length : Int); omega)
                simp only [Int.toNat_natCast, HEK.out] at kp
                have hst := HSTEP.out
                by_cases hpass : failsF ⟨(pcl : Int), y1, y2, y3⟩ ≤ c3
                · rw [decide_eq_true hpass] at kp
                  have KP := Lib.hid kp
                  have hp : passP ⟨r0, r1, (pcl : Int), r3⟩ c3 ⟨(pcl : Int), y1, y2, y3⟩ = true := by
                    unfold passP; simp only [Bool.and_eq_true, decide_eq_true_eq]; exact ⟨trivial, Int.not_lt.1 i6, hpass⟩
                  have hf : failP ⟨r0, r1, (pcl : Int), r3⟩ c3 c2 (ea, eb) ⟨(pcl : Int), y1, y2, y3⟩ = false := by
                    unfold failP; rw [decide_eq_true hpass]; simp
                  simp only [hp, hf, Bool.or_false, if_true] at hst
                  have HST3 := Lib.hid hst
                  clear hst hp hf kp hpass
                  have w1 : IntKind.i64.wrap ((q : Int) + 1) = (q : Int) + 1 := IntWalk.i64_in _ (by omega)
                  go_wp2_with fail
                  refine KP.out.mono ?_
                  rintro e X4 ⟨rfl, hb10⟩
                  have H10 := Lib.hid (HX3.out.trans (hb10.mono HX3.out.size))
                  clear hb10 d0 d1 d2 d3 g0 g1 g2 g3 t0 t1 t2 t3
                  go_wp2
                  go_roundw
                  case rel => exact ⟨j + 1, q + 1, f, by omega, by go_num, rfl, by go_num, HST3.out, H10.out⟩
                  case measure => simp [intOf]; omega
                · rw [decide_eq_false hpass] at kp
                  have KP := Lib.hid kp
                  have hp : passP ⟨r0, r1, (pcl : Int), r3⟩ c3 ⟨(pcl : Int), y1, y2, y3⟩ = false := by
                    unfold passP; rw [decide_eq_false hpass]; simp
                  have hf : failP ⟨r0, r1, (pcl : Int), r3⟩ c3 c2 (ea, eb) ⟨(pcl : Int), y1, y2, y3⟩ = endsP c2 ea ⟨(pcl : Int), y1, y2, y3⟩ (eb.toNat + 1) := by
                    unfold failP; rw [decide_eq_false hpass, decide_eq_true (Int.not_lt.1 i6)]; simp
                  simp only [hp, hf, Bool.false_eq_true, if_false] at hst
                  have HST3 := Lib.hid hst
                  clear hst hp hf kp hpass
                  go_wp2_with fail
                  refine KP.out.mono ?_
                  rintro e X4 ⟨rfl, hb10⟩
                  have H10 := Lib.hid (HX3.out.trans (hb10.mono HX3.out.size))
                  have HQ := Lib.hid hb10
                  clear hb10 d0 d1 d2 d3 g0 g1 g2 g3 t0 t1 t2 t3
                  go_wp2
                  go_loopw [16, 19] (fun f' i wr' => ∃ (m : Nat) (b : Bool), (m : Int) ≤ eb + 1 ∧ f' = .bool b ∧ i = .int .i64 m ∧ EndOk c2 ea ⟨(pcl : Int), y1, y2, y3⟩ f m b ∧ wr' = X4) (fun _ i _ => (eb + 1).toNat - (intOf i).toNat)
                  case atStart => exact ⟨0, f, by omega, rfl, rfl, by simp [EndOk, endsP], rfl⟩
                  case round =>
                    obtain ⟨m, b, hm, rfl, rfl, hok, hw⟩ := hrel
                    subst hw
                    obtain ⟨t0, t1, t2, t3⟩ := four_cells (box_step (w0 := w) HR3.out HQ.out)
                    obtain ⟨s0, s1, s2, s3⟩ := four_cells (box_step (w0 := w) HR2.out H10.out)
                    by_cases hmb : (m : Int) ≤ eb
                    · have hm2 : (m : Int) * c2 ≤ 4 * 10000 := Int.mul_le_mul (by omega) (by omega) (by omega) (by omega)
                      have hm3 : 0 ≤ (m : Int) * c2 := Int.mul_nonneg (by omega) (by omega)
                      obtain ⟨mc, hmc⟩ : ∃ z, (m : Int) * c2 = z := ⟨_, rfl⟩
                      have hnext := end_next hok
                      simp only [hmc] at hnext
                      have w1 : IntKind.i64.wrap (y1 + 1) = y1 + 1 := IntWalk.i64_in _ (by omega)
                      have w2 : IntKind.i64.wrap ((m : Int) * c2) = mc := by rw [hmc]; exact IntWalk.i64_in _ (by omega)
                      have w3 : IntKind.i64.wrap (y1 + 1 + mc) = y1 + 1 + mc := IntWalk.i64_in _ (by omega)
                      have HN := Lib.hid hnext
                      clear hok hnext hmc hm2 hm3
                      cases b with
                      | true =>
                        go_wp2
                        go_roundw
                        case rel => exact ⟨m + 1, true, by omega, rfl, by go_num, by simpa using HN.out, trivial⟩
                        case measure => simp [intOf]; omega
                      | false =>
                        go_wp2
                        go_roundw
                        case rel => exact ⟨m + 1, (ea == y1 + 1 + mc), by omega, rfl, by go_num, by simpa using HN.out, trivial⟩
                        case measure => simp [intOf]; omega
                    · have hmm : m = eb.toNat + 1 := by omega
                      unfold EndOk at hok
                      rw [hmm] at hok
                      have hs3 := HST3.out
                      rw [← hok] at hs3
                      have HS3 := Lib.hid hs3
                      clear hs3 hok hmm
                      go_wp2
                      go_roundw
                      case rel => exact ⟨j + 1, q, b, by omega, rfl, rfl, by go_num, HS3.out, H10.out⟩
                      case measure => simp [intOf]; omega
            · have i6 : ¬ (pcl : Int) = (c : Int) := by omega
              have i7 : ((pcl : Int) != (c : Int)) = true := bne_iff_ne.2 i6
              have hst := HSTEP.out
              have hp : passP ⟨r0, r1, (c : Int), r3⟩ c3 ⟨(pcl : Int), y1, y2, y3⟩ = false := by unfold passP; simp only [Bool.and_eq_false_iff, decide_eq_false_iff_not]; left; show ¬ (pcl : Int) = (c : Int); omega
              have hf : failP ⟨r0, r1, (c : Int), r3⟩ c3 c2 (ea, eb) ⟨(pcl : Int), y1, y2, y3⟩ = false := by unfold failP; simp only [Bool.and_eq_false_iff, decide_eq_false_iff_not]; left; show ¬ (pcl : Int) = (c : Int); omega
              simp only [hp, hf, Bool.or_false, Bool.false_eq_true, if_false] at hst
              have HST3 := Lib.hid hst
              clear hst hp hf
              go_wp2
              go_roundw
              case rel => exact ⟨j + 1, q, f, by omega, rfl, rfl, by go_num, HST3.out, HX3.out⟩
              case measure => simp [intOf]; omega
          · have hjl : j = ps.length := by omega
            obtain ⟨hq, hf⟩ := HS.out
            rw [hjl, List.take_length] at hq hf
            simp only [] at hq hf
            have i1 : ¬ (j : Int) < (ps.length : Int) := by omega
            have i8 : ¬ (q : Int) < eb := by have := HM3.out; rw [← hq] at this; omega
            have i9 : ¬ ea ≤ r3 := by have := HM5.out; omega
            obtain ⟨g0, g1, g2, g3⟩ := four_cells (box_step (w0 := w) HR1'.out HX.out)
            obtain ⟨s0, s1, s2, s3⟩ := four_cells (box_step (w0 := w) HR2.out HX.out)
            have hn2 : eb * c2 ≤ 4 * 10000 := Int.mul_le_mul (by omega) (by omega) (by omega) (by omega)
            have hn3 : 0 ≤ eb * c2 := Int.mul_nonneg (by omega) (by omega)
            obtain ⟨mc, hmc⟩ : ∃ z, eb * c2 = z := ⟨_, rfl⟩
            have w1 : IntKind.i64.wrap (r3 + c0) = r3 + c0 := IntWalk.i64_in _ (by omega)
            have w2 : IntKind.i64.wrap (eb * c2) = mc := by rw [hmc]; exact IntWalk.i64_in _ (by omega)
            have w3 : IntKind.i64.wrap (r3 + c0 + mc) = r3 + c0 + mc := IntWalk.i64_in _ (by omega)
            have hor := HM4.out
            rw [hmc, ← hf] at hor
            have HOR := Lib.hid hor
            clear hq hf hmc hn2 hn3 hor HS hlt hj hjl
            go_upto_region 26 with fail
            go_cut [6, 160] (fun r x wc => r = .bool false ∧ x = .bool false ∧ wc = wr)
            case first =>
              cases f with
              | true =>
                go_wp2_with fail
                go_meet
                case rel => exact ⟨rfl, rfl, rfl⟩
              | false =>
                have he : ea = r3 + c0 + mc := by rcases HOR.out with h | h; · cases h
                                                  · exact h
                have i10 : (ea != r3 + c0 + mc) = false := by rw [he]; simp
                have HE := Lib.hid he
                clear he
                go_wp2_with fail
                go_meet
                case rel => exact ⟨rfl, rfl, rfl⟩
            case rest =>
              obtain ⟨rfl, rfl, hw⟩ := hcut
              subst hw
              clear s0 s1 s2 s3 w1 w2 w3
              have hst := HST2.out
              by_cases hin : inF day 0 131072 = false
              · rw [if_pos hin] at hst
                simp only [Prod.mk.injEq] at hst
                obtain ⟨rfl, rfl⟩ := hst
                have hday : day < 0 ∨ 131072 < day := by
                  unfold inF at hin
                  simp only [Bool.and_eq_false_iff, decide_eq_false_iff_not] at hin
                  omega
                clear hin
                by_cases hd0 : day < 0
                · go_wp2_with fail
                  refine (KA.out _).mono ?_
                  rintro e X5 ⟨rfl, hb11⟩
                  go_wp2
                  go_ret
                  exact ⟨rfl, HB.out.trans ((H8.out.trans (hb11.mono H8.out.size)).mono HB.out.size)⟩
                · have hd1 : (131072 : Int) < day := by omega
                  go_wp2_with fail
                  refine (KA.out _).mono ?_
                  rintro e X5 ⟨rfl, hb11⟩
                  go_wp2
                  go_ret
                  exact ⟨rfl, HB.out.trans ((H8.out.trans (hb11.mono H8.out.size)).mono HB.out.size)⟩
              · rw [if_neg hin] at hst
                simp only [Prod.mk.injEq] at hst
                obtain ⟨hxa, rfl⟩ := hst
                unfold sealStands standsF at hxa
                simp only [] at hxa
                clear hin
                by_cases hd0 : day < r3
                · have hbf : brkBy bs n day = false := by
                    cases hb : brkBy bs n day with
                    | false => rfl
                    | true => have := HLATE.out hb; omega
                  rw [hbf] at hxa
                  simp only [Bool.false_eq_true, if_false, if_pos hd0] at hxa
                  subst hxa
                  go_wp2_with fail
                  refine (KA.out _).mono ?_
                  rintro e X5 ⟨rfl, hb11⟩
                  go_wp2
                  go_ret
                  exact ⟨rfl, HB.out.trans ((H8.out.trans (hb11.mono H8.out.size)).mono HB.out.size)⟩
                · have kb := KB.out _ H8.out
                  obtain ⟨bb, hbb⟩ : ∃ b, brkBy bs n day = b := ⟨_, rfl⟩
                  rw [hbb] at kb hxa
                  have KB2 := Lib.hid kb
                  clear kb hbb
                  cases bb with
                  | true =>
                    simp only [if_true] at hxa
                    subst hxa
                    go_wp2_with fail
                    refine KB2.out.mono ?_
                    rintro e X5 ⟨rfl, hb11⟩
                    have H11 := Lib.hid (H8.out.trans (hb11.mono H8.out.size))
                    go_wp2_with fail
                    refine (KA.out _).mono ?_
                    rintro e X6 ⟨rfl, hb12⟩
                    go_wp2
                    go_ret
                    exact ⟨rfl, HB.out.trans ((H11.out.trans (hb12.mono H11.out.size)).mono HB.out.size)⟩
                  | false =>
                    simp only [Bool.false_eq_true, if_false, if_neg hd0] at hxa
                    by_cases hde : day < ea
                    · have i10 : ¬ ea ≤ day := by omega
                      rw [if_pos hde] at hxa
                      subst hxa
                      go_wp2_with fail
                      refine KB2.out.mono ?_
                      rintro e X5 ⟨rfl, hb11⟩
                      have H11 := Lib.hid (H8.out.trans (hb11.mono H8.out.size))
                      go_wp2_with fail
                      refine (KA.out _).mono ?_
                      rintro e X6 ⟨rfl, hb12⟩
                      go_wp2
                      go_ret
                      exact ⟨rfl, HB.out.trans ((H11.out.trans (hb12.mono H11.out.size)).mono HB.out.size)⟩
                    · have i10 : ea ≤ day := by omega
                      rw [if_neg hde] at hxa
                      subst hxa
                      go_wp2_with fail
                      refine KB2.out.mono ?_
                      rintro e X5 ⟨rfl, hb11⟩
                      have H11 := Lib.hid (H8.out.trans (hb11.mono H8.out.size))
                      go_wp2_with fail
                      refine (KA.out _).mono ?_
                      rintro e X6 ⟨rfl, hb12⟩
                      go_wp2
                      go_ret
                      exact ⟨rfl, HB.out.trans ((H11.out.trans (hb12.mono H11.out.size)).mono HB.out.size)⟩
    · have hen := HEN.out
      have hst := HST.out
      rw [end_bad h0] at hen
      rw [status_bad h0] at hst
      simp only [Prod.mk.injEq] at hen hst
      obtain ⟨rfl, rfl, hec⟩ := hen
      obtain ⟨rfl, hxc⟩ := hst
      rw [hec] at hxc h0
      subst hxc
      have e1 : (ec != 0) = true := by simpa using h0
      have e2 : (ec == 0) = false := by simpa using h0
      clear h0 hec
      go_wp2_with fail
      refine (KA.out _).mono ?_
      rintro e W4 ⟨rfl, hb4⟩
      go_wp2
      go_ret
      exact ⟨rfl, HB.out.trans ((H3.out.trans (hb4.mono H3.out.size)).mono HB.out.size)⟩
end Go.Proofs.Ytcmfplfnpjknlaa
