/- Term: contracts of Check, End, Status. -/
import Derived.Test.YtcmfplfnpjknlaaA17
namespace Go.Proofs.Ytcmfplfnpjknlaa
set_option linter.unusedSimpArgs false
set_option linter.unusedVariables false
open Go.RowKit

theorem terms_good {s : Stk} (h : (termsF s).2.1 = 0) : (termsF s).1 = 0 := by
  cases hok : stkOk s with
  | false => rw [terms_bad hok]
  | true =>
    by_cases h1 : (rowsErr s).2 = 0
    · by_cases h2 : (bsErr s).2 = 0
      · rw [terms_ps hok h1 h2] at h ⊢; exact run_good s _ _ h
      · rw [terms_bs hok h1 h2] at h; exact absurd h h2
    · rw [terms_rows hok h1] at h; exact absurd h h1
theorem run_tsOk {s : Stk} (h : stkOk s = true) : ∀ (o : List Nat) (ts : List (Int × Int)), (∀ x ∈ o, x < s.ps.length) → TsOk s ts → (runF s o ts).2.1 = 0 → TsOk s (runF s o ts).2.2
  | [], ts, _, ht, _ => ht
  | i :: o, ts, hl, ht, h0 => by
    unfold runF at h0 ⊢
    split
    · rename_i h1; rw [if_pos h1] at h0
      exact run_tsOk h o _ (fun x hx => hl x (by simp [hx])) (tsOk_after h ht (hl i (by simp))) h0
    · rename_i h1; rw [if_neg h1] at h0; exact absurd h0 h1
theorem terms_tsOk {s : Stk} (hok : stkOk s = true) (h : (termsF s).2.1 = 0) : TsOk s (termsF s).2.2 := by
  by_cases h1 : (rowsErr s).2 = 0
  · by_cases h2 : (bsErr s).2 = 0
    · rw [terms_ps hok h1 h2] at h ⊢
      exact run_tsOk hok _ _ (orderF_lt s.ps s.ps.length) (tsOk_begin hok) h
    · rw [terms_bs hok h1 h2] at h; exact absurd h h2
  · rw [terms_rows hok h1] at h; exact absurd h h1
theorem end_bad {s : Stk} {n : Int} (h : (termsF s).2.1 ≠ 0) : endF s n = (0, 0, (termsF s).2.1) := by
  unfold endF
  generalize termsF s = t at *
  obtain ⟨a, b, c⟩ := t
  simp only [] at h ⊢
  rw [if_pos h]
theorem end_good {s : Stk} {n : Int} (h : (termsF s).2.1 = 0) : endF s n = match rowIx s.rs n with | none => (0, 0, 4) | some k => ((termsF s).2.2[k]!.1, (termsF s).2.2[k]!.2, 0) := by
  unfold endF
  generalize termsF s = t at *
  obtain ⟨a, b, c⟩ := t
  simp only [] at h ⊢
  rw [if_neg (by simp [h])]
  rfl
theorem status_bad {s : Stk} {n day : Int} (h : (termsF s).2.1 ≠ 0) : statusF s n day = (0, (termsF s).2.1) := by
  unfold statusF
  generalize termsF s = t at *
  obtain ⟨a, b, c⟩ := t
  simp only [] at h ⊢
  rw [if_pos h]
theorem status_good {s : Stk} {n day : Int} (h : (termsF s).2.1 = 0) : statusF s n day = match rowIx s.rs n with | none => (0, 4) | some k => if inF day 0 131072 = false then (0, 2) else (sealStands s.bs s.rs[k]! (termsF s).2.2[k]!.1 n day, 0) := by
  unfold statusF
  generalize termsF s = t at *
  obtain ⟨a, b, c⟩ := t
  simp only [] at h ⊢
  rw [if_neg (by simp [h])]
  rfl
theorem count_bad {s : Stk} {day : Int} (h : (termsF s).2.1 ≠ 0) : countF s day = ([], (termsF s).2.1) := by
  unfold countF
  generalize termsF s = t at *
  obtain ⟨a, b, c⟩ := t
  simp only [] at h ⊢
  rw [if_pos h]
def tallyAll (s : Stk) (ts : List (Int × Int)) (day : Int) : Int × Int × Int × Int := (rowsT s ts).foldl (tallyF s.bs day) (0, 0, 0, 0)
theorem count_good {s : Stk} {day : Int} (h : (termsF s).2.1 = 0) : countF s day = if inF day 0 131072 = false then ([], 2) else
    ([(tallyAll s (termsF s).2.2 day).1, (tallyAll s (termsF s).2.2 day).2.1, (tallyAll s (termsF s).2.2 day).2.2.1, (tallyAll s (termsF s).2.2 day).2.2.2], 0) := by
  unfold countF tallyAll rowsT
  generalize termsF s = t at *
  obtain ⟨a, b, c⟩ := t
  simp only [] at h ⊢
  rw [if_neg (by simp [h])]
theorem due_bad {s : Stk} {lo hi : Int} (h : (termsF s).2.1 ≠ 0) : dueF s lo hi = ([], (termsF s).2.1) := by
  unfold dueF
  generalize termsF s = t at *
  obtain ⟨a, b, c⟩ := t
  simp only [] at h ⊢
  rw [if_pos h]
def dueAll (s : Stk) (ts : List (Int × Int)) (lo hi : Int) : List Int := (rowsT s ts).foldl (dueStep s.bs lo hi) (List.replicate s.cs.length 0)
theorem due_good {s : Stk} {lo hi : Int} (h : (termsF s).2.1 = 0) : dueF s lo hi = if inF lo 0 131072 = false ∨ inF hi 0 131072 = false ∨ hi < lo then ([], 2) else (dueAll s (termsF s).2.2 lo hi, 0) := by
  unfold dueF dueAll rowsT
  generalize termsF s = t at *
  obtain ⟨a, b, c⟩ := t
  simp only [] at h ⊢
  rw [if_neg (by simp [h])]
/-- a stock in a box of the call's own -/
theorem boxed (w : World) (v : Value) (s : Stk) (hs : StkAt w v s) : ∃ cs W0, v = .agg cs ∧ W0 = w.alloc (.cells cs 27) ∧ Below w.heap.size w W0 ∧ W0.heap[w.heap.size]? = some (.cells cs 27 (0, 0)) ∧ StkAt W0 v s ∧ ∃ a b c d : Value, cs = #[a, b, c, d] := by
  obtain ⟨cv, rv, pv, bv, rfl, h⟩ := hs
  have hb : Below w.heap.size w (w.alloc (.cells #[cv, rv, pv, bv] 27)) := (Below.refl _ _).alloc (Nat.le_refl _) _
  exact ⟨_, _, rfl, rfl, hb, alloc_heap w _, StkAt.below ⟨cv, rv, pv, bv, rfl, h⟩ hb, cv, rv, pv, bv, rfl⟩
theorem stk_cells {w : World} {v : Value} {s : Stk} (hs : StkAt w v s) : ∃ ca cc ra rc pa pc ba bc, v = .agg #[.slice ca s.cs.length cc, .slice ra s.rs.length rc, .slice pa s.ps.length pc, .slice ba s.bs.length bc] := by
  obtain ⟨cv, rv, pv, bv, rfl, h1, h2, h3, h4⟩ := hs
  obtain ⟨ca, cc, rfl⟩ := h1.shape
  obtain ⟨ra, rc, rfl⟩ := h2.shape
  obtain ⟨pa, pc, rfl⟩ := h3.shape
  obtain ⟨ba, bc, rfl⟩ := h4.shape
  exact ⟨_, _, _, _, _, _, _, _, rfl⟩
set_option maxHeartbeats 1600000 in
theorem check_any (s : Stk) (v : Value) (w : World) (hs : StkAt w v s) : Calls Try.prog 22 #[v] w fun e w' => e = .returned (.tuple #[.int .i64 (checkF s).1, .int .i64 (checkF s).2]) ∧ Below w.heap.size w w' := by
  obtain ⟨ca, cc, ra, rc, pa, pc, ba, bc, rfl⟩ := stk_cells hs
  obtain ⟨W0, hW0⟩ : ∃ X, X = w.alloc (.cells #[.slice ca s.cs.length cc, .slice ra s.rs.length rc, .slice pa s.ps.length pc, .slice ba s.bs.length bc] 27) := ⟨_, rfl⟩
  have hb0 : Below w.heap.size w W0 := by rw [hW0]; exact (Below.refl _ _).alloc (Nat.le_refl _) _
  have hr0 : W0.heap[w.heap.size]? = some (.cells #[.slice ca s.cs.length cc, .slice ra s.rs.length rc, .slice pa s.ps.length pc, .slice ba s.bs.length bc] 27 (0, 0)) := by rw [hW0]; exact alloc_heap w _
  have k1 := recordsOf_any s _ W0 (hs.below hb0)
  obtain ⟨P, hP⟩ : ∃ P, w.heap.size = P := ⟨_, rfl⟩
  rw [hP] at hr0
  obtain ⟨d0, d1, d2, d3⟩ := four_cells hr0
  have K1 := Lib.hid k1
  have HB := Lib.hid hb0
  obtain ⟨ix, hix⟩ : ∃ x, (checkF s).1 = x := ⟨_, rfl⟩
  obtain ⟨er, her⟩ : ∃ x, (checkF s).2 = x := ⟨_, rfl⟩
  rw [hix, her]
  have HI := Lib.hid hix
  have HE := Lib.hid her
  clear k1 hb0 hr0 hs hix her
  go_enter Try.func22, Try.ntmps22
  go_upto_region 1 with fail
  rw [← hW0]
  clear hW0 hP
  go_wp2_with fail
  refine K1.out.mono ?_
  rintro e w1 ⟨hb1, ⟨hne, rfl⟩ | ⟨h0, hok, ca2, cc2, rv, pv, bv, R, M, G, ptrs, rfl, hrec⟩⟩
  · have e1 : (termsF s).1 = ix := HI.out
    have e2 : (termsF s).2.1 = er := HE.out
    rw [e1, e2]
    clear e1 e2 hne
    go_wp2
    go_ret2
    exact ⟨rfl, HB.out.trans (hb1.mono HB.out.size)⟩
  · have e1 : ix = 0 := by rw [← HI.out]; show ((termsF s).1 : Nat) = 0; exact terms_good h0
    have e2 : er = 0 := by rw [← HE.out]; exact h0
    subst e1
    subst e2
    clear h0 hok hrec
    go_wp2
    go_ret2
    exact ⟨rfl, HB.out.trans (hb1.mono HB.out.size)⟩
theorem rec_row {B : Nat} {cv rv pv bv : Value} {R M : Nat} {w : World} {G : Value} {ps : List Nat} {s : Stk} {ts : List (Int × Int)} {bs : List (Int × Int)} (h : RecAt B cv rv pv bv R M w G ps (rowsT s ts) bs) (hl : ts.length = s.rs.length) {i : Nat} (hi : i < s.rs.length) : SeenAt w (ps.getD i 0) s.rs[i]! ts[i]! := by
  have := h.seen i (by rw [rowsT_len hl]; exact hi)
  rwa [rowsT_get hl hi] at this
set_option maxHeartbeats 1600000 in
theorem end_any (s : Stk) (v : Value) (n : Int) (w : World) (hs : StkAt w v s) : Calls Try.prog 17 #[v, .int .i64 n] w fun e w' => e = .returned (.tuple #[.int .i64 (endF s n).1, .int .i64 (endF s n).2.1, .int .i64 (endF s n).2.2]) ∧ Below w.heap.size w w' := by
  obtain ⟨ca, cc, ra, rc, pa, pc, ba, bc, rfl⟩ := stk_cells hs
  obtain ⟨W0, hW0⟩ : ∃ X, X = w.alloc (.cells #[.slice ca s.cs.length cc, .slice ra s.rs.length rc, .slice pa s.ps.length pc, .slice ba s.bs.length bc] 27) := ⟨_, rfl⟩
  have hb0 : Below w.heap.size w W0 := by rw [hW0]; exact (Below.refl _ _).alloc (Nat.le_refl _) _
  have hr0 : W0.heap[w.heap.size]? = some (.cells #[.slice ca s.cs.length cc, .slice ra s.rs.length rc, .slice pa s.ps.length pc, .slice ba s.bs.length bc] 27 (0, 0)) := by rw [hW0]; exact alloc_heap w _
  have k1 := recordsOf_any s _ W0 (hs.below hb0)
  obtain ⟨P, hP⟩ : ∃ P, w.heap.size = P := ⟨_, rfl⟩
  rw [hP] at hr0
  obtain ⟨d0, d1, d2, d3⟩ := four_cells hr0
  have K1 := Lib.hid k1
  have HB := Lib.hid hb0
  obtain ⟨⟨ea, eb, ec⟩, hen⟩ : ∃ x, endF s n = x := ⟨_, rfl⟩
  rw [hen]
  simp only []
  have HEN := Lib.hid hen
  clear k1 hb0 hr0 hs hen
  go_enter Try.func17, Try.ntmps17
  go_upto_region 1 with fail
  rw [← hW0]
  clear hW0 hP
  go_wp2_with fail
  refine K1.out.mono ?_
  rintro e w1 ⟨hb1, ⟨hne, rfl⟩ | ⟨h0, hok, ca2, cc2, rv, pv, bv, R, M, G, ptrs, rfl, hrec⟩⟩
  · have hen := HEN.out
    rw [end_bad hne] at hen
    simp only [Prod.mk.injEq] at hen
    obtain ⟨rfl, rfl, hec⟩ := hen
    rw [hec] at hne ⊢
    have e1 : (ec != 0) = true := by simpa using hne
    clear hne hec
    go_wp2
    go_ret3
    exact ⟨rfl, HB.out.trans (hb1.mono HB.out.size)⟩
  · have hen := HEN.out
    rw [end_good h0] at hen
    have hts := terms_tsOk hok h0
    have hro := rowOf_any n hrec
    rw [rowsT_fst hts.1] at hro
    have HBB := Lib.hid (HB.out.trans (hb1.mono HB.out.size))
    cases hix : rowIx s.rs n with
    | none =>
      rw [hix] at hro hen
      simp only [Prod.mk.injEq] at hen
      obtain ⟨rfl, rfl, rfl⟩ := hen
      simp only [ixV] at hro
      have HRO := Lib.hid hro
      clear hro hix hts hrec h0 hok hb1
      go_wp2_with (go_at_call 32; (with_reducible refine HRO.out.mono ?_); rintro e w2 ⟨rfl, q2, rfl⟩)
      go_ret3
      exact ⟨rfl, below_drewn HBB.out _⟩
    | some i =>
      rw [hix] at hro hen
      simp only [Prod.mk.injEq] at hen
      obtain ⟨he1, he2, rfl⟩ := hen
      obtain ⟨hil, _⟩ := rowIx_lt hix
      have hsn := rec_row hrec hts.1 hil
      obtain ⟨z0, z1, z2, z3, z4, z5⟩ := six_cells hsn
      rw [he1] at z4
      rw [he2] at z5
      simp only [ixV] at hro
      obtain ⟨pt, hpt⟩ : ∃ p, ptrs.getD i 0 = p := ⟨_, rfl⟩
      rw [hpt] at hro z4 z5
      have HRO := Lib.hid hro
      clear hro hix hts hrec h0 hok hb1 hpt hsn z0 z1 z2 z3 he1 he2 hil
      go_wp2_with (go_at_call 32; (with_reducible refine HRO.out.mono ?_); rintro e w2 ⟨rfl, q2, rfl⟩)
      go_quiet (fail)
      go_wp2
      go_ret3
      exact ⟨rfl, below_drewn (below_drewn HBB.out _) _⟩
theorem rowIx_in {s : Stk} (hok : stkOk s = true) {n : Int} {i : Nat} (h : rowIx s.rs n = some i) : 1 ≤ n ∧ n ≤ 1000000 := by
  obtain ⟨hi, hh⟩ := rowIx_lt h
  obtain ⟨c, _, _, h1, h2, h3, _⟩ := rowOk_of hok hi
  unfold hasF at hh
  rw [inF_iff] at hh
  omega
set_option maxHeartbeats 1600000 in
theorem status_any (s : Stk) (v : Value) (n day : Int) (w : World) (hs : StkAt w v s) : Calls Try.prog 18 #[v, .int .i64 n, .int .i64 day] w fun e w' => e = .returned (.tuple #[.int .i64 (statusF s n day).1, .int .i64 (statusF s n day).2]) ∧ Below w.heap.size w w' := by
  obtain ⟨ca, cc, ra, rc, pa, pc, ba, bc, rfl⟩ := stk_cells hs
  obtain ⟨W0, hW0⟩ : ∃ X, X = w.alloc (.cells #[.slice ca s.cs.length cc, .slice ra s.rs.length rc, .slice pa s.ps.length pc, .slice ba s.bs.length bc] 27) := ⟨_, rfl⟩
  have hb0 : Below w.heap.size w W0 := by rw [hW0]; exact (Below.refl _ _).alloc (Nat.le_refl _) _
  have hr0 : W0.heap[w.heap.size]? = some (.cells #[.slice ca s.cs.length cc, .slice ra s.rs.length rc, .slice pa s.ps.length pc, .slice ba s.bs.length bc] 27 (0, 0)) := by rw [hW0]; exact alloc_heap w _
  have k1 := recordsOf_any s _ W0 (hs.below hb0)
  obtain ⟨P, hP⟩ : ∃ P, w.heap.size = P := ⟨_, rfl⟩
  rw [hP] at hr0
  obtain ⟨d0, d1, d2, d3⟩ := four_cells hr0
  have K1 := Lib.hid k1
  have HB := Lib.hid hb0
  obtain ⟨⟨ea, ec⟩, hen⟩ : ∃ x, statusF s n day = x := ⟨_, rfl⟩
  rw [hen]
  simp only []
  have HEN := Lib.hid hen
  clear k1 hb0 hr0 hs hen
  go_enter Try.func18, Try.ntmps18
  go_upto_region 1 with fail
  rw [← hW0]
  clear hW0 hP
  go_wp2_with fail
  refine K1.out.mono ?_
  rintro e w1 ⟨hb1, ⟨hne, rfl⟩ | ⟨h0, hok, ca2, cc2, rv, pv, bv, R, M, G, ptrs, rfl, hrec⟩⟩
  · have hen := HEN.out
    rw [status_bad hne] at hen
    simp only [Prod.mk.injEq] at hen
    obtain ⟨rfl, hec⟩ := hen
    rw [hec] at hne ⊢
    have e1 : (ec != 0) = true := by simpa using hne
    clear hne hec
    go_wp2
    go_ret2
    exact ⟨rfl, HB.out.trans (hb1.mono HB.out.size)⟩
  · have hen := HEN.out
    rw [status_good h0] at hen
    have hts := terms_tsOk hok h0
    have hro := rowOf_any n hrec
    rw [rowsT_fst hts.1] at hro
    have HBB := Lib.hid (HB.out.trans (hb1.mono HB.out.size))
    cases hix : rowIx s.rs n with
    | none =>
      rw [hix] at hro hen
      simp only [Prod.mk.injEq] at hen
      obtain ⟨rfl, rfl⟩ := hen
      simp only [ixV] at hro
      have HRO := Lib.hid hro
      clear hro hix hts hrec h0 hok hb1
      go_wp2_with (go_at_call 32; (with_reducible refine HRO.out.mono ?_); rintro e w2 ⟨rfl, q2, rfl⟩)
      go_ret2
      exact ⟨rfl, below_drewn HBB.out _⟩
    | some i =>
      rw [hix] at hro hen
      simp only [] at hen
      obtain ⟨hil, _⟩ := rowIx_lt hix
      obtain ⟨hn0, hn1⟩ := rowIx_in hok hix
      have hwn : (Lit.int .i64 n).wf = true := WalkArith.wf_i64 (by omega)
      have hsn := rec_row hrec hts.1 hil
      simp only [ixV] at hro
      obtain ⟨pt, hpt⟩ : ∃ p, ptrs.getD i 0 = p := ⟨_, rfl⟩
      rw [hpt] at hro hsn
      have hst := fun q => stands_any pt s.rs[i]! (termsF s).2.2[i]! n day (hrec.drewN q) (hsn.below (B := 0) (below_drewn (Below.refl _ _) q)) hwn
      have hda := fun X => isDay_any day X
      obtain ⟨b, hb⟩ : ∃ b, inF day 0 131072 = b := ⟨_, rfl⟩
      obtain ⟨sd, hsd⟩ : ∃ b, sealStands s.bs s.rs[i]! (termsF s).2.2[i]!.1 n day = b := ⟨_, rfl⟩
      rw [hb] at hda hen
      rw [hsd] at hst hen
      have HRO := Lib.hid hro
      have HST := Lib.hid hst
      have HDA := Lib.hid hda
      clear hro hix hts hrec h0 hok hb1 hpt hsn hil hst hda hb hsd
      cases b with
      | false =>
        simp only [if_true, Prod.mk.injEq] at hen
        obtain ⟨rfl, rfl⟩ := hen
        go_wp2_with (first | (go_at_call 32; (with_reducible refine HRO.out.mono ?_); rintro e w2 ⟨rfl, q2, rfl⟩) | (go_at_call 25; (with_reducible refine (HDA.out _).mono ?_); rintro e w2 ⟨rfl, rfl⟩))
        go_ret2
        exact ⟨rfl, below_drewn HBB.out _⟩
      | true =>
        simp only [Bool.true_eq_false, if_false, Prod.mk.injEq] at hen
        obtain ⟨rfl, rfl⟩ := hen
        go_wp2_with (first | (go_at_call 32; (with_reducible refine HRO.out.mono ?_); rintro e w2 ⟨rfl, q2, rfl⟩) | (go_at_call 25; (with_reducible refine (HDA.out _).mono ?_); rintro e w2 ⟨rfl, rfl⟩) | (go_at_call 33; (with_reducible refine (HST.out _).mono ?_); rintro e w2 ⟨rfl, rfl⟩))
        go_ret2
        exact ⟨rfl, below_drewn HBB.out _⟩
end Go.Proofs.Ytcmfplfnpjknlaa
