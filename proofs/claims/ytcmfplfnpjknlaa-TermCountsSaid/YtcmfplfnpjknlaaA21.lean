/- Term: contracts of due and Due. -/
import Derived.Test.YtcmfplfnpjknlaaA20
namespace Go.Proofs.Ytcmfplfnpjknlaa
set_option linter.unusedSimpArgs false
set_option linter.unusedVariables false
open Go.RowKit

theorem made_zeros (n : Nat) : (madeCells (Value.int .i64 0).cells (n * 1)).toList = (List.replicate n (0 : Int)).map (Value.int .i64) := by
  apply List.ext_getElem
  · simp [size_madeCells]
  · intro i h1 h2
    simp [madeCells, Value.cells, Nat.mod_one]
theorem dueStep_len (bs : List (Int × Int)) (lo hi : Int) (l : List Int) (x : Row × (Int × Int)) : (dueStep bs lo hi l x).length = l.length := by
  unfold dueStep addAt; split <;> simp
theorem due_step {s : Stk} {ts : List (Int × Int)} (hl : ts.length = s.rs.length) {k : Nat} (hk : k < s.rs.length) (lo hi : Int) : ((rowsT s ts).take (k + 1)).foldl (dueStep s.bs lo hi) (List.replicate s.cs.length 0) = dueStep s.bs lo hi (((rowsT s ts).take k).foldl (dueStep s.bs lo hi) (List.replicate s.cs.length 0)) (s.rs[k]!, ts[k]!) := by
  have hl2 : k < (rowsT s ts).length := by rw [rowsT_len hl]; exact hk
  rw [List.take_succ_eq_append_getElem hl2, List.foldl_append, List.foldl_cons, List.foldl_nil]
  congr 1
  have := rowsT_get hl hk
  rw [List.getD, List.getElem?_eq_getElem hl2] at this
  simpa using this
def DueIn (k : Nat) (l : List Int) : Prop := ∀ j, j < l.length → -1000 * (k : Int) ≤ l[j]! ∧ l[j]! ≤ 1000001 * (k : Int)
theorem dueIn_more {k : Nat} {l : List Int} (h : DueIn k l) : DueIn (k + 1) l := fun j hj => by have := h j hj; omega
theorem dueIn_add {k c : Nat} {l : List Int} {n : Int} (h : DueIn k l) (h1 : -24 ≤ n) (h2 : n ≤ 1000000) : DueIn (k + 1) (addAt l c n) := fun j hj => by
  have hj2 : j < l.length := by simpa [addAt] using hj
  have h3 := h j hj2
  unfold addAt
  rw [getElem!_pos _ j (by simpa using hj2), List.getElem_set]
  rw [getElem!_pos l j hj2] at h3
  split
  · rename_i e; subst e; rw [getElem!_pos l c hj2]; omega
  · omega
theorem span_cells {X : World} {b : Nat} {x y : Value} {t : TypeId} (h : X.heap[b]? = some (.cells #[x, y] t)) : X.cell? ⟨b, 0, none⟩ = some x ∧ X.cell? ⟨b, 1, none⟩ = some y := two_cells h
section
variable {B : Nat} {rv pv bv : Value} {R M : Nat} {w : World} {G : Value} {ptrs : List Nat}
set_option maxRecDepth 100000 in
set_option maxHeartbeats 6400000 in
theorem rdue_any (s : Stk) (ts : List (Int × Int)) (ca : Option Addr) (cc : Nat) (lo hi : Int) (hok : stkOk s = true) (hnd : (s.bs.map (·.1)).Nodup) (hl : ts.length = s.rs.length) (h : RecAt B (.slice ca s.cs.length cc) rv pv bv R M w G ptrs (rowsT s ts) s.bs) :
    Calls Try.prog 30 #[.pointer (some ⟨R, 0, none⟩), .agg #[.int .i64 lo, .int .i64 hi]] w fun e w' => ∃ g, e = .returned (.slice (some ⟨g, 0, none⟩) s.cs.length s.cs.length) ∧ w.heap.size ≤ g ∧ TabAt 1 numC w' (.slice (some ⟨g, 0, none⟩) s.cs.length s.cs.length) (dueAll s ts lo hi) ∧ (dueAll s ts lo hi).length = s.cs.length ∧ Below w.heap.size w w' := by
  obtain ⟨j0, hj, hj0, hj1, hj2⟩ := info_parts info3
  obtain ⟨f1, f2, f3, f4⟩ := stk_few hok
  obtain ⟨ga, gc, hG⟩ := h.shape
  rw [rowsT_len hl] at hG
  subst hG
  obtain ⟨W0, hW0⟩ : ∃ X, X = w.alloc (.cells #[.int .i64 lo, .int .i64 hi] 29) := ⟨_, rfl⟩
  have hb0 : Below w.heap.size w W0 := by rw [hW0]; exact (Below.refl _ _).alloc (Nat.le_refl _) _
  have k1 : W0.heap[w.heap.size]? = some (.cells #[.int .i64 lo, .int .i64 hi] 29 (0, 0)) := by rw [hW0]; exact alloc_heap w _
  have hsz : W0.heap.size = w.heap.size + 1 := by rw [hW0]; simp
  obtain ⟨S, hS⟩ : ∃ S, w.heap.size = S := ⟨_, rfl⟩
  rw [hS] at k1 hb0 hsz
  obtain ⟨W1, hrun, hown, hg1⟩ := run_make_full (P := Try.prog) W0 (S + 1) 32 3 j0 (.int .i64 0) 1 Try.underlying32 hj hj0 hj1 .i64 .i64 s.cs.length (by rw [hj2]; omega) (by unfold maxLen; omega) (by rw [hsz]; exact Nat.le_refl _)
  rw [hsz] at hrun hown
  rw [made_zeros] at hown
  have hrec0 := h.below (by rw [hS]; exact hb0)
  have hb1 : Below W0.heap.size W0 W1 := (Below.refl _ _).grown hg1 (Nat.le_refl _) (fun k hk => by cases hk)
  have hrec1 := hrec0.below hb1
  have k2 := box_step (w0 := w) k1 hb1
  obtain ⟨c0, _, _, _, _, _⟩ := six_cells hrec0.box
  obtain ⟨_, _, _, _, c4, _⟩ := six_cells hrec1.box
  have HS := Lib.hid hS
  have HK2 := Lib.hid k2
  have HB := Lib.hid (hb0.trans (hb1.mono (by rw [hsz]; omega)))
  have HREC := Lib.hid hrec1
  have HOWN := Lib.hid hown
  have HALL := Lib.hid (show dueAll s ts lo hi = ((rowsT s ts).take s.rs.length).foldl (dueStep s.bs lo hi) (List.replicate s.cs.length 0) by unfold dueAll; rw [List.take_of_length_le (by rw [rowsT_len hl]; exact Nat.le_refl _)])
  obtain ⟨RS, hRS⟩ : ∃ t, dueAll s ts lo hi = t := ⟨_, rfl⟩
  rw [hRS]
  have HRS := Lib.hid hRS
  have HL := Lib.hid hl
  have HND := Lib.hid hnd
  have HOK := Lib.hid hok
  clear k1 k2 hb0 h hRS hl hnd hok hrec0 hrec1 hb1 hg1 hown hsz hj hj0 hj1 hj2
  go_enter Try.func30, Try.ntmps30
  go_upto_region 1 with fail
  rw [← hW0]
  clear hW0 hS
  go_wp2_with fail
  clear c4 c0 hrun
  go_loopw [20] (fun i wr => ∃ (k : Nat) (l : List Int), k ≤ s.rs.length ∧ i = .int .i64 k ∧ Below S w wr ∧ RecAt B (.slice ca s.cs.length cc) rv pv bv R M wr (.slice ga s.rs.length gc) ptrs (rowsT s ts) s.bs ∧ wr.heap[S]? = some (.cells #[.int .i64 lo, .int .i64 hi] 29 (0, 0)) ∧ wr.ownsRow (S + 1) 3 1 (.slice (some ⟨S + 1, 0, none⟩) s.cs.length s.cs.length) s.cs.length (l.map (Value.int .i64)) ∧ ((rowsT s ts).take k).foldl (dueStep s.bs lo hi) (List.replicate s.cs.length 0) = l ∧ DueIn k l) (fun i _ => s.rs.length - (intOf i).toNat)
  case atStart => exact ⟨0, _, by omega, rfl, HB.out, HREC.out, HK2.out, HOWN.out, rfl, fun j hj => by simp at hj; simp [hj]⟩
  case round =>
    obtain ⟨k, l, hk, rfl, hbel, hrec, l1, hown, hfold, hdu⟩ := hrel
    have hll := rowsT_len HL.out
    have hlen : l.length = s.cs.length := by have := hown.1; simpa using this
    by_cases hlk : k < s.rs.length
    · obtain ⟨g, eg, _, hgl, hgc⟩ := hrec.at (by rw [hll]; omega)
      subst eg
      have u0 := hgc k (by rw [hll]; exact hlk)
      have hsn := rec_row hrec HL.out hlk
      obtain ⟨c, hcls, hcl, g1, g2, g3, g4, g5, _, _⟩ := rowOk_of HOK.out hlk
      have hstep := due_step HL.out hlk lo hi
      rw [hfold] at hstep
      obtain ⟨pt, hpt⟩ : ∃ p, ptrs.getD k 0 = p := ⟨_, rfl⟩
      obtain ⟨r, hr⟩ : ∃ r, s.rs[k]! = r := ⟨_, rfl⟩
      obtain ⟨⟨te, tt⟩, ht⟩ : ∃ t, ts[k]! = t := ⟨_, rfl⟩
      rw [hr, ht] at hsn hstep
      rw [hr] at g1 g2 g3 hcls
      rw [hpt] at u0 hsn
      obtain ⟨z0, z1, z2, z3, z4, z5⟩ := six_cells hsn
      obtain ⟨x0, x1⟩ := two_cells l1
      simp only [] at z4
      have HREC2 := Lib.hid hrec
      have HBEL := Lib.hid hbel
      have L1 := Lib.hid l1
      have HSN := Lib.hid hsn
      have HSTEP := Lib.hid hstep
      have HOW := Lib.hid hown
      have HDU := Lib.hid hdu
      have HLEN := Lib.hid hlen
      have HCLS := Lib.hid hcls
      have kk0 : (0 : Int) ≤ (k : Int) := by omega
      have kk1 : (k : Int) < (s.rs.length : Int) := by omega
      have k24 : (k : Int) ≤ 24 := by omega
      have kfr := fun X => isFrom_any te lo hi X
      obtain ⟨b, hb⟩ : ∃ b, inF te lo hi = b := ⟨_, rfl⟩
      rw [hb] at kfr
      have HIN := Lib.hid hb
      have KFR := Lib.hid kfr
      clear hrec hbel l1 hsn hstep hgc hpt hr ht hll hfold hown hdu hlen kfr hb z0 z1 z2 z3 z5 hcls
      cases b with
      | false =>
        go_wp2_with fail
        go_quiet ((go_at_call 39; exact Calls.quiet_of_same ((KFR.out _).mono fun _ _ ⟨a, b⟩ => ⟨a, b.symm⟩)))
        go_wp2
        go_roundw
        case rel =>
          have hst := HSTEP.out
          unfold dueStep at hst
          rw [HIN.out] at hst
          simp only [Bool.false_eq_true, if_false] at hst
          exact ⟨k + 1, l, by omega, by go_num, below_drewn HBEL.out _, HREC2.out.drewN _, L1.out, row_below HOW.out (below_drewn (Below.refl _ _) _), hst, dueIn_more HDU.out⟩
        case measure => simp [intOf]; omega
      | true =>
        go_upto_region 5 with fail
        go_quiet ((go_at_call 39; exact Calls.quiet_of_same ((KFR.out _).mono fun _ _ ⟨a, b⟩ => ⟨a, b.symm⟩)))
        go_upto_region 6 with fail
        have hrecD := HREC2.out.drewN nq
        have hsnD : SeenAt (wr.drewN nq) pt r (te, tt) := HSN.out
        have hbelD := below_drewn HBEL.out nq
        have hownD := row_below HOW.out (below_drewn (Below.refl _ wr) nq)
        have hl1D : (wr.drewN nq).heap[S]? = some (.cells #[.int .i64 lo, .int .i64 hi] 29 (0, 0)) := L1.out
        generalize wr.drewN nq = w3 at *
        clear z4 x0 x1 u0
        have hlen := HLEN.out
        have hdc := HDU.out c (by rw [hlen]; exact hcl)
        have hcell := hownD.cellAt c (by omega)
        obtain ⟨lc, hlc⟩ : ∃ v, l[c]! = v := ⟨_, rfl⟩
        have hcell2 : w3.drew.cell? ⟨S + 1, c, none⟩ = some (.int .i64 lc) := by
          have : (l.map (Value.int .i64))[c]? = some (.int .i64 lc) := by
            rw [← hlc, getElem!_pos l c (by rw [hlen]; exact hcl)]; simp [hlen, hcl]
          rw [← this]; exact hcell
        rw [hlc] at hdc
        have k40 := unbroken_any pt r (te, tt) te (hrecD.drewN 1) hsnD (by omega) (by omega) (by omega) (by omega) f4 HND.out
        have gl := gone_le s.bs r te
        have hsz : -24 ≤ wholeF s.bs r te ∧ wholeF s.bs r te ≤ 1000000 := by unfold wholeF sizeF; omega
        obtain ⟨wh, hwh⟩ : ∃ z, wholeF s.bs r te = z := ⟨_, rfl⟩
        rw [hwh] at k40 hsz
        obtain ⟨hwa, hwb⟩ := hsz
        obtain ⟨hda, hdb⟩ := hdc
        have ewd : IntKind.i64.wrap (lc + wh) = lc + wh := IntWalk.i64_in _ (by omega)
        have HWH := Lib.hid hwh
        have HLC := Lib.hid hlc
        have K40 := Lib.hid k40
        have HRD := Lib.hid hrecD
        have HBD := Lib.hid hbelD
        have HOD := Lib.hid hownD
        have HLD := Lib.hid hl1D
        have cc0 : (0 : Int) ≤ (c : Int) := by omega
        have cc1 : (c : Int) < (s.cs.length : Int) := by omega
        have hsc : SeenAt w3 pt ⟨r.lo, r.hi, c, r.day⟩ (te, tt) := by have := HCLS.out; unfold SeenAt at hsnD ⊢; rw [← this]; exact hsnD
        have hT : w3.drew.heap[pt]? = some (.cells #[.int .i64 r.lo, .int .i64 r.hi, .int .i64 c, .int .i64 r.day, .int .i64 te, .int .i64 tt] 78 (0, 0)) ∧ w3.drew.cell? ⟨S + 1, c, none⟩ = some (.int .i64 lc) := ⟨hsc, hcell2⟩
        clear k40 hwh hlc gl hrecD hbelD hownD hl1D hsnD hcell hcell2 hsc hlen
        refine wp_region_last (fun w' => w'.heap[pt]? = some (.cells #[.int .i64 r.lo, .int .i64 r.hi, .int .i64 c, .int .i64 r.day, .int .i64 te, .int .i64 tt] 78 (0, 0)) ∧ w'.cell? ⟨S + 1, c, none⟩ = some (.int .i64 lc)) 17 (by kernel_rfl) hT (fun hHeld => ?_)
        refine wpLast_take (i := 0) (oi := _) (v := ?_) rfl (by kernel_rfl) (by kernel_rfl) (by decide) (by kernel_rfl) (by kernel_rfl) (fun _ _ _ h => h) (Or.inl ⟨by rfl, ?_⟩) hT ?_
        rotate_left
        · intro w1 hSw
          obtain ⟨s1, s2⟩ := hSw
          obtain ⟨z0, z1, z2, z3, z4, z5⟩ := six_cells s1
          go_simp; with_reducible rfl
        simp only [List.getElem_toArray, List.getElem_cons_succ, List.getElem_cons_zero, Act.put, List.setIfInBounds_toArray, List.set_cons_zero, List.set_cons_succ]
        refine wpLast_take (i := 1) (oi := _) (v := ?_) rfl (by kernel_rfl) (by kernel_rfl) (by decide) (by kernel_rfl) (by kernel_rfl) (fun _ _ _ h => h) (Or.inl ⟨by rfl, ?_⟩) hT ?_
        rotate_left
        · intro w1 hSw
          obtain ⟨s1, s2⟩ := hSw
          obtain ⟨z0, z1, z2, z3, z4, z5⟩ := six_cells s1
          go_simp; with_reducible rfl
        simp only [List.getElem_toArray, List.getElem_cons_succ, List.getElem_cons_zero, Act.put, List.setIfInBounds_toArray, List.set_cons_zero, List.set_cons_succ]
        refine wpLast_take (i := 2) (oi := _) (v := ?_) rfl (by kernel_rfl) (by kernel_rfl) (by decide) (by kernel_rfl) (by kernel_rfl) (fun _ _ _ h => h) (Or.inl ⟨by rfl, ?_⟩) hT ?_
        rotate_left
        · intro w1 hSw
          obtain ⟨s1, s2⟩ := hSw
          obtain ⟨z0, z1, z2, z3, z4, z5⟩ := six_cells s1
          go_simp; with_reducible rfl
        simp only [List.getElem_toArray, List.getElem_cons_succ, List.getElem_cons_zero, Act.put, List.setIfInBounds_toArray, List.set_cons_zero, List.set_cons_succ]
        refine wpLast_take (i := 3) (oi := _) (v := ?_) rfl (by kernel_rfl) (by kernel_rfl) (by decide) (by kernel_rfl) (by kernel_rfl) (fun _ _ _ h => h) (Or.inl ⟨by rfl, ?_⟩) hT ?_
        rotate_left
        · intro w1 hSw
          obtain ⟨s1, s2⟩ := hSw
          obtain ⟨z0, z1, z2, z3, z4, z5⟩ := six_cells s1
          go_simp; with_reducible rfl
        simp only [List.getElem_toArray, List.getElem_cons_succ, List.getElem_cons_zero, Act.put, List.setIfInBounds_toArray, List.set_cons_zero, List.set_cons_succ]
        refine wpLast_take (i := 4) (oi := _) (v := ?_) rfl (by kernel_rfl) (by kernel_rfl) (by decide) (by kernel_rfl) (by kernel_rfl) (fun _ _ _ h => h) (Or.inl ⟨by rfl, ?_⟩) hT ?_
        rotate_left
        · intro w1 hSw
          obtain ⟨s1, s2⟩ := hSw
          obtain ⟨z0, z1, z2, z3, z4, z5⟩ := six_cells s1
          go_simp; with_reducible rfl
        simp only [List.getElem_toArray, List.getElem_cons_succ, List.getElem_cons_zero, Act.put, List.setIfInBounds_toArray, List.set_cons_zero, List.set_cons_succ]
        refine wpLast_take (i := 5) (oi := _) (v := ?_) rfl (by kernel_rfl) (by kernel_rfl) (by decide) (by kernel_rfl) (by kernel_rfl) (fun _ _ _ h => h) (Or.inl ⟨by rfl, ?_⟩) hT ?_
        rotate_left
        · intro w1 hSw
          obtain ⟨s1, s2⟩ := hSw
          obtain ⟨z0, z1, z2, z3, z4, z5⟩ := six_cells s1
          go_simp; with_reducible rfl
        simp only [List.getElem_toArray, List.getElem_cons_succ, List.getElem_cons_zero, Act.put, List.setIfInBounds_toArray, List.set_cons_zero, List.set_cons_succ]
        refine wpLast_take (i := 6) (oi := _) (v := ?_) rfl (by kernel_rfl) (by kernel_rfl) (by decide) (by kernel_rfl) (by kernel_rfl) (fun _ _ _ h => h) (Or.inl ⟨by rfl, ?_⟩) hT ?_
        rotate_left
        · intro w1 hSw
          obtain ⟨s1, s2⟩ := hSw
          obtain ⟨z0, z1, z2, z3, z4, z5⟩ := six_cells s1
          go_simp; with_reducible rfl
        simp only [List.getElem_toArray, List.getElem_cons_succ, List.getElem_cons_zero, Act.put, List.setIfInBounds_toArray, List.set_cons_zero, List.set_cons_succ]
        refine wpLast_take (i := 7) (oi := _) (v := ?_) rfl (by kernel_rfl) (by kernel_rfl) (by decide) (by kernel_rfl) (by kernel_rfl) (fun _ _ _ h => h) (Or.inl ⟨by rfl, ?_⟩) hT ?_
        rotate_left
        · intro w1 hSw
          obtain ⟨s1, s2⟩ := hSw
          obtain ⟨z0, z1, z2, z3, z4, z5⟩ := six_cells s1
          go_simp; with_reducible rfl
        simp only [List.getElem_toArray, List.getElem_cons_succ, List.getElem_cons_zero, Act.put, List.setIfInBounds_toArray, List.set_cons_zero, List.set_cons_succ]
        refine wpLast_take (i := 8) (oi := _) (v := ?_) rfl (by kernel_rfl) (by kernel_rfl) (by decide) (by kernel_rfl) (by kernel_rfl) (fun _ _ _ h => h) (Or.inl ⟨by rfl, ?_⟩) hT ?_
        rotate_left
        · intro w1 hSw
          obtain ⟨s1, s2⟩ := hSw
          obtain ⟨z0, z1, z2, z3, z4, z5⟩ := six_cells s1
          go_simp; with_reducible rfl
        simp only [List.getElem_toArray, List.getElem_cons_succ, List.getElem_cons_zero, Act.put, List.setIfInBounds_toArray, List.set_cons_zero, List.set_cons_succ]
        refine wpLast_take (i := 9) (oi := _) (v := ?_) rfl (by kernel_rfl) (by kernel_rfl) (by decide) (by kernel_rfl) (by kernel_rfl) (fun _ _ _ h => h) (Or.inl ⟨by rfl, ?_⟩) hT ?_
        rotate_left
        · intro w1 hSw
          obtain ⟨s1, s2⟩ := hSw
          obtain ⟨z0, z1, z2, z3, z4, z5⟩ := six_cells s1
          go_simp; with_reducible rfl
        simp only [List.getElem_toArray, List.getElem_cons_succ, List.getElem_cons_zero, Act.put, List.setIfInBounds_toArray, List.set_cons_zero, List.set_cons_succ]
        refine wpLast_take (i := 10) (oi := _) (v := ?_) rfl (by kernel_rfl) (by kernel_rfl) (by decide) (by kernel_rfl) (by kernel_rfl) (fun _ _ _ h => h) (Or.inl ⟨by rfl, ?_⟩) hT ?_
        rotate_left
        · intro w1 hSw
          obtain ⟨s1, s2⟩ := hSw
          obtain ⟨z0, z1, z2, z3, z4, z5⟩ := six_cells s1
          go_simp; with_reducible rfl
        simp only [List.getElem_toArray, List.getElem_cons_succ, List.getElem_cons_zero, Act.put, List.setIfInBounds_toArray, List.set_cons_zero, List.set_cons_succ]
        refine wpLast_take (i := 11) (oi := _) (v := ?_) rfl (by kernel_rfl) (by kernel_rfl) (by decide) (by kernel_rfl) (by kernel_rfl) (fun _ _ _ h => h) (Or.inl ⟨by rfl, ?_⟩) hT ?_
        rotate_left
        · intro w1 hSw
          obtain ⟨s1, s2⟩ := hSw
          obtain ⟨z0, z1, z2, z3, z4, z5⟩ := six_cells s1
          go_simp; with_reducible rfl
        simp only [List.getElem_toArray, List.getElem_cons_succ, List.getElem_cons_zero, Act.put, List.setIfInBounds_toArray, List.set_cons_zero, List.set_cons_succ]
        refine wpLast_take (i := 12) (oi := _) (v := ?_) rfl (by kernel_rfl) (by kernel_rfl) (by decide) (by kernel_rfl) (by kernel_rfl) (fun _ _ _ h => h) (Or.inl ⟨by rfl, ?_⟩) hT ?_
        rotate_left
        · intro w1 hSw
          obtain ⟨s1, s2⟩ := hSw
          obtain ⟨z0, z1, z2, z3, z4, z5⟩ := six_cells s1
          go_simp; with_reducible rfl
        simp only [List.getElem_toArray, List.getElem_cons_succ, List.getElem_cons_zero, Act.put, List.setIfInBounds_toArray, List.set_cons_zero, List.set_cons_succ]
        refine wpLast_take (i := 13) (oi := _) (v := ?_) rfl (by kernel_rfl) (by kernel_rfl) (by decide) (by kernel_rfl) (by kernel_rfl) (fun _ _ _ h => h) (Or.inl ⟨by rfl, ?_⟩) hT ?_
        rotate_left
        · intro w1 hSw
          obtain ⟨s1, s2⟩ := hSw
          obtain ⟨z0, z1, z2, z3, z4, z5⟩ := six_cells s1
          go_simp; with_reducible rfl
        simp only [List.getElem_toArray, List.getElem_cons_succ, List.getElem_cons_zero, Act.put, List.setIfInBounds_toArray, List.set_cons_zero, List.set_cons_succ]
        refine wpLast_ready (rs := [14]) (by kernel_rfl) (by simp) ?_
        intro i hi; obtain rfl := List.mem_singleton.1 hi; clear hi
        refine wpOp_step rfl (fun K3 hK3 => ?_)
        have HK3 := Lib.hid hK3
        clear hK3
        rw [if_pos (by rfl)]
        go_simp
        refine K40.out.mono ?_
        rintro e w5 ⟨rfl, hb5⟩
        have hb5b : Below w3.heap.size w3 w5 := ⟨hb5.os, hb5.tape, hb5.output, hb5.size, hb5.block⟩
        have hT5 := And.intro (box_step (w0 := w3) hT.1 hb5) ((hb5.cell (p := ⟨S + 1, c, none⟩) (World.block_lt_of_cell? _ _ hT.2)).trans hT.2)
        have hrec5 := HRD.out.below hb5b
        have hbel5 := HBD.out.trans (hb5b.mono (by have := HBD.out.size; have := HS.out; omega))
        have hown5 := row_below HOD.out hb5b
        have hl5 := box_step (w0 := w) HLD.out hb5b
        have HR5 := Lib.hid hrec5
        have HB5 := Lib.hid hbel5
        have HO5 := Lib.hid hown5
        have HL5 := Lib.hid hl5
        clear hb5 hb5b hrec5 hbel5 hown5 hl5
        refine HK3.out _ _ ⟨fun _ => hT5, fun _ => ?_⟩
        clear HK3 K3
        try simp only [List.getElem_toArray, List.getElem_cons_succ, List.getElem_cons_zero, Act.put, List.setIfInBounds_toArray, List.set_cons_zero, List.set_cons_succ]
        refine wpLast_take (i := 15) (oi := _) (v := ?_) rfl (by kernel_rfl) (by kernel_rfl) (by decide) (by kernel_rfl) (by kernel_rfl) (fun _ _ _ h => h) (Or.inl ⟨by rfl, ?_⟩) hT5 ?_
        rotate_left
        · intro w1 hSw
          obtain ⟨s1, s2⟩ := hSw
          obtain ⟨z0, z1, z2, z3, z4, z5⟩ := six_cells s1
          go_simp; with_reducible rfl
        simp only [List.getElem_toArray, List.getElem_cons_succ, List.getElem_cons_zero, Act.put, List.setIfInBounds_toArray, List.set_cons_zero, List.set_cons_succ]
        refine wpLast_take (i := 16) (oi := _) (v := ?_) rfl (by kernel_rfl) (by kernel_rfl) (by decide) (by kernel_rfl) (by kernel_rfl) (fun _ _ _ h => h) (Or.inl ⟨by rfl, ?_⟩) hT5 ?_
        rotate_left
        · intro w1 hSw
          obtain ⟨s1, s2⟩ := hSw
          obtain ⟨z0, z1, z2, z3, z4, z5⟩ := six_cells s1
          go_simp; with_reducible rfl
        simp only [List.getElem_toArray, List.getElem_cons_succ, List.getElem_cons_zero, Act.put, List.setIfInBounds_toArray, List.set_cons_zero, List.set_cons_succ]
        have x0 := hT5.2
        have fz3 : w5.frozen? ⟨S + 1, c, none⟩ = false := HO5.out.frozenAt c
        refine wpLast_ready (rs := [17]) (by kernel_rfl) (by simp) ?_
        intro i hi; obtain rfl := List.mem_singleton.1 hi; clear hi
        refine wpOp_step rfl (fun K3 hK3 => ?_)
        have HK3 := Lib.hid hK3
        clear hK3
        rw [if_pos (by rfl)]
        go_simp
        refine HK3.out _ _ ⟨fun h => absurd rfl h, fun _ => ?_⟩
        clear HK3 K3
        try simp only [List.getElem_toArray, List.getElem_cons_succ, List.getElem_cons_zero, Act.put, List.setIfInBounds_toArray, List.set_cons_zero, List.set_cons_succ]
        refine wpLast_done (by kernel_rfl) ?_ _
        have hst := HO5.out.stored c (.int .i64 (lc + wh))
        have hrec6 : RecAt B (.slice ca s.cs.length cc) rv pv bv R M (w5.setCell ⟨S + 1, c, none⟩ (.int .i64 (lc + wh))) (.slice (some ⟨g, 0, none⟩) s.rs.length gc) ptrs (rowsT s ts) s.bs := by
          rcases HO5.out.2 with ⟨e, _⟩ | ⟨g6, cap, cur, e, _, hg, _⟩
          · simp at e
          · simp at e
            rw [← e.1] at hg
            exact rec_other HR5.out hg (by decide) (by decide) (by decide) c _
        have hbel6 : Below S w (w5.setCell ⟨S + 1, c, none⟩ (.int .i64 (lc + wh))) := HB5.out.setCell (by simp) _
        have hl6 : (w5.setCell ⟨S + 1, c, none⟩ (.int .i64 (lc + wh))).heap[S]? = some (.cells #[.int .i64 lo, .int .i64 hi] 29 (0, 0)) := (Below.heap_setCell _ _ _ _ (by simp)).trans HL5.out
        have hown6 : (w5.setCell ⟨S + 1, c, none⟩ (.int .i64 (lc + wh))).ownsRow (S + 1) 3 1 (.slice (some ⟨S + 1, 0, none⟩) s.cs.length s.cs.length) s.cs.length ((addAt l c wh).map (Value.int .i64)) := by
          unfold addAt
          rw [HLC.out, List.map_set]
          exact hst.1
        have hst2 := HSTEP.out
        unfold dueStep at hst2
        simp only [] at hst2
        rw [HIN.out, HWH.out, HCLS.out] at hst2
        simp only [if_true, Int.toNat_natCast] at hst2
        have H1 := Lib.hid hrec6
        have H2 := Lib.hid hbel6
        have H3 := Lib.hid hl6
        have H4 := Lib.hid hown6
        have H5 := Lib.hid hst2
        clear hst hrec6 hbel6 hl6 hown6 hst2 hT hT5 x0 fz3
        go_wp2
        go_roundw
        case rel => exact ⟨k + 1, _, by omega, by go_num, H2.out, H1.out, H3.out, H4.out, H5.out, dueIn_add HDU.out hwa hwb⟩
        case measure => simp [intOf]; omega
    · have hkl : k = s.rs.length := by omega
      rw [hkl, ← HALL.out, HRS.out] at hfold
      have HBEL := Lib.hid hbel
      have HOW := Lib.hid hown
      have HF := Lib.hid hfold
      have i1 : ¬ (k : Int) < (s.rs.length : Int) := by omega
      clear hkl hfold hrec hll l1 hown hdu hbel
      go_wp2
      go_ret
      have hf := HF.out
      refine ⟨S + 1, rfl, by rw [HS.out]; omega, ?_, by rw [hf]; exact hlen, by rw [HS.out]; exact HBEL.out⟩
      rw [hf]
      refine ⟨by unfold maxLen; omega, .inr ⟨S + 1, 0, s.cs.length, by rw [hlen], by omega, by unfold maxLen; omega, ?_, fun i hi j hj => ?_⟩⟩
      · rcases HOW.out.2 with ⟨e, _⟩ | ⟨g, cap, cur, e, _, hg, _⟩
        · simp at e
        · simp at e; rw [e.1]; exact (Array.getElem?_eq_some_iff.1 hg).1
      · have hj0 : j = 0 := by omega
        subst hj0
        rw [show 0 + i * 1 + 0 = i by omega, HOW.out.cellAt i (by omega)]
        simp [numC, List.getD, hi]
end
set_option maxRecDepth 100000 in
set_option maxHeartbeats 6400000 in
theorem due_any (s : Stk) (v : Value) (lo hi : Int) (w : World) (hs : StkAt w v s) : Calls Try.prog 12 #[v, .agg #[.int .i64 lo, .int .i64 hi]] w (ListRes w (dueF s lo hi)) := by
  obtain ⟨ca, cc, ra, rc, pa, pc, ba, bc, rfl⟩ := stk_cells hs
  obtain ⟨W0, hW0⟩ : ∃ X, X = (w.alloc (.cells #[.slice ca s.cs.length cc, .slice ra s.rs.length rc, .slice pa s.ps.length pc, .slice ba s.bs.length bc] 27)).alloc (.cells #[.int .i64 lo, .int .i64 hi] 29) := ⟨_, rfl⟩
  have hb0 : Below w.heap.size w W0 := by rw [hW0]; exact ((Below.refl _ _).alloc (Nat.le_refl _) _).alloc (by simp) _
  have hr0 : W0.heap[w.heap.size]? = some (.cells #[.slice ca s.cs.length cc, .slice ra s.rs.length rc, .slice pa s.ps.length pc, .slice ba s.bs.length bc] 27 (0, 0)) := by rw [hW0]; exact (Below.heap_alloc _ _ _ (by simp)).trans (alloc_heap w _)
  have hr1 : W0.heap[w.heap.size + 1]? = some (.cells #[.int .i64 lo, .int .i64 hi] 29 (0, 0)) := by
    have := alloc_heap (w.alloc (.cells #[.slice ca s.cs.length cc, .slice ra s.rs.length rc, .slice pa s.ps.length pc, .slice ba s.bs.length bc] 27)) (.cells #[.int .i64 lo, .int .i64 hi] 29)
    rw [hW0]; simpa using this
  have k1 := recordsOf_any s _ W0 (hs.below hb0)
  obtain ⟨P, hP⟩ : ∃ P, w.heap.size = P := ⟨_, rfl⟩
  rw [hP] at hr0 hr1
  obtain ⟨d0, d1, d2, d3⟩ := four_cells hr0
  have K1 := Lib.hid k1
  have HB := Lib.hid hb0
  have HR1 := Lib.hid hr1
  clear k1 hb0 hr0 hs hr1
  go_enter Try.func12, Try.ntmps12
  go_upto_region 1 with fail
  rw [← hW0]
  clear hW0 hP
  go_wp2_with fail
  refine K1.out.mono ?_
  rintro e w1 ⟨hb1, ⟨hne, rfl⟩ | ⟨h0, hok, ca2, cc2, rv, pv, bv, R, M, G, ptrs, rfl, hrec⟩⟩
  · have hen := due_bad (lo := lo) (hi := hi) hne
    obtain ⟨ec, hec⟩ : ∃ e, (termsF s).2.1 = e := ⟨_, rfl⟩
    rw [hec] at hne hen ⊢
    have HEN := Lib.hid hen
    have e1 : (ec != 0) = true := by simpa using hne
    clear hne hec hen
    go_wp2
    go_ret2
    exact ⟨none, 0, by rw [HEN.out]; rfl, by rw [HEN.out]; exact tab_nil _, (fun b off e => by cases e), HB.out.trans (hb1.mono HB.out.size)⟩
  · have hen := due_good (lo := lo) (hi := hi) h0
    have hts := terms_tsOk hok h0
    have hnd := bs_nodup (terms_parts hok h0).2
    have kc0 := rdue_any s (termsF s).2.2 ca2 cc2 lo hi hok hnd hts.1 hrec
    have HBB := Lib.hid (HB.out.trans (hb1.mono HB.out.size))
    obtain ⟨x0, x1⟩ := two_cells (box_step (w0 := w) HR1.out hb1)
    have hd1 := fun X => isDay_any lo X
    have hd2 := fun X => isDay_any hi X
    obtain ⟨b1, hb1'⟩ : ∃ b, inF lo 0 131072 = b := ⟨_, rfl⟩
    obtain ⟨b2, hb2'⟩ : ∃ b, inF hi 0 131072 = b := ⟨_, rfl⟩
    rw [hb1'] at hd1 hen
    rw [hb2'] at hd2 hen
    have HEN := Lib.hid hen
    have KC := Lib.hid kc0
    have HD1 := Lib.hid hd1
    have HD2 := Lib.hid hd2
    clear d0 d1 d2 d3
    clear hen hts hnd kc0 hrec h0 hok hb1 hd1 hd2 hb1' hb2'
    cases b1 with
    | false =>
      have hen := HEN.out
      rw [if_pos (.inl rfl)] at hen
      have HE2 := Lib.hid hen
      clear hen HEN
      go_wp2_with (go_at_call 25; (with_reducible refine (HD1.out _).mono ?_); rintro e w2 ⟨rfl, rfl⟩)
      go_ret2
      exact ⟨none, 0, by rw [HE2.out]; rfl, by rw [HE2.out]; exact tab_nil _, (fun b off e => by cases e), HBB.out⟩
    | true =>
      cases b2 with
      | false =>
        have hen := HEN.out
        rw [if_pos (.inr (.inl rfl))] at hen
        have HE2 := Lib.hid hen
        clear hen HEN
        go_wp2_with (go_at_call 25; first | ((with_reducible refine (HD1.out _).mono ?_); rintro e w2 ⟨rfl, rfl⟩) | ((with_reducible refine (HD2.out _).mono ?_); rintro e w2 ⟨rfl, rfl⟩))
        go_ret2
        exact ⟨none, 0, by rw [HE2.out]; rfl, by rw [HE2.out]; exact tab_nil _, (fun b off e => by cases e), HBB.out⟩
      | true =>
        by_cases hlh : hi < lo
        · have hen := HEN.out
          rw [if_pos (.inr (.inr hlh))] at hen
          have HE2 := Lib.hid hen
          clear hen HEN
          go_wp2_with (go_at_call 25; first | ((with_reducible refine (HD1.out _).mono ?_); rintro e w2 ⟨rfl, rfl⟩) | ((with_reducible refine (HD2.out _).mono ?_); rintro e w2 ⟨rfl, rfl⟩))
          go_ret2
          exact ⟨none, 0, by rw [HE2.out]; rfl, by rw [HE2.out]; exact tab_nil _, (fun b off e => by cases e), HBB.out⟩
        · have hen := HEN.out
          rw [if_neg (by simp [hlh])] at hen
          have HE2 := Lib.hid hen
          have hll : ¬ lo > hi := hlh
          clear hen HEN
          go_wp2_with (first | (go_at_call 25; first | ((with_reducible refine (HD1.out _).mono ?_); rintro e w2 ⟨rfl, rfl⟩) | ((with_reducible refine (HD2.out _).mono ?_); rintro e w2 ⟨rfl, rfl⟩)) | (go_at_call 30; (with_reducible refine KC.out.mono ?_); rintro e w2 ⟨g, rfl, hg, htab, hlen, hb2⟩))
          go_ret2
          exact ⟨some ⟨g, 0, none⟩, s.cs.length, by rw [HE2.out]; simp only []; rw [hlen]; rfl, by rw [HE2.out]; simp only []; rw [hlen]; exact htab, (fun b off e => by cases e; have := HBB.out.size; omega), HBB.out.trans (hb2.mono HBB.out.size)⟩
end Go.Proofs.Ytcmfplfnpjknlaa
