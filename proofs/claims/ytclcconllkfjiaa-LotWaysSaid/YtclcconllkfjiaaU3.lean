/- Contract: the document's Within. -/
import Derived.Test.YtclcconllkfjiaaU2
namespace Go.Proofs.Ytclcconllkfjiaa
set_option linter.unusedSimpArgs false
set_option linter.unusedVariables false
open Go.RowKit

/-- the last number before m with f, else 0 -/
def lastP (f : Nat → Bool) : Nat → Nat
  | 0 => 0
  | m + 1 => if f m = true then m else lastP f m
theorem lastP_spec (f : Nat → Bool) : ∀ m j, j < m → f j = true → j ≤ lastP f m ∧ f (lastP f m) = true ∧ lastP f m < m
  | m + 1, j, hj, hf => by
    unfold lastP
    by_cases h : f m = true
    · rw [if_pos h]; exact ⟨by omega, h, by omega⟩
    · rw [if_neg h]
      have hjm : j < m := by
        by_cases e : j = m
        · subst e; exact absurd hf h
        · omega
      have := lastP_spec f m j hjm hf
      exact ⟨this.1, this.2.1, by omega⟩
theorem within_last {n c lo : Nat} {f d : Int} (h : firstP (canF n c f d) (n + 1) = some lo) : withinR n c f d = (((lo : Nat) : Int), ((lastP (canF n c f d) (n + 1) : Nat) : Int), 0) := by
  obtain ⟨r, hr, hrn, hlr, hcl, hcr, hup⟩ := within_some h
  rw [withinR_some h hr]
  obtain ⟨a1, a2, a3⟩ := lastP_spec (canF n c f d) (n + 1) (n - r) (by omega) hcr
  have := (hup _ (by omega) a2).2
  rw [show lastP (canF n c f d) (n + 1) = n - r by omega]; rfl
theorem firstP_step (f : Nat → Bool) (m : Nat) : firstP f (m + 1) = match firstP f m with | some k => some k | none => if f m then some m else none := rfl
theorem lastP_step (f : Nat → Bool) (m : Nat) : lastP f (m + 1) = if f m = true then m else lastP f m := rfl
set_option maxRecDepth 100000 in
set_option maxHeartbeats 3200000 in
theorem refWithin_ok (N C : Nat) (f d : Int) (w : World) (h1 : 1 ≤ N) (hN : N ≤ 50) (hC : C ≤ N) (hf : 0 ≤ f ∧ f ≤ C) (hd : 0 ≤ d ∧ d ≤ 1000) : Calls Try.prog 14 #[.int .i64 N, .int .i64 C, .int .i64 f, .int .i64 d] w fun e w' => e = .returned (spanErr (withinR N C f d)) ∧ Below w.heap.size w w' := by
  have i1 := fun W => in_any N 1 50 W
  have i2 := fun W => in_any C 0 N W
  have i3 := fun W => in_any f 0 C W
  have i4 := fun W => in_any d 0 1000 W
  rw [inB_iff.2 (by omega)] at i1 i2 i3 i4
  have hbr := fun W (k : Nat) (hk : k ≤ N) => refBears_any N k C f d W hN hk hC hf hd
  have hnone := fun h => withinR_none (n := N) (c := C) (f := f) (d := d) h
  have hsome := fun lo h => within_last (n := N) (c := C) (lo := lo) (f := f) (d := d) h
  obtain ⟨F, hF⟩ : ∃ F, canF N C f d = F := ⟨_, rfl⟩
  obtain ⟨RR, hRR⟩ : ∃ R, withinR N C f d = R := ⟨_, rfl⟩
  rw [hF] at hbr hnone hsome
  rw [hRR] at hnone hsome ⊢
  have I1 := Lib.hid i1
  have I2 := Lib.hid i2
  have I3 := Lib.hid i3
  have I4 := Lib.hid i4
  have HBR := Lib.hid hbr
  have HNO := Lib.hid hnone
  have HSO := Lib.hid hsome
  clear i1 i2 i3 i4 hbr hnone hsome hF hRR hf hd hC
  go_enter Try.func14, Try.ntmps14
  go_wp2_with fail
  refine (I1.out _).mono ?_
  rintro e w1 ⟨rfl, rfl⟩
  go_wp2_with fail
  refine (I2.out _).mono ?_
  rintro e w1 ⟨rfl, rfl⟩
  go_wp2_with fail
  refine (I3.out _).mono ?_
  rintro e w1 ⟨rfl, rfl⟩
  go_wp2_with fail
  refine (I4.out _).mono ?_
  rintro e w1 ⟨rfl, rfl⟩
  go_wp2_with fail
  obtain ⟨W1, hW1⟩ : ∃ X, X = (w.alloc (.cells #[.int .i64 0, .int .i64 0] 32)).alloc (.cells #[.int .i64 0, .int .i64 0] 32) := ⟨_, rfl⟩
  obtain ⟨R, hR⟩ : ∃ R, R = w.heap.size := ⟨_, rfl⟩
  have hB0 : Below R w W1 := by rw [hW1, hR]; exact ((Below.refl _ _).alloc (Nat.le_refl _) _).alloc (by simp) _
  have k0 : W1.heap[R]? = some (.cells #[.int .i64 0, .int .i64 0] 32 (0, 0)) := by rw [hW1, hR, Below.heap_alloc _ _ _ (by simp)]; exact alloc_heap _ _
  have k1 : W1.heap[R + 1]? = some (.cells #[.int .i64 0, .int .i64 0] 32 (0, 0)) := by
    rw [hW1, hR]
    have := alloc_heap (w.alloc (.cells #[.int .i64 0, .int .i64 0] 32)) (.cells #[.int .i64 0, .int .i64 0] 32)
    simpa using this
  rw [← hW1, ← hR]
  have HR := Lib.hid hR
  clear hW1 hR
  go_loopw [11, 12] (fun nb i wr => ∃ k : Nat, k ≤ N + 1 ∧ i = .int .i64 k ∧ nb = .bool (firstP F k).isNone ∧ wr.heap[R + 1]? = some (.cells #[.int .i64 ((firstP F k).getD 0 : Nat), .int .i64 (lastP F k : Nat)] 32 (0, 0)) ∧ wr.heap[R]? = some (.cells #[.int .i64 0, .int .i64 0] 32 (0, 0)) ∧ Below R w wr) (fun _ i _ => N + 1 - (intOf i).toNat)
  case atStart => exact ⟨0, by omega, rfl, rfl, k1, k0, hB0⟩
  case round =>
    clear k0 k1 hB0
    obtain ⟨k, hk, rfl, rfl, q1, q0, hbel⟩ := hrel
    by_cases hkn : k < N + 1
    · have hle : (k : Int) ≤ (N : Int) := by omega
      have hx := HBR.out wr k (by omega)
      have hfs := firstP_step F k
      have hls := lastP_step F k
      have hf0 : ∀ o, wr.frozen? ⟨R + 1, o, none⟩ = false := fun o => frozen_of q1
      obtain ⟨l1, l2⟩ := two_cells q1
      obtain ⟨L, hL⟩ : ∃ L, lastP F k = L := ⟨_, rfl⟩
      rw [hL] at q1 l2
      have Q0 := Lib.hid q0
      have Q1 := Lib.hid q1
      have e1 : IntKind.i64.wrap ((k : Int) + 1) = (k : Int) + 1 := IntWalk.i64_in _ (by omega)
      have hRn : ¬ R = R + 1 := by omega
      cases hFk : F k with
      | false =>
        rw [hFk] at hx hfs hls
        rw [hL] at hls
        have hfs2 : firstP F (k + 1) = firstP F k := by rw [hfs]; cases firstP F k <;> rfl
        have hls2 : lastP F (k + 1) = L := by rw [hls]; rfl
        have HFS := Lib.hid hfs2
        have HLS := Lib.hid hls2
        have HX := Lib.hid hx
        clear hfs hls hfs2 hls2 hx hL q0 q1 l1 l2 hf0 hFk
        go_wp2_with fail
        refine (HX.out).mono ?_
        rintro e w2 ⟨rfl, rfl⟩
        go_wp2
        go_roundw
        case rel => exact ⟨k + 1, by omega, by go_num, by rw [HFS.out], by rw [HFS.out, HLS.out]; exact Q1.out, Q0.out, hbel⟩
        case measure => exact measure_to hkn
      | true =>
        rw [hFk] at hx hfs hls
        have hls2 : lastP F (k + 1) = k := by rw [hls]; rfl
        cases hfp : firstP F k with
        | none =>
          rw [hfp] at hfs q1 l1 Q1
          have hfs2 : firstP F (k + 1) = some k := by rw [hfs]; rfl
          have HFS := Lib.hid hfs2
          have HLS := Lib.hid hls2
          have HX := Lib.hid hx
          have s1 := heap_setCell_same wr (R + 1) 0 _ 32 (.int .i64 (k : Nat)) q1
          have s2 := heap_setCell_same _ (R + 1) 1 _ 32 (.int .i64 (k : Nat)) s1
          have s3 : ((wr.setCell ⟨R + 1, 0, none⟩ (.int .i64 (k : Nat))).setCell ⟨R + 1, 1, none⟩ (.int .i64 (k : Nat))).heap[R + 1]? = some (.cells #[.int .i64 (k : Nat), .int .i64 (k : Nat)] 32 (0, 0)) := s2.trans (by simp)
          have t1 := (heap_setCell_other wr ⟨R + 1, 0, none⟩ R (.int .i64 (k : Nat)) hRn).trans q0
          have t2 := (heap_setCell_other (wr.setCell ⟨R + 1, 0, none⟩ (.int .i64 (k : Nat))) ⟨R + 1, 1, none⟩ R (.int .i64 (k : Nat)) hRn).trans t1
          have S3 := Lib.hid s3
          have T2 := Lib.hid t2
          have hb2 := (hbel.setCell (p := ⟨R + 1, 0, none⟩) (by simp) (.int .i64 (k : Nat))).setCell (p := ⟨R + 1, 1, none⟩) (by simp) (.int .i64 (k : Nat))
          have HB2 := Lib.hid hb2
          clear hfs hls hfs2 hls2 hx hL q0 q1 hFk hfp s1 s2 s3 t1 t2 hb2
          simp only [Option.isNone_none]
          go_wp2_with fail
          refine (HX.out).mono ?_
          rintro e w2 ⟨rfl, rfl⟩
          go_wp2
          go_roundw
          case rel => exact ⟨k + 1, by omega, by go_num, by rw [HFS.out]; rfl, by rw [HFS.out, HLS.out]; exact S3.out, T2.out, HB2.out⟩
          case measure => exact measure_to hkn
        | some lo =>
          rw [hfp] at hfs q1 l1 Q1
          have hfs2 : firstP F (k + 1) = some lo := by rw [hfs]
          have HFS := Lib.hid hfs2
          have HLS := Lib.hid hls2
          have HX := Lib.hid hx
          have s1 := heap_setCell_same wr (R + 1) 1 _ 32 (.int .i64 (k : Nat)) q1
          have s3 : (wr.setCell ⟨R + 1, 1, none⟩ (.int .i64 (k : Nat))).heap[R + 1]? = some (.cells #[.int .i64 (lo : Nat), .int .i64 (k : Nat)] 32 (0, 0)) := s1.trans (by simp)
          have t1 := (heap_setCell_other wr ⟨R + 1, 1, none⟩ R (.int .i64 (k : Nat)) hRn).trans q0
          have S3 := Lib.hid s3
          have T2 := Lib.hid t1
          have hb2 := hbel.setCell (p := ⟨R + 1, 1, none⟩) (by simp) (.int .i64 (k : Nat))
          have HB2 := Lib.hid hb2
          clear hfs hls hfs2 hls2 hx hL q0 q1 hFk hfp s1 s3 t1 hb2
          simp only [Option.isNone_some]
          go_wp2_with fail
          refine (HX.out).mono ?_
          rintro e w2 ⟨rfl, rfl⟩
          go_wp2
          go_roundw
          case rel => exact ⟨k + 1, by omega, by go_num, by rw [HFS.out]; rfl, by rw [HFS.out, HLS.out]; exact S3.out, T2.out, HB2.out⟩
          case measure => exact measure_to hkn
    · obtain rfl : k = N + 1 := by omega
      have hgt : ¬ ((N + 1 : Nat) : Int) ≤ (N : Int) := by omega
      cases hfp : firstP F (N + 1) with
      | none =>
        have hr := HNO.out hfp
        subst hr
        have f0 : ∀ o, wr.frozen? ⟨R, o, none⟩ = false := fun o => frozen_of q0
        obtain ⟨l1, l2⟩ := two_cells q0
        simp only [Option.isNone_none]
        go_wp2_with fail
        have s1 := heap_setCell_same wr R 0 _ 32 (.int .i64 0) q0
        have s2 := heap_setCell_same _ R 1 _ 32 (.int .i64 0) s1
        have s3 : ((wr.setCell ⟨R, 0, none⟩ (.int .i64 0)).setCell ⟨R, 1, none⟩ (.int .i64 0)).heap[R]? = some (.cells #[.int .i64 0, .int .i64 0] 32 (0, 0)) := s2.trans (by simp)
        have hb9 := (hbel.setCell (p := ⟨R, 0, none⟩) (Nat.le_refl _) (.int .i64 0)).setCell (p := ⟨R, 1, none⟩) (Nat.le_refl _) (.int .i64 0)
        obtain ⟨X9, hX9⟩ : ∃ X, X = (wr.setCell ⟨R, 0, none⟩ (.int .i64 0)).setCell ⟨R, 1, none⟩ (.int .i64 0) := ⟨_, rfl⟩
        rw [← hX9] at s3 hb9 ⊢
        obtain ⟨t0, t1⟩ := two_cells s3
        refine bodyPost_ret (v := .tuple #[.agg #[.int .i64 0, .int .i64 0], .int .i64 4]) (by simp [results, Try.results14, go_sem, t0, t1]) rfl ⟨rfl, by rw [← HR.out]; exact hb9⟩
      | some lo =>
        have hr := HSO.out lo hfp
        subst hr
        rw [hfp] at q1
        obtain ⟨L, hL⟩ : ∃ L, lastP F (N + 1) = L := ⟨_, rfl⟩
        rw [hL] at q1
        have HL := Lib.hid hL
        have q1 : wr.heap[R + 1]? = some (.cells #[.int .i64 (lo : Nat), .int .i64 (L : Nat)] 32 (0, 0)) := q1
        have f0 : ∀ o, wr.frozen? ⟨R, o, none⟩ = false := fun o => frozen_of q0
        obtain ⟨l1, l2⟩ := two_cells q0
        obtain ⟨l3, l4⟩ := two_cells q1
        clear hfp hL HSO HNO
        simp only [Option.isNone_some]
        go_wp2_with fail
        have s1 := heap_setCell_same wr R 0 _ 32 (.int .i64 (lo : Nat)) q0
        have s2 := heap_setCell_same _ R 1 _ 32 (.int .i64 (L : Nat)) s1
        have s3 : ((wr.setCell ⟨R, 0, none⟩ (.int .i64 (lo : Nat))).setCell ⟨R, 1, none⟩ (.int .i64 (L : Nat))).heap[R]? = some (.cells #[.int .i64 (lo : Nat), .int .i64 (L : Nat)] 32 (0, 0)) := s2.trans (by simp)
        have hb9 := (hbel.setCell (p := ⟨R, 0, none⟩) (Nat.le_refl _) (.int .i64 (lo : Nat))).setCell (p := ⟨R, 1, none⟩) (Nat.le_refl _) (.int .i64 (L : Nat))
        obtain ⟨X9, hX9⟩ : ∃ X, X = (wr.setCell ⟨R, 0, none⟩ (.int .i64 (lo : Nat))).setCell ⟨R, 1, none⟩ (.int .i64 (L : Nat)) := ⟨_, rfl⟩
        rw [← hX9] at s3 hb9 ⊢
        obtain ⟨t0, t1⟩ := two_cells s3
        refine bodyPost_ret (v := .tuple #[.agg #[.int .i64 (lo : Nat), .int .i64 (L : Nat)], .int .i64 0]) (by simp [results, Try.results14, go_sem, t0, t1]) rfl ⟨by rw [HL.out]; rfl, by rw [← HR.out]; exact hb9⟩
set_option maxRecDepth 100000 in
set_option maxHeartbeats 3200000 in
theorem refWithin_e1 (n c f d : Int) (w : World) (h1 : inB n 1 50 = false) : Calls Try.prog 14 #[.int .i64 n, .int .i64 c, .int .i64 f, .int .i64 d] w fun e w' => e = .returned (spanErr (0, 0, 1)) ∧ Below w.heap.size w w' := by
  have i1 := fun W => in_any n 1 50 W
  rw [h1] at i1
  have I1 := Lib.hid i1
  clear i1 h1
  have k0 := alloc_heap w (.cells #[.int .i64 0, .int .i64 0] 32)
  have f0 : ∀ o, (w.alloc (.cells #[.int .i64 0, .int .i64 0] 32)).frozen? ⟨w.heap.size, o, none⟩ = false := fun o => frozen_of k0
  obtain ⟨l1, l2⟩ := two_cells k0
  clear k0
  go_enter Try.func14, Try.ntmps14
  go_wp2_with fail
  refine (I1.out _).mono ?_
  rintro e w1 ⟨rfl, rfl⟩
  go_wp2_with fail
  exact bodyPost_ret (v := .tuple #[.agg #[.int .i64 0, .int .i64 0], .int .i64 1]) (by simp [results, Try.results14, go_sem, l1, l2]) rfl ⟨rfl, (Below.refl _ _).alloc (Nat.le_refl _) _⟩
set_option maxRecDepth 100000 in
set_option maxHeartbeats 3200000 in
theorem refWithin_e2 (n c f d : Int) (w : World) (h1 : inB n 1 50 = true) (h2 : inB c 0 n = false) : Calls Try.prog 14 #[.int .i64 n, .int .i64 c, .int .i64 f, .int .i64 d] w fun e w' => e = .returned (spanErr (0, 0, 1)) ∧ Below w.heap.size w w' := by
  have i1 := fun W => in_any n 1 50 W
  rw [h1] at i1
  have I1 := Lib.hid i1
  clear i1 h1
  have i2 := fun W => in_any c 0 n W
  rw [h2] at i2
  have I2 := Lib.hid i2
  clear i2 h2
  have k0 := alloc_heap w (.cells #[.int .i64 0, .int .i64 0] 32)
  have f0 : ∀ o, (w.alloc (.cells #[.int .i64 0, .int .i64 0] 32)).frozen? ⟨w.heap.size, o, none⟩ = false := fun o => frozen_of k0
  obtain ⟨l1, l2⟩ := two_cells k0
  clear k0
  go_enter Try.func14, Try.ntmps14
  go_wp2_with fail
  refine (I1.out _).mono ?_
  rintro e w1 ⟨rfl, rfl⟩
  go_wp2_with fail
  refine (I2.out _).mono ?_
  rintro e w1 ⟨rfl, rfl⟩
  go_wp2_with fail
  exact bodyPost_ret (v := .tuple #[.agg #[.int .i64 0, .int .i64 0], .int .i64 1]) (by simp [results, Try.results14, go_sem, l1, l2]) rfl ⟨rfl, (Below.refl _ _).alloc (Nat.le_refl _) _⟩
set_option maxRecDepth 100000 in
set_option maxHeartbeats 3200000 in
theorem refWithin_e3 (n c f d : Int) (w : World) (h1 : inB n 1 50 = true) (h2 : inB c 0 n = true) (h3 : inB f 0 c = false) : Calls Try.prog 14 #[.int .i64 n, .int .i64 c, .int .i64 f, .int .i64 d] w fun e w' => e = .returned (spanErr (0, 0, 1)) ∧ Below w.heap.size w w' := by
  have i1 := fun W => in_any n 1 50 W
  rw [h1] at i1
  have I1 := Lib.hid i1
  clear i1 h1
  have i2 := fun W => in_any c 0 n W
  rw [h2] at i2
  have I2 := Lib.hid i2
  clear i2 h2
  have i3 := fun W => in_any f 0 c W
  rw [h3] at i3
  have I3 := Lib.hid i3
  clear i3 h3
  have k0 := alloc_heap w (.cells #[.int .i64 0, .int .i64 0] 32)
  have f0 : ∀ o, (w.alloc (.cells #[.int .i64 0, .int .i64 0] 32)).frozen? ⟨w.heap.size, o, none⟩ = false := fun o => frozen_of k0
  obtain ⟨l1, l2⟩ := two_cells k0
  clear k0
  go_enter Try.func14, Try.ntmps14
  go_wp2_with fail
  refine (I1.out _).mono ?_
  rintro e w1 ⟨rfl, rfl⟩
  go_wp2_with fail
  refine (I2.out _).mono ?_
  rintro e w1 ⟨rfl, rfl⟩
  go_wp2_with fail
  refine (I3.out _).mono ?_
  rintro e w1 ⟨rfl, rfl⟩
  go_wp2_with fail
  exact bodyPost_ret (v := .tuple #[.agg #[.int .i64 0, .int .i64 0], .int .i64 1]) (by simp [results, Try.results14, go_sem, l1, l2]) rfl ⟨rfl, (Below.refl _ _).alloc (Nat.le_refl _) _⟩
set_option maxRecDepth 100000 in
set_option maxHeartbeats 3200000 in
theorem refWithin_e4 (n c f d : Int) (w : World) (h1 : inB n 1 50 = true) (h2 : inB c 0 n = true) (h3 : inB f 0 c = true) (h4 : inB d 0 1000 = false) : Calls Try.prog 14 #[.int .i64 n, .int .i64 c, .int .i64 f, .int .i64 d] w fun e w' => e = .returned (spanErr (0, 0, 2)) ∧ Below w.heap.size w w' := by
  have i1 := fun W => in_any n 1 50 W
  rw [h1] at i1
  have I1 := Lib.hid i1
  clear i1 h1
  have i2 := fun W => in_any c 0 n W
  rw [h2] at i2
  have I2 := Lib.hid i2
  clear i2 h2
  have i3 := fun W => in_any f 0 c W
  rw [h3] at i3
  have I3 := Lib.hid i3
  clear i3 h3
  have i4 := fun W => in_any d 0 1000 W
  rw [h4] at i4
  have I4 := Lib.hid i4
  clear i4 h4
  have k0 := alloc_heap w (.cells #[.int .i64 0, .int .i64 0] 32)
  have f0 : ∀ o, (w.alloc (.cells #[.int .i64 0, .int .i64 0] 32)).frozen? ⟨w.heap.size, o, none⟩ = false := fun o => frozen_of k0
  obtain ⟨l1, l2⟩ := two_cells k0
  clear k0
  go_enter Try.func14, Try.ntmps14
  go_wp2_with fail
  refine (I1.out _).mono ?_
  rintro e w1 ⟨rfl, rfl⟩
  go_wp2_with fail
  refine (I2.out _).mono ?_
  rintro e w1 ⟨rfl, rfl⟩
  go_wp2_with fail
  refine (I3.out _).mono ?_
  rintro e w1 ⟨rfl, rfl⟩
  go_wp2_with fail
  refine (I4.out _).mono ?_
  rintro e w1 ⟨rfl, rfl⟩
  go_wp2_with fail
  exact bodyPost_ret (v := .tuple #[.agg #[.int .i64 0, .int .i64 0], .int .i64 2]) (by simp [results, Try.results14, go_sem, l1, l2]) rfl ⟨rfl, (Below.refl _ _).alloc (Nat.le_refl _) _⟩
theorem refWithin_any (n c f d : Int) (w : World) : Calls Try.prog 14 #[.int .i64 n, .int .i64 c, .int .i64 f, .int .i64 d] w fun e w' => e = .returned (spanErr (withinP n c f d)) ∧ Below w.heap.size w w' := by
  unfold withinP
  cases h1 : inB n 1 50 with
  | false => exact refWithin_e1 n c f d w h1
  | true =>
    cases h2 : inB c 0 n with
    | false => exact refWithin_e2 n c f d w h1 h2
    | true =>
      cases h3 : inB f 0 c with
      | false => exact refWithin_e3 n c f d w h1 h2 h3
      | true =>
        cases h4 : inB d 0 1000 with
        | false => exact refWithin_e4 n c f d w h1 h2 h3 h4
        | true =>
          have v1 := inB_iff.1 h1
          have v2 := inB_iff.1 h2
          have v3 := inB_iff.1 h3
          have v4 := inB_iff.1 h4
          obtain ⟨N, rfl⟩ : ∃ N : Nat, n = N := ⟨n.toNat, by omega⟩
          obtain ⟨C, rfl⟩ : ∃ C : Nat, c = C := ⟨c.toNat, by omega⟩
          exact refWithin_ok N C f d w (by omega) (by omega) (by omega) v3 v4
end Go.Proofs.Ytclcconllkfjiaa
