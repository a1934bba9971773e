/- Contract: with (the drum moves). -/
import Derived.Test.YtmcndecmnfbggaaD15
namespace Go.Proofs.Ytmcndecmnfbggaa
set_option linter.unusedSimpArgs false
set_option linter.unusedVariables false
open Go.RowKit

set_option maxRecDepth 100000 in
set_option maxHeartbeats 3200000 in
theorem with_true (dr sz dg lo hi d f wi : Int) (w : World) (Bw b off n c : Nat) (hB : w.cell? ⟨Bw, 0, none⟩ = some (.int .i64 wi)) (hw : 0 ≤ wi ∧ wi ≤ 999) (hf9 : 0 ≤ f ∧ f ≤ 9)
    (hf : w.cell? ⟨b, off + dr.toNat, none⟩ = some (.int .i64 f)) (hd : 0 ≤ d ∧ d ≤ 9) (hn : 0 ≤ dr ∧ dr < n) (hdr : dr ≤ 1000) (hlo : 0 ≤ lo ∧ lo ≤ 999) (hhi : 0 ≤ hi ∧ hi ≤ 999) (hsz : 0 ≤ sz ∧ sz ≤ 100000000000) (hdg : 0 ≤ dg ∧ dg ≤ 100000000000) :
    Calls Try.prog 66 #[readV (.slice (some ⟨b, off, none⟩) n c) Bw, (St.val ⟨dr, sz, dg, lo, hi, true⟩), .int .i64 d] w fun e w' => e = .returned (withV (withS wi ⟨dr, sz, dg, lo, hi, true⟩ d f)) ∧ Below w.heap.size w w' := by
  unfold St.val readV
  simp only []
  have hbl := World.block_lt_of_cell? _ _ hf
  have hBl := World.block_lt_of_cell? _ _ hB
  have hm : IntKind.i64.wrap (d * 1000) = d * 1000 := IntWalk.i64_in _ (by omega)
  obtain ⟨Z, hZ⟩ : ∃ Z, withS wi ⟨dr, sz, dg, lo, hi, true⟩ d f = Z := ⟨_, rfl⟩
  rw [hZ]
  have hs2 : Z = (nearP wi (lo + d * 1000) (hi + d * 1000) f).map (fun p => ⟨dr + 1, sz * 10, dg + d * sz, p.1 + -d * 1000, p.2 + -d * 1000, decide (d = 9)⟩) := by
    rw [← hZ]; unfold withS
    simp only [if_true, Bool.false_eq_true, if_false, Bool.true_and, Bool.false_and, Int.zero_add]
    cases nearP wi (lo + d * 1000) (hi + d * 1000) f <;> rfl
  obtain ⟨K, hK⟩ : ∃ K, nearP wi (lo + d * 1000) (hi + d * 1000) f = K := ⟨_, rfl⟩
  rw [hK] at hs2
  have HZ := Lib.hid hs2
  have hns := near_spec wi (lo + d * 1000) (hi + d * 1000) f hw (by omega)
  rw [hK] at hns
  have hns := Lib.hid hns
  clear hZ hs2
  go_enter Try.func66, Try.ntmps66
  go_upto_region 4 with fail
  obtain ⟨W4, hW4⟩ : ∃ X, X = (((w.alloc (.cells #[.slice (some ⟨b, off, none⟩) n c, .func (.func 56) #[] #[.pointer (some ⟨Bw, 0, none⟩)]] 71)).alloc (.cells #[.int .i64 dr, .int .i64 sz, .int .i64 dg, .int .i64 lo, .int .i64 hi, .bool true] 88)).alloc (.cells #[.int .i64 0, .int .i64 0, .int .i64 0, .int .i64 0, .int .i64 0, .bool false] 88)).alloc (.cells #[.int .i64 lo, .int .i64 hi] 45) := ⟨_, rfl⟩
  have hbw : Below w.heap.size w W4 := by rw [hW4]; repeat (first | exact Below.refl _ _ | refine Below.alloc ?_ (by simp; try omega) _)
  have gR : W4.heap[w.heap.size]? = some (.cells #[.slice (some ⟨b, off, none⟩) n c, .func (.func 56) #[] #[.pointer (some ⟨Bw, 0, none⟩)]] 71 (0, 0)) := by
    rw [hW4, Below.heap_alloc _ _ _ (by simp; omega), Below.heap_alloc _ _ _ (by simp; omega), Below.heap_alloc _ _ _ (by simp)]; exact (MapKept.heap_alloc w _).1
  have gQ : W4.heap[w.heap.size + 1]? = some (.cells #[.int .i64 dr, .int .i64 sz, .int .i64 dg, .int .i64 lo, .int .i64 hi, .bool true] 88 (0, 0)) := by
    rw [hW4, Below.heap_alloc _ _ _ (by simp), Below.heap_alloc _ _ _ (by simp)]
    have := (MapKept.heap_alloc (w.alloc (.cells #[.slice (some ⟨b, off, none⟩) n c, .func (.func 56) #[] #[.pointer (some ⟨Bw, 0, none⟩)]] 71)) (.cells #[.int .i64 dr, .int .i64 sz, .int .i64 dg, .int .i64 lo, .int .i64 hi, .bool true] 88)).1
    simpa using this
  have gO : W4.heap[w.heap.size + 1 + 1]? = some (.cells #[.int .i64 0, .int .i64 0, .int .i64 0, .int .i64 0, .int .i64 0, .bool false] 88 (0, 0)) := by
    rw [hW4, Below.heap_alloc _ _ _ (by simp)]
    have := (MapKept.heap_alloc ((w.alloc (.cells #[.slice (some ⟨b, off, none⟩) n c, .func (.func 56) #[] #[.pointer (some ⟨Bw, 0, none⟩)]] 71)).alloc (.cells #[.int .i64 dr, .int .i64 sz, .int .i64 dg, .int .i64 lo, .int .i64 hi, .bool true] 88)) (.cells #[.int .i64 0, .int .i64 0, .int .i64 0, .int .i64 0, .int .i64 0, .bool false] 88)).1
    simpa using this
  have gY : W4.heap[w.heap.size + 1 + 1 + 1]? = some (.cells #[.int .i64 lo, .int .i64 hi] 45 (0, 0)) := by
    rw [hW4]
    have := (MapKept.heap_alloc (((w.alloc (.cells #[.slice (some ⟨b, off, none⟩) n c, .func (.func 56) #[] #[.pointer (some ⟨Bw, 0, none⟩)]] 71)).alloc (.cells #[.int .i64 dr, .int .i64 sz, .int .i64 dg, .int .i64 lo, .int .i64 hi, .bool true] 88)).alloc (.cells #[.int .i64 0, .int .i64 0, .int .i64 0, .int .i64 0, .int .i64 0, .bool false] 88)) (.cells #[.int .i64 lo, .int .i64 hi] 45)).1
    simpa using this
  have gf := (hbw.cell (p := ⟨b, off + dr.toNat, none⟩) hbl).trans hf
  have gB := (hbw.cell (p := ⟨Bw, 0, none⟩) hBl).trans hB
  obtain ⟨R, hR⟩ : ∃ x, w.heap.size = x := ⟨_, rfl⟩
  rw [← hW4]
  rw [hR] at gR gQ gO gY ⊢
  obtain ⟨Q, hQ⟩ : ∃ x, R + 1 = x := ⟨_, rfl⟩
  obtain ⟨O, hO⟩ : ∃ x, R + 1 + 1 = x := ⟨_, rfl⟩
  obtain ⟨Y, hY⟩ : ∃ x, R + 1 + 1 + 1 = x := ⟨_, rfl⟩
  rw [hY] at gY
  rw [hO] at gO
  rw [hQ] at gQ
  rw [hY, hO, hQ]
  have HRe := Lib.hid hR
  have HQ := Lib.hid hQ
  have HO := Lib.hid hO
  have HY := Lib.hid hY
  clear hW4 hR hQ hO hY hf hB
  go_cut [7, 9] (fun v7 v9 wx => ∃ P : Nat, v7 = .bool (K.isSome) ∧ v9 = .pointer (some ⟨P, 0, none⟩) ∧ P ≠ Q ∧ P ≠ O ∧ w.heap.size ≤ P ∧ wx.heap[P]? = some (.cells #[.int .i64 (K.getD (0, 0)).1, .int .i64 (K.getD (0, 0)).2] 45 (0, 0)) ∧ wx.heap[Q]? = some (.cells #[.int .i64 dr, .int .i64 sz, .int .i64 dg, .int .i64 lo, .int .i64 hi, .bool true] 88 (0, 0)) ∧ wx.heap[O]? = some (.cells #[.int .i64 0, .int .i64 0, .int .i64 0, .int .i64 0, .int .i64 0, .bool false] 88 (0, 0)) ∧ Below w.heap.size w wx)
  case first =>
    refine wp_region_held_drew (S := fun w' => w'.heap[R]? = some (.cells #[.slice (some ⟨b, off, none⟩) n c, .func (.func 56) #[] #[.pointer (some ⟨Bw, 0, none⟩)]] 71) ∧ w'.heap[Q]? = some (.cells #[.int .i64 dr, .int .i64 sz, .int .i64 dg, .int .i64 lo, .int .i64 hi, .bool true] 88) ∧ w'.heap[Y]? = some (.cells #[.int .i64 lo, .int .i64 hi] 45) ∧ w'.cell? ⟨b, off + dr.toNat, none⟩ = some (.int .i64 f) ∧ w'.cell? ⟨Bw, 0, none⟩ = some (.int .i64 wi) ∧ w'.heap[O]? = some (.cells #[.int .i64 0, .int .i64 0, .int .i64 0, .int .i64 0, .int .i64 0, .bool false] 88)) (by kernel_rfl) ⟨gR, gQ, gY, gf, gB, gO⟩ (fun hHeld => ?_)
    obtain ⟨X0, hX0⟩ : ∃ X0, X0 = W4.drew := ⟨_, rfl⟩
    have hbX : Below w.heap.size w X0 := by rw [hX0]; exact below_drewN' hbw 1
    have hS := Lib.hid hHeld
    rw [← hX0] at hS ⊢
    clear hX0 hHeld gR gQ gO gY gf gB hbw
    refine wpAnyH_take (i := 0) (oi := _) (v := ?_) rfl (by kernel_rfl) (by kernel_rfl) (by kernel_rfl) (fun _ _ _ h => h) (Or.inl ⟨by rfl, ?_⟩) hS.out ?_
    rotate_left
    · intro w1 hSw
      replace hSw : w1.heap[R]? = some (.cells #[.slice (some ⟨b, off, none⟩) n c, .func (.func 56) #[] #[.pointer (some ⟨Bw, 0, none⟩)]] 71) ∧ w1.heap[Q]? = some (.cells #[.int .i64 dr, .int .i64 sz, .int .i64 dg, .int .i64 lo, .int .i64 hi, .bool true] 88) ∧ w1.heap[Y]? = some (.cells #[.int .i64 lo, .int .i64 hi] 45) ∧ w1.cell? ⟨b, off + dr.toNat, none⟩ = some (.int .i64 f) ∧ w1.cell? ⟨Bw, 0, none⟩ = some (.int .i64 wi) ∧ w1.heap[O]? = some (.cells #[.int .i64 0, .int .i64 0, .int .i64 0, .int .i64 0, .int .i64 0, .bool false] 88) := hSw
      obtain ⟨s1, s2, s3, s4, s5, s6⟩ := hSw
      obtain ⟨r0, r1⟩ := two_cells s1
      obtain ⟨q0, q1, q2, q3, q4, q5⟩ := six_cells s2
      obtain ⟨p0, p1⟩ := two_cells s3
      clear s1 s2 s3
      go_simp; with_reducible rfl
    simp only [List.getElem_toArray, List.getElem_cons_succ, List.getElem_cons_zero, Act.put, List.setIfInBounds_toArray, List.set_cons_zero, List.set_cons_succ]
    refine wpAnyH_take (i := 1) (oi := _) (v := ?_) rfl (by kernel_rfl) (by kernel_rfl) (by kernel_rfl) (fun _ _ _ h => h) (Or.inl ⟨by rfl, ?_⟩) hS.out ?_
    rotate_left
    · intro w1 hSw
      replace hSw : w1.heap[R]? = some (.cells #[.slice (some ⟨b, off, none⟩) n c, .func (.func 56) #[] #[.pointer (some ⟨Bw, 0, none⟩)]] 71) ∧ w1.heap[Q]? = some (.cells #[.int .i64 dr, .int .i64 sz, .int .i64 dg, .int .i64 lo, .int .i64 hi, .bool true] 88) ∧ w1.heap[Y]? = some (.cells #[.int .i64 lo, .int .i64 hi] 45) ∧ w1.cell? ⟨b, off + dr.toNat, none⟩ = some (.int .i64 f) ∧ w1.cell? ⟨Bw, 0, none⟩ = some (.int .i64 wi) ∧ w1.heap[O]? = some (.cells #[.int .i64 0, .int .i64 0, .int .i64 0, .int .i64 0, .int .i64 0, .bool false] 88) := hSw
      obtain ⟨s1, s2, s3, s4, s5, s6⟩ := hSw
      obtain ⟨r0, r1⟩ := two_cells s1
      obtain ⟨q0, q1, q2, q3, q4, q5⟩ := six_cells s2
      obtain ⟨p0, p1⟩ := two_cells s3
      clear s1 s2 s3
      go_simp; with_reducible rfl
    simp only [List.getElem_toArray, List.getElem_cons_succ, List.getElem_cons_zero, Act.put, List.setIfInBounds_toArray, List.set_cons_zero, List.set_cons_succ]
    refine wpAnyH_take (i := 2) (oi := _) (v := ?_) rfl (by kernel_rfl) (by kernel_rfl) (by kernel_rfl) (fun _ _ _ h => h) (Or.inl ⟨by rfl, ?_⟩) hS.out ?_
    rotate_left
    · intro w1 hSw
      replace hSw : w1.heap[R]? = some (.cells #[.slice (some ⟨b, off, none⟩) n c, .func (.func 56) #[] #[.pointer (some ⟨Bw, 0, none⟩)]] 71) ∧ w1.heap[Q]? = some (.cells #[.int .i64 dr, .int .i64 sz, .int .i64 dg, .int .i64 lo, .int .i64 hi, .bool true] 88) ∧ w1.heap[Y]? = some (.cells #[.int .i64 lo, .int .i64 hi] 45) ∧ w1.cell? ⟨b, off + dr.toNat, none⟩ = some (.int .i64 f) ∧ w1.cell? ⟨Bw, 0, none⟩ = some (.int .i64 wi) ∧ w1.heap[O]? = some (.cells #[.int .i64 0, .int .i64 0, .int .i64 0, .int .i64 0, .int .i64 0, .bool false] 88) := hSw
      obtain ⟨s1, s2, s3, s4, s5, s6⟩ := hSw
      obtain ⟨r0, r1⟩ := two_cells s1
      obtain ⟨q0, q1, q2, q3, q4, q5⟩ := six_cells s2
      obtain ⟨p0, p1⟩ := two_cells s3
      clear s1 s2 s3
      go_simp; with_reducible rfl
    simp only [List.getElem_toArray, List.getElem_cons_succ, List.getElem_cons_zero, Act.put, List.setIfInBounds_toArray, List.set_cons_zero, List.set_cons_succ]
    refine wpAnyH_take (i := 3) (oi := _) (v := ?_) rfl (by kernel_rfl) (by kernel_rfl) (by kernel_rfl) (fun _ _ _ h => h) (Or.inl ⟨by rfl, ?_⟩) hS.out ?_
    rotate_left
    · intro w1 hSw
      replace hSw : w1.heap[R]? = some (.cells #[.slice (some ⟨b, off, none⟩) n c, .func (.func 56) #[] #[.pointer (some ⟨Bw, 0, none⟩)]] 71) ∧ w1.heap[Q]? = some (.cells #[.int .i64 dr, .int .i64 sz, .int .i64 dg, .int .i64 lo, .int .i64 hi, .bool true] 88) ∧ w1.heap[Y]? = some (.cells #[.int .i64 lo, .int .i64 hi] 45) ∧ w1.cell? ⟨b, off + dr.toNat, none⟩ = some (.int .i64 f) ∧ w1.cell? ⟨Bw, 0, none⟩ = some (.int .i64 wi) ∧ w1.heap[O]? = some (.cells #[.int .i64 0, .int .i64 0, .int .i64 0, .int .i64 0, .int .i64 0, .bool false] 88) := hSw
      obtain ⟨s1, s2, s3, s4, s5, s6⟩ := hSw
      obtain ⟨r0, r1⟩ := two_cells s1
      obtain ⟨q0, q1, q2, q3, q4, q5⟩ := six_cells s2
      obtain ⟨p0, p1⟩ := two_cells s3
      clear s1 s2 s3
      go_simp; with_reducible rfl
    simp only [List.getElem_toArray, List.getElem_cons_succ, List.getElem_cons_zero, Act.put, List.setIfInBounds_toArray, List.set_cons_zero, List.set_cons_succ]
    refine wpAnyH_take (i := 4) (oi := _) (v := ?_) rfl (by kernel_rfl) (by kernel_rfl) (by kernel_rfl) (fun _ _ _ h => h) (Or.inl ⟨by rfl, ?_⟩) hS.out ?_
    rotate_left
    · intro w1 hSw
      replace hSw : w1.heap[R]? = some (.cells #[.slice (some ⟨b, off, none⟩) n c, .func (.func 56) #[] #[.pointer (some ⟨Bw, 0, none⟩)]] 71) ∧ w1.heap[Q]? = some (.cells #[.int .i64 dr, .int .i64 sz, .int .i64 dg, .int .i64 lo, .int .i64 hi, .bool true] 88) ∧ w1.heap[Y]? = some (.cells #[.int .i64 lo, .int .i64 hi] 45) ∧ w1.cell? ⟨b, off + dr.toNat, none⟩ = some (.int .i64 f) ∧ w1.cell? ⟨Bw, 0, none⟩ = some (.int .i64 wi) ∧ w1.heap[O]? = some (.cells #[.int .i64 0, .int .i64 0, .int .i64 0, .int .i64 0, .int .i64 0, .bool false] 88) := hSw
      obtain ⟨s1, s2, s3, s4, s5, s6⟩ := hSw
      obtain ⟨r0, r1⟩ := two_cells s1
      obtain ⟨q0, q1, q2, q3, q4, q5⟩ := six_cells s2
      obtain ⟨p0, p1⟩ := two_cells s3
      clear s1 s2 s3
      go_simp; with_reducible rfl
    simp only [List.getElem_toArray, List.getElem_cons_succ, List.getElem_cons_zero, Act.put, List.setIfInBounds_toArray, List.set_cons_zero, List.set_cons_succ]
    refine wpAnyH_take (i := 6) (oi := _) (v := ?_) rfl (by kernel_rfl) (by kernel_rfl) (by kernel_rfl) (fun _ _ _ h => h) (Or.inl ⟨by rfl, ?_⟩) hS.out ?_
    rotate_left
    · intro w1 hSw
      replace hSw : w1.heap[R]? = some (.cells #[.slice (some ⟨b, off, none⟩) n c, .func (.func 56) #[] #[.pointer (some ⟨Bw, 0, none⟩)]] 71) ∧ w1.heap[Q]? = some (.cells #[.int .i64 dr, .int .i64 sz, .int .i64 dg, .int .i64 lo, .int .i64 hi, .bool true] 88) ∧ w1.heap[Y]? = some (.cells #[.int .i64 lo, .int .i64 hi] 45) ∧ w1.cell? ⟨b, off + dr.toNat, none⟩ = some (.int .i64 f) ∧ w1.cell? ⟨Bw, 0, none⟩ = some (.int .i64 wi) ∧ w1.heap[O]? = some (.cells #[.int .i64 0, .int .i64 0, .int .i64 0, .int .i64 0, .int .i64 0, .bool false] 88) := hSw
      obtain ⟨s1, s2, s3, s4, s5, s6⟩ := hSw
      obtain ⟨r0, r1⟩ := two_cells s1
      obtain ⟨q0, q1, q2, q3, q4, q5⟩ := six_cells s2
      obtain ⟨p0, p1⟩ := two_cells s3
      clear s1 s2 s3
      go_simp; with_reducible rfl
    simp only [List.getElem_toArray, List.getElem_cons_succ, List.getElem_cons_zero, Act.put, List.setIfInBounds_toArray, List.set_cons_zero, List.set_cons_succ]
    refine wpAnyH_take (i := 7) (oi := _) (v := ?_) rfl (by kernel_rfl) (by kernel_rfl) (by kernel_rfl) (fun _ _ _ h => h) (Or.inl ⟨by rfl, ?_⟩) hS.out ?_
    rotate_left
    · intro w1 hSw
      replace hSw : w1.heap[R]? = some (.cells #[.slice (some ⟨b, off, none⟩) n c, .func (.func 56) #[] #[.pointer (some ⟨Bw, 0, none⟩)]] 71) ∧ w1.heap[Q]? = some (.cells #[.int .i64 dr, .int .i64 sz, .int .i64 dg, .int .i64 lo, .int .i64 hi, .bool true] 88) ∧ w1.heap[Y]? = some (.cells #[.int .i64 lo, .int .i64 hi] 45) ∧ w1.cell? ⟨b, off + dr.toNat, none⟩ = some (.int .i64 f) ∧ w1.cell? ⟨Bw, 0, none⟩ = some (.int .i64 wi) ∧ w1.heap[O]? = some (.cells #[.int .i64 0, .int .i64 0, .int .i64 0, .int .i64 0, .int .i64 0, .bool false] 88) := hSw
      obtain ⟨s1, s2, s3, s4, s5, s6⟩ := hSw
      obtain ⟨r0, r1⟩ := two_cells s1
      obtain ⟨q0, q1, q2, q3, q4, q5⟩ := six_cells s2
      obtain ⟨p0, p1⟩ := two_cells s3
      clear s1 s2 s3
      go_simp; with_reducible rfl
    simp only [List.getElem_toArray, List.getElem_cons_succ, List.getElem_cons_zero, Act.put, List.setIfInBounds_toArray, List.set_cons_zero, List.set_cons_succ]
    refine wpAnyH_take (i := 8) (oi := _) (v := ?_) rfl (by kernel_rfl) (by kernel_rfl) (by kernel_rfl) (fun _ _ _ h => h) (Or.inl ⟨by rfl, ?_⟩) hS.out ?_
    rotate_left
    · intro w1 hSw
      replace hSw : w1.heap[R]? = some (.cells #[.slice (some ⟨b, off, none⟩) n c, .func (.func 56) #[] #[.pointer (some ⟨Bw, 0, none⟩)]] 71) ∧ w1.heap[Q]? = some (.cells #[.int .i64 dr, .int .i64 sz, .int .i64 dg, .int .i64 lo, .int .i64 hi, .bool true] 88) ∧ w1.heap[Y]? = some (.cells #[.int .i64 lo, .int .i64 hi] 45) ∧ w1.cell? ⟨b, off + dr.toNat, none⟩ = some (.int .i64 f) ∧ w1.cell? ⟨Bw, 0, none⟩ = some (.int .i64 wi) ∧ w1.heap[O]? = some (.cells #[.int .i64 0, .int .i64 0, .int .i64 0, .int .i64 0, .int .i64 0, .bool false] 88) := hSw
      obtain ⟨s1, s2, s3, s4, s5, s6⟩ := hSw
      obtain ⟨r0, r1⟩ := two_cells s1
      obtain ⟨q0, q1, q2, q3, q4, q5⟩ := six_cells s2
      obtain ⟨p0, p1⟩ := two_cells s3
      clear s1 s2 s3
      go_simp; with_reducible rfl
    simp only [List.getElem_toArray, List.getElem_cons_succ, List.getElem_cons_zero, Act.put, List.setIfInBounds_toArray, List.set_cons_zero, List.set_cons_succ]
    refine wpAnyH_take (i := 9) (oi := _) (v := ?_) rfl (by kernel_rfl) (by kernel_rfl) (by kernel_rfl) (fun _ _ _ h => h) (Or.inl ⟨by rfl, ?_⟩) hS.out ?_
    rotate_left
    · intro w1 hSw
      replace hSw : w1.heap[R]? = some (.cells #[.slice (some ⟨b, off, none⟩) n c, .func (.func 56) #[] #[.pointer (some ⟨Bw, 0, none⟩)]] 71) ∧ w1.heap[Q]? = some (.cells #[.int .i64 dr, .int .i64 sz, .int .i64 dg, .int .i64 lo, .int .i64 hi, .bool true] 88) ∧ w1.heap[Y]? = some (.cells #[.int .i64 lo, .int .i64 hi] 45) ∧ w1.cell? ⟨b, off + dr.toNat, none⟩ = some (.int .i64 f) ∧ w1.cell? ⟨Bw, 0, none⟩ = some (.int .i64 wi) ∧ w1.heap[O]? = some (.cells #[.int .i64 0, .int .i64 0, .int .i64 0, .int .i64 0, .int .i64 0, .bool false] 88) := hSw
      obtain ⟨s1, s2, s3, s4, s5, s6⟩ := hSw
      obtain ⟨r0, r1⟩ := two_cells s1
      obtain ⟨q0, q1, q2, q3, q4, q5⟩ := six_cells s2
      obtain ⟨p0, p1⟩ := two_cells s3
      clear s1 s2 s3
      go_simp; with_reducible rfl
    simp only [List.getElem_toArray, List.getElem_cons_succ, List.getElem_cons_zero, Act.put, List.setIfInBounds_toArray, List.set_cons_zero, List.set_cons_succ]
    refine wpAnyH_take (i := 10) (oi := _) (v := ?_) rfl (by kernel_rfl) (by kernel_rfl) (by kernel_rfl) (fun _ _ _ h => h) (Or.inl ⟨by rfl, ?_⟩) hS.out ?_
    rotate_left
    · intro w1 hSw
      replace hSw : w1.heap[R]? = some (.cells #[.slice (some ⟨b, off, none⟩) n c, .func (.func 56) #[] #[.pointer (some ⟨Bw, 0, none⟩)]] 71) ∧ w1.heap[Q]? = some (.cells #[.int .i64 dr, .int .i64 sz, .int .i64 dg, .int .i64 lo, .int .i64 hi, .bool true] 88) ∧ w1.heap[Y]? = some (.cells #[.int .i64 lo, .int .i64 hi] 45) ∧ w1.cell? ⟨b, off + dr.toNat, none⟩ = some (.int .i64 f) ∧ w1.cell? ⟨Bw, 0, none⟩ = some (.int .i64 wi) ∧ w1.heap[O]? = some (.cells #[.int .i64 0, .int .i64 0, .int .i64 0, .int .i64 0, .int .i64 0, .bool false] 88) := hSw
      obtain ⟨s1, s2, s3, s4, s5, s6⟩ := hSw
      obtain ⟨r0, r1⟩ := two_cells s1
      obtain ⟨q0, q1, q2, q3, q4, q5⟩ := six_cells s2
      obtain ⟨p0, p1⟩ := two_cells s3
      clear s1 s2 s3
      go_simp; with_reducible rfl
    simp only [List.getElem_toArray, List.getElem_cons_succ, List.getElem_cons_zero, Act.put, List.setIfInBounds_toArray, List.set_cons_zero, List.set_cons_succ]
    refine wpAnyH_take (i := 11) (oi := _) (v := ?_) rfl (by kernel_rfl) (by kernel_rfl) (by kernel_rfl) (fun _ _ _ h => h) (Or.inl ⟨by rfl, ?_⟩) hS.out ?_
    rotate_left
    · intro w1 hSw
      replace hSw : w1.heap[R]? = some (.cells #[.slice (some ⟨b, off, none⟩) n c, .func (.func 56) #[] #[.pointer (some ⟨Bw, 0, none⟩)]] 71) ∧ w1.heap[Q]? = some (.cells #[.int .i64 dr, .int .i64 sz, .int .i64 dg, .int .i64 lo, .int .i64 hi, .bool true] 88) ∧ w1.heap[Y]? = some (.cells #[.int .i64 lo, .int .i64 hi] 45) ∧ w1.cell? ⟨b, off + dr.toNat, none⟩ = some (.int .i64 f) ∧ w1.cell? ⟨Bw, 0, none⟩ = some (.int .i64 wi) ∧ w1.heap[O]? = some (.cells #[.int .i64 0, .int .i64 0, .int .i64 0, .int .i64 0, .int .i64 0, .bool false] 88) := hSw
      obtain ⟨s1, s2, s3, s4, s5, s6⟩ := hSw
      obtain ⟨r0, r1⟩ := two_cells s1
      obtain ⟨q0, q1, q2, q3, q4, q5⟩ := six_cells s2
      obtain ⟨p0, p1⟩ := two_cells s3
      clear s1 s2 s3
      go_simp; with_reducible rfl
    simp only [List.getElem_toArray, List.getElem_cons_succ, List.getElem_cons_zero, Act.put, List.setIfInBounds_toArray, List.set_cons_zero, List.set_cons_succ]
    refine wpAnyH_all (rs := [5, 16]) (by kernel_rfl) (by simp) ?_
    intro i hi
    rcases (by simpa using hi : i = 5 ∨ i = 16) with rfl | rfl <;> clear hi
    ·
      refine wpOp_step rfl (fun K3 hK3 => ?_)
      have HK3 := Lib.hid hK3
      clear hK3
      rw [if_pos (by rfl)]
      go_simp
      refine (shift_any lo hi (d * 1000) _ (by omega) (by omega) (by omega)).mono ?_
      rintro e x1 ⟨rfl, hy1⟩
      replace hS : RowKit.Hid (x1.heap[R]? = some (.cells #[.slice (some ⟨b, off, none⟩) n c, .func (.func 56) #[] #[.pointer (some ⟨Bw, 0, none⟩)]] 71) ∧ x1.heap[Q]? = some (.cells #[.int .i64 dr, .int .i64 sz, .int .i64 dg, .int .i64 lo, .int .i64 hi, .bool true] 88) ∧ x1.heap[Y]? = some (.cells #[.int .i64 lo, .int .i64 hi] 45) ∧ x1.cell? ⟨b, off + dr.toNat, none⟩ = some (.int .i64 f) ∧ x1.cell? ⟨Bw, 0, none⟩ = some (.int .i64 wi) ∧ x1.heap[O]? = some (.cells #[.int .i64 0, .int .i64 0, .int .i64 0, .int .i64 0, .int .i64 0, .bool false] 88)) := Lib.hid (by
        obtain ⟨s1, s2, s3, s4, s5, s6⟩ := hS.out
        exact ⟨(hy1.block R (Array.getElem?_eq_some_iff.1 s1).1).trans s1, (hy1.block Q (Array.getElem?_eq_some_iff.1 s2).1).trans s2, (hy1.block Y (Array.getElem?_eq_some_iff.1 s3).1).trans s3, (hy1.cell (World.block_lt_of_cell? _ _ s4)).trans s4, (hy1.cell (World.block_lt_of_cell? _ _ s5)).trans s5, (hy1.block O (Array.getElem?_eq_some_iff.1 s6).1).trans s6⟩)
      replace hbX := hbX.trans (hy1.mono hbX.size)
      clear hy1
      refine HK3.out _ _ ⟨hS.out, ?_⟩
      clear HK3 K3
      try simp only [List.getElem_toArray, List.getElem_cons_succ, List.getElem_cons_zero, Act.put, List.setIfInBounds_toArray, List.set_cons_zero, List.set_cons_succ]
      refine wpAnyH_all (rs := [12, 16]) (by kernel_rfl) (by simp) ?_
      intro i hi
      rcases (by simpa using hi : i = 12 ∨ i = 16) with rfl | rfl <;> clear hi
      ·
        refine wpOp_step rfl (fun K3 hK3 => ?_)
        have HK3 := Lib.hid hK3
        clear hK3
        rw [if_pos (by rfl)]
        go_simp
        refine (near_any (lo + d * 1000) (hi + d * 1000) f wi Bw _ hw hf9 (by omega) (by omega) hS.out.2.2.2.2.1).mono ?_
        rintro e x2 ⟨rfl, hy2⟩
        replace hS : RowKit.Hid (x2.heap[R]? = some (.cells #[.slice (some ⟨b, off, none⟩) n c, .func (.func 56) #[] #[.pointer (some ⟨Bw, 0, none⟩)]] 71) ∧ x2.heap[Q]? = some (.cells #[.int .i64 dr, .int .i64 sz, .int .i64 dg, .int .i64 lo, .int .i64 hi, .bool true] 88) ∧ x2.heap[Y]? = some (.cells #[.int .i64 lo, .int .i64 hi] 45) ∧ x2.cell? ⟨b, off + dr.toNat, none⟩ = some (.int .i64 f) ∧ x2.cell? ⟨Bw, 0, none⟩ = some (.int .i64 wi) ∧ x2.heap[O]? = some (.cells #[.int .i64 0, .int .i64 0, .int .i64 0, .int .i64 0, .int .i64 0, .bool false] 88)) := Lib.hid (by
          obtain ⟨s1, s2, s3, s4, s5, s6⟩ := hS.out
          exact ⟨(hy2.block R (Array.getElem?_eq_some_iff.1 s1).1).trans s1, (hy2.block Q (Array.getElem?_eq_some_iff.1 s2).1).trans s2, (hy2.block Y (Array.getElem?_eq_some_iff.1 s3).1).trans s3, (hy2.cell (World.block_lt_of_cell? _ _ s4)).trans s4, (hy2.cell (World.block_lt_of_cell? _ _ s5)).trans s5, (hy2.block O (Array.getElem?_eq_some_iff.1 s6).1).trans s6⟩)
        replace hbX := hbX.trans (hy2.mono hbX.size)
        rw [hK, nearV_eq]
        clear hy2
        refine HK3.out _ _ ⟨hS.out, ?_⟩
        clear HK3 K3
        try simp only [List.getElem_toArray, List.getElem_cons_succ, List.getElem_cons_zero, Act.put, List.setIfInBounds_toArray, List.set_cons_zero, List.set_cons_succ]
        refine wpAnyH_take (i := 13) (oi := _) (v := ?_) rfl (by kernel_rfl) (by kernel_rfl) (by kernel_rfl) (fun _ _ _ h => h) (Or.inl ⟨by rfl, ?_⟩) hS.out ?_
        rotate_left
        · intro w1 hSw
          replace hSw : w1.heap[R]? = some (.cells #[.slice (some ⟨b, off, none⟩) n c, .func (.func 56) #[] #[.pointer (some ⟨Bw, 0, none⟩)]] 71) ∧ w1.heap[Q]? = some (.cells #[.int .i64 dr, .int .i64 sz, .int .i64 dg, .int .i64 lo, .int .i64 hi, .bool true] 88) ∧ w1.heap[Y]? = some (.cells #[.int .i64 lo, .int .i64 hi] 45) ∧ w1.cell? ⟨b, off + dr.toNat, none⟩ = some (.int .i64 f) ∧ w1.cell? ⟨Bw, 0, none⟩ = some (.int .i64 wi) ∧ w1.heap[O]? = some (.cells #[.int .i64 0, .int .i64 0, .int .i64 0, .int .i64 0, .int .i64 0, .bool false] 88) := hSw
          obtain ⟨s1, s2, s3, s4, s5, s6⟩ := hSw
          obtain ⟨r0, r1⟩ := two_cells s1
          obtain ⟨q0, q1, q2, q3, q4, q5⟩ := six_cells s2
          obtain ⟨p0, p1⟩ := two_cells s3
          clear s1 s2 s3
          go_simp; with_reducible rfl
        simp only [List.getElem_toArray, List.getElem_cons_succ, List.getElem_cons_zero, Act.put, List.setIfInBounds_toArray, List.set_cons_zero, List.set_cons_succ]
        refine wpAnyH_take (i := 14) (oi := _) (v := ?_) rfl (by kernel_rfl) (by kernel_rfl) (by kernel_rfl) (fun _ _ _ h => h) (Or.inl ⟨by rfl, ?_⟩) hS.out ?_
        rotate_left
        · intro w1 hSw
          replace hSw : w1.heap[R]? = some (.cells #[.slice (some ⟨b, off, none⟩) n c, .func (.func 56) #[] #[.pointer (some ⟨Bw, 0, none⟩)]] 71) ∧ w1.heap[Q]? = some (.cells #[.int .i64 dr, .int .i64 sz, .int .i64 dg, .int .i64 lo, .int .i64 hi, .bool true] 88) ∧ w1.heap[Y]? = some (.cells #[.int .i64 lo, .int .i64 hi] 45) ∧ w1.cell? ⟨b, off + dr.toNat, none⟩ = some (.int .i64 f) ∧ w1.cell? ⟨Bw, 0, none⟩ = some (.int .i64 wi) ∧ w1.heap[O]? = some (.cells #[.int .i64 0, .int .i64 0, .int .i64 0, .int .i64 0, .int .i64 0, .bool false] 88) := hSw
          obtain ⟨s1, s2, s3, s4, s5, s6⟩ := hSw
          obtain ⟨r0, r1⟩ := two_cells s1
          obtain ⟨q0, q1, q2, q3, q4, q5⟩ := six_cells s2
          obtain ⟨p0, p1⟩ := two_cells s3
          clear s1 s2 s3
          go_simp; with_reducible rfl
        simp only [List.getElem_toArray, List.getElem_cons_succ, List.getElem_cons_zero, Act.put, List.setIfInBounds_toArray, List.set_cons_zero, List.set_cons_succ]
        refine wpAnyH_take (i := 15) (oi := _) (v := ?_) rfl (by kernel_rfl) (by kernel_rfl) (by kernel_rfl) (fun _ _ _ h => h) (Or.inl ⟨by rfl, ?_⟩) hS.out ?_
        rotate_left
        · intro w1 hSw
          replace hSw : w1.heap[R]? = some (.cells #[.slice (some ⟨b, off, none⟩) n c, .func (.func 56) #[] #[.pointer (some ⟨Bw, 0, none⟩)]] 71) ∧ w1.heap[Q]? = some (.cells #[.int .i64 dr, .int .i64 sz, .int .i64 dg, .int .i64 lo, .int .i64 hi, .bool true] 88) ∧ w1.heap[Y]? = some (.cells #[.int .i64 lo, .int .i64 hi] 45) ∧ w1.cell? ⟨b, off + dr.toNat, none⟩ = some (.int .i64 f) ∧ w1.cell? ⟨Bw, 0, none⟩ = some (.int .i64 wi) ∧ w1.heap[O]? = some (.cells #[.int .i64 0, .int .i64 0, .int .i64 0, .int .i64 0, .int .i64 0, .bool false] 88) := hSw
          obtain ⟨s1, s2, s3, s4, s5, s6⟩ := hSw
          obtain ⟨r0, r1⟩ := two_cells s1
          obtain ⟨q0, q1, q2, q3, q4, q5⟩ := six_cells s2
          obtain ⟨p0, p1⟩ := two_cells s3
          clear s1 s2 s3
          go_simp; with_reducible rfl
        simp only [List.getElem_toArray, List.getElem_cons_succ, List.getElem_cons_zero, Act.put, List.setIfInBounds_toArray, List.set_cons_zero, List.set_cons_succ]
        refine wpAnyH_all (rs := [16]) (by kernel_rfl) (by simp) ?_
        intro i hi; obtain rfl := List.mem_singleton.1 hi; clear hi
        refine wpOp_step rfl (fun K3 hK3 => ?_)
        have HK3 := Lib.hid hK3
        clear hK3
        rw [if_pos (by rfl)]
        go_simp
        obtain ⟨P, hPe⟩ : ∃ P, x2.heap.size = P := ⟨_, rfl⟩
        obtain ⟨x3, hx3⟩ : ∃ Z, Z = x2.alloc (.cells #[.int .i64 0, .int .i64 0] 45) := ⟨_, rfl⟩
        have hy3 : Below x2.heap.size x2 x3 := by rw [hx3]; exact (Below.refl _ _).alloc (Nat.le_refl _) _
        have hP := Lib.hid (show x3.heap[P]? = some (.cells #[.int .i64 0, .int .i64 0] 45 (0, 0)) by rw [hx3, ← hPe]; exact (MapKept.heap_alloc x2 _).1)
        have hPn : (P ≠ R ∧ P ≠ Q ∧ P ≠ Y ∧ P ≠ O ∧ P ≠ b ∧ P ≠ Bw) ∧ w.heap.size ≤ P := by
          obtain ⟨s1, s2, s3, s4, s5, s6⟩ := hS.out
          have u1 := (Array.getElem?_eq_some_iff.1 s1).1
          have u2 := (Array.getElem?_eq_some_iff.1 s2).1
          have u3 := (Array.getElem?_eq_some_iff.1 s3).1
          have u4 := World.block_lt_of_cell? _ _ s4
          have u5 := World.block_lt_of_cell? _ _ s5
          have u6 := (Array.getElem?_eq_some_iff.1 s6).1
          have := hbX.size
          simp only [] at u4 u5
          omega
        rw [← hx3, hPe]
        replace hS : RowKit.Hid (x3.heap[R]? = some (.cells #[.slice (some ⟨b, off, none⟩) n c, .func (.func 56) #[] #[.pointer (some ⟨Bw, 0, none⟩)]] 71) ∧ x3.heap[Q]? = some (.cells #[.int .i64 dr, .int .i64 sz, .int .i64 dg, .int .i64 lo, .int .i64 hi, .bool true] 88) ∧ x3.heap[Y]? = some (.cells #[.int .i64 lo, .int .i64 hi] 45) ∧ x3.cell? ⟨b, off + dr.toNat, none⟩ = some (.int .i64 f) ∧ x3.cell? ⟨Bw, 0, none⟩ = some (.int .i64 wi) ∧ x3.heap[O]? = some (.cells #[.int .i64 0, .int .i64 0, .int .i64 0, .int .i64 0, .int .i64 0, .bool false] 88)) := Lib.hid (by
          obtain ⟨s1, s2, s3, s4, s5, s6⟩ := hS.out
          exact ⟨(hy3.block R (Array.getElem?_eq_some_iff.1 s1).1).trans s1, (hy3.block Q (Array.getElem?_eq_some_iff.1 s2).1).trans s2, (hy3.block Y (Array.getElem?_eq_some_iff.1 s3).1).trans s3, (hy3.cell (World.block_lt_of_cell? _ _ s4)).trans s4, (hy3.cell (World.block_lt_of_cell? _ _ s5)).trans s5, (hy3.block O (Array.getElem?_eq_some_iff.1 s6).1).trans s6⟩)
        replace hbX := hbX.trans (hy3.mono hbX.size)
        clear hy3 hx3 hPe
        refine HK3.out _ _ ⟨hS.out, ?_⟩
        clear HK3 K3
        try simp only [List.getElem_toArray, List.getElem_cons_succ, List.getElem_cons_zero, Act.put, List.setIfInBounds_toArray, List.set_cons_zero, List.set_cons_succ]
        obtain ⟨u0, u1⟩ := two_cells hP.out
        have uf := frozen_of hP.out
        refine wpAnyH_all (rs := [17]) (by kernel_rfl) (by simp) ?_
        intro i hi; obtain rfl := List.mem_singleton.1 hi; clear hi
        refine wpOp_step rfl (fun K3 hK3 => ?_)
        have HK3 := Lib.hid hK3
        clear hK3
        rw [if_pos (by rfl)]
        go_simp
        obtain ⟨xe, hxe⟩ : ∃ Z, Z = (x3.setCell ⟨P, 0, none⟩ (.int .i64 (K.getD (0, 0)).1)).setCell ⟨P, 1, none⟩ (.int .i64 (K.getD (0, 0)).2) := ⟨_, rfl⟩
        have hP2 := Lib.hid (show xe.heap[P]? = some (.cells #[.int .i64 (K.getD (0, 0)).1, .int .i64 (K.getD (0, 0)).2] 45 (0, 0)) by rw [hxe]; exact set_two hP.out)
        have hoth : ∀ k, k ≠ P → xe.heap[k]? = x3.heap[k]? := fun k hk => by rw [hxe]; exact (Below.heap_setCell _ _ _ k (fun e => hk (by rw [e]))).trans (Below.heap_setCell _ _ _ k (fun e => hk (by rw [e])))
        have hbE : Below w.heap.size w xe := by rw [hxe]; exact (hbX.setCell (p := ⟨P, 0, none⟩) hPn.2 _).setCell (p := ⟨P, 1, none⟩) hPn.2 _
        have hS2 : RowKit.Hid (xe.heap[R]? = some (.cells #[.slice (some ⟨b, off, none⟩) n c, .func (.func 56) #[] #[.pointer (some ⟨Bw, 0, none⟩)]] 71) ∧ xe.heap[Q]? = some (.cells #[.int .i64 dr, .int .i64 sz, .int .i64 dg, .int .i64 lo, .int .i64 hi, .bool true] 88) ∧ xe.heap[Y]? = some (.cells #[.int .i64 lo, .int .i64 hi] 45) ∧ xe.cell? ⟨b, off + dr.toNat, none⟩ = some (.int .i64 f) ∧ xe.cell? ⟨Bw, 0, none⟩ = some (.int .i64 wi) ∧ xe.heap[O]? = some (.cells #[.int .i64 0, .int .i64 0, .int .i64 0, .int .i64 0, .int .i64 0, .bool false] 88)) := Lib.hid (by
          obtain ⟨s1, s2, s3, s4, s5, s6⟩ := hS.out
          obtain ⟨⟨n1, n2, n3, n4, n5, n6⟩, n7⟩ := hPn
          exact ⟨(hoth _ n1.symm).trans s1, (hoth _ n2.symm).trans s2, (hoth _ n3.symm).trans s3, (by simpa [World.cell?, hoth b n5.symm] using s4), (by simpa [World.cell?, hoth Bw n6.symm] using s5), (hoth _ n4.symm).trans s6⟩)
        rw [← hxe]
        clear hxe hoth u0 u1 uf hP hbX
        refine HK3.out _ _ ⟨hS2.out, ?_⟩
        clear HK3 K3
        try simp only [List.getElem_toArray, List.getElem_cons_succ, List.getElem_cons_zero, Act.put, List.setIfInBounds_toArray, List.set_cons_zero, List.set_cons_succ]
        refine wpAnyH_take (i := 18) (oi := _) (v := ?_) rfl (by kernel_rfl) (by kernel_rfl) (by kernel_rfl) (fun _ _ _ h => h) (Or.inl ⟨by rfl, ?_⟩) hS2.out ?_
        rotate_left
        · intro w1 hSw
          replace hSw : w1.heap[R]? = some (.cells #[.slice (some ⟨b, off, none⟩) n c, .func (.func 56) #[] #[.pointer (some ⟨Bw, 0, none⟩)]] 71) ∧ w1.heap[Q]? = some (.cells #[.int .i64 dr, .int .i64 sz, .int .i64 dg, .int .i64 lo, .int .i64 hi, .bool true] 88) ∧ w1.heap[Y]? = some (.cells #[.int .i64 lo, .int .i64 hi] 45) ∧ w1.cell? ⟨b, off + dr.toNat, none⟩ = some (.int .i64 f) ∧ w1.cell? ⟨Bw, 0, none⟩ = some (.int .i64 wi) ∧ w1.heap[O]? = some (.cells #[.int .i64 0, .int .i64 0, .int .i64 0, .int .i64 0, .int .i64 0, .bool false] 88) := hSw
          obtain ⟨s1, s2, s3, s4, s5, s6⟩ := hSw
          obtain ⟨r0, r1⟩ := two_cells s1
          obtain ⟨q0, q1, q2, q3, q4, q5⟩ := six_cells s2
          obtain ⟨p0, p1⟩ := two_cells s3
          clear s1 s2 s3
          go_simp; with_reducible rfl
        simp only [List.getElem_toArray, List.getElem_cons_succ, List.getElem_cons_zero, Act.put, List.setIfInBounds_toArray, List.set_cons_zero, List.set_cons_succ]
        refine wpAnyH_done (by kernel_rfl) ?_ _
        go_wp2_with fail
        go_meet
        exact ⟨P, rfl, rfl, hPn.1.2.1, hPn.1.2.2.2.1, hPn.2, hP2.out, hS2.out.2.1, hS2.out.2.2.2.2.2, hbE⟩
      ·
        refine wpOp_step rfl (fun K3 hK3 => ?_)
        have HK3 := Lib.hid hK3
        clear hK3
        rw [if_pos (by rfl)]
        go_simp
        obtain ⟨P, hPe⟩ : ∃ P, x1.heap.size = P := ⟨_, rfl⟩
        obtain ⟨x4, hx4⟩ : ∃ Z, Z = x1.alloc (.cells #[.int .i64 0, .int .i64 0] 45) := ⟨_, rfl⟩
        have hy4 : Below x1.heap.size x1 x4 := by rw [hx4]; exact (Below.refl _ _).alloc (Nat.le_refl _) _
        have hP := Lib.hid (show x4.heap[P]? = some (.cells #[.int .i64 0, .int .i64 0] 45 (0, 0)) by rw [hx4, ← hPe]; exact (MapKept.heap_alloc x1 _).1)
        have hPn : (P ≠ R ∧ P ≠ Q ∧ P ≠ Y ∧ P ≠ O ∧ P ≠ b ∧ P ≠ Bw) ∧ w.heap.size ≤ P := by
          obtain ⟨s1, s2, s3, s4, s5, s6⟩ := hS.out
          have u1 := (Array.getElem?_eq_some_iff.1 s1).1
          have u2 := (Array.getElem?_eq_some_iff.1 s2).1
          have u3 := (Array.getElem?_eq_some_iff.1 s3).1
          have u4 := World.block_lt_of_cell? _ _ s4
          have u5 := World.block_lt_of_cell? _ _ s5
          have u6 := (Array.getElem?_eq_some_iff.1 s6).1
          have := hbX.size
          simp only [] at u4 u5
          omega
        rw [← hx4, hPe]
        replace hS : RowKit.Hid (x4.heap[R]? = some (.cells #[.slice (some ⟨b, off, none⟩) n c, .func (.func 56) #[] #[.pointer (some ⟨Bw, 0, none⟩)]] 71) ∧ x4.heap[Q]? = some (.cells #[.int .i64 dr, .int .i64 sz, .int .i64 dg, .int .i64 lo, .int .i64 hi, .bool true] 88) ∧ x4.heap[Y]? = some (.cells #[.int .i64 lo, .int .i64 hi] 45) ∧ x4.cell? ⟨b, off + dr.toNat, none⟩ = some (.int .i64 f) ∧ x4.cell? ⟨Bw, 0, none⟩ = some (.int .i64 wi) ∧ x4.heap[O]? = some (.cells #[.int .i64 0, .int .i64 0, .int .i64 0, .int .i64 0, .int .i64 0, .bool false] 88)) := Lib.hid (by
          obtain ⟨s1, s2, s3, s4, s5, s6⟩ := hS.out
          exact ⟨(hy4.block R (Array.getElem?_eq_some_iff.1 s1).1).trans s1, (hy4.block Q (Array.getElem?_eq_some_iff.1 s2).1).trans s2, (hy4.block Y (Array.getElem?_eq_some_iff.1 s3).1).trans s3, (hy4.cell (World.block_lt_of_cell? _ _ s4)).trans s4, (hy4.cell (World.block_lt_of_cell? _ _ s5)).trans s5, (hy4.block O (Array.getElem?_eq_some_iff.1 s6).1).trans s6⟩)
        replace hbX := hbX.trans (hy4.mono hbX.size)
        clear hy4 hx4 hPe
        refine HK3.out _ _ ⟨hS.out, ?_⟩
        clear HK3 K3
        try simp only [List.getElem_toArray, List.getElem_cons_succ, List.getElem_cons_zero, Act.put, List.setIfInBounds_toArray, List.set_cons_zero, List.set_cons_succ]
        refine wpAnyH_all (rs := [12]) (by kernel_rfl) (by simp) ?_
        intro i hi; obtain rfl := List.mem_singleton.1 hi; clear hi
        refine wpOp_step rfl (fun K3 hK3 => ?_)
        have HK3 := Lib.hid hK3
        clear hK3
        rw [if_pos (by rfl)]
        go_simp
        refine (near_any (lo + d * 1000) (hi + d * 1000) f wi Bw _ hw hf9 (by omega) (by omega) hS.out.2.2.2.2.1).mono ?_
        rintro e x5 ⟨rfl, hy5⟩
        replace hS : RowKit.Hid (x5.heap[R]? = some (.cells #[.slice (some ⟨b, off, none⟩) n c, .func (.func 56) #[] #[.pointer (some ⟨Bw, 0, none⟩)]] 71) ∧ x5.heap[Q]? = some (.cells #[.int .i64 dr, .int .i64 sz, .int .i64 dg, .int .i64 lo, .int .i64 hi, .bool true] 88) ∧ x5.heap[Y]? = some (.cells #[.int .i64 lo, .int .i64 hi] 45) ∧ x5.cell? ⟨b, off + dr.toNat, none⟩ = some (.int .i64 f) ∧ x5.cell? ⟨Bw, 0, none⟩ = some (.int .i64 wi) ∧ x5.heap[O]? = some (.cells #[.int .i64 0, .int .i64 0, .int .i64 0, .int .i64 0, .int .i64 0, .bool false] 88)) := Lib.hid (by
          obtain ⟨s1, s2, s3, s4, s5, s6⟩ := hS.out
          exact ⟨(hy5.block R (Array.getElem?_eq_some_iff.1 s1).1).trans s1, (hy5.block Q (Array.getElem?_eq_some_iff.1 s2).1).trans s2, (hy5.block Y (Array.getElem?_eq_some_iff.1 s3).1).trans s3, (hy5.cell (World.block_lt_of_cell? _ _ s4)).trans s4, (hy5.cell (World.block_lt_of_cell? _ _ s5)).trans s5, (hy5.block O (Array.getElem?_eq_some_iff.1 s6).1).trans s6⟩)
        replace hP := Lib.hid ((hy5.block P (Array.getElem?_eq_some_iff.1 hP.out).1).trans hP.out)
        replace hbX := hbX.trans (hy5.mono hbX.size)
        rw [hK, nearV_eq]
        clear hy5
        refine HK3.out _ _ ⟨hS.out, ?_⟩
        clear HK3 K3
        try simp only [List.getElem_toArray, List.getElem_cons_succ, List.getElem_cons_zero, Act.put, List.setIfInBounds_toArray, List.set_cons_zero, List.set_cons_succ]
        refine wpAnyH_take (i := 13) (oi := _) (v := ?_) rfl (by kernel_rfl) (by kernel_rfl) (by kernel_rfl) (fun _ _ _ h => h) (Or.inl ⟨by rfl, ?_⟩) hS.out ?_
        rotate_left
        · intro w1 hSw
          replace hSw : w1.heap[R]? = some (.cells #[.slice (some ⟨b, off, none⟩) n c, .func (.func 56) #[] #[.pointer (some ⟨Bw, 0, none⟩)]] 71) ∧ w1.heap[Q]? = some (.cells #[.int .i64 dr, .int .i64 sz, .int .i64 dg, .int .i64 lo, .int .i64 hi, .bool true] 88) ∧ w1.heap[Y]? = some (.cells #[.int .i64 lo, .int .i64 hi] 45) ∧ w1.cell? ⟨b, off + dr.toNat, none⟩ = some (.int .i64 f) ∧ w1.cell? ⟨Bw, 0, none⟩ = some (.int .i64 wi) ∧ w1.heap[O]? = some (.cells #[.int .i64 0, .int .i64 0, .int .i64 0, .int .i64 0, .int .i64 0, .bool false] 88) := hSw
          obtain ⟨s1, s2, s3, s4, s5, s6⟩ := hSw
          obtain ⟨r0, r1⟩ := two_cells s1
          obtain ⟨q0, q1, q2, q3, q4, q5⟩ := six_cells s2
          obtain ⟨p0, p1⟩ := two_cells s3
          clear s1 s2 s3
          go_simp; with_reducible rfl
        simp only [List.getElem_toArray, List.getElem_cons_succ, List.getElem_cons_zero, Act.put, List.setIfInBounds_toArray, List.set_cons_zero, List.set_cons_succ]
        refine wpAnyH_take (i := 14) (oi := _) (v := ?_) rfl (by kernel_rfl) (by kernel_rfl) (by kernel_rfl) (fun _ _ _ h => h) (Or.inl ⟨by rfl, ?_⟩) hS.out ?_
        rotate_left
        · intro w1 hSw
          replace hSw : w1.heap[R]? = some (.cells #[.slice (some ⟨b, off, none⟩) n c, .func (.func 56) #[] #[.pointer (some ⟨Bw, 0, none⟩)]] 71) ∧ w1.heap[Q]? = some (.cells #[.int .i64 dr, .int .i64 sz, .int .i64 dg, .int .i64 lo, .int .i64 hi, .bool true] 88) ∧ w1.heap[Y]? = some (.cells #[.int .i64 lo, .int .i64 hi] 45) ∧ w1.cell? ⟨b, off + dr.toNat, none⟩ = some (.int .i64 f) ∧ w1.cell? ⟨Bw, 0, none⟩ = some (.int .i64 wi) ∧ w1.heap[O]? = some (.cells #[.int .i64 0, .int .i64 0, .int .i64 0, .int .i64 0, .int .i64 0, .bool false] 88) := hSw
          obtain ⟨s1, s2, s3, s4, s5, s6⟩ := hSw
          obtain ⟨r0, r1⟩ := two_cells s1
          obtain ⟨q0, q1, q2, q3, q4, q5⟩ := six_cells s2
          obtain ⟨p0, p1⟩ := two_cells s3
          clear s1 s2 s3
          go_simp; with_reducible rfl
        simp only [List.getElem_toArray, List.getElem_cons_succ, List.getElem_cons_zero, Act.put, List.setIfInBounds_toArray, List.set_cons_zero, List.set_cons_succ]
        refine wpAnyH_take (i := 15) (oi := _) (v := ?_) rfl (by kernel_rfl) (by kernel_rfl) (by kernel_rfl) (fun _ _ _ h => h) (Or.inl ⟨by rfl, ?_⟩) hS.out ?_
        rotate_left
        · intro w1 hSw
          replace hSw : w1.heap[R]? = some (.cells #[.slice (some ⟨b, off, none⟩) n c, .func (.func 56) #[] #[.pointer (some ⟨Bw, 0, none⟩)]] 71) ∧ w1.heap[Q]? = some (.cells #[.int .i64 dr, .int .i64 sz, .int .i64 dg, .int .i64 lo, .int .i64 hi, .bool true] 88) ∧ w1.heap[Y]? = some (.cells #[.int .i64 lo, .int .i64 hi] 45) ∧ w1.cell? ⟨b, off + dr.toNat, none⟩ = some (.int .i64 f) ∧ w1.cell? ⟨Bw, 0, none⟩ = some (.int .i64 wi) ∧ w1.heap[O]? = some (.cells #[.int .i64 0, .int .i64 0, .int .i64 0, .int .i64 0, .int .i64 0, .bool false] 88) := hSw
          obtain ⟨s1, s2, s3, s4, s5, s6⟩ := hSw
          obtain ⟨r0, r1⟩ := two_cells s1
          obtain ⟨q0, q1, q2, q3, q4, q5⟩ := six_cells s2
          obtain ⟨p0, p1⟩ := two_cells s3
          clear s1 s2 s3
          go_simp; with_reducible rfl
        simp only [List.getElem_toArray, List.getElem_cons_succ, List.getElem_cons_zero, Act.put, List.setIfInBounds_toArray, List.set_cons_zero, List.set_cons_succ]
        obtain ⟨u0, u1⟩ := two_cells hP.out
        have uf := frozen_of hP.out
        refine wpAnyH_all (rs := [17]) (by kernel_rfl) (by simp) ?_
        intro i hi; obtain rfl := List.mem_singleton.1 hi; clear hi
        refine wpOp_step rfl (fun K3 hK3 => ?_)
        have HK3 := Lib.hid hK3
        clear hK3
        rw [if_pos (by rfl)]
        go_simp
        obtain ⟨xe, hxe⟩ : ∃ Z, Z = (x5.setCell ⟨P, 0, none⟩ (.int .i64 (K.getD (0, 0)).1)).setCell ⟨P, 1, none⟩ (.int .i64 (K.getD (0, 0)).2) := ⟨_, rfl⟩
        have hP2 := Lib.hid (show xe.heap[P]? = some (.cells #[.int .i64 (K.getD (0, 0)).1, .int .i64 (K.getD (0, 0)).2] 45 (0, 0)) by rw [hxe]; exact set_two hP.out)
        have hoth : ∀ k, k ≠ P → xe.heap[k]? = x5.heap[k]? := fun k hk => by rw [hxe]; exact (Below.heap_setCell _ _ _ k (fun e => hk (by rw [e]))).trans (Below.heap_setCell _ _ _ k (fun e => hk (by rw [e])))
        have hbE : Below w.heap.size w xe := by rw [hxe]; exact (hbX.setCell (p := ⟨P, 0, none⟩) hPn.2 _).setCell (p := ⟨P, 1, none⟩) hPn.2 _
        have hS2 : RowKit.Hid (xe.heap[R]? = some (.cells #[.slice (some ⟨b, off, none⟩) n c, .func (.func 56) #[] #[.pointer (some ⟨Bw, 0, none⟩)]] 71) ∧ xe.heap[Q]? = some (.cells #[.int .i64 dr, .int .i64 sz, .int .i64 dg, .int .i64 lo, .int .i64 hi, .bool true] 88) ∧ xe.heap[Y]? = some (.cells #[.int .i64 lo, .int .i64 hi] 45) ∧ xe.cell? ⟨b, off + dr.toNat, none⟩ = some (.int .i64 f) ∧ xe.cell? ⟨Bw, 0, none⟩ = some (.int .i64 wi) ∧ xe.heap[O]? = some (.cells #[.int .i64 0, .int .i64 0, .int .i64 0, .int .i64 0, .int .i64 0, .bool false] 88)) := Lib.hid (by
          obtain ⟨s1, s2, s3, s4, s5, s6⟩ := hS.out
          obtain ⟨⟨n1, n2, n3, n4, n5, n6⟩, n7⟩ := hPn
          exact ⟨(hoth _ n1.symm).trans s1, (hoth _ n2.symm).trans s2, (hoth _ n3.symm).trans s3, (by simpa [World.cell?, hoth b n5.symm] using s4), (by simpa [World.cell?, hoth Bw n6.symm] using s5), (hoth _ n4.symm).trans s6⟩)
        rw [← hxe]
        clear hxe hoth u0 u1 uf hP hbX
        refine HK3.out _ _ ⟨hS2.out, ?_⟩
        clear HK3 K3
        try simp only [List.getElem_toArray, List.getElem_cons_succ, List.getElem_cons_zero, Act.put, List.setIfInBounds_toArray, List.set_cons_zero, List.set_cons_succ]
        refine wpAnyH_take (i := 18) (oi := _) (v := ?_) rfl (by kernel_rfl) (by kernel_rfl) (by kernel_rfl) (fun _ _ _ h => h) (Or.inl ⟨by rfl, ?_⟩) hS2.out ?_
        rotate_left
        · intro w1 hSw
          replace hSw : w1.heap[R]? = some (.cells #[.slice (some ⟨b, off, none⟩) n c, .func (.func 56) #[] #[.pointer (some ⟨Bw, 0, none⟩)]] 71) ∧ w1.heap[Q]? = some (.cells #[.int .i64 dr, .int .i64 sz, .int .i64 dg, .int .i64 lo, .int .i64 hi, .bool true] 88) ∧ w1.heap[Y]? = some (.cells #[.int .i64 lo, .int .i64 hi] 45) ∧ w1.cell? ⟨b, off + dr.toNat, none⟩ = some (.int .i64 f) ∧ w1.cell? ⟨Bw, 0, none⟩ = some (.int .i64 wi) ∧ w1.heap[O]? = some (.cells #[.int .i64 0, .int .i64 0, .int .i64 0, .int .i64 0, .int .i64 0, .bool false] 88) := hSw
          obtain ⟨s1, s2, s3, s4, s5, s6⟩ := hSw
          obtain ⟨r0, r1⟩ := two_cells s1
          obtain ⟨q0, q1, q2, q3, q4, q5⟩ := six_cells s2
          obtain ⟨p0, p1⟩ := two_cells s3
          clear s1 s2 s3
          go_simp; with_reducible rfl
        simp only [List.getElem_toArray, List.getElem_cons_succ, List.getElem_cons_zero, Act.put, List.setIfInBounds_toArray, List.set_cons_zero, List.set_cons_succ]
        refine wpAnyH_done (by kernel_rfl) ?_ _
        go_wp2_with fail
        go_meet
        exact ⟨P, rfl, rfl, hPn.1.2.1, hPn.1.2.2.2.1, hPn.2, hP2.out, hS2.out.2.1, hS2.out.2.2.2.2.2, hbE⟩
    ·
      refine wpOp_step rfl (fun K3 hK3 => ?_)
      have HK3 := Lib.hid hK3
      clear hK3
      rw [if_pos (by rfl)]
      go_simp
      obtain ⟨P, hPe⟩ : ∃ P, X0.heap.size = P := ⟨_, rfl⟩
      obtain ⟨x6, hx6⟩ : ∃ Z, Z = X0.alloc (.cells #[.int .i64 0, .int .i64 0] 45) := ⟨_, rfl⟩
      have hy6 : Below X0.heap.size X0 x6 := by rw [hx6]; exact (Below.refl _ _).alloc (Nat.le_refl _) _
      have hP := Lib.hid (show x6.heap[P]? = some (.cells #[.int .i64 0, .int .i64 0] 45 (0, 0)) by rw [hx6, ← hPe]; exact (MapKept.heap_alloc X0 _).1)
      have hPn : (P ≠ R ∧ P ≠ Q ∧ P ≠ Y ∧ P ≠ O ∧ P ≠ b ∧ P ≠ Bw) ∧ w.heap.size ≤ P := by
        obtain ⟨s1, s2, s3, s4, s5, s6⟩ := hS.out
        have u1 := (Array.getElem?_eq_some_iff.1 s1).1
        have u2 := (Array.getElem?_eq_some_iff.1 s2).1
        have u3 := (Array.getElem?_eq_some_iff.1 s3).1
        have u4 := World.block_lt_of_cell? _ _ s4
        have u5 := World.block_lt_of_cell? _ _ s5
        have u6 := (Array.getElem?_eq_some_iff.1 s6).1
        have := hbX.size
        simp only [] at u4 u5
        omega
      rw [← hx6, hPe]
      replace hS : RowKit.Hid (x6.heap[R]? = some (.cells #[.slice (some ⟨b, off, none⟩) n c, .func (.func 56) #[] #[.pointer (some ⟨Bw, 0, none⟩)]] 71) ∧ x6.heap[Q]? = some (.cells #[.int .i64 dr, .int .i64 sz, .int .i64 dg, .int .i64 lo, .int .i64 hi, .bool true] 88) ∧ x6.heap[Y]? = some (.cells #[.int .i64 lo, .int .i64 hi] 45) ∧ x6.cell? ⟨b, off + dr.toNat, none⟩ = some (.int .i64 f) ∧ x6.cell? ⟨Bw, 0, none⟩ = some (.int .i64 wi) ∧ x6.heap[O]? = some (.cells #[.int .i64 0, .int .i64 0, .int .i64 0, .int .i64 0, .int .i64 0, .bool false] 88)) := Lib.hid (by
        obtain ⟨s1, s2, s3, s4, s5, s6⟩ := hS.out
        exact ⟨(hy6.block R (Array.getElem?_eq_some_iff.1 s1).1).trans s1, (hy6.block Q (Array.getElem?_eq_some_iff.1 s2).1).trans s2, (hy6.block Y (Array.getElem?_eq_some_iff.1 s3).1).trans s3, (hy6.cell (World.block_lt_of_cell? _ _ s4)).trans s4, (hy6.cell (World.block_lt_of_cell? _ _ s5)).trans s5, (hy6.block O (Array.getElem?_eq_some_iff.1 s6).1).trans s6⟩)
      replace hbX := hbX.trans (hy6.mono hbX.size)
      clear hy6 hx6 hPe
      refine HK3.out _ _ ⟨hS.out, ?_⟩
      clear HK3 K3
      try simp only [List.getElem_toArray, List.getElem_cons_succ, List.getElem_cons_zero, Act.put, List.setIfInBounds_toArray, List.set_cons_zero, List.set_cons_succ]
      refine wpAnyH_all (rs := [5]) (by kernel_rfl) (by simp) ?_
      intro i hi; obtain rfl := List.mem_singleton.1 hi; clear hi
      refine wpOp_step rfl (fun K3 hK3 => ?_)
      have HK3 := Lib.hid hK3
      clear hK3
      rw [if_pos (by rfl)]
      go_simp
      refine (shift_any lo hi (d * 1000) _ (by omega) (by omega) (by omega)).mono ?_
      rintro e x7 ⟨rfl, hy7⟩
      replace hS : RowKit.Hid (x7.heap[R]? = some (.cells #[.slice (some ⟨b, off, none⟩) n c, .func (.func 56) #[] #[.pointer (some ⟨Bw, 0, none⟩)]] 71) ∧ x7.heap[Q]? = some (.cells #[.int .i64 dr, .int .i64 sz, .int .i64 dg, .int .i64 lo, .int .i64 hi, .bool true] 88) ∧ x7.heap[Y]? = some (.cells #[.int .i64 lo, .int .i64 hi] 45) ∧ x7.cell? ⟨b, off + dr.toNat, none⟩ = some (.int .i64 f) ∧ x7.cell? ⟨Bw, 0, none⟩ = some (.int .i64 wi) ∧ x7.heap[O]? = some (.cells #[.int .i64 0, .int .i64 0, .int .i64 0, .int .i64 0, .int .i64 0, .bool false] 88)) := Lib.hid (by
        obtain ⟨s1, s2, s3, s4, s5, s6⟩ := hS.out
        exact ⟨(hy7.block R (Array.getElem?_eq_some_iff.1 s1).1).trans s1, (hy7.block Q (Array.getElem?_eq_some_iff.1 s2).1).trans s2, (hy7.block Y (Array.getElem?_eq_some_iff.1 s3).1).trans s3, (hy7.cell (World.block_lt_of_cell? _ _ s4)).trans s4, (hy7.cell (World.block_lt_of_cell? _ _ s5)).trans s5, (hy7.block O (Array.getElem?_eq_some_iff.1 s6).1).trans s6⟩)
      replace hP := Lib.hid ((hy7.block P (Array.getElem?_eq_some_iff.1 hP.out).1).trans hP.out)
      replace hbX := hbX.trans (hy7.mono hbX.size)
      clear hy7
      refine HK3.out _ _ ⟨hS.out, ?_⟩
      clear HK3 K3
      try simp only [List.getElem_toArray, List.getElem_cons_succ, List.getElem_cons_zero, Act.put, List.setIfInBounds_toArray, List.set_cons_zero, List.set_cons_succ]
      refine wpAnyH_all (rs := [12]) (by kernel_rfl) (by simp) ?_
      intro i hi; obtain rfl := List.mem_singleton.1 hi; clear hi
      refine wpOp_step rfl (fun K3 hK3 => ?_)
      have HK3 := Lib.hid hK3
      clear hK3
      rw [if_pos (by rfl)]
      go_simp
      refine (near_any (lo + d * 1000) (hi + d * 1000) f wi Bw _ hw hf9 (by omega) (by omega) hS.out.2.2.2.2.1).mono ?_
      rintro e x8 ⟨rfl, hy8⟩
      replace hS : RowKit.Hid (x8.heap[R]? = some (.cells #[.slice (some ⟨b, off, none⟩) n c, .func (.func 56) #[] #[.pointer (some ⟨Bw, 0, none⟩)]] 71) ∧ x8.heap[Q]? = some (.cells #[.int .i64 dr, .int .i64 sz, .int .i64 dg, .int .i64 lo, .int .i64 hi, .bool true] 88) ∧ x8.heap[Y]? = some (.cells #[.int .i64 lo, .int .i64 hi] 45) ∧ x8.cell? ⟨b, off + dr.toNat, none⟩ = some (.int .i64 f) ∧ x8.cell? ⟨Bw, 0, none⟩ = some (.int .i64 wi) ∧ x8.heap[O]? = some (.cells #[.int .i64 0, .int .i64 0, .int .i64 0, .int .i64 0, .int .i64 0, .bool false] 88)) := Lib.hid (by
        obtain ⟨s1, s2, s3, s4, s5, s6⟩ := hS.out
        exact ⟨(hy8.block R (Array.getElem?_eq_some_iff.1 s1).1).trans s1, (hy8.block Q (Array.getElem?_eq_some_iff.1 s2).1).trans s2, (hy8.block Y (Array.getElem?_eq_some_iff.1 s3).1).trans s3, (hy8.cell (World.block_lt_of_cell? _ _ s4)).trans s4, (hy8.cell (World.block_lt_of_cell? _ _ s5)).trans s5, (hy8.block O (Array.getElem?_eq_some_iff.1 s6).1).trans s6⟩)
      replace hP := Lib.hid ((hy8.block P (Array.getElem?_eq_some_iff.1 hP.out).1).trans hP.out)
      replace hbX := hbX.trans (hy8.mono hbX.size)
      rw [hK, nearV_eq]
      clear hy8
      refine HK3.out _ _ ⟨hS.out, ?_⟩
      clear HK3 K3
      try simp only [List.getElem_toArray, List.getElem_cons_succ, List.getElem_cons_zero, Act.put, List.setIfInBounds_toArray, List.set_cons_zero, List.set_cons_succ]
      refine wpAnyH_take (i := 13) (oi := _) (v := ?_) rfl (by kernel_rfl) (by kernel_rfl) (by kernel_rfl) (fun _ _ _ h => h) (Or.inl ⟨by rfl, ?_⟩) hS.out ?_
      rotate_left
      · intro w1 hSw
        replace hSw : w1.heap[R]? = some (.cells #[.slice (some ⟨b, off, none⟩) n c, .func (.func 56) #[] #[.pointer (some ⟨Bw, 0, none⟩)]] 71) ∧ w1.heap[Q]? = some (.cells #[.int .i64 dr, .int .i64 sz, .int .i64 dg, .int .i64 lo, .int .i64 hi, .bool true] 88) ∧ w1.heap[Y]? = some (.cells #[.int .i64 lo, .int .i64 hi] 45) ∧ w1.cell? ⟨b, off + dr.toNat, none⟩ = some (.int .i64 f) ∧ w1.cell? ⟨Bw, 0, none⟩ = some (.int .i64 wi) ∧ w1.heap[O]? = some (.cells #[.int .i64 0, .int .i64 0, .int .i64 0, .int .i64 0, .int .i64 0, .bool false] 88) := hSw
        obtain ⟨s1, s2, s3, s4, s5, s6⟩ := hSw
        obtain ⟨r0, r1⟩ := two_cells s1
        obtain ⟨q0, q1, q2, q3, q4, q5⟩ := six_cells s2
        obtain ⟨p0, p1⟩ := two_cells s3
        clear s1 s2 s3
        go_simp; with_reducible rfl
      simp only [List.getElem_toArray, List.getElem_cons_succ, List.getElem_cons_zero, Act.put, List.setIfInBounds_toArray, List.set_cons_zero, List.set_cons_succ]
      refine wpAnyH_take (i := 14) (oi := _) (v := ?_) rfl (by kernel_rfl) (by kernel_rfl) (by kernel_rfl) (fun _ _ _ h => h) (Or.inl ⟨by rfl, ?_⟩) hS.out ?_
      rotate_left
      · intro w1 hSw
        replace hSw : w1.heap[R]? = some (.cells #[.slice (some ⟨b, off, none⟩) n c, .func (.func 56) #[] #[.pointer (some ⟨Bw, 0, none⟩)]] 71) ∧ w1.heap[Q]? = some (.cells #[.int .i64 dr, .int .i64 sz, .int .i64 dg, .int .i64 lo, .int .i64 hi, .bool true] 88) ∧ w1.heap[Y]? = some (.cells #[.int .i64 lo, .int .i64 hi] 45) ∧ w1.cell? ⟨b, off + dr.toNat, none⟩ = some (.int .i64 f) ∧ w1.cell? ⟨Bw, 0, none⟩ = some (.int .i64 wi) ∧ w1.heap[O]? = some (.cells #[.int .i64 0, .int .i64 0, .int .i64 0, .int .i64 0, .int .i64 0, .bool false] 88) := hSw
        obtain ⟨s1, s2, s3, s4, s5, s6⟩ := hSw
        obtain ⟨r0, r1⟩ := two_cells s1
        obtain ⟨q0, q1, q2, q3, q4, q5⟩ := six_cells s2
        obtain ⟨p0, p1⟩ := two_cells s3
        clear s1 s2 s3
        go_simp; with_reducible rfl
      simp only [List.getElem_toArray, List.getElem_cons_succ, List.getElem_cons_zero, Act.put, List.setIfInBounds_toArray, List.set_cons_zero, List.set_cons_succ]
      refine wpAnyH_take (i := 15) (oi := _) (v := ?_) rfl (by kernel_rfl) (by kernel_rfl) (by kernel_rfl) (fun _ _ _ h => h) (Or.inl ⟨by rfl, ?_⟩) hS.out ?_
      rotate_left
      · intro w1 hSw
        replace hSw : w1.heap[R]? = some (.cells #[.slice (some ⟨b, off, none⟩) n c, .func (.func 56) #[] #[.pointer (some ⟨Bw, 0, none⟩)]] 71) ∧ w1.heap[Q]? = some (.cells #[.int .i64 dr, .int .i64 sz, .int .i64 dg, .int .i64 lo, .int .i64 hi, .bool true] 88) ∧ w1.heap[Y]? = some (.cells #[.int .i64 lo, .int .i64 hi] 45) ∧ w1.cell? ⟨b, off + dr.toNat, none⟩ = some (.int .i64 f) ∧ w1.cell? ⟨Bw, 0, none⟩ = some (.int .i64 wi) ∧ w1.heap[O]? = some (.cells #[.int .i64 0, .int .i64 0, .int .i64 0, .int .i64 0, .int .i64 0, .bool false] 88) := hSw
        obtain ⟨s1, s2, s3, s4, s5, s6⟩ := hSw
        obtain ⟨r0, r1⟩ := two_cells s1
        obtain ⟨q0, q1, q2, q3, q4, q5⟩ := six_cells s2
        obtain ⟨p0, p1⟩ := two_cells s3
        clear s1 s2 s3
        go_simp; with_reducible rfl
      simp only [List.getElem_toArray, List.getElem_cons_succ, List.getElem_cons_zero, Act.put, List.setIfInBounds_toArray, List.set_cons_zero, List.set_cons_succ]
      obtain ⟨u0, u1⟩ := two_cells hP.out
      have uf := frozen_of hP.out
      refine wpAnyH_all (rs := [17]) (by kernel_rfl) (by simp) ?_
      intro i hi; obtain rfl := List.mem_singleton.1 hi; clear hi
      refine wpOp_step rfl (fun K3 hK3 => ?_)
      have HK3 := Lib.hid hK3
      clear hK3
      rw [if_pos (by rfl)]
      go_simp
      obtain ⟨xe, hxe⟩ : ∃ Z, Z = (x8.setCell ⟨P, 0, none⟩ (.int .i64 (K.getD (0, 0)).1)).setCell ⟨P, 1, none⟩ (.int .i64 (K.getD (0, 0)).2) := ⟨_, rfl⟩
      have hP2 := Lib.hid (show xe.heap[P]? = some (.cells #[.int .i64 (K.getD (0, 0)).1, .int .i64 (K.getD (0, 0)).2] 45 (0, 0)) by rw [hxe]; exact set_two hP.out)
      have hoth : ∀ k, k ≠ P → xe.heap[k]? = x8.heap[k]? := fun k hk => by rw [hxe]; exact (Below.heap_setCell _ _ _ k (fun e => hk (by rw [e]))).trans (Below.heap_setCell _ _ _ k (fun e => hk (by rw [e])))
      have hbE : Below w.heap.size w xe := by rw [hxe]; exact (hbX.setCell (p := ⟨P, 0, none⟩) hPn.2 _).setCell (p := ⟨P, 1, none⟩) hPn.2 _
      have hS2 : RowKit.Hid (xe.heap[R]? = some (.cells #[.slice (some ⟨b, off, none⟩) n c, .func (.func 56) #[] #[.pointer (some ⟨Bw, 0, none⟩)]] 71) ∧ xe.heap[Q]? = some (.cells #[.int .i64 dr, .int .i64 sz, .int .i64 dg, .int .i64 lo, .int .i64 hi, .bool true] 88) ∧ xe.heap[Y]? = some (.cells #[.int .i64 lo, .int .i64 hi] 45) ∧ xe.cell? ⟨b, off + dr.toNat, none⟩ = some (.int .i64 f) ∧ xe.cell? ⟨Bw, 0, none⟩ = some (.int .i64 wi) ∧ xe.heap[O]? = some (.cells #[.int .i64 0, .int .i64 0, .int .i64 0, .int .i64 0, .int .i64 0, .bool false] 88)) := Lib.hid (by
        obtain ⟨s1, s2, s3, s4, s5, s6⟩ := hS.out
        obtain ⟨⟨n1, n2, n3, n4, n5, n6⟩, n7⟩ := hPn
        exact ⟨(hoth _ n1.symm).trans s1, (hoth _ n2.symm).trans s2, (hoth _ n3.symm).trans s3, (by simpa [World.cell?, hoth b n5.symm] using s4), (by simpa [World.cell?, hoth Bw n6.symm] using s5), (hoth _ n4.symm).trans s6⟩)
      rw [← hxe]
      clear hxe hoth u0 u1 uf hP hbX
      refine HK3.out _ _ ⟨hS2.out, ?_⟩
      clear HK3 K3
      try simp only [List.getElem_toArray, List.getElem_cons_succ, List.getElem_cons_zero, Act.put, List.setIfInBounds_toArray, List.set_cons_zero, List.set_cons_succ]
      refine wpAnyH_take (i := 18) (oi := _) (v := ?_) rfl (by kernel_rfl) (by kernel_rfl) (by kernel_rfl) (fun _ _ _ h => h) (Or.inl ⟨by rfl, ?_⟩) hS2.out ?_
      rotate_left
      · intro w1 hSw
        replace hSw : w1.heap[R]? = some (.cells #[.slice (some ⟨b, off, none⟩) n c, .func (.func 56) #[] #[.pointer (some ⟨Bw, 0, none⟩)]] 71) ∧ w1.heap[Q]? = some (.cells #[.int .i64 dr, .int .i64 sz, .int .i64 dg, .int .i64 lo, .int .i64 hi, .bool true] 88) ∧ w1.heap[Y]? = some (.cells #[.int .i64 lo, .int .i64 hi] 45) ∧ w1.cell? ⟨b, off + dr.toNat, none⟩ = some (.int .i64 f) ∧ w1.cell? ⟨Bw, 0, none⟩ = some (.int .i64 wi) ∧ w1.heap[O]? = some (.cells #[.int .i64 0, .int .i64 0, .int .i64 0, .int .i64 0, .int .i64 0, .bool false] 88) := hSw
        obtain ⟨s1, s2, s3, s4, s5, s6⟩ := hSw
        obtain ⟨r0, r1⟩ := two_cells s1
        obtain ⟨q0, q1, q2, q3, q4, q5⟩ := six_cells s2
        obtain ⟨p0, p1⟩ := two_cells s3
        clear s1 s2 s3
        go_simp; with_reducible rfl
      simp only [List.getElem_toArray, List.getElem_cons_succ, List.getElem_cons_zero, Act.put, List.setIfInBounds_toArray, List.set_cons_zero, List.set_cons_succ]
      refine wpAnyH_done (by kernel_rfl) ?_ _
      go_wp2_with fail
      go_meet
      exact ⟨P, rfl, rfl, hPn.1.2.1, hPn.1.2.2.2.1, hPn.2, hP2.out, hS2.out.2.1, hS2.out.2.2.2.2.2, hbE⟩
  case rest =>
  obtain ⟨P, rfl, rfl, hPQ, hPO, hPw, hP, hQb, hOb, hbA⟩ := hcut
  rename_i wA
  obtain ⟨u0, u1⟩ := two_cells hP
  obtain ⟨q0, q1, q2, q3, q4, q5⟩ := six_cells hQb
  obtain ⟨o0, o1, o2, o3, o4, o5⟩ := six_cells hOb
  have fP := frozen_of hP
  have fQ := frozen_of hQb
  have fO := frozen_of hOb
  have hQw : w.heap.size ≤ Q := by have := HQ.out; have := HRe.out; omega
  have hOw : w.heap.size ≤ O := by have := HO.out; have := HRe.out; omega
  have hQO : Q ≠ O := by have := HO.out; have := HQ.out; omega
  clear gR gQ gO gY gf gB hbw
  cases K with
  | none =>
    have H := Lib.hid (show Z = none from HZ.out)
    go_wp2
    refine bodyPost_ret (v := .tuple #[.agg #[.int .i64 0, .int .i64 0, .int .i64 0, .int .i64 0, .int .i64 0, .bool false], .bool false]) (by simp [results, Try.results66, go_sem, o0, o1, o2, o3, o4, o5]) rfl ⟨by rw [H.out]; rfl, ?_⟩
    repeat (first | with_reducible exact hbA | refine Below.setCell ?_ (by simp; try omega) _)
  | some p =>
    obtain ⟨a, bb⟩ := p
    obtain ⟨n1, n2, n3, n4⟩ := hns.out
    have H := Lib.hid (show Z = some _ from HZ.out)
    have hp0 : 0 ≤ d * sz := Int.mul_nonneg hd.1 hsz.1
    have hp1 : d * sz ≤ 9 * 100000000000 := Int.mul_le_mul hd.2 hsz.2 hsz.1 (by decide)
    clear n4
    have hw64 : wrap64 (d * sz) = d * sz := by unfold wrap64; omega
    go_wp2_with fail
    refine (shift_any a bb (-d * 1000) _ (by omega) (by omega) (by omega)).mono ?_
    rintro e w5 ⟨rfl, hy5⟩
    have hQ5 := (hy5.block Q (Array.getElem?_eq_some_iff.1 hQb).1).trans hQb
    have hO5 := (hy5.block O (Array.getElem?_eq_some_iff.1 hOb).1).trans hOb
    have hbA5 := hbA.trans (hy5.mono hbA.size)
    clear u0 u1 q0 q1 q2 q3 q4 q5 o0 o1 o2 o3 o4 o5 fP fQ fO hy5
    obtain ⟨q0, q1, q2, q3, q4, q5⟩ := six_cells hQ5
    obtain ⟨o0, o1, o2, o3, o4, o5⟩ := six_cells hO5
    have fQ := frozen_of hQ5
    have fO := frozen_of hO5
    by_cases h9 : d = 9
    · have H2 := Lib.hid (show Z = some ⟨dr + 1, sz * 10, dg + d * sz, a + -d * 1000, bb + -d * 1000, true⟩ by rw [H.out]; simp [h9])
      have h9' : (d == 9) = true := by simpa using h9
      clear h9
      go_wp2
      refine bodyPost_ret (v := .tuple #[.agg #[.int .i64 (dr + 1), .int .i64 (sz * 10), .int .i64 (dg + d * sz), .int .i64 (a + -d * 1000), .int .i64 (bb + -d * 1000), .bool true], .bool true]) (by simp [results, Try.results66, go_sem, o0, o1, o2, o3, o4, o5]) rfl ⟨by rw [H2.out]; rfl, ?_⟩
      repeat (first | with_reducible exact hbA5 | refine Below.setCell ?_ (by simp; try omega) _)
    · have H2 := Lib.hid (show Z = some ⟨dr + 1, sz * 10, dg + d * sz, a + -d * 1000, bb + -d * 1000, false⟩ by rw [H.out]; simp [h9])
      have h9' : (d == 9) = false := by simpa using h9
      clear h9
      go_wp2
      refine bodyPost_ret (v := .tuple #[.agg #[.int .i64 (dr + 1), .int .i64 (sz * 10), .int .i64 (dg + d * sz), .int .i64 (a + -d * 1000), .int .i64 (bb + -d * 1000), .bool false], .bool true]) (by simp [results, Try.results66, go_sem, o0, o1, o2, o3, o4, o5]) rfl ⟨by rw [H2.out]; rfl, ?_⟩
      repeat (first | with_reducible exact hbA5 | refine Below.setCell ?_ (by simp; try omega) _)
end Go.Proofs.Ytmcndecmnfbggaa
