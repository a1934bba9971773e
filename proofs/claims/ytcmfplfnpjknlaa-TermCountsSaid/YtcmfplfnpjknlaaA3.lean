/- Term: contract of isProof. -/
import Derived.Test.YtcmfplfnpjknlaaA2
namespace Go.Proofs.Ytcmfplfnpjknlaa
set_option linter.unusedSimpArgs false
set_option linter.unusedVariables false
open Go.RowKit

set_option maxHeartbeats 3200000 in
theorem isProof_any (n : Int) (p : Prf) (sv : Value) (w : World) (h0 : 0 ≤ n) (h1 : n ≤ 1000) (hs : TabAt 1 numC w sv p.seals) : Calls Try.prog 50 #[.agg #[.int .i64 p.cls, .int .i64 p.day, sv, .int .i64 p.failed], .int .i64 n] w fun e w' => e = .returned (.bool (prfOk n p)) ∧ Below w.heap.size w w' := by
  obtain ⟨cls, day, seals, failed⟩ := p
  simp only [] at hs
  obtain ⟨va, vc, rfl⟩ := hs.shape
  have hlm : seals.length ≤ 9223372036854775807 := hs.1
  obtain ⟨W0, hW0⟩ : ∃ X, X = w.alloc (.cells #[.int .i64 cls, .int .i64 day, .slice va seals.length vc, .int .i64 failed] 52) := ⟨_, rfl⟩
  have hb0 : Below w.heap.size w W0 := by rw [hW0]; exact (Below.refl _ _).alloc (Nat.le_refl _) _
  have hr0 : W0.heap[w.heap.size]? = some (.cells #[.int .i64 cls, .int .i64 day, .slice va seals.length vc, .int .i64 failed] 52 (0, 0)) := by rw [hW0]; exact alloc_heap w _
  obtain ⟨P, hP⟩ : ∃ P, w.heap.size = P := ⟨_, rfl⟩
  rw [hP] at hr0
  obtain ⟨d0, d1, d2, d3⟩ := four_cells hr0
  have HB := Lib.hid hb0
  have hs0 := Lib.hid (hs.below hb0)
  clear hr0 hb0 hs
  have f1 := fun X => isFrom_any seals.length 1 20 X
  have f4 := fun X => isFrom_any cls 0 (n - 1) X
  have f5 := fun X => isDay_any day X
  have f6 := fun X => isFrom_any failed 0 (2 ^ seals.length - 1) X
  obtain ⟨R, hR⟩ : ∃ R, prfOk n ⟨cls, day, seals, failed⟩ = R := ⟨_, rfl⟩
  rw [hR]
  unfold prfOk at hR
  simp only [] at hR
  by_cases h20 : 1 ≤ seals.length ∧ seals.length ≤ 20
  · obtain ⟨h20a, h20b⟩ := h20
    have e1 : inF seals.length 1 20 = true := inF_iff.2 ⟨by omega, by omega⟩
    rw [e1] at f1 hR
    have F1 := Lib.hid f1
    have F4 := Lib.hid f4
    have F5 := Lib.hid f5
    have F6 := Lib.hid f6
    have HR := Lib.hid hR
    clear f1 f4 f5 f6 hR e1
    have q0 : ((seals.length : Nat) : Int) = ((seals.length : Nat) : Int) := rfl
    go_enter Try.func50, Try.ntmps50
    go_upto_region 1 with fail
    rw [← hW0]
    clear hW0 hP
    go_wp2_with (go_at_call 39; (with_reducible refine (F1.out _).mono ?_); rintro e w' ⟨rfl, rfl⟩)
    go_loop [15] (fun i => ∃ j : Nat, j ≤ seals.length ∧ i = .int .i64 j ∧ (seals.take j).all (fun s => inF s 1 1000000) = true) (fun i => seals.length - (intOf i).toNat)
    case atStart => exact ⟨0, by omega, rfl, rfl⟩
    case round =>
      obtain ⟨j, hj, rfl, hall⟩ := hrel
      by_cases hlt : j < seals.length
      · obtain ⟨bb, off, e1, hlb, hc⟩ := hs0.out.at (by omega)
        subst e1
        have g0 := hc j hlt 0 (by omega)
        simp only [Nat.add_zero, Nat.mul_one, numC] at g0
        obtain ⟨x, hx⟩ : ∃ x, seals.getD j default = x := ⟨_, rfl⟩
        rw [hx] at g0
        have hst : (seals.take (j + 1)).all (fun s => inF s 1 1000000) = inF x 1 1000000 := by
          rw [List.take_succ_eq_append_getElem hlt, List.all_append, hall]
          simp [← hx, List.getD, hlt]
        have g1 := fun X => isSeal_any x X
        obtain ⟨b, hb⟩ : ∃ b, inF x 1 1000000 = b := ⟨_, rfl⟩
        rw [hb] at g1 hst
        have G1 := Lib.hid g1
        have HS := Lib.hid hst
        have ij1 : (j : Int) < (seals.length : Int) := by omega
        clear g1 hst hb hx hall hc
        cases b with
        | false =>
          have hf : R = false := by
            rw [← HR.out]
            have : seals.all (fun s => inF s 1 1000000) = false := by
              have h1 := HS.out
              rw [List.all_eq_false] at h1 ⊢
              obtain ⟨y, hy, h⟩ := h1
              exact ⟨y, List.mem_of_mem_take hy, h⟩
            rw [this]; simp
          subst hf
          go_wp2_with (go_at_call 51; (with_reducible refine (G1.out _).mono ?_); rintro e w' ⟨rfl, rfl⟩)
          go_ret
          exact ⟨rfl, HB.out⟩
        | true =>
          go_wp2_with (go_at_call 51; (with_reducible refine (G1.out _).mono ?_); rintro e w' ⟨rfl, rfl⟩)
          go_round
          case rel => exact ⟨j + 1, by omega, by go_num, HS.out⟩
          case measure => simp [intOf]; omega
      · have hjl : j = seals.length := by omega
        have hr := HR.out
        rw [show seals.all (fun s => inF s 1 1000000) = true by rw [← hall, hjl, List.take_length]] at hr
        simp only [Bool.true_and] at hr
        have HR2 := Lib.hid hr
        have i1 : ¬ (j : Int) < (seals.length : Int) := by omega
        clear hall hjl hr HR
        obtain ⟨b4, e4⟩ : ∃ x, inF cls 0 (n - 1) = x := ⟨_, rfl⟩
        obtain ⟨b5, e5⟩ : ∃ x, inF day 0 131072 = x := ⟨_, rfl⟩
        obtain ⟨b6, e6⟩ : ∃ x, inF failed 0 (2 ^ seals.length - 1) = x := ⟨_, rfl⟩
        have g4 := F4.out
        have g5 := F5.out
        have g6 := F6.out
        have hr := HR2.out
        rw [e4] at g4 hr
        rw [e5] at g5 hr
        rw [e6] at g6 hr
        have G4 := Lib.hid g4
        have G5 := Lib.hid g5
        have G6 := Lib.hid g6
        clear g4 g5 g6 e4 e5 e6 F1 F4 F5 F6 HR2 hs0
        cases b4 with
        | false =>
          simp only [Bool.false_and] at hr
          subst hr
          have ew : IntKind.i64.wrap (n - 1) = n - 1 := IntWalk.i64_in _ (by omega)
          go_wp2
          go_quiet ((go_at_call 39; with_reducible exact Calls.quiet_of_same ((G4.out _).mono fun _ _ ⟨a, b⟩ => ⟨a, b.symm⟩)))
          go_wp2
          go_ret
          exact ⟨rfl, below_drewn HB.out _⟩
        | true =>
          simp only [Bool.true_and] at hr
          have ew : IntKind.i64.wrap (n - 1) = n - 1 := IntWalk.i64_in _ (by omega)
          cases b5 with
          | false =>
            simp only [Bool.false_and] at hr
            subst hr
            go_wp2
            go_quiet (first | (go_at_call 39; with_reducible exact Calls.quiet_of_same ((G4.out _).mono fun _ _ ⟨a, b⟩ => ⟨a, b.symm⟩)) | (go_at_call 25; exact Calls.quiet_of_same ((G5.out _).mono fun _ _ ⟨a, b⟩ => ⟨a, b.symm⟩)))
            go_wp2
            go_ret
            exact ⟨rfl, below_drewn HB.out _⟩
          | true =>
            simp only [Bool.true_and] at hr
            subst hr
            have p1 : (2 : Int) ^ seals.length ≤ 2 ^ 20 := by
              have := Nat.pow_le_pow_right (n := 2) (by omega) h20b
              exact_mod_cast this
            have p0 : (0 : Int) < 2 ^ seals.length := by
              have := Nat.pow_pos (a := 2) (n := seals.length) (by omega)
              exact_mod_cast this
            have ew1 : IntKind.i64.wrap (2 ^ seals.length) = 2 ^ seals.length := IntWalk.i64_in _ (by omega)
            have ew2 : IntKind.i64.wrap (2 ^ seals.length - 1) = 2 ^ seals.length - 1 := IntWalk.i64_in _ (by omega)
            clear p0 p1
            go_wp2
            go_quiet (first | (go_at_call 39; with_reducible exact Calls.quiet_of_same ((G4.out _).mono fun _ _ ⟨a, b⟩ => ⟨a, b.symm⟩)) | (go_at_call 25; exact Calls.quiet_of_same ((G5.out _).mono fun _ _ ⟨a, b⟩ => ⟨a, b.symm⟩)) | (go_at_call 39; with_reducible exact Calls.quiet_of_same ((G6.out _).mono fun _ _ ⟨a, b⟩ => ⟨a, b.symm⟩)))
            go_wp2
            go_ret
            exact ⟨rfl, below_drewn HB.out _⟩
  · have e1 : inF seals.length 1 20 = false := by
      cases hq : inF seals.length 1 20 with
      | false => rfl
      | true => exact absurd (inF_iff.1 hq) (by omega)
    rw [e1] at f1 hR
    simp only [Bool.false_and] at hR
    subst hR
    have F1 := Lib.hid f1
    clear f1 f4 f5 f6 e1 h20
    go_enter Try.func50, Try.ntmps50
    go_upto_region 1 with fail
    rw [← hW0]
    clear hW0 hP
    go_wp2_with (go_at_call 39; (with_reducible refine (F1.out _).mono ?_); rintro e w' ⟨rfl, rfl⟩)
    go_ret
    exact ⟨rfl, HB.out⟩
end Go.Proofs.Ytcmfplfnpjknlaa
