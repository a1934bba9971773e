/- Contracts of the document: Within, Fits, Figures. -/
import Derived.Test.YtmcndecmnfbggaaD31
import Derived.Outline
namespace Go.Proofs.Ytmcndecmnfbggaa
set_option linter.unusedSimpArgs false
set_option linter.unusedVariables false
open Go.RowKit

theorem withinP_in (p f w : Int) : withinP p f w = (inB (p - 1000 * f) (-w) w || inB (p - 1000 * f - 10000) (-w) w) := by
  unfold withinP inB
  simp only [Bool.decide_and]
set_option maxHeartbeats 1600000 in
theorem within_any (p f wi : Int) (w : World) (hp : 0 ≤ p ∧ p ≤ 9999) (hf : 0 ≤ f ∧ f ≤ 9) (hw : 0 ≤ wi ∧ wi ≤ 999) : Calls Try.prog 22 #[.int .i64 p, .int .i64 f, .int .i64 wi] w fun e w' => e = .returned (.bool (withinP p f wi)) ∧ w' = w := by
  have h := withinP_in p f wi
  obtain ⟨A, hA⟩ : ∃ A, inB (p - 1000 * f) (-wi) wi = A := ⟨_, rfl⟩
  obtain ⟨B, hB⟩ : ∃ A, inB (p - 1000 * f - 10000) (-wi) wi = A := ⟨_, rfl⟩
  obtain ⟨R, hR⟩ : ∃ A, withinP p f wi = A := ⟨_, rfl⟩
  rw [hA, hB, hR] at h
  rw [hR]
  have I1 := fun X => in_any (p - 1000 * f) (-wi) wi X
  have I2 := fun X => in_any (p - 1000 * f - 10000) (-wi) wi X
  rw [hA] at I1
  rw [hB] at I2
  have H := Lib.hid h
  have J1 := Lib.hid I1
  have J2 := Lib.hid I2
  obtain ⟨hp0, hp1⟩ := hp
  obtain ⟨hf0, hf1⟩ := hf
  obtain ⟨hw0, hw1⟩ := hw
  clear hA hB hR I1 I2 h
  go_enter Try.func22, Try.ntmps22
  cases A with
  | true =>
    go_wp2_with fail
    refine (J1.out _).mono ?_
    rintro e w1 ⟨rfl, rfl⟩
    go_wp2
    go_ret
    exact ⟨by rw [H.out]; rfl, rfl⟩
  | false =>
    go_wp2_with fail
    refine (J1.out _).mono ?_
    rintro e w1 ⟨rfl, rfl⟩
    go_wp2_with fail
    refine (J2.out _).mono ?_
    rintro e w1 ⟨rfl, rfl⟩
    go_wp2
    go_ret
    exact ⟨by rw [H.out]; rfl, rfl⟩
theorem place_same (t : Int) (h0 : 0 ≤ t) (h1 : t ≤ 1000000000) (k : Nat) (hk : k ≤ 5) (w : World) : Calls Try.prog 39 #[.int .i64 t, .int .i64 k] w fun e w' => e = .returned (.int .i64 (plc t k)) ∧ w' = w :=
  (refPlace_any t h0 h1 k hk w).mono fun _ _ ⟨h, e⟩ => ⟨h, e.symm⟩
def fitsB (figs : List Int) (t wi : Int) : Bool := (List.range figs.length).all fun k => withinP (plc t k) (figs.getD k 0) wi
theorem fitsB_iff (figs : List Int) (t wi : Int) : fitsB figs t wi = true ↔ FitsP figs t wi := by
  unfold fitsB FitsP
  simp only [List.all_eq_true, List.mem_range]
set_option maxRecDepth 100000 in
set_option maxHeartbeats 3200000 in
theorem fits_any (figs : List Int) (t wi : Int) (v : Value) (w : World) (hl : IntsAt w v figs) (h6 : figs.length ≤ 6) (h9 : ∀ k, k < figs.length → 0 ≤ figs.getD k 0 ∧ figs.getD k 0 ≤ 9) (ht : 0 ≤ t ∧ t ≤ 1000000000) (hw : 0 ≤ wi ∧ wi ≤ 999) :
    Calls Try.prog 21 #[v, .int .i64 t, .int .i64 wi] w fun e w' => e = .returned (.bool (fitsB figs t wi)) ∧ Below w.heap.size w w' := by
  obtain ⟨a, c, rfl⟩ := hl.shape
  have hlm : figs.length ≤ 9223372036854775807 := hl.1
  obtain ⟨S, hS⟩ : ∃ S, fitsB figs t wi = S := ⟨_, rfl⟩
  rw [hS]
  have HS := Lib.hid hS
  have H9 := Lib.hid h9
  obtain ⟨ht0, ht1⟩ := ht
  clear hS h9
  go_enter Try.func21, Try.ntmps21
  go_wp2
  go_loopw [7] (fun i wr => ∃ k : Nat, k ≤ figs.length ∧ i = .int .i64 k ∧ Below w.heap.size w wr ∧ ∀ j, j < k → withinP (plc t j) (figs.getD j 0) wi = true) (fun i _ => figs.length - (intOf i).toNat)
  case atStart => exact ⟨0, by omega, rfl, Below.refl _ _, fun j hj => by omega⟩
  case round =>
    obtain ⟨k, hk, rfl, hb, hj⟩ := hrel
    have HJ := Lib.hid hj
    clear hj
    by_cases hlt : k < figs.length
    · obtain ⟨b1, off1, e1, l1, hc1⟩ := (hl.below hb).at (by omega)
      subst e1
      have c1 := hc1 k hlt
      have hx9 := H9.out k hlt
      obtain ⟨x, hx⟩ : ∃ x, figs.getD k 0 = x := ⟨_, rfl⟩
      rw [hx] at c1 hx9
      have i0 : (0 : Int) ≤ (k : Int) := by omega
      have i1 : (k : Int) < (figs.length : Int) := by omega
      obtain ⟨P, hP⟩ : ∃ P, plc t k = P := ⟨_, rfl⟩
      have hPb := plc_bd t k
      obtain ⟨R, hR⟩ : ∃ R, withinP P x wi = R := ⟨_, rfl⟩
      have q1 := fun X => place_same t ht0 ht1 k (by omega) X
      rw [hP] at q1 hPb
      have q2 := fun X => within_any P x wi X hPb hx9 hw
      rw [hR] at q2
      have Q1 := Lib.hid q1
      have Q2 := Lib.hid q2
      have HR := Lib.hid (show withinP (plc t k) (figs.getD k 0) wi = R by rw [hP, hx, hR])
      clear hx hP hR hc1 q1 q2 hPb hx9
      cases R with
      | true =>
        have hs : ∀ j, j < k + 1 → withinP (plc t j) (figs.getD j 0) wi = true := fun j hj => by
          by_cases e : j = k
          · rw [e, HR.out]
          · exact HJ.out j (by omega)
        have HS2 := Lib.hid hs
        clear hs
        go_wp2_with fail
        go_quiet (first | (go_at_call 39; exact Calls.quiet_of_same (Q1.out _)) | (go_at_call 22; exact Calls.quiet_of_same (Q2.out _)))
        go_wp2
        go_roundw
        case rel => exact ⟨k + 1, by omega, by go_num, below_drewN' hb _, HS2.out⟩
        case measure => simp [intOf]; omega
      | false =>
        have H := Lib.hid (show S = false by
          rw [← HS.out]; unfold fitsB
          rw [List.all_eq_false]
          exact ⟨k, List.mem_range.2 hlt, by rw [HR.out]; simp⟩)
        go_wp2_with fail
        go_quiet (first | (go_at_call 39; exact Calls.quiet_of_same (Q1.out _)) | (go_at_call 22; exact Calls.quiet_of_same (Q2.out _)))
        go_wp2
        go_ret
        exact ⟨by rw [H.out]; rfl, below_drewN' hb _⟩
    · obtain rfl : k = figs.length := by omega
      have i1 : ¬ (figs.length : Int) < (figs.length : Int) := by omega
      have H := Lib.hid (show S = true by
        rw [← HS.out]; unfold fitsB
        rw [List.all_eq_true]
        exact fun j hj => HJ.out j (List.mem_range.1 hj))
      go_wp2
      go_ret
      exact ⟨by rw [H.out]; rfl, hb⟩
theorem inB_eq (n lo hi : Int) : inB n lo hi = decide (lo ≤ n ∧ n ≤ hi) := rfl
set_option maxRecDepth 100000 in
set_option maxHeartbeats 1600000 in
theorem refFigures_any (l : List Int) (v : Value) (w : World) (hl : IntsAt w v l) : Calls Try.prog 23 #[v] w fun e w' => e = .returned (.bool (figsB l)) ∧ w = w' := by
  obtain ⟨a, c, rfl⟩ := hl.shape
  have hlm : l.length ≤ 9223372036854775807 := hl.1
  obtain ⟨F, hF⟩ : ∃ F, figsB l = F := ⟨_, rfl⟩
  rw [hF]
  have HF := Lib.hid hF
  clear hF
  go_enter Try.func23, Try.ntmps23
  go_wp2
  go_loopw [3] (fun c wr => ∃ k : Nat, k ≤ l.length ∧ c = .int .i64 k ∧ (l.take k).all (fun f => decide (0 ≤ f ∧ f ≤ 9)) = true ∧ wr = w) (fun c _ => l.length - (intOf c).toNat)
  case atStart => exact ⟨0, by omega, rfl, rfl, rfl⟩
  case round =>
    obtain ⟨k, hk, rfl, hno, rfl⟩ := hrel
    have HNO := Lib.hid hno
    clear hno
    by_cases hlt : k < l.length
    · obtain ⟨b, off, e0, _, hc⟩ := hl.at (by omega)
      subst e0
      have c0 := hc k hlt
      obtain ⟨x, hx⟩ : ∃ x, l.getD k 0 = x := ⟨_, rfl⟩
      rw [hx] at c0
      have hs : (l.take (k + 1)).all (fun f => decide (0 ≤ f ∧ f ≤ 9)) = ((l.take k).all (fun f => decide (0 ≤ f ∧ f ≤ 9)) && decide (0 ≤ x ∧ x ≤ 9)) := by
        rw [List.take_succ_eq_append_getElem hlt, List.all_append]
        simp [← hx, List.getD, hlt]
      have i0 : (0 : Int) ≤ (k : Int) := by omega
      have i1 : (k : Int) < (l.length : Int) := by omega
      have hI := fun X => in_any x 0 9 X
      obtain ⟨R, hR⟩ : ∃ R, inB x 0 9 = R := ⟨_, rfl⟩
      rw [hR] at hI
      have HI := Lib.hid hI
      have HR := Lib.hid hR
      have hs2 := Lib.hid (show (l.take (k + 1)).all (fun f => decide (0 ≤ f ∧ f ≤ 9)) = R by rw [hs, HNO.out, Bool.true_and]; exact hR)
      clear hx hc hs hI hR
      cases R with
      | true =>
        go_wp2_with fail
        refine (HI.out _).mono ?_
        rintro e w1 ⟨rfl, rfl⟩
        go_wp2
        go_roundw
        case rel => exact ⟨k + 1, by omega, by go_num, hs2.out, by simp⟩
        case measure => simp [intOf]; omega
      | false =>
        have H := Lib.hid (show F = false by
          rw [← HF.out]; unfold figsB
          rw [Bool.and_eq_false_iff]; right
          have := hs2.out
          rw [List.all_eq_false] at this ⊢
          obtain ⟨y, hy, h⟩ := this
          exact ⟨y, List.mem_of_mem_take hy, h⟩)
        go_wp2_with fail
        refine (HI.out _).mono ?_
        rintro e w1 ⟨rfl, rfl⟩
        go_wp2
        go_ret
        exact ⟨by rw [H.out]; rfl, by simp⟩
    · obtain rfl : k = l.length := by omega
      rw [List.take_length] at HNO
      have i1 : ¬ (l.length : Int) < (l.length : Int) := by omega
      have H := Lib.hid (show F = inB (l.length : Int) 1 6 by
        rw [← HF.out]; unfold figsB inB
        rw [HNO.out, Bool.and_true]
        congr 1; apply propext; omega)
      go_wp2_with fail
      refine (in_any _ _ _ _).mono ?_
      rintro e w1 ⟨rfl, rfl⟩
      go_wp2
      go_ret
      exact ⟨by rw [H.out]; rfl, by simp⟩
end Go.Proofs.Ytmcndecmnfbggaa
