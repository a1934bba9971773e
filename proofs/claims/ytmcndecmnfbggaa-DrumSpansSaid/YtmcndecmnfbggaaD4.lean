/- Contracts: the total after runs; the document's registers and errors. -/
import Derived.Test.YtmcndecmnfbggaaD3
import Derived.MapKept
namespace Go.Proofs.Ytmcndecmnfbggaa
set_option linter.unusedSimpArgs false
open Go.RowKit

/-- all runs together -/
theorem sum_take (l : List Int) (k : Nat) (hk : k < l.length) : (l.take (k + 1)).sum = (l.take k).sum + l.getD k 0 := by
  rw [List.take_succ_eq_append_getElem hk, List.sum_append]; simp [List.getD, hk]
theorem runs_bd (l : List Int) (h : l.any runBad = false) : ∀ k, k < l.length → -1099511627776 ≤ l.getD k 0 ∧ l.getD k 0 ≤ 1099511627776 := by
  intro k hk
  have hm : l.getD k 0 ∈ l := by simp [List.getD, hk]
  have := List.any_eq_false.1 h _ hm
  simp only [runBad, Bool.or_eq_true, decide_eq_true_eq] at this
  omega
theorem sum_bd (l : List Int) (h : l.any runBad = false) : ∀ k, k ≤ l.length → -1099511627776 * (k : Int) ≤ (l.take k).sum ∧ (l.take k).sum ≤ 1099511627776 * (k : Int)
  | 0, _ => by simp
  | k + 1, hk => by
    have ih := sum_bd l h k (by omega)
    have hr := runs_bd l h k (by omega)
    rw [sum_take l k (by omega)]; omega
def totalP (d s : Int) (l : List Int) : Int := (s + l.sum) % turnP d
set_option maxRecDepth 100000 in
set_option maxHeartbeats 1600000 in
theorem totalAfter_any (d s : Int) (l : List Int) (v : Value) (w : World) (hl : IntsAt w v l) (hd : 1 ≤ d ∧ d ≤ 6) (hs : 0 ≤ s ∧ s ≤ 1000000000) (h32 : l.length ≤ 32) (hb : l.any runBad = false) :
    Calls Try.prog 35 #[.agg #[.int .i64 d, .int .i64 s], v] w fun e w' => e = .returned (.int .i64 (totalP d s l)) ∧ Below w.heap.size w w' := by
  obtain ⟨a, c, rfl⟩ := hl.shape
  obtain ⟨W0, hW0⟩ : ∃ X, X = w.alloc (.cells #[.int .i64 d, .int .i64 s] 23) := ⟨_, rfl⟩
  have hb0 : Below w.heap.size w W0 := by rw [hW0]; exact (Below.refl _ _).alloc (Nat.le_refl _) _
  have hr0 : W0.heap[w.heap.size]? = some (.cells #[.int .i64 d, .int .i64 s] 23 (0, 0)) := by rw [hW0]; exact (MapKept.heap_alloc w _).1
  obtain ⟨k0, k1⟩ := regcells hr0
  have hl1 := hl.below hb0
  have ht := turnOf_any d W0 hd.2
  have htb := turnP_bd d hd.2
  obtain ⟨T, hT⟩ : ∃ T, turnP d = T := ⟨_, rfl⟩
  have hP : totalP d s l = (s + l.sum) % T := by unfold totalP; rw [hT]
  rw [hT] at ht htb
  rw [hP]
  have HT := Lib.hid ht
  have HB := Lib.hid hb
  have sb := Lib.hid (sum_bd l hb)
  have rb := Lib.hid (runs_bd l hb)
  clear ht hT hP hb
  go_enter Try.func35, Try.ntmps35
  go_wp2_with fail
  rw [← hW0]
  clear hW0
  go_wp2_with fail
  go_loop [5, 12] (fun t c => ∃ k : Nat, k ≤ l.length ∧ c = .int .i64 k ∧ t = .int .i64 (s + (l.take k).sum)) (fun _ c => l.length - (intOf c).toNat)
  case atStart => exact ⟨0, by omega, rfl, by simp⟩
  case round =>
    obtain ⟨k, hk, rfl, rfl⟩ := hrel
    have b0 := sb.out k hk
    by_cases hlt : k < l.length
    · obtain ⟨b, off, e0, _, hc⟩ := hl1.at (by omega)
      subst e0
      have c0 := hc k hlt
      have b1 := rb.out k hlt
      have hst := sum_take l k hlt
      obtain ⟨x, hx⟩ : ∃ x, l.getD k 0 = x := ⟨_, rfl⟩
      obtain ⟨y, hy⟩ : ∃ y, (l.take k).sum = y := ⟨_, rfl⟩
      rw [hx] at c0 b1 hst
      rw [hy] at b0 hst ⊢
      have HST := Lib.hid hst
      have i0 : (0 : Int) ≤ (k : Int) := by omega
      have i1 : (k : Int) < (l.length : Int) := by omega
      clear hx hy hst hc
      go_wp2
      go_round
      case rel => exact ⟨k + 1, by omega, by go_num, by rw [HST.out]; congr 1; omega⟩
      case measure => simp [intOf]; omega
    · obtain rfl : k = l.length := by omega
      rw [List.take_length] at b0 ⊢
      have i1 : ¬ (l.length : Int) < (l.length : Int) := by omega
      obtain ⟨y, hy⟩ : ∃ y, l.sum = y := ⟨_, rfl⟩
      rw [hy] at b0 ⊢
      have HY := Lib.hid hy
      clear hy
      go_wp2_with fail
      refine HT.out.mono ?_
      rintro e w' ⟨rfl, rfl⟩
      go_wp2_with fail
      refine (modulo_any _ _ _ (by omega) (by omega)).mono ?_
      rintro e w' ⟨rfl, rfl⟩
      go_wp2
      go_ret
      exact ⟨ret_int (by rw [HY.out]), hb0⟩
theorem below_drewN' {B : Nat} {a w : World} (h : Below B a w) (n : Nat) : Below B a (w.drewN n) := ⟨h.os, h.tape, h.output, h.size, h.block⟩
theorem in_same (n lo hi : Int) (w : World) : Calls Try.prog 32 #[.int .i64 n, .int .i64 lo, .int .i64 hi] w fun e w' => e = .returned (.bool (inB n lo hi)) ∧ w' = w := (in_any n lo hi w).mono fun _ _ ⟨h, e⟩ => ⟨h, e.symm⟩
theorem refRegister_any (d s : Int) (w : World) : Calls Try.prog 20 #[.agg #[.int .i64 d, .int .i64 s]] w fun e w' => e = .returned (.bool (regB d s)) ∧ Below w.heap.size w w' := by
  have hbel : Below w.heap.size w (w.alloc (.cells #[.int .i64 d, .int .i64 s] 23)) := (Below.refl _ _).alloc (Nat.le_refl _) _
  obtain ⟨W0, hW0⟩ : ∃ X, X = w.alloc (.cells #[.int .i64 d, .int .i64 s] 23) := ⟨_, rfl⟩
  have hr0 : W0.heap[w.heap.size]? = some (.cells #[.int .i64 d, .int .i64 s] 23 (0, 0)) := by rw [hW0]; exact (MapKept.heap_alloc w _).1
  obtain ⟨k0, k1⟩ := regcells hr0
  by_cases h1 : 1 ≤ d ∧ d ≤ 6
  · have hin : inB d 1 6 = true := by simp [inB, h1]
    have htb := turnP_bd d h1.2
    have ht := turn_any d
    have H := Lib.hid (show regB d s = inB s 0 (turnP d - 1) by unfold regB totB inB; simp [h1]; congr 1; simp; omega)
    obtain ⟨T, hT⟩ : ∃ T, turnP d = T := ⟨_, rfl⟩
    rw [hT] at htb H
    simp only [hT] at ht
    have HT : Hid (∀ W : World, Calls Try.prog 24 #[.int .i64 d] W fun e w' => e = .returned (.int .i64 T) ∧ w' = W) := Lib.hid (fun W => (ht W h1.2).mono fun _ _ ⟨h, e⟩ => ⟨h, e.symm⟩)
    have hw1 : IntKind.i64.wrap (T - 1) = T - 1 := IntWalk.i64_in _ (by omega)
    clear hT ht
    rw [← hW0] at hbel
    go_enter Try.func20, Try.ntmps20
    go_wp2
    rw [← hW0]
    clear hW0
    go_quiet (first | (go_at_call 32; exact Calls.quiet_of_same (in_same _ _ _ _)) | (go_at_call 24; exact Calls.quiet_of_same (HT.out _)))
    go_wp2
    go_ret
    exact ⟨by rw [H.out]; rfl, below_drewN' hbel _⟩
  · have hin : inB d 1 6 = false := by simp only [inB, decide_eq_false_iff_not]; exact h1
    have H := Lib.hid (show regB d s = false by unfold regB; simp; omega)
    rw [← hW0] at hbel
    go_enter Try.func20, Try.ntmps20
    go_wp2
    rw [← hW0]
    clear hW0
    go_quiet ((go_at_call 32; exact Calls.quiet_of_same (in_same _ _ _ _)))
    go_wp2
    go_ret
    exact ⟨by rw [H.out]; rfl, below_drewN' hbel _⟩
theorem runBad_in (x : Int) : inB x (-1099511627776) 1099511627776 = !runBad x := by
  unfold inB runBad
  by_cases h1 : x < -1099511627776
  · simp [h1]; omega
  · by_cases h2 : 1099511627776 < x
    · simp [h2]
    · simp [h1, h2]; omega
set_option maxRecDepth 100000 in
set_option maxHeartbeats 1600000 in
theorem refErrors_any (d s : Int) (l : List Int) (v : Value) (w : World) (hl : IntsAt w v l) : Calls Try.prog 37 #[.agg #[.int .i64 d, .int .i64 s], v] w fun e w' => e = .returned (.int .i64 (runsErr d s l)) ∧ Below w.heap.size w w' := by
  obtain ⟨a, c, rfl⟩ := hl.shape
  have hlm : l.length ≤ 9223372036854775807 := hl.1
  obtain ⟨W0, hW0⟩ : ∃ X, X = w.alloc (.cells #[.int .i64 d, .int .i64 s] 23) := ⟨_, rfl⟩
  have hb0 : Below w.heap.size w W0 := by rw [hW0]; exact (Below.refl _ _).alloc (Nat.le_refl _) _
  have hr := refRegister_any d s W0
  obtain ⟨R, hR⟩ : ∃ R, regB d s = R := ⟨_, rfl⟩
  obtain ⟨E, hE⟩ : ∃ E, runsErr d s l = E := ⟨_, rfl⟩
  rw [hR] at hr
  rw [hE]
  have HRR := Lib.hid hr
  have HR := Lib.hid hR
  have HE := Lib.hid hE
  clear hr hR hE
  go_enter Try.func37, Try.ntmps37
  go_wp2_with fail
  rw [← hW0]
  clear hW0
  refine HRR.out.mono ?_
  rintro e w1 ⟨rfl, hb1⟩
  have hbw : Below w.heap.size w w1 := hb0.trans (hb1.mono hb0.size)
  have hl1 := hl.below hbw
  clear hb0 hb1 HRR hl
  cases R with
  | false =>
    have H := Lib.hid (show E = 1 by rw [← HE.out]; unfold runsErr; rw [if_pos HR.out])
    go_wp2
    go_ret
    exact ⟨by rw [H.out]; rfl, hbw⟩
  | true =>
    by_cases h32 : 32 < l.length
    · have H := Lib.hid (show E = 3 by rw [← HE.out]; unfold runsErr; rw [if_neg (by rw [HR.out]; simp), if_pos h32])
      have h32' : (32 : Int) < (l.length : Int) := by omega
      go_wp2
      go_ret
      exact ⟨by rw [H.out]; rfl, hbw⟩
    · have h32' : ¬ (32 : Int) < (l.length : Int) := by omega
      have hE2 : E = if l.any runBad = true then 2 else 0 := by rw [← HE.out]; unfold runsErr; rw [if_neg (by rw [HR.out]; simp), if_neg h32]
      have HE2 := Lib.hid hE2
      clear hE2
      go_wp2
      go_loop [5] (fun c => ∃ k : Nat, k ≤ l.length ∧ c = .int .i64 k ∧ (l.take k).any runBad = false) (fun c => l.length - (intOf c).toNat)
      case atStart => exact ⟨0, by omega, rfl, rfl⟩
      case round =>
        obtain ⟨k, hk, rfl, hno⟩ := hrel
        have HNO := Lib.hid hno
        clear hno
        by_cases hlt : k < l.length
        · obtain ⟨b, off, e0, _, hc⟩ := hl1.at (by omega)
          subst e0
          have c0 := hc k hlt
          obtain ⟨x, hx⟩ : ∃ x, l.getD k 0 = x := ⟨_, rfl⟩
          rw [hx] at c0
          have hs : (l.take (k + 1)).any runBad = ((l.take k).any runBad || runBad x) := by
            rw [List.take_succ_eq_append_getElem hlt, List.any_append]
            simp [← hx, List.getD, hlt]
          have hmem : x ∈ l := by rw [← hx]; simp [List.getD, hlt]
          have HS := Lib.hid hs
          have HMEM := Lib.hid hmem
          have i0 : (0 : Int) ≤ (k : Int) := by omega
          have i1 : (k : Int) < (l.length : Int) := by omega
          have hin := runBad_in x
          clear hx hs hc hmem
          cases hrb : runBad x with
          | true =>
            have H := Lib.hid (show E = 2 by rw [HE2.out, if_pos (List.any_eq_true.2 ⟨x, HMEM.out, hrb⟩)])
            rw [hrb] at hin
            clear hrb
            go_wp2_with ((with_reducible refine (in_any _ _ _ _).mono ?_); rintro e w' ⟨rfl, rfl⟩)
            go_ret
            exact ⟨by rw [H.out]; rfl, hbw⟩
          | false =>
            have hbad := Lib.hid hrb
            rw [hrb] at hin
            clear hrb
            go_wp2_with ((with_reducible refine (in_any _ _ _ _).mono ?_); rintro e w' ⟨rfl, rfl⟩)
            go_round
            case rel => exact ⟨k + 1, by omega, by go_num, by rw [HS.out, HNO.out, hbad.out]; rfl⟩
            case measure => simp [intOf]; omega
        · have i1 : ¬ (k : Int) < (l.length : Int) := by omega
          have H := Lib.hid (show E = 0 by
            obtain rfl : k = l.length := by omega
            have := HNO.out
            rw [List.take_length] at this
            rw [HE2.out, if_neg (by rw [this]; simp)])
          go_wp2
          go_ret
          exact ⟨by rw [H.out]; rfl, hbw⟩
end Go.Proofs.Ytmcndecmnfbggaa
