/- Contracts: Collect, SortedFunc, totals, nearWithin, areFigures. -/
import Derived.Test.YtmcndecmnfbggaaD23
namespace Go.Proofs.Ytmcndecmnfbggaa
set_option linter.unusedSimpArgs false
set_option linter.unusedVariables false
open Go.RowKit

theorem collect_any (figs : List Int) (wi : Int) (hw : 0 ≤ wi ∧ wi ≤ 999) (hf9 : ∀ f ∈ figs, 0 ≤ f ∧ f ≤ 9) (fb off fc Bw Rb Sb : Nat) (hlen : figs.length ≤ 6) (w : World) (hM : Mem figs wi fb off fc Bw w.heap.size Rb Sb st0 w) :
    Calls Try.prog 57 #[.func (.func 64) #[] #[.pointer (some ⟨Sb, 0, none⟩), .pointer (some ⟨Rb, 0, none⟩)]] w fun e w' => ∃ v, e = .returned v ∧ w'.ownsRow w.heap.size 45 2 v (totalsP wi figs st0).length (flatS (totalsP wi figs st0)) ∧ Below w.heap.size w w' := by
  have h := Lib.hid (appendSeq_any figs wi hw hf9 fb off fc Bw Rb Sb hlen w hM)
  clear hM
  go_enter Try.func57, Try.ntmps57
  go_wp2_with fail
  refine h.out.mono ?_
  rintro e w1 ⟨v, rfl, ho, hb⟩
  go_wp2
  go_ret
  exact ⟨v, rfl, ho, hb⟩
theorem sortedFunc_any (figs : List Int) (wi : Int) (hw : 0 ≤ wi ∧ wi ≤ 999) (hf9 : ∀ f ∈ figs, 0 ≤ f ∧ f ≤ 9) (fb off fc Bw Rb Sb : Nat) (hlen : figs.length ≤ 6) (w : World) (hM : Mem figs wi fb off fc Bw w.heap.size Rb Sb st0 w) :
    Calls Try.prog 50 #[.func (.func 64) #[] #[.pointer (some ⟨Sb, 0, none⟩), .pointer (some ⟨Rb, 0, none⟩)], .func (.func 52) #[] #[]] w fun e w' => ∃ v M, e = .returned v ∧ M.Perm (totalsP wi figs st0) ∧ M.Pairwise (fun a b => a.1 ≤ b.1) ∧ SpansAt w' v M ∧ Below w.heap.size w w' := by
  have hlim : (totalsP wi figs st0).length ≤ 1000000 := Nat.le_trans (totals_len wi figs st0) (Nat.pow_le_pow_right (n := 10) (by decide) hlen)
  have h := Lib.hid (collect_any figs wi hw hf9 fb off fc Bw Rb Sb hlen w hM)
  clear hM
  go_enter Try.func50, Try.ntmps50
  go_wp2_with fail
  refine h.out.mono ?_
  rintro e w1 ⟨v, rfl, ho, hb⟩
  have h2 := Lib.hid (sortF_any _ v w.heap.size w1 ho hlim hb.size)
  go_wp2_with fail
  refine h2.out.mono ?_
  rintro e w2 ⟨rfl, M, hp, hs, hsp, hb2⟩
  go_wp2
  go_ret
  exact ⟨v, M, rfl, hp, hs, hsp, hb.trans hb2⟩
theorem totalsM_any (v g : Value) (w : World) : Calls Try.prog 51 #[.agg #[v, g]] w fun e w' => ∃ Sb Rb, e = .returned (.func (.func 64) #[] #[.pointer (some ⟨Sb, 0, none⟩), .pointer (some ⟨Rb, 0, none⟩)]) ∧ w'.heap[Rb]? = some (.cells #[v, g] 71 (0, 0)) ∧ w'.heap[Sb]? = some (.cells #[.int .i64 st0.drum, .int .i64 st0.size, .int .i64 st0.digits, .int .i64 st0.lo, .int .i64 st0.hi, .bool st0.moves] 88 (0, 0)) ∧ Below w.heap.size w w' := by
  have hT := fun X => totalsFrom_any v g st0 X
  unfold St.val st0 at hT
  simp only [] at hT
  have HT := Lib.hid hT
  clear hT
  go_enter Try.func51, Try.ntmps51
  go_wp2_with fail
  refine (HT.out _).mono ?_
  rintro e w1 ⟨rfl, hw1⟩
  have hb1 : Below w.heap.size w w1 := by rw [hw1]; repeat (first | exact Below.refl _ _ | refine Below.alloc ?_ (by simp; try omega) _)
  have g1 : w1.heap[w.heap.size + 1]? = some (.cells #[v, g] 71 (0, 0)) := by
    rw [hw1, Below.heap_alloc _ _ _ (by simp)]
    have := (MapKept.heap_alloc (w.alloc (.cells #[v, g] 71)) (.cells #[v, g] 71)).1
    simpa using this
  have g2 : w1.heap[w.heap.size + 1 + 1]? = some (.cells #[.int .i64 0, .int .i64 1000, .int .i64 0, .int .i64 0, .int .i64 999, .bool true] 88 (0, 0)) := by
    rw [hw1]
    have := (MapKept.heap_alloc ((w.alloc (.cells #[v, g] 71)).alloc (.cells #[v, g] 71)) (.cells #[.int .i64 0, .int .i64 1000, .int .i64 0, .int .i64 0, .int .i64 999, .bool true] 88)).1
    simpa using this
  clear hw1
  go_wp2
  go_ret
  exact ⟨_, _, rfl, by simpa using g1, by simpa [st0] using g2, hb1⟩
theorem nearWithin_any (wi : Int) (w : World) : Calls Try.prog 44 #[.int .i64 wi] w fun e w' => e = .returned (.func (.func 56) #[] #[.pointer (some ⟨w.heap.size, 0, none⟩)]) ∧ w' = w.alloc (.cells #[.int .i64 wi] 3) := by
  go_enter Try.func44, Try.ntmps44
  go_wp2
  go_ret
  exact ⟨rfl, rfl⟩
def figsB (l : List Int) : Bool := decide (1 ≤ l.length ∧ l.length ≤ 6) && l.all fun f => decide (0 ≤ f ∧ f ≤ 9)
set_option maxRecDepth 100000 in
set_option maxHeartbeats 1600000 in
theorem areFigures_any (l : List Int) (v : Value) (w : World) (hl : IntsAt w v l) : Calls Try.prog 42 #[v] w fun e w' => e = .returned (.bool (figsB l)) ∧ w = w' := by
  obtain ⟨a, c, rfl⟩ := hl.shape
  have hlm : l.length ≤ 9223372036854775807 := hl.1
  obtain ⟨F, hF⟩ : ∃ F, figsB l = F := ⟨_, rfl⟩
  rw [hF]
  have HF := Lib.hid hF
  clear hF
  by_cases h1 : 1 ≤ l.length
  rotate_left
  · have H := Lib.hid (show F = false by rw [← HF.out]; unfold figsB; simp; omega)
    have h1' : (l.length : Int) < 1 := by omega
    go_enter Try.func42, Try.ntmps42
    go_wp2
    go_ret
    exact ⟨by rw [H.out]; rfl, rfl⟩
  by_cases h6 : l.length ≤ 6
  rotate_left
  · have H := Lib.hid (show F = false by rw [← HF.out]; unfold figsB; simp; omega)
    have h1' : ¬ (l.length : Int) < 1 := by omega
    have h6' : (6 : Int) < (l.length : Int) := by omega
    go_enter Try.func42, Try.ntmps42
    go_wp2
    go_ret
    exact ⟨by rw [H.out]; rfl, rfl⟩
  have h1' : ¬ (l.length : Int) < 1 := by omega
  have h6' : ¬ (6 : Int) < (l.length : Int) := by omega
  have hF2 : F = l.all fun f => decide (0 ≤ f ∧ f ≤ 9) := by rw [← HF.out]; unfold figsB; simp [h1, h6]
  have HF2 := Lib.hid hF2
  clear hF2 h1 h6
  go_enter Try.func42, Try.ntmps42
  go_wp2
  go_loop [15] (fun c => ∃ k : Nat, k ≤ l.length ∧ c = .int .i64 k ∧ (l.take k).all (fun f => decide (0 ≤ f ∧ f ≤ 9)) = true) (fun c => l.length - (intOf c).toNat)
  case atStart => exact ⟨0, by omega, rfl, rfl⟩
  case round =>
    obtain ⟨k, hk, rfl, hno⟩ := hrel
    have HNO := Lib.hid hno
    clear hno
    by_cases hlt : k < l.length
    · obtain ⟨b, off, e0, _, hc⟩ := hl.at (by omega)
      subst e0
      have c0 := hc k hlt
      obtain ⟨x, hx⟩ : ∃ x, l.getD k 0 = x := ⟨_, rfl⟩
      rw [hx] at c0
      have hs : (l.take (k + 1)).all (fun f => decide (0 ≤ f ∧ f ≤ 9)) = ((l.take k).all (fun f => decide (0 ≤ f ∧ f ≤ 9)) && decide (0 ≤ x ∧ x ≤ 9)) := by
        rw [List.take_succ_eq_append_getElem hlt, List.all_append]
        simp [← hx, List.getD, hlt]
      have hmem : x ∈ l := by rw [← hx]; simp [List.getD, hlt]
      have HS := Lib.hid hs
      have HMEM := Lib.hid hmem
      have i0 : (0 : Int) ≤ (k : Int) := by omega
      have i1 : (k : Int) < (l.length : Int) := by omega
      clear hx hs hc hmem
      by_cases h2 : x < 0
      · have H := Lib.hid (show F = false by rw [HF2.out, List.all_eq_false]; exact ⟨x, HMEM.out, by simp; omega⟩)
        go_wp2
        go_ret
        exact ⟨by rw [H.out]; rfl, rfl⟩
      · by_cases h3 : 9 < x
        · have H := Lib.hid (show F = false by rw [HF2.out, List.all_eq_false]; exact ⟨x, HMEM.out, by simp; omega⟩)
          go_wp2
          go_ret
          exact ⟨by rw [H.out]; rfl, rfl⟩
        · have hok := Lib.hid (show decide (0 ≤ x ∧ x ≤ 9) = true by simp; omega)
          go_wp2
          go_round
          case rel => exact ⟨k + 1, by omega, by go_num, by rw [HS.out, HNO.out, hok.out]; rfl⟩
          case measure => simp [intOf]; omega
    · have i1 : ¬ (k : Int) < (l.length : Int) := by omega
      have H := Lib.hid (show F = true by
        obtain rfl : k = l.length := by omega
        have := HNO.out
        rw [List.take_length] at this
        rw [HF2.out, this])
      go_wp2
      go_ret
      exact ⟨by rw [H.out]; rfl, rfl⟩
end Go.Proofs.Ytmcndecmnfbggaa
