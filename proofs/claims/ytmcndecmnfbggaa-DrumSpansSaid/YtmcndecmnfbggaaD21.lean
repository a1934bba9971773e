/- The iterator of totals, whatever is left to read; how many totals there are. -/
import Derived.Test.YtmcndecmnfbggaaD20
namespace Go.Proofs.Ytmcndecmnfbggaa
set_option linter.unusedSimpArgs false
open Go.RowKit Go.Shelf

theorem iter_any (figs : List Int) (wi : Int) (hw : 0 ≤ wi ∧ wi ≤ 999) (hf9 : ∀ f ∈ figs, 0 ≤ f ∧ f ≤ 9) (fb off fc Bw n0 N : Nat) (hlen : figs.length ≤ 6) : ∀ (fs : List Int) (j : Nat), j + fs.length = figs.length → (∀ i, i < fs.length → fs.getD i 0 = figs.getD (j + i) 0) →
    ∀ (l B Rb Sb : Nat) (s : St) (_ : StOk s j) (J : List (Int × Int) → World → Prop) (pre : List (Int × Int)) (W : World), n0 ≤ B → B ≤ W.heap.size → OwnFrom B J →
      (∀ pre x W1, J pre W1 → pre.length < N → YieldAt Fence.wide 8 Try.prog l #[encSp x] W1 fun e W' => e = .returned (.bool true) ∧ J (pre ++ [x]) W' ∧ Keep n0 B W1 W') →
      Mem figs wi fb off fc Bw n0 Rb Sb s W → pre.length + (totalsP wi fs s).length ≤ N → J pre W →
      CallsIn Fence.wide 9 Try.prog 64 #[.func (.yield l) #[] #[], .pointer (some ⟨Sb, 0, none⟩), .pointer (some ⟨Rb, 0, none⟩)] W fun e W' => (∃ v, e = .returned v) ∧ J (pre ++ totalsP wi fs s) W' ∧ Keep n0 B W W'
  | [], j, hj, _, l, B, Rb, Sb, s, hs, J, pre, W, hn, hB, hJ, hY, hM, hN, h0 => by
    obtain rfl : j = figs.length := by simpa using hj
    exact iter_nil figs wi fb off fc Bw n0 Rb Sb l B N s hlen hs J pre W hn hB hJ hY hM hN h0
  | f :: fs, j, hj, hfs, l, B, Rb, Sb, s, hs, J, pre, W, hn, hB, hJ, hY, hM, hN, h0 => by
    simp only [List.length_cons] at hj hfs
    refine iter_cons figs wi hw hf9 fb off fc Bw n0 Rb Sb l B N j f fs s hlen (by omega) (by have := hfs 0 (by omega); simpa using this.symm) hs J pre W hn hB hJ hY hM hN h0 ?_
    intro l B Rb Sb s hs J pre W
    refine iter_any figs wi hw hf9 fb off fc Bw n0 N hlen fs (j + 1) (by omega) (fun i hi => ?_) l B Rb Sb s hs J pre W
    have := hfs (i + 1) (by omega)
    rw [show j + 1 + i = j + (i + 1) by omega]
    simpa using this
theorem flat_le {α : Type} (g : Nat → List α) (m : Nat) : ∀ n, (∀ d, d < n → (g d).length ≤ m) → ((List.range n).flatMap g).length ≤ n * m
  | 0, _ => by simp
  | n + 1, h => by
    rw [List.range_succ, List.flatMap_append, List.length_append]
    have h1 := flat_le g m n (fun d hd => h d (by omega))
    have h2 := h n (by omega)
    simp only [List.flatMap_cons, List.flatMap_nil, List.append_nil]
    rw [Nat.succ_mul]; omega
theorem totals_len (w : Int) : ∀ (fs : List Int) (s : St), (totalsP w fs s).length ≤ 10 ^ fs.length
  | [], s => by simp [totalsP]
  | f :: fs, s => by
    unfold totalsP
    have := flat_le (fun d : Nat => match withS w s d f with | none => [] | some s' => totalsP w fs s') (10 ^ fs.length) 10 (fun d _ => by
      cases withS w s d f with
      | none => simp
      | some s' => exact totals_len w fs s')
    rw [List.length_cons, Nat.pow_succ, Nat.mul_comm]
    exact this
end Go.Proofs.Ytmcndecmnfbggaa
