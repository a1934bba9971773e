/- The train of a trial: its pairs are cloned. -/
import Derived.Test.YtoiapnokgpeipaaC3
import Derived.Test.YtoiapnokgpeipaaB2
import Derived.Lib.QuietBelow
import Derived.Lib.SliceRun
namespace Go.Proofs.Ytoiapnokgpeipaa
set_option linter.unusedSimpArgs false
open Go.RowKit

theorem Try.info49 : (Try.prog.info? 49).map (fun i => (i.zero, i.size, i.bytes)) = some (some (.agg #[.int .i64 0, .int .i64 0]), 2, 16) := by kernel_rfl

set_option maxRecDepth 100000 in
set_option maxHeartbeats 800000 in
theorem clone_any (l : List Int) (b off m c : Nat) (w : World) (hm : m ≤ 1000) (hl : l.length = m * 2) (hc : ∀ j, j < m * 2 → w.cell? ⟨b, off + j, none⟩ = some (.int .i64 (l.getD j 0))) :
    Calls Try.prog 69 #[.slice (some ⟨b, off, none⟩) m c] w fun e w' => ∃ u, e = .returned u ∧ Below w.heap.size w w' ∧ w'.ownsRow w.heap.size 49 2 u m (l.map (Value.int .i64)) := by
  obtain ⟨i0, hi, hz0, hz1, hz2⟩ := info_parts Try.info49
  have hn : ∀ j u, (l.map (Value.int .i64))[j]? = some u → w.cell? ((⟨b, off, none⟩ : Addr).add j) = some u := by
    intro j u h
    have hj : j < m * 2 := by have := (List.getElem?_eq_some_iff.1 h).1; simpa [hl] using this
    rw [Addr.add_lit, hc j hj]
    have e : (l.map (Value.int .i64))[j]? = some (.int .i64 (l.getD j 0)) := by simp [List.getD, show j < l.length by omega]
    rw [e] at h; exact h
  have hd := World.ownsRow_lit (base := w.heap.size) (e := 49) (size := 2) w #[] 0 (Nat.le_refl _) (by unfold maxLen; omega) rfl
  have hn2 : ∀ j u, (l.map (Value.int .i64))[j]? = some u → (w.alloc (.cells #[] 49)).cell? ((⟨b, off, none⟩ : Addr).add j) = some u := fun j u h => cell_al (hn j u h) _
  have hll : (l.map (Value.int .i64)).length = m * 2 := by simpa using hl
  have h1c := ints_oneCell .i64 l
  have hnl : ∀ (w : World) (a : Addr) (n c : Nat), (binOp .eql 25 (.slice (some a) n c) (.slice none 0 0)).run Try.prog w = .ok (.bool false) w := fun w a n c => Lib.run_eql_slice_nil (P := Try.prog) w 25 49 (some a) n c 0 0 Try.underlying25
  generalize l.map (Value.int .i64) = news at *
  clear hn hc hl
  go_enter Try.func69, Try.ntmps69
  go_wp2_with (at_builtin; refine wpList_append_own_at _ rfl (.tmp 5) (.tmp 6) 25 rfl w.heap.size 49 i0 (.agg #[.int .i64 0, .int .i64 0]) 2 16 Try.underlying25 hi hz0 hz1 hz2 rfl (by decide) _ _ _ rfl hd ⟨b, off, none⟩ m c news rfl hll hn2 h1c (by unfold maxLen; omega) (by omega) (by simp) ?_; intro v1 w1 hd1 hg1 hnil1 hloc1)
  go_ret
  refine ⟨_, rfl, ?_, ?_⟩
  · exact ((Below.refl _ _).alloc (Nat.le_refl _) _).grown hg1 (by simp) (fun t ht => (hd.lt t ht).1)
  · rw [Nat.zero_add] at hd1; exact hd1
end Go.Proofs.Ytoiapnokgpeipaa
