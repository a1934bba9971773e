/- Sound: a line that is copied, and written. -/
import Derived.Test.YtdbjifpnbghbaaaA11
import Derived.Laws.CopyOwn
namespace Go.Proofs.Ytdbjifpnbghbaaa
set_option linter.unusedSimpArgs false
set_option linter.unusedVariables false
open Go.RowKit Go.Maps Go.BigFrame

theorem copy_pipes {l : List Pi} (h0 : 0 < l.length) {w : World} {R : Nat} {L : List Pi} (hL : L.length = l.length) {a : Option Addr} {c : Nat} (hr : w.heap[R]? = some (.cells (flatK 3 piC L).toArray 59 (0, 0))) (hs : TabAt 3 piC w (.slice a l.length c) l) (ty : TypeId) :
    (Builtin.copy_ #[68, 68] ty #[.slice (some ⟨R, 0, none⟩) l.length l.length, .slice a l.length c]).run Try.prog w = .ok (.int .i64 (l.length : Int)) (w.setRow R (flatK 3 piC l).toArray) := by
  obtain ⟨lb, lo, rfl, hlb, hlx⟩ := hs.at h0
  obtain ⟨i0, hi, hz0, hz1, hz2⟩ := info_parts Try.info59
  have hsrc : ∀ j v, (flatK 3 piC l)[j]? = some v → w.cell? ((⟨lb, lo, none⟩ : Addr).add j) = some v := by
    intro j u hu
    have hj : j < l.length * 3 := by have := (List.getElem?_eq_some_iff.1 hu).1; rwa [flat_len] at this
    have h1 : j / 3 < l.length := by omega
    have h4 := hlx (j / 3) h1 (j % 3) (by omega)
    have h5 := flat_get (f := piC) h1 (show j % 3 < 3 by omega)
    have h3 : j / 3 * 3 + j % 3 = j := by omega
    rw [Nat.add_assoc, h3] at h4
    rw [h3, hu] at h5
    rw [Addr.add_lit, h4, h5]
  have hl := run_loadCells_list (P := Try.prog) w ⟨lb, lo, none⟩ (flatK 3 piC l) hsrc
  have hst := run_storeCells_at Try.prog R 0 59 (flatK 3 piC l) 0 _ w hr (by simp [flat_len, hL]) flat_one
  have hn : (flatK 3 piC l).length = l.length * 3 := flat_len _ _ _
  rw [hn] at hl
  have hd : (flatK 3 piC L).length = l.length * 3 := by rw [flat_len, hL]
  have hm : Nat.min l.length l.length = l.length := Nat.min_self _
  simp [Builtin.copy_, run_underlying Try.underlying68, Builtin.lenOf, Builtin.firstCells, sizeOf, typeInfo, hi, hz1, hm, hl, hst, hn, hd]
  exact ⟨rfl, by rw [List.drop_eq_nil_of_le (by omega), List.append_nil]⟩
end Go.Proofs.Ytdbjifpnbghbaaa
