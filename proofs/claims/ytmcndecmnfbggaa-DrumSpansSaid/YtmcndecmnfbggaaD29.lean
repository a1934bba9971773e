/- The law's own closed calls. -/
import Derived.Test.YtmcndecmnfbggaaD28
import Derived.Test.YtmcndecmnfbggaaD12
import Derived.Outline
namespace Go.Proofs.Ytmcndecmnfbggaa
set_option linter.unusedSimpArgs false
set_option linter.unusedVariables false
open Go.RowKit

theorem ints_three (w : World) (x y z : Int) (t : TypeId) : IntsAt (w.alloc (.cells #[.int .i64 x, .int .i64 y, .int .i64 z] t)) (.slice (some ⟨w.heap.size, 0, none⟩) 3 3) [x, y, z] :=
  ⟨by simp [maxLen], .inr ⟨w.heap.size, 0, 3, rfl, by simp, by simp [maxLen], by simp, fun i hi => by
    match i, hi with
    | 0, _ => go_simp
    | 1, _ => go_simp
    | 2, _ => go_simp⟩⟩
theorem ints_one (w : World) (x : Int) (t : TypeId) : IntsAt (w.alloc (.cells #[.int .i64 x] t)) (.slice (some ⟨w.heap.size, 0, none⟩) 1 1) [x] :=
  ⟨by simp [maxLen], .inr ⟨w.heap.size, 0, 1, rfl, by simp, by simp [maxLen], by simp, fun i hi => by
    match i, hi with
    | 0, _ => go_simp⟩⟩
theorem aw_places : placesRes 3 199400 209400 = [9400, 400, 2000] ∧ placesErr 3 199400 209400 = 0 := by decide
theorem aw_run : runTot 3 199400 [100] = 199500 ∧ runFigs 3 199400 [100] = [0, 0, 2] ∧ runsErr 3 199400 [100] = 0 := by decide
theorem aw_pulses : pulsesAll 1 0 5000 [5010, -20, 20] = 3 ∧ pulsesBo 1 0 5000 [5010, -20, 20] = 2 ∧ pulsesErr 1 0 5000 [5010, -20, 20] = 0 := by decide
def awS : List (Int × Int) := [(199400, 200600), (209400, 209600), (299400, 299600)]
theorem aw_fit (L : List (Int × Int)) (h : Canon (fun t => fitOk [0, 0, 2] 600 ∧ FitP [0, 0, 2] 600 t) L) : L = awS ∧ fitErr [0, 0, 2] 600 L = 0 := by
  have hok : fitOk [0, 0, 2] 600 := ⟨by decide, by decide, by decide⟩
  have e : L = awS := by
    refine canon_unique h (canon_congr (P := fun t => ∃ x ∈ totalsP 600 [0, 0, 2] st0, inS t x) ?_ (fun t => ⟨fun hx => ⟨hok, (totals_fit _ _ (by decide) t).1 hx⟩, fun hx => (totals_fit _ _ (by decide) t).2 hx.2⟩))
    have ht : totalsP 600 [0, 0, 2] st0 = [(200000, 200600), (209400, 209600), (199400, 199999), (299400, 299600)] := by decide
    rw [ht]
    refine ⟨by decide, by decide, fun t => ?_⟩
    simp only [awS, List.mem_cons, List.not_mem_nil, or_false, exists_eq_or_imp, exists_eq_left, inS]
    omega
  subst e
  exact ⟨rfl, by decide⟩
end Go.Proofs.Ytmcndecmnfbggaa
