/- Excess, as the document's own function has it. -/
import Derived.Test.YtoiapnokgpeipaaN3
namespace Go.Proofs.Ytoiapnokgpeipaa
set_option linter.unusedSimpArgs false
open Go.RowKit Go.Maps

set_option maxRecDepth 100000 in
set_option maxHeartbeats 1600000 in
theorem excessRef_any (t r p o : Int) (same : Bool) (P : List (Int × Int)) (v : Value) (i : Int) (w : World) (hP : WheelsAt w v P) (ht : 1 ≤ t ∧ t ≤ 1000) (hr : 1 ≤ r ∧ r ≤ 1000) (ha : 1 ≤ prodW (drvs P) ∧ prodW (drvs P) ≤ 1000000) (hb : 1 ≤ prodW (drns P) ∧ prodW (drns P) ≤ 1000000) :
    Calls Try.prog 30 #[.agg #[.int .i64 t, .int .i64 r, .bool same, .int .i64 p, .int .i64 o], .agg #[v, .int .i64 i]] w fun e w' =>
      e = .returned (.tuple #[.int .i64 (prodW (drvs P) * t - prodW (drns P) * r), .int .i64 (prodW (drns P) * r)]) ∧ Below w.heap.size w w' := by
  have p1 := mul_bd (x := prodW (drvs P)) (y := t) (by omega) ha.2 (by omega) ht.2
  have p2 := mul_bd (x := prodW (drns P)) (y := r) (by omega) hb.2 (by omega) hr.2
  have hpr := fun W (h : WheelsAt W v P) => products_any P v i W h
  obtain ⟨pa, pc, rfl⟩ := hP.shape
  have HP := Lib.hid hP
  have HR := Lib.hid hpr
  clear hP hpr
  generalize prodW (drvs P) = a at *
  generalize prodW (drns P) = b at *
  obtain ⟨W1, hW1⟩ : ∃ W1, W1 = (w.alloc (.cells #[.int .i64 t, .int .i64 r, .bool same, .int .i64 p, .int .i64 o] 24)).alloc (.cells #[.slice pa P.length pc, .int .i64 i] 27) := ⟨_, rfl⟩
  have hb1 : Below w.heap.size w W1 := by rw [hW1]; exact ((Below.refl _ _).alloc (Nat.le_refl _) _).alloc (by simp) _
  have hG : W1.heap[w.heap.size]? = some (.cells #[.int .i64 t, .int .i64 r, .bool same, .int .i64 p, .int .i64 o] 24) := by rw [hW1, Below.heap_alloc _ _ _ (by simp)]; exact (MapKept.heap_alloc w _).1
  have hz1 : W1.heap.size = w.heap.size + 2 := by rw [hW1]; simp
  go_enter Try.func30, Try.ntmps30
  go_wp2_with fail
  rw [← hW1]
  clear hW1
  refine (HR.out W1 (HP.out.below hb1)).mono ?_
  rintro e w2 ⟨rfl, hb2⟩
  have hG2 := (hb2.block w.heap.size (by omega)).trans hG
  have hb3 : Below w.heap.size w w2 := hb1.trans (hb2.mono (by omega))
  obtain ⟨q0, q1⟩ : w2.cell? ⟨w.heap.size, 0, none⟩ = some (.int .i64 t) ∧ w2.cell? ⟨w.heap.size, 1, none⟩ = some (.int .i64 r) := by refine ⟨?_, ?_⟩ <;> simp [World.cell?, hG2]
  clear hG hG2 hb1 hb2 hz1
  go_wp2_with fail
  go_quiet (fail)
  go_wp2
  go_ret2
  exact ⟨rfl, below_drewN' hb3 _⟩
end Go.Proofs.Ytoiapnokgpeipaa
