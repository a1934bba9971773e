/- The laws' helpers: shelf, want. -/
import Derived.Test.YtoiapnokgpeipaaE1
namespace Go.Proofs.Ytoiapnokgpeipaa
set_option linter.unusedSimpArgs false
open Go.RowKit Go.Maps

def shelfL : List (Int × Int) := [(10, 2), (12, 1), (20, 1), (30, 1), (36, 1)]
def ShelfRes (w : World) (e : Ending) (w' : World) : Prop := ∃ b, e = .returned (.slice (some ⟨b, 0, none⟩) 5 5) ∧ WheelsAt w' (.slice (some ⟨b, 0, none⟩) 5 5) shelfL ∧ Below w.heap.size w w' ∧ b < w'.heap.size
theorem wheels_block {X : World} {b : Nat} {t : TypeId} (h : X.heap[b]? = some (.cells #[.int .i64 10, .int .i64 2, .int .i64 12, .int .i64 1, .int .i64 20, .int .i64 1, .int .i64 30, .int .i64 1, .int .i64 36, .int .i64 1] t)) :
    WheelsAt X (.slice (some ⟨b, 0, none⟩) 5 5) shelfL := by
  refine ⟨by decide, .inr ⟨b, 0, 5, rfl, by decide, by decide, (Array.getElem?_eq_some_iff.1 h).1, fun i hi => ?_⟩⟩
  have hi : i < 5 := hi
  match i, hi with
  | 0, _ => refine ⟨?_, ?_⟩ <;> simp [World.cell?, h, shelfL]
  | 1, _ => refine ⟨?_, ?_⟩ <;> simp [World.cell?, h, shelfL]
  | 2, _ => refine ⟨?_, ?_⟩ <;> simp [World.cell?, h, shelfL]
  | 3, _ => refine ⟨?_, ?_⟩ <;> simp [World.cell?, h, shelfL]
  | 4, _ => refine ⟨?_, ?_⟩ <;> simp [World.cell?, h, shelfL]
set_option maxRecDepth 100000 in
set_option maxHeartbeats 800000 in
theorem shelf_any (w : World) : Calls Try.prog 23 #[] w (ShelfRes w) := by
  go_enter Try.func23, Try.ntmps23
  go_wp2
  go_ret
  refine ⟨_, rfl, wheels_block (MapKept.heap_alloc w _).1, (Below.refl _ _).alloc (Nat.le_refl _) _, by simp⟩

set_option maxRecDepth 100000 in
set_option maxHeartbeats 800000 in
theorem want_any (n : Int) (same : Bool) (w : World) : Calls Try.prog 24 #[.int .i64 n, .bool same] w fun e w' => e = .returned (.agg #[.int .i64 n, .int .i64 1, .bool same, .int .i64 2, .int .i64 60]) ∧ Below w.heap.size w w' := by
  go_enter Try.func24, Try.ntmps24
  go_wp2
  refine bodyPost_ret (v := .agg #[.int .i64 n, .int .i64 1, .bool same, .int .i64 2, .int .i64 60]) (by simp [results, Try.results24, go_sem]) rfl ⟨rfl, ?_⟩
  repeat (first | exact (Below.refl _ _).alloc (Nat.le_refl _) _ | refine Below.setCell ?_ (by simp) _)
end Go.Proofs.Ytoiapnokgpeipaa
