/- Contract: with. -/
import Derived.Test.YtmcndecmnfbggaaD14
import Derived.Deep.RegionHeld3
import Derived.Deep.DeepCutAuto
import Derived.Outline
namespace Go.Proofs.Ytmcndecmnfbggaa
set_option linter.unusedSimpArgs false
open Go.RowKit

def St.val (s : St) : Value := .agg #[.int .i64 s.drum, .int .i64 s.size, .int .i64 s.digits, .int .i64 s.lo, .int .i64 s.hi, .bool s.moves]
def readV (v : Value) (Bw : Nat) : Value := .agg #[v, .func (.func 56) #[] #[.pointer (some ⟨Bw, 0, none⟩)]]
def withV (r : Option St) : Value := match r with | none => .tuple #[.agg #[.int .i64 0, .int .i64 0, .int .i64 0, .int .i64 0, .int .i64 0, .bool false], .bool false] | some s => .tuple #[s.val, .bool true]
theorem two_cells {X : World} {b : Nat} {x y : Value} {t : TypeId} (h : X.heap[b]? = some (.cells #[x, y] t)) : X.cell? ⟨b, 0, none⟩ = some x ∧ X.cell? ⟨b, 1, none⟩ = some y := by
  refine ⟨?_, ?_⟩ <;> simp [World.cell?, h]
theorem six_cells {X : World} {b : Nat} {x y z u v s : Value} {t : TypeId} (h : X.heap[b]? = some (.cells #[x, y, z, u, v, s] t)) : X.cell? ⟨b, 0, none⟩ = some x ∧ X.cell? ⟨b, 1, none⟩ = some y ∧ X.cell? ⟨b, 2, none⟩ = some z ∧ X.cell? ⟨b, 3, none⟩ = some u ∧ X.cell? ⟨b, 4, none⟩ = some v ∧ X.cell? ⟨b, 5, none⟩ = some s := by
  refine ⟨?_, ?_, ?_, ?_, ?_, ?_⟩ <;> simp [World.cell?, h]
theorem frozen_of {X : World} {b : Nat} {c : Array Value} {t : TypeId} (h : X.heap[b]? = some (.cells c t (0, 0))) : ∀ o, X.frozen? ⟨b, o, none⟩ = false := by
  intro o; simp [World.frozen?, h]
theorem set_two {X : World} {P : Nat} {x y a b : Value} {t : TypeId} (h : X.heap[P]? = some (.cells #[x, y] t (0, 0))) : ((X.setCell ⟨P, 0, none⟩ a).setCell ⟨P, 1, none⟩ b).heap[P]? = some (.cells #[a, b] t (0, 0)) := by
  obtain ⟨hlt, hk⟩ := Array.getElem?_eq_some_iff.1 h
  have h1 : (X.setCell ⟨P, 0, none⟩ a).heap[P]? = some (.cells #[a, y] t (0, 0)) := by
    show (X.heap.modify P _)[P]? = _
    rw [Array.getElem?_eq_getElem (by rw [Array.size_modify]; exact hlt), Array.getElem_modify_self, hk]; rfl
  obtain ⟨hlt2, hk2⟩ := Array.getElem?_eq_some_iff.1 h1
  show ((X.setCell ⟨P, 0, none⟩ a).heap.modify P _)[P]? = _
  rw [Array.getElem?_eq_getElem (by rw [Array.size_modify]; exact hlt2), Array.getElem_modify_self, hk2]; rfl
theorem nearV_eq (K : Option (Int × Int)) : nearV K = .tuple #[.agg #[.int .i64 (K.getD (0, 0)).1, .int .i64 (K.getD (0, 0)).2], .bool K.isSome] := by cases K <;> rfl
end Go.Proofs.Ytmcndecmnfbggaa
