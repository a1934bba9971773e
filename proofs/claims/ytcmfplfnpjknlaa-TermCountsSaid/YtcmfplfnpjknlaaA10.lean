/- Term: contracts of the library's comparison, search and stable sort, and of inOrder. -/
import Derived.Test.YtcmfplfnpjknlaaA9
import Derived.Test.YtcmfplfnpjknlaaM2
namespace Go.Proofs.Ytcmfplfnpjknlaa
set_option linter.unusedSimpArgs false
set_option linter.unusedVariables false
open Go.RowKit Go.Shelf Go.Lib
open Go.Sort hiding Below
open Go.Maps (keyOf_int_mk)

theorem isNaN_any (a : Int) (w : World) : Calls Try.prog 69 #[.int .i64 a] w fun e w' => e = .returned (.bool false) ∧ w = w' := by
  have h : (a != a) = false := by simp
  go_enter Try.func69, Try.ntmps69
  go_wp2
  go_ret
  exact ⟨rfl, rfl⟩
theorem compare_any (a b : Int) (w : World) : Calls Try.prog 64 #[.int .i64 a, .int .i64 b] w fun e w' => e = .returned (.int .i64 (cmpI a b)) ∧ w = w' := by
  by_cases h1 : a < b
  · have H := Lib.hid (show cmpI a b = -1 by simp [cmpI, h1])
    go_enter Try.func64, Try.ntmps64
    go_wp2_with (go_at_call 69; (with_reducible refine (isNaN_any _ _).mono ?_); rintro e w' ⟨rfl, rfl⟩)
    go_ret
    exact ⟨by rw [H.out]; rfl, rfl⟩
  · by_cases h2 : b < a
    · have H := Lib.hid (show cmpI a b = 1 by simp [cmpI, h1, h2])
      go_enter Try.func64, Try.ntmps64
      go_wp2_with (go_at_call 69; (with_reducible refine (isNaN_any _ _).mono ?_); rintro e w' ⟨rfl, rfl⟩)
      go_ret
      exact ⟨by rw [H.out]; rfl, rfl⟩
    · have H := Lib.hid (show cmpI a b = 0 by simp [cmpI, h1, h2])
      go_enter Try.func64, Try.ntmps64
      go_wp2_with (go_at_call 69; (with_reducible refine (isNaN_any _ _).mono ?_); rintro e w' ⟨rfl, rfl⟩)
      go_ret
      exact ⟨by rw [H.out]; rfl, rfl⟩
theorem key_any (c d f : Int) (a : Option Addr) (n cap : Nat) (w : World) : Calls Try.prog 59 #[.agg #[.int .i64 c, .int .i64 d, .slice a n cap, .int .i64 f]] w fun e w' => e = .returned (.int .i64 d) ∧ ∃ q os', w' = grow (w.drewN q) os' := by
  go_enter Try.func59, Try.ntmps59
  go_wp2
  go_ret
  exact ⟨rfl, 0, _, by rw [alloc_eq_grow]; rfl⟩
def Try.ins_ren : Go.Shelf.Ren := ⟨fun | 20 => 70 | n => n, fun | 22 => 32 | 24 => 3 | 25 => 113 | 3 => 3 | 0 => 0 | 4 => 4 | n => n, fun | n => n⟩
theorem Try.ins : SlLaysF.n20 Try.prog Try.ins_ren := {
  mixed := by kernel_rfl
  f20 := ⟨Try.f70.name, by decide, Try.func70.trans (congrArg some (by kernel_rfl))⟩
  t0 := Try.underlying0
  a0 := Try.isAgg0
  z0 := Try.sizeOf0
  v0 := Try.zeroValue0
  t3 := Try.underlying3
  a3 := Try.isAgg3
  z3 := Try.sizeOf3
  v3 := Try.zeroValue3
  t4 := Try.underlying4
  a4 := Try.isAgg4
  z4 := Try.sizeOf4
  v4 := Try.zeroValue4
  t22 := Try.underlying32
  a22 := Try.isAgg32
  z22 := Try.sizeOf32
  v22 := Try.zeroValue32
  a24 := Try.isAgg3
  z24 := Try.sizeOf3
  t25 := Try.underlying113
  a25 := Try.isAgg113
  z25 := Try.sizeOf113
  v25 := Try.zeroValue113 }
/-- the number of a proof, as the sort sees it -/
def encN (n : Nat) (x : Nat) : Value := .int .i64 ((min x (n - 1) : Nat) : Int)
/-- the closure's world: the boxes of the key and of the list, the proofs -/
structure CmpAt (w : World) (K Lb : Nat) (b off n cap : Nat) (ps : List Prf) : Prop where
  key : w.heap[K]? = some (.cells #[.func (.func 59) #[] #[]] 108 (0, 0))
  lst : w.heap[Lb]? = some (.cells #[.slice (some ⟨b, off, none⟩) n cap] 24 (0, 0))
  len : ps.length = n
  pos : 0 < n
  few : n ≤ 12
  lt : b < w.heap.size
  cls : ∀ i, i < n → w.cell? ⟨b, off + i * 4, none⟩ = some (.int .i64 (ps.getD i default).cls)
  day : ∀ i, i < n → w.cell? ⟨b, off + i * 4 + 1, none⟩ = some (.int .i64 (ps.getD i default).day)
  seals : ∀ i, i < n → ∃ sa sc, w.cell? ⟨b, off + i * 4 + 2, none⟩ = some (.slice sa (ps.getD i default).seals.length sc)
  failed : ∀ i, i < n → w.cell? ⟨b, off + i * 4 + 3, none⟩ = some (.int .i64 (ps.getD i default).failed)
set_option maxRecDepth 100000 in
set_option maxHeartbeats 3200000 in
theorem closure_any (K Lb b off n cap : Nat) (ps : List Prf) (x y : Nat) (w : World) (h : CmpAt w K Lb b off n cap ps) :
    Calls Try.prog 63 (#[encN n x, encN n y] ++ #[.pointer (some ⟨K, 0, none⟩), .pointer (some ⟨Lb, 0, none⟩)]) w fun e w' => e = .returned (.int .i64 (cmpD ps x y)) ∧ ∃ q os', w' = grow (w.drewN q) os' := by
  obtain ⟨h1, h2, h3, h4, h5, h6, h7, h8, h9, h10⟩ := h
  have hK := (Array.getElem?_eq_some_iff.1 h1).1
  have hL := (Array.getElem?_eq_some_iff.1 h2).1
  have hdx : dayAt ps x = (ps.getD (min x (n - 1)) default).day := by
    unfold dayAt; rw [h3, getElem!_pos ps _ (by omega)]; simp [List.getD, show min x (n - 1) < ps.length by omega]
  have hdy : dayAt ps y = (ps.getD (min y (n - 1)) default).day := by
    unfold dayAt; rw [h3, getElem!_pos ps _ (by omega)]; simp [List.getD, show min y (n - 1) < ps.length by omega]
  unfold encN cmpD
  obtain ⟨i, hi⟩ : ∃ i, min x (n - 1) = i := ⟨_, rfl⟩
  obtain ⟨j, hj⟩ : ∃ j, min y (n - 1) = j := ⟨_, rfl⟩
  rw [hi] at hdx
  rw [hj] at hdy
  rw [hi, hj, hdx, hdy]
  have hin : i < n := by omega
  have hjn : j < n := by omega
  clear hi hj hdx hdy
  obtain ⟨sa, sc, hs1⟩ := h9 i hin
  obtain ⟨sb, sd, hs2⟩ := h9 j hjn
  have a0 := fun q os => cell_grown (w := w) (by exact h6) (h7 i hin) q os
  have a1 := fun q os => cell_grown (w := w) (by exact h6) (h8 i hin) q os
  have a2 := fun q os => cell_grown (w := w) (by exact h6) hs1 q os
  have a3 := fun q os => cell_grown (w := w) (by exact h6) (h10 i hin) q os
  have b0 := fun q os => cell_grown (w := w) (by exact h6) (h7 j hjn) q os
  have b1 := fun q os => cell_grown (w := w) (by exact h6) (h8 j hjn) q os
  have b2 := fun q os => cell_grown (w := w) (by exact h6) hs2 q os
  have b3 := fun q os => cell_grown (w := w) (by exact h6) (h10 j hjn) q os
  have k0 := fun q os => cell_grown (w := w) (a := ⟨K, 0, none⟩) (by exact hK) (one_cell h1) q os
  have l0 := fun q os => cell_grown (w := w) (a := ⟨Lb, 0, none⟩) (by exact hL) (one_cell h2) q os
  generalize (ps.getD i default) = p at *
  generalize (ps.getD j default) = r at *
  have mixed : Try.prog.follows .mixedOrders = true := by kernel_rfl
  have ii : (i : Int) < (n : Int) := by omega
  have jj : (j : Int) < (n : Int) := by omega
  clear h1 h2 h3 h7 h8 h9 h10 hs1 hs2 hK hL
  show Calls Try.prog 63 #[_, _, _, _] w _
  go_enter Try.func63, Try.ntmps63
  go_wp2
  go_quiet_grown ((first | (go_at_call 59; exact Calls.grown_of (key_any _ _ _ _ _ _ _)) | (go_at_call 64; exact Calls.grown_of ((compare_any _ _ _).mono fun _ _ ⟨a, b⟩ => ⟨a, 0, #[], by rw [grow_empty]; exact b.symm⟩))))
  go_wp2
  go_ret
  exact ⟨rfl, _, _, rfl⟩
end Go.Proofs.Ytcmfplfnpjknlaa
