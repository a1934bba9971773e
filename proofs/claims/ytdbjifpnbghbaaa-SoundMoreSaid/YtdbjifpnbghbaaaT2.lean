/- Sound: the true lag of a noise, decimetre by decimetre: the closure of the law's lag. -/
import Derived.Test.YtdbjifpnbghbaaaT1
namespace Go.Proofs.Ytdbjifpnbghbaaa
set_option linter.unusedSimpArgs false
set_option linter.unusedVariables false
open Go.RowKit Go.Maps Go.BigFrame Go.ChangeShapes Go.WideShapes Go.ChangeAt

def wayF (x y B E s : Int) : Int := max 0 (min y E - max x B) * s
/-- the true lag by the first i pipes -/
def lagT (l : List Pi) (sl : List Int) (a b t : Int) : Nat → Int
  | 0 => 0
  | i + 1 => lagT l sl a b t i + shareF l a b (nearF (a, b) t) i * sl.getD i default
theorem way_sum {l : List Pi} (hok : lineOk l = true) {i : Nat} (hi : i < l.length) (a b t s : Int) (hab : a ≤ b) :
    wayF a t (posF l i) (posF l (i + 1)) s + wayF t a (posF l i) (posF l (i + 1)) s - wayF t b (posF l i) (posF l (i + 1)) s - wayF b t (posF l i) (posF l (i + 1)) s = shareF l a b (nearF (a, b) t) i * s := by
  have hp := pipe_in hok hi
  have hs : posF l (i + 1) = posF l i + (l.getD i default).len := rfl
  unfold wayF
  rw [← Int.add_mul, ← Int.sub_mul, ← Int.sub_mul]
  congr 1
  unfold shareF nearF
  simp only []
  omega
theorem way_in {x y B E s : Int} (h : B ≤ E) (h2 : E ≤ B + 100000) (hs0 : 0 ≤ s) (hs1 : s ≤ 10000) : 0 ≤ wayF x y B E s ∧ wayF x y B E s ≤ 1000000000 := by
  have hm : 0 ≤ max 0 (min y E - max x B) ∧ max 0 (min y E - max x B) ≤ 100000 := by omega
  unfold wayF
  refine ⟨Int.mul_nonneg hm.1 hs0, ?_⟩
  have h1 := Int.mul_le_mul hm.2 hs1 hs0 (by omega : (0 : Int) ≤ 100000)
  omega
theorem lagT_in {l : List Pi} (hok : lineOk l = true) {sl : List Int} (hs : ∀ i, i < l.length → 1 ≤ sl.getD i default ∧ sl.getD i default ≤ 10000) (a b t : Int) : ∀ i : Nat, i ≤ l.length → -((i : Int) * 2000000000) ≤ lagT l sl a b t i ∧ lagT l sl a b t i ≤ (i : Int) * 2000000000
  | 0, _ => by simp [lagT]
  | i + 1, hi => by
    have ih := lagT_in hok hs a b t i (by omega)
    have hsi := hs i (by omega)
    have := mul_in (A := 200000) (B := 10000) (share_in hok (i := i) (by omega) a b (nearF (a, b) t)) (b := sl.getD i default) (by omega) (by omega)
    simp only [lagT]
    omega
theorem ints_row {w : World} {a : Option Addr} {n c : Nat} {L : List Int} (h : TabAt 1 inC w (.slice a n c) L) (hl : 0 < L.length) : ∃ b off, a = some ⟨b, off, none⟩ ∧ b < w.heap.size ∧ ∀ i, i < L.length → w.cell? ⟨b, off + i, none⟩ = some (.int .i64 (L.getD i default)) := by
  obtain ⟨b, off, e, hb, hx⟩ := h.at hl
  exact ⟨b, off, e, hb, fun i hi => by have := hx i hi 0 (by omega); simpa [inC] using this⟩
set_option maxRecDepth 100000 in
set_option maxHeartbeats 6400000 in
theorem way_any (x y E B s : Int) (i : Nat) (PE PB PS PI sb so n c : Nat) (w : World) (hx : -1000000000000 ≤ x ∧ x ≤ 1000000000000) (hy : -1000000000000 ≤ y ∧ y ≤ 1000000000000) (hB : 0 ≤ B ∧ B ≤ 1000000) (hE : B ≤ E ∧ E ≤ B + 100000) (hs0 : 0 ≤ s) (hs1 : s ≤ 10000) (hi : i < n) (hnc : n ≤ 9223372036854775807)
    (hPE : w.heap[PE]? = some (.cells #[.int .i64 E] 3 (0, 0))) (hPB : w.heap[PB]? = some (.cells #[.int .i64 B] 3 (0, 0))) (hPS : w.heap[PS]? = some (.cells #[.slice (some ⟨sb, so, none⟩) n c] 54 (0, 0))) (hPI : w.heap[PI]? = some (.cells #[.int .i64 i] 3 (0, 0))) (hc : w.cell? ⟨sb, so + i, none⟩ = some (.int .i64 s)) :
    Calls Try.prog 51 #[.int .i64 x, .int .i64 y, .pointer (some ⟨PE, 0, none⟩), .pointer (some ⟨PB, 0, none⟩), .pointer (some ⟨PS, 0, none⟩), .pointer (some ⟨PI, 0, none⟩)] w fun e w' => e = .returned (.int .i64 (wayF x y B E s)) ∧ Below w.heap.size w w' := by
  have hwi := way_in (x := x) (y := y) hE.1 hE.2 hs0 hs1
  have hwd : wayF x y B E s = max 0 (min y E - max x B) * s := rfl
  obtain ⟨m, hm⟩ : ∃ m, max 0 (min y E - max x B) = m := ⟨_, rfl⟩
  rw [hm] at hwd
  obtain ⟨R, hR⟩ : ∃ R, wayF x y B E s = R := ⟨_, rfl⟩
  rw [hR] at hwd hwi ⊢
  have v1 : IntKind.i64.wrap (min y E - max x B) = min y E - max x B := IntWalk.i64_in _ (by omega)
  have v2 : IntKind.i64.wrap (m * s) = R := by rw [← hwd]; exact IntWalk.i64_in _ (by omega)
  have ij0 : (0 : Int) ≤ (i : Int) := by omega
  have ij1 : (i : Int) < (n : Int) := Int.ofNat_lt.2 hi
  obtain ⟨W2, hW2⟩ : ∃ X, X = w.drew := ⟨_, rfl⟩
  have hbD : Below w.heap.size w W2 := by rw [hW2]; exact (Below.refl _ _).drew
  have hT : (W2.cell? ⟨PE, 0, none⟩ = some (.int .i64 E) ∧ W2.cell? ⟨PB, 0, none⟩ = some (.int .i64 B)) ∧ (W2.cell? ⟨PS, 0, none⟩ = some (.slice (some ⟨sb, so, none⟩) n c) ∧ W2.cell? ⟨PI, 0, none⟩ = some (.int .i64 i)) ∧ W2.cell? ⟨sb, so + i, none⟩ = some (.int .i64 s) :=
    ⟨⟨one_cell (box_step (w0 := w) hPE hbD), one_cell (box_step (w0 := w) hPB hbD)⟩, ⟨one_cell (box_step (w0 := w) hPS hbD), one_cell (box_step (w0 := w) hPI hbD)⟩, cell_step hc hbD⟩
  have HT := Lib.hid hT
  have HB := Lib.hid hbD
  clear hT hbD hPE hPB hPS hPI hc hx hy hB hE hwi hR hwd hs0 hs1 hi
  go_enter Try.func51, Try.ntmps51
  go_upto_region 1 with fail
  refine wp_region_held_drew (S := fun w' => (w'.cell? ⟨PE, 0, none⟩ = some (.int .i64 E) ∧ w'.cell? ⟨PB, 0, none⟩ = some (.int .i64 B)) ∧ (w'.cell? ⟨PS, 0, none⟩ = some (.slice (some ⟨sb, so, none⟩) n c) ∧ w'.cell? ⟨PI, 0, none⟩ = some (.int .i64 i)) ∧ w'.cell? ⟨sb, so + i, none⟩ = some (.int .i64 s)) (by kernel_rfl) (by rw [← hW2]; exact HT.out) (fun hHeld => ?_)
  rw [← hW2]
  clear hW2 hHeld
  refine wpAnyH_take (i := 0) (oi := _) (v := ?_) rfl (by kernel_rfl) (by kernel_rfl) (by kernel_rfl) (fun _ _ _ h => h) (Or.inl ⟨by rfl, ?_⟩) HT.out ?_
  rotate_left
  · intro w1 hSw
    obtain ⟨⟨z1, z2⟩, ⟨z3, z4⟩, z5⟩ := hSw
    go_simp; with_reducible rfl
  simp only [List.getElem_toArray, List.getElem_cons_succ, List.getElem_cons_zero, Act.put, List.setIfInBounds_toArray, List.set_cons_zero, List.set_cons_succ]
  refine wpAnyH_take (i := 1) (oi := _) (v := ?_) rfl (by kernel_rfl) (by kernel_rfl) (by kernel_rfl) (fun _ _ _ h => h) (Or.inl ⟨by rfl, ?_⟩) HT.out ?_
  rotate_left
  · intro w1 hSw
    obtain ⟨⟨z1, z2⟩, ⟨z3, z4⟩, z5⟩ := hSw
    go_simp; with_reducible rfl
  simp only [List.getElem_toArray, List.getElem_cons_succ, List.getElem_cons_zero, Act.put, List.setIfInBounds_toArray, List.set_cons_zero, List.set_cons_succ]
  refine wpAnyH_take (i := 2) (oi := _) (v := ?_) rfl (by kernel_rfl) (by kernel_rfl) (by kernel_rfl) (fun _ _ _ h => h) (Or.inl ⟨by rfl, ?_⟩) HT.out ?_
  rotate_left
  · intro w1 hSw
    obtain ⟨⟨z1, z2⟩, ⟨z3, z4⟩, z5⟩ := hSw
    go_simp; with_reducible rfl
  simp only [List.getElem_toArray, List.getElem_cons_succ, List.getElem_cons_zero, Act.put, List.setIfInBounds_toArray, List.set_cons_zero, List.set_cons_succ]
  refine wpAnyH_take (i := 3) (oi := _) (v := ?_) rfl (by kernel_rfl) (by kernel_rfl) (by kernel_rfl) (fun _ _ _ h => h) (Or.inl ⟨by rfl, ?_⟩) HT.out ?_
  rotate_left
  · intro w1 hSw
    obtain ⟨⟨z1, z2⟩, ⟨z3, z4⟩, z5⟩ := hSw
    go_simp; with_reducible rfl
  simp only [List.getElem_toArray, List.getElem_cons_succ, List.getElem_cons_zero, Act.put, List.setIfInBounds_toArray, List.set_cons_zero, List.set_cons_succ]
  refine wpAnyH_take (i := 4) (oi := _) (v := ?_) rfl (by kernel_rfl) (by kernel_rfl) (by kernel_rfl) (fun _ _ _ h => h) (Or.inl ⟨by rfl, ?_⟩) HT.out ?_
  rotate_left
  · intro w1 hSw
    obtain ⟨⟨z1, z2⟩, ⟨z3, z4⟩, z5⟩ := hSw
    go_simp; with_reducible rfl
  simp only [List.getElem_toArray, List.getElem_cons_succ, List.getElem_cons_zero, Act.put, List.setIfInBounds_toArray, List.set_cons_zero, List.set_cons_succ]
  refine wpAnyH_take (i := 5) (oi := _) (v := ?_) rfl (by kernel_rfl) (by kernel_rfl) (by kernel_rfl) (fun _ _ _ h => h) (Or.inl ⟨by rfl, ?_⟩) HT.out ?_
  rotate_left
  · intro w1 hSw
    obtain ⟨⟨z1, z2⟩, ⟨z3, z4⟩, z5⟩ := hSw
    go_simp; with_reducible rfl
  simp only [List.getElem_toArray, List.getElem_cons_succ, List.getElem_cons_zero, Act.put, List.setIfInBounds_toArray, List.set_cons_zero, List.set_cons_succ]
  refine wpAnyH_take (i := 6) (oi := _) (v := ?_) rfl (by kernel_rfl) (by kernel_rfl) (by kernel_rfl) (fun _ _ _ h => h) (Or.inl ⟨by rfl, ?_⟩) HT.out ?_
  rotate_left
  · intro w1 hSw
    obtain ⟨⟨z1, z2⟩, ⟨z3, z4⟩, z5⟩ := hSw
    go_simp; with_reducible rfl
  simp only [List.getElem_toArray, List.getElem_cons_succ, List.getElem_cons_zero, Act.put, List.setIfInBounds_toArray, List.set_cons_zero, List.set_cons_succ]
  refine wpAnyH_take (i := 7) (oi := _) (v := ?_) rfl (by kernel_rfl) (by kernel_rfl) (by kernel_rfl) (fun _ _ _ h => h) (Or.inl ⟨by rfl, ?_⟩) HT.out ?_
  rotate_left
  · intro w1 hSw
    obtain ⟨⟨z1, z2⟩, ⟨z3, z4⟩, z5⟩ := hSw
    go_simp; with_reducible rfl
  simp only [List.getElem_toArray, List.getElem_cons_succ, List.getElem_cons_zero, Act.put, List.setIfInBounds_toArray, List.set_cons_zero, List.set_cons_succ]
  try rw [hm]
  refine wpAnyH_take (i := 8) (oi := _) (v := ?_) rfl (by kernel_rfl) (by kernel_rfl) (by kernel_rfl) (fun _ _ _ h => h) (Or.inl ⟨by rfl, ?_⟩) HT.out ?_
  rotate_left
  · intro w1 hSw
    obtain ⟨⟨z1, z2⟩, ⟨z3, z4⟩, z5⟩ := hSw
    go_simp; with_reducible rfl
  simp only [List.getElem_toArray, List.getElem_cons_succ, List.getElem_cons_zero, Act.put, List.setIfInBounds_toArray, List.set_cons_zero, List.set_cons_succ]
  refine wpAnyH_take (i := 9) (oi := _) (v := ?_) rfl (by kernel_rfl) (by kernel_rfl) (by kernel_rfl) (fun _ _ _ h => h) (Or.inl ⟨by rfl, ?_⟩) HT.out ?_
  rotate_left
  · intro w1 hSw
    obtain ⟨⟨z1, z2⟩, ⟨z3, z4⟩, z5⟩ := hSw
    go_simp; with_reducible rfl
  simp only [List.getElem_toArray, List.getElem_cons_succ, List.getElem_cons_zero, Act.put, List.setIfInBounds_toArray, List.set_cons_zero, List.set_cons_succ]
  refine wpAnyH_take (i := 10) (oi := _) (v := ?_) rfl (by kernel_rfl) (by kernel_rfl) (by kernel_rfl) (fun _ _ _ h => h) (Or.inl ⟨by rfl, ?_⟩) HT.out ?_
  rotate_left
  · intro w1 hSw
    obtain ⟨⟨z1, z2⟩, ⟨z3, z4⟩, z5⟩ := hSw
    go_simp; with_reducible rfl
  simp only [List.getElem_toArray, List.getElem_cons_succ, List.getElem_cons_zero, Act.put, List.setIfInBounds_toArray, List.set_cons_zero, List.set_cons_succ]
  refine wpAnyH_take (i := 11) (oi := _) (v := ?_) rfl (by kernel_rfl) (by kernel_rfl) (by kernel_rfl) (fun _ _ _ h => h) (Or.inl ⟨by rfl, ?_⟩) HT.out ?_
  rotate_left
  · intro w1 hSw
    obtain ⟨⟨z1, z2⟩, ⟨z3, z4⟩, z5⟩ := hSw
    go_simp; with_reducible rfl
  simp only [List.getElem_toArray, List.getElem_cons_succ, List.getElem_cons_zero, Act.put, List.setIfInBounds_toArray, List.set_cons_zero, List.set_cons_succ]
  refine wpAnyH_take (i := 12) (oi := _) (v := ?_) rfl (by kernel_rfl) (by kernel_rfl) (by kernel_rfl) (fun _ _ _ h => h) (Or.inl ⟨by rfl, ?_⟩) HT.out ?_
  rotate_left
  · intro w1 hSw
    obtain ⟨⟨z1, z2⟩, ⟨z3, z4⟩, z5⟩ := hSw
    go_simp; with_reducible rfl
  simp only [List.getElem_toArray, List.getElem_cons_succ, List.getElem_cons_zero, Act.put, List.setIfInBounds_toArray, List.set_cons_zero, List.set_cons_succ]
  refine wpAnyH_take (i := 13) (oi := _) (v := ?_) rfl (by kernel_rfl) (by kernel_rfl) (by kernel_rfl) (fun _ _ _ h => h) (Or.inl ⟨by rfl, ?_⟩) HT.out ?_
  rotate_left
  · intro w1 hSw
    obtain ⟨⟨z1, z2⟩, ⟨z3, z4⟩, z5⟩ := hSw
    go_simp; with_reducible rfl
  simp only [List.getElem_toArray, List.getElem_cons_succ, List.getElem_cons_zero, Act.put, List.setIfInBounds_toArray, List.set_cons_zero, List.set_cons_succ]
  refine wpAnyH_done (by kernel_rfl) ?_ _
  go_wp2
  go_ret
  exact ⟨rfl, HB.out⟩
end Go.Proofs.Ytdbjifpnbghbaaa
