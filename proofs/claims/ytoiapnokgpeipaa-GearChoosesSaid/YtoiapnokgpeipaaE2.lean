/- train: a train out of a list of teeth. -/
import Derived.Test.YtoiapnokgpeipaaE1
import Derived.Deep.AppendLies
namespace Go.Proofs.Ytoiapnokgpeipaa
set_option linter.unusedSimpArgs false
open Go.RowKit Go.Maps

def pairL : List Int → List (Int × Int)
  | a :: b :: r => (a, b) :: pairL r
  | _ => []
theorem pairL_len : ∀ l : List Int, (pairL l).length = l.length / 2
  | [] => rfl
  | [_] => by simp [pairL]
  | a :: b :: r => by rw [pairL, List.length_cons, pairL_len r]; simp; omega
theorem pairL_get : ∀ (l : List Int) (k : Nat), 2 * k + 1 < l.length → (pairL l)[k]? = some (l.getD (2 * k) 0, l.getD (2 * k + 1) 0)
  | [], k, h => by simp at h
  | [_], k, h => by simp at h
  | a :: b :: r, 0, _ => rfl
  | a :: b :: r, k + 1, h => by
    rw [pairL, List.getElem?_cons_succ, pairL_get r k (by simp at h; omega)]
    rw [show 2 * (k + 1) = 2 * k + 1 + 1 by omega]; rfl
theorem pairL_snoc (l : List Int) (k : Nat) (h : 2 * k + 1 < l.length) : ((usedP ((pairL l).take k)).map (Value.int .i64)) ++ [.int .i64 (l.getD (2 * k) 0), .int .i64 (l.getD (2 * k + 1) 0)] = (usedP ((pairL l).take (k + 1))).map (Value.int .i64) := by
  have h1 := pairL_get l k h
  obtain ⟨hk, h2⟩ := List.getElem?_eq_some_iff.1 h1
  rw [← usedP_snoc (pairL l) k hk, h2]

def TrainRes (i : Int) (l : List Int) (w : World) (e : Ending) (w' : World) : Prop := ∃ x, e = .returned (.agg #[x, .int .i64 i]) ∧ Below w.heap.size w w' ∧ w'.ownsRow w.heap.size 49 2 x (pairL l).length ((usedP (pairL l)).map (Value.int .i64))

set_option maxRecDepth 100000 in
set_option maxHeartbeats 3200000 in
theorem trainOf_any (i : Int) (l : List Int) (b off cap : Nat) (w : World) (hl : l.length ≤ 1000) (hlc : l.length ≤ cap) (hcm : cap ≤ 9223372036854775807) (hb : b < w.heap.size)
    (hc : ∀ i, i < l.length → w.cell? ⟨b, off + i, none⟩ = some (.int .i64 (l.getD i 0))) :
    Calls Try.prog 22 #[.int .i64 i, .slice (some ⟨b, off, none⟩) l.length cap] w (TrainRes i l w) := by
  obtain ⟨i0, hi, hz0, hz1, hz2⟩ := info_parts Try.info49
  obtain ⟨W0, hW0⟩ : ∃ W0, W0 = ((w.alloc (.cells #[.slice none 0 0, .int .i64 0] 27)).alloc (.cells #[.slice none 0 0, .int .i64 i] 27)) := ⟨_, rfl⟩
  have hg0 : Below w.heap.size w W0 := by rw [hW0]; exact ((Below.refl _ _).alloc (Nat.le_refl _) _).alloc (by simp) _
  have hG0 : W0.heap[w.heap.size]? = some (.cells #[.slice none 0 0, .int .i64 0] 27) := by rw [hW0, Below.heap_alloc _ _ _ (by simp)]; exact (MapKept.heap_alloc w _).1
  have hR0 : W0.heap[w.heap.size + 1]? = some (.cells #[.slice none 0 0, .int .i64 i] 27) := by
    have := (MapKept.heap_alloc (w.alloc (.cells #[.slice none 0 0, .int .i64 0] 27)) (.cells #[.slice none 0 0, .int .i64 i] 27)).1
    rw [hW0]; simpa using this
  have hz0' : W0.heap.size = w.heap.size + 2 := by rw [hW0]; simp
  go_enter Try.func22, Try.ntmps22
  go_wp2
  rw [← hW0]
  clear hW0
  go_loopw [6] (fun c wr => ∃ k j : Nat, k ≤ (pairL l).length ∧ Hid (j = 2 * k) ∧ j ≤ l.length ∧ c = .int .i64 j ∧ Below w.heap.size w wr ∧ W0.heap.size ≤ wr.heap.size ∧ wr.heap[w.heap.size]? = some (.cells #[.slice none 0 0, .int .i64 0] 27) ∧
    ∃ sv, wr.heap[w.heap.size + 1]? = some (.cells #[sv, .int .i64 i] 27) ∧ wr.ownsRow (w.heap.size + 2) 49 2 sv k ((usedP ((pairL l).take k)).map (Value.int .i64))) (fun c _ => l.length - (intOf c).toNat)
  case atStart => exact ⟨0, 0, by omega, Lib.hid rfl, by omega, rfl, hg0, by omega, hG0, _, hR0, World.ownsRow_nil _ _ _ _⟩
  case round =>
    obtain ⟨k, j, hk, hj, hjl, rfl, hbel, hwz, hG, sv, hR, hd⟩ := hrel
    have hpl := pairL_len l
    have hj' := hj.out
    by_cases hlt : j + 1 < l.length
    · have c0 := hc j (by omega)
      have c1 := hc (j + 1) hlt
      rw [← hbel.cell (p := ⟨b, _, none⟩) hb] at c0 c1
      obtain ⟨x, hx⟩ : ∃ x, x = l.getD j 0 := ⟨_, rfl⟩
      obtain ⟨y, hy⟩ : ∃ y, y = l.getD (j + 1) 0 := ⟨_, rfl⟩
      rw [← hx] at c0
      rw [← hy] at c1
      have hs1 := pairL_snoc l k (by omega)
      rw [← hj', ← hx, ← hy] at hs1
      have G1 := Lib.hid hs1.symm
      have hk1 : k + 1 ≤ (pairL l).length := by omega
      have hk3 : k ≤ 500 := by omega
      generalize (usedP ((pairL l).take k)).map (Value.int .i64) = L1 at *
      have hdl := hd.lt
      clear hc hx hy hs1 hpl hj'
      have i1 : (0 : Int) ≤ (j : Int) := by omega
      have i2 : (j : Int) + 1 < (l.length : Int) := by omega
      have i3 : (0 : Int) ≤ (j : Int) + 1 := by omega
      have i4 : (j : Int) < (l.length : Int) := by omega
      have i5 : ((j : Int) + 1).toNat = j + 1 := by omega
      have i6 : IntKind.i64.wrap ((j : Int) + 1) = (j : Int) + 1 := IntWalk.i64_in _ (by omega)
      go_wp2
      refine wp_region_last (fun w' => w'.heap[w.heap.size + 1]? = some (.cells #[sv, .int .i64 i] 27) ∧ w'.cell? ⟨b, off + j, none⟩ = some (.int .i64 x) ∧ w'.cell? ⟨b, off + (j + 1), none⟩ = some (.int .i64 y)) 15 (by kernel_rfl) ⟨hR, c0, c1⟩ (fun hHeld => ?_)
      refine wpLast_take (i := 0) (oi := _) (v := ?_) rfl (by kernel_rfl) (by kernel_rfl) (by decide) (by kernel_rfl) (by kernel_rfl) (fun _ _ _ h => h) (Or.inl ⟨by rfl, ?_⟩) hHeld ?_
      rotate_left
      · intro w1 hSw
        replace hSw : w1.heap[w.heap.size + 1]? = some (.cells #[sv, .int .i64 i] 27) ∧ w1.cell? ⟨b, off + j, none⟩ = some (.int .i64 x) ∧ w1.cell? ⟨b, off + (j + 1), none⟩ = some (.int .i64 y) := hSw
        obtain ⟨hSg, c0, c1⟩ := hSw
        obtain ⟨e0, e1⟩ : w1.cell? ⟨w.heap.size + 1, 0, none⟩ = some sv ∧ w1.cell? ⟨w.heap.size + 1, 1, none⟩ = some (.int .i64 i) := by refine ⟨?_, ?_⟩ <;> simp [World.cell?, hSg]
        clear hSg
        go_simp; with_reducible rfl
      simp only [List.getElem_toArray, List.getElem_cons_succ, List.getElem_cons_zero, Act.put, List.setIfInBounds_toArray, List.set_cons_zero, List.set_cons_succ]
      refine wpLast_take (i := 1) (oi := _) (v := ?_) rfl (by kernel_rfl) (by kernel_rfl) (by decide) (by kernel_rfl) (by kernel_rfl) (fun _ _ _ h => h) (Or.inl ⟨by rfl, ?_⟩) hHeld ?_
      rotate_left
      · intro w1 hSw
        replace hSw : w1.heap[w.heap.size + 1]? = some (.cells #[sv, .int .i64 i] 27) ∧ w1.cell? ⟨b, off + j, none⟩ = some (.int .i64 x) ∧ w1.cell? ⟨b, off + (j + 1), none⟩ = some (.int .i64 y) := hSw
        obtain ⟨hSg, c0, c1⟩ := hSw
        obtain ⟨e0, e1⟩ : w1.cell? ⟨w.heap.size + 1, 0, none⟩ = some sv ∧ w1.cell? ⟨w.heap.size + 1, 1, none⟩ = some (.int .i64 i) := by refine ⟨?_, ?_⟩ <;> simp [World.cell?, hSg]
        clear hSg
        go_simp; with_reducible rfl
      simp only [List.getElem_toArray, List.getElem_cons_succ, List.getElem_cons_zero, Act.put, List.setIfInBounds_toArray, List.set_cons_zero, List.set_cons_succ]
      refine wpLast_take (i := 2) (oi := _) (v := ?_) rfl (by kernel_rfl) (by kernel_rfl) (by decide) (by kernel_rfl) (by kernel_rfl) (fun _ _ _ h => h) (Or.inl ⟨by rfl, ?_⟩) hHeld ?_
      rotate_left
      · intro w1 hSw
        replace hSw : w1.heap[w.heap.size + 1]? = some (.cells #[sv, .int .i64 i] 27) ∧ w1.cell? ⟨b, off + j, none⟩ = some (.int .i64 x) ∧ w1.cell? ⟨b, off + (j + 1), none⟩ = some (.int .i64 y) := hSw
        obtain ⟨hSg, c0, c1⟩ := hSw
        obtain ⟨e0, e1⟩ : w1.cell? ⟨w.heap.size + 1, 0, none⟩ = some sv ∧ w1.cell? ⟨w.heap.size + 1, 1, none⟩ = some (.int .i64 i) := by refine ⟨?_, ?_⟩ <;> simp [World.cell?, hSg]
        clear hSg
        go_simp; with_reducible rfl
      simp only [List.getElem_toArray, List.getElem_cons_succ, List.getElem_cons_zero, Act.put, List.setIfInBounds_toArray, List.set_cons_zero, List.set_cons_succ]
      refine wpLast_take (i := 3) (oi := _) (v := ?_) rfl (by kernel_rfl) (by kernel_rfl) (by decide) (by kernel_rfl) (by kernel_rfl) (fun _ _ _ h => h) (Or.inl ⟨by rfl, ?_⟩) hHeld ?_
      rotate_left
      · intro w1 hSw
        replace hSw : w1.heap[w.heap.size + 1]? = some (.cells #[sv, .int .i64 i] 27) ∧ w1.cell? ⟨b, off + j, none⟩ = some (.int .i64 x) ∧ w1.cell? ⟨b, off + (j + 1), none⟩ = some (.int .i64 y) := hSw
        obtain ⟨hSg, c0, c1⟩ := hSw
        obtain ⟨e0, e1⟩ : w1.cell? ⟨w.heap.size + 1, 0, none⟩ = some sv ∧ w1.cell? ⟨w.heap.size + 1, 1, none⟩ = some (.int .i64 i) := by refine ⟨?_, ?_⟩ <;> simp [World.cell?, hSg]
        clear hSg
        go_simp; with_reducible rfl
      simp only [List.getElem_toArray, List.getElem_cons_succ, List.getElem_cons_zero, Act.put, List.setIfInBounds_toArray, List.set_cons_zero, List.set_cons_succ]
      refine wpLast_take (i := 4) (oi := _) (v := ?_) rfl (by kernel_rfl) (by kernel_rfl) (by decide) (by kernel_rfl) (by kernel_rfl) (fun _ _ _ h => h) (Or.inl ⟨by rfl, ?_⟩) hHeld ?_
      rotate_left
      · intro w1 hSw
        replace hSw : w1.heap[w.heap.size + 1]? = some (.cells #[sv, .int .i64 i] 27) ∧ w1.cell? ⟨b, off + j, none⟩ = some (.int .i64 x) ∧ w1.cell? ⟨b, off + (j + 1), none⟩ = some (.int .i64 y) := hSw
        obtain ⟨hSg, c0, c1⟩ := hSw
        obtain ⟨e0, e1⟩ : w1.cell? ⟨w.heap.size + 1, 0, none⟩ = some sv ∧ w1.cell? ⟨w.heap.size + 1, 1, none⟩ = some (.int .i64 i) := by refine ⟨?_, ?_⟩ <;> simp [World.cell?, hSg]
        clear hSg
        go_simp; with_reducible rfl
      simp only [List.getElem_toArray, List.getElem_cons_succ, List.getElem_cons_zero, Act.put, List.setIfInBounds_toArray, List.set_cons_zero, List.set_cons_succ]
      refine wpLast_take (i := 5) (oi := _) (v := ?_) rfl (by kernel_rfl) (by kernel_rfl) (by decide) (by kernel_rfl) (by kernel_rfl) (fun _ _ _ h => h) (Or.inl ⟨by rfl, ?_⟩) hHeld ?_
      rotate_left
      · intro w1 hSw
        replace hSw : w1.heap[w.heap.size + 1]? = some (.cells #[sv, .int .i64 i] 27) ∧ w1.cell? ⟨b, off + j, none⟩ = some (.int .i64 x) ∧ w1.cell? ⟨b, off + (j + 1), none⟩ = some (.int .i64 y) := hSw
        obtain ⟨hSg, c0, c1⟩ := hSw
        obtain ⟨e0, e1⟩ : w1.cell? ⟨w.heap.size + 1, 0, none⟩ = some sv ∧ w1.cell? ⟨w.heap.size + 1, 1, none⟩ = some (.int .i64 i) := by refine ⟨?_, ?_⟩ <;> simp [World.cell?, hSg]
        clear hSg
        go_simp; with_reducible rfl
      simp only [List.getElem_toArray, List.getElem_cons_succ, List.getElem_cons_zero, Act.put, List.setIfInBounds_toArray, List.set_cons_zero, List.set_cons_succ]
      refine wpLast_take (i := 6) (oi := _) (v := ?_) rfl (by kernel_rfl) (by kernel_rfl) (by decide) (by kernel_rfl) (by kernel_rfl) (fun _ _ _ h => h) (Or.inl ⟨by rfl, ?_⟩) hHeld ?_
      rotate_left
      · intro w1 hSw
        replace hSw : w1.heap[w.heap.size + 1]? = some (.cells #[sv, .int .i64 i] 27) ∧ w1.cell? ⟨b, off + j, none⟩ = some (.int .i64 x) ∧ w1.cell? ⟨b, off + (j + 1), none⟩ = some (.int .i64 y) := hSw
        obtain ⟨hSg, c0, c1⟩ := hSw
        obtain ⟨e0, e1⟩ : w1.cell? ⟨w.heap.size + 1, 0, none⟩ = some sv ∧ w1.cell? ⟨w.heap.size + 1, 1, none⟩ = some (.int .i64 i) := by refine ⟨?_, ?_⟩ <;> simp [World.cell?, hSg]
        clear hSg
        go_simp; with_reducible rfl
      simp only [List.getElem_toArray, List.getElem_cons_succ, List.getElem_cons_zero, Act.put, List.setIfInBounds_toArray, List.set_cons_zero, List.set_cons_succ]
      refine wpLast_take (i := 7) (oi := _) (v := ?_) rfl (by kernel_rfl) (by kernel_rfl) (by decide) (by kernel_rfl) (by kernel_rfl) (fun _ _ _ h => h) (Or.inl ⟨by rfl, ?_⟩) hHeld ?_
      rotate_left
      · intro w1 hSw
        replace hSw : w1.heap[w.heap.size + 1]? = some (.cells #[sv, .int .i64 i] 27) ∧ w1.cell? ⟨b, off + j, none⟩ = some (.int .i64 x) ∧ w1.cell? ⟨b, off + (j + 1), none⟩ = some (.int .i64 y) := hSw
        obtain ⟨hSg, c0, c1⟩ := hSw
        obtain ⟨e0, e1⟩ : w1.cell? ⟨w.heap.size + 1, 0, none⟩ = some sv ∧ w1.cell? ⟨w.heap.size + 1, 1, none⟩ = some (.int .i64 i) := by refine ⟨?_, ?_⟩ <;> simp [World.cell?, hSg]
        clear hSg
        go_simp; with_reducible rfl
      simp only [List.getElem_toArray, List.getElem_cons_succ, List.getElem_cons_zero, Act.put, List.setIfInBounds_toArray, List.set_cons_zero, List.set_cons_succ]
      refine wpLast_take (i := 8) (oi := _) (v := ?_) rfl (by kernel_rfl) (by kernel_rfl) (by decide) (by kernel_rfl) (by kernel_rfl) (fun _ _ _ h => h) (Or.inl ⟨by rfl, ?_⟩) hHeld ?_
      rotate_left
      · intro w1 hSw
        replace hSw : w1.heap[w.heap.size + 1]? = some (.cells #[sv, .int .i64 i] 27) ∧ w1.cell? ⟨b, off + j, none⟩ = some (.int .i64 x) ∧ w1.cell? ⟨b, off + (j + 1), none⟩ = some (.int .i64 y) := hSw
        obtain ⟨hSg, c0, c1⟩ := hSw
        obtain ⟨e0, e1⟩ : w1.cell? ⟨w.heap.size + 1, 0, none⟩ = some sv ∧ w1.cell? ⟨w.heap.size + 1, 1, none⟩ = some (.int .i64 i) := by refine ⟨?_, ?_⟩ <;> simp [World.cell?, hSg]
        clear hSg
        go_simp; with_reducible rfl
      simp only [List.getElem_toArray, List.getElem_cons_succ, List.getElem_cons_zero, Act.put, List.setIfInBounds_toArray, List.set_cons_zero, List.set_cons_succ]
      refine wpLast_take (i := 9) (oi := _) (v := ?_) rfl (by kernel_rfl) (by kernel_rfl) (by decide) (by kernel_rfl) (by kernel_rfl) (fun _ _ _ h => h) (Or.inl ⟨by rfl, ?_⟩) hHeld ?_
      rotate_left
      · intro w1 hSw
        replace hSw : w1.heap[w.heap.size + 1]? = some (.cells #[sv, .int .i64 i] 27) ∧ w1.cell? ⟨b, off + j, none⟩ = some (.int .i64 x) ∧ w1.cell? ⟨b, off + (j + 1), none⟩ = some (.int .i64 y) := hSw
        obtain ⟨hSg, c0, c1⟩ := hSw
        obtain ⟨e0, e1⟩ : w1.cell? ⟨w.heap.size + 1, 0, none⟩ = some sv ∧ w1.cell? ⟨w.heap.size + 1, 1, none⟩ = some (.int .i64 i) := by refine ⟨?_, ?_⟩ <;> simp [World.cell?, hSg]
        clear hSg
        go_simp; with_reducible rfl
      simp only [List.getElem_toArray, List.getElem_cons_succ, List.getElem_cons_zero, Act.put, List.setIfInBounds_toArray, List.set_cons_zero, List.set_cons_succ]
      refine wpLast_take (i := 10) (oi := _) (v := ?_) rfl (by kernel_rfl) (by kernel_rfl) (by decide) (by kernel_rfl) (by kernel_rfl) (fun _ _ _ h => h) (Or.inl ⟨by rfl, ?_⟩) hHeld ?_
      rotate_left
      · intro w1 hSw
        replace hSw : w1.heap[w.heap.size + 1]? = some (.cells #[sv, .int .i64 i] 27) ∧ w1.cell? ⟨b, off + j, none⟩ = some (.int .i64 x) ∧ w1.cell? ⟨b, off + (j + 1), none⟩ = some (.int .i64 y) := hSw
        obtain ⟨hSg, c0, c1⟩ := hSw
        obtain ⟨e0, e1⟩ : w1.cell? ⟨w.heap.size + 1, 0, none⟩ = some sv ∧ w1.cell? ⟨w.heap.size + 1, 1, none⟩ = some (.int .i64 i) := by refine ⟨?_, ?_⟩ <;> simp [World.cell?, hSg]
        clear hSg
        go_simp; with_reducible rfl
      simp only [List.getElem_toArray, List.getElem_cons_succ, List.getElem_cons_zero, Act.put, List.setIfInBounds_toArray, List.set_cons_zero, List.set_cons_succ]
      refine wpLast_take (i := 11) (oi := _) (v := ?_) rfl (by kernel_rfl) (by kernel_rfl) (by decide) (by kernel_rfl) (by kernel_rfl) (fun _ _ _ h => h) (Or.inl ⟨by rfl, ?_⟩) hHeld ?_
      rotate_left
      · intro w1 hSw
        replace hSw : w1.heap[w.heap.size + 1]? = some (.cells #[sv, .int .i64 i] 27) ∧ w1.cell? ⟨b, off + j, none⟩ = some (.int .i64 x) ∧ w1.cell? ⟨b, off + (j + 1), none⟩ = some (.int .i64 y) := hSw
        obtain ⟨hSg, c0, c1⟩ := hSw
        obtain ⟨e0, e1⟩ : w1.cell? ⟨w.heap.size + 1, 0, none⟩ = some sv ∧ w1.cell? ⟨w.heap.size + 1, 1, none⟩ = some (.int .i64 i) := by refine ⟨?_, ?_⟩ <;> simp [World.cell?, hSg]
        clear hSg
        go_simp; with_reducible rfl
      simp only [List.getElem_toArray, List.getElem_cons_succ, List.getElem_cons_zero, Act.put, List.setIfInBounds_toArray, List.set_cons_zero, List.set_cons_succ]
      refine wpLast_ready (rs := [12]) (by kernel_rfl) (by simp) ?_
      intro i hi; obtain rfl := List.mem_singleton.1 hi; clear hi
      refine wpOp_step rfl (fun K3 hK3 => ?_)
      have HK3 := Lib.hid hK3
      clear hK3
      rw [if_pos (by rfl)]
      go_simp
      have hR1 : (wr.alloc (.cells #[.int .i64 x, .int .i64 y] 49)).drew.heap[w.heap.size + 1]? = some (.cells #[sv, .int .i64 i] 27) := (Below.heap_alloc wr _ _ (by omega)).trans hR
      have hG1 : (wr.alloc (.cells #[.int .i64 x, .int .i64 y] 49)).drew.heap[w.heap.size]? = some (.cells #[.slice none 0 0, .int .i64 0] 27) := (Below.heap_alloc wr _ _ (by omega)).trans hG
      have d0 : (wr.alloc (.cells #[.int .i64 x, .int .i64 y] 49)).drew.cell? ⟨b, off + j, none⟩ = some (.int .i64 x) := cell_al c0 _
      have d1 : (wr.alloc (.cells #[.int .i64 x, .int .i64 y] 49)).drew.cell? ⟨b, off + (j + 1), none⟩ = some (.int .i64 y) := cell_al c1 _
      have hd1 : (wr.alloc (.cells #[.int .i64 x, .int .i64 y] 49)).drew.ownsRow (w.heap.size + 2) 49 2 sv k L1 := (hd.alloc _)
      have hnew : ∀ q u, ([.int .i64 x, .int .i64 y] : List Value)[q]? = some u → (wr.alloc (.cells #[.int .i64 x, .int .i64 y] 49)).drew.cell? ((⟨wr.heap.size, 0, none⟩ : Addr).add q) = some u := cell_two_new wr (.int .i64 x) (.int .i64 y) 49
      have hza : (wr.alloc (.cells #[.int .i64 x, .int .i64 y] 49)).drew.heap.size = wr.heap.size + 1 := by simp
      have hB1 : Below w.heap.size w (wr.alloc (.cells #[.int .i64 x, .int .i64 y] 49)).drew := (hbel.alloc (by omega) _).drew
      refine HK3.out _ _ ⟨fun _ => ⟨hR1, d0, d1⟩, fun _ => ?_⟩
      clear HK3 K3
      try simp only [List.getElem_toArray, List.getElem_cons_succ, List.getElem_cons_zero, Act.put, List.setIfInBounds_toArray, List.set_cons_zero, List.set_cons_succ]
      generalize (wr.alloc (.cells #[.int .i64 x, .int .i64 y] 49)).drew = wa at *
      refine wpLast_ready (rs := [13]) (by kernel_rfl) (by simp) ?_
      intro i hi; obtain rfl := List.mem_singleton.1 hi; clear hi
      refine wpOp_step rfl (fun K3 hK3 => ?_)
      have HK3 := Lib.hid hK3
      clear hK3
      rw [if_pos (by rfl)]
      simp only [List.getElem_toArray, List.getElem_cons_succ, List.getElem_cons_zero]
      refine wp_append_lies _ (.tmp 17) (.tmp 28) 25 (by rfl) (w.heap.size + 2) 49 i0 (.agg #[.int .i64 0, .int .i64 0]) 2 16 Try.underlying25 hi hz0 hz1 hz2 rfl (by decide) sv k L1 (by rfl) hd1 ⟨wr.heap.size, 0, none⟩ 1 1 [.int .i64 x, .int .i64 y] (by rfl) rfl hnew (ints_oneCell .i64 [x, y]) (by decide) (by unfold maxLen; omega) (by omega) (by omega) _ rfl ?_
      intro g cp w2 hd2 hg2 hat2 hlt2
      have hne2 : ∀ q, sv.ownBlock = some q → w.heap.size + 2 ≤ q := fun q hq => (hdl q hq).1
      have hR2 : w2.heap[w.heap.size + 1]? = some (.cells #[sv, .int .i64 i] 27) := (hg2.block _ (by omega) (fun e => by have := hne2 _ e.symm; omega)).trans hR1
      have hG2 : w2.heap[w.heap.size]? = some (.cells #[.slice none 0 0, .int .i64 0] 27) := (hg2.block _ (by omega) (fun e => by have := hne2 _ e.symm; omega)).trans hG1
      have hB2 : Below w.heap.size w w2 := hB1.grown hg2 (by omega) (fun t ht => by have := hne2 t ht; omega)
      have hz2' := hg2.size
      have x0 : w2.cell? ⟨b, off + j, none⟩ = some (.int .i64 x) := (hB2.cell (p := ⟨b, _, none⟩) hb).trans ((hB1.cell (p := ⟨b, _, none⟩) hb).symm.trans d0)
      have x1 : w2.cell? ⟨b, off + (j + 1), none⟩ = some (.int .i64 y) := (hB2.cell (p := ⟨b, _, none⟩) hb).trans ((hB1.cell (p := ⟨b, _, none⟩) hb).symm.trans d1)
      clear hR1 hG1 d0 d1 hd1 hnew hB1 hg2
      refine HK3.out _ _ ⟨fun _ => ⟨hR2, x0, x1⟩, fun _ => ?_⟩
      clear HK3 K3
      try simp only [List.getElem_toArray, List.getElem_cons_succ, List.getElem_cons_zero, Act.put, List.setIfInBounds_toArray, List.set_cons_zero, List.set_cons_succ]
      refine wpLast_take (i := 14) (oi := _) (v := ?_) rfl (by kernel_rfl) (by kernel_rfl) (by decide) (by kernel_rfl) (by kernel_rfl) (fun _ _ _ h => h) (Or.inl ⟨by rfl, ?_⟩) ⟨hR2, x0, x1⟩ ?_
      rotate_left
      · intro w1 hSw
        replace hSw : w1.heap[w.heap.size + 1]? = some (.cells #[sv, .int .i64 i] 27) ∧ w1.cell? ⟨b, off + j, none⟩ = some (.int .i64 x) ∧ w1.cell? ⟨b, off + (j + 1), none⟩ = some (.int .i64 y) := hSw
        obtain ⟨hSg, c0, c1⟩ := hSw
        obtain ⟨e0, e1⟩ : w1.cell? ⟨w.heap.size + 1, 0, none⟩ = some sv ∧ w1.cell? ⟨w.heap.size + 1, 1, none⟩ = some (.int .i64 i) := by refine ⟨?_, ?_⟩ <;> simp [World.cell?, hSg]
        clear hSg
        go_simp; with_reducible rfl
      simp only [List.getElem_toArray, List.getElem_cons_succ, List.getElem_cons_zero, Act.put, List.setIfInBounds_toArray, List.set_cons_zero, List.set_cons_succ]
      have t0 : w2.cell? ⟨w.heap.size + 1, 0, none⟩ = some sv := by simp [World.cell?, hR2]
      have tf : w2.frozen? ⟨w.heap.size + 1, 0, none⟩ = false := by simp [World.frozen?, hR2]
      refine wpLast_ready (rs := [15]) (by kernel_rfl) (by simp) ?_
      intro i hi; obtain rfl := List.mem_singleton.1 hi; clear hi
      refine wpOp_step rfl (fun K3 hK3 => ?_)
      have HK3 := Lib.hid hK3
      clear hK3
      rw [if_pos (by rfl)]
      go_simp
      have hg3 := setCell_grown w2 ⟨w.heap.size + 1, 0, none⟩ (.slice (some ⟨g, 0, none⟩) (k + 1) cp)
      have hR3 := heap_set hR2 0 (.slice (some ⟨g, 0, none⟩) (k + 1) cp)
      have hG3 := (hg3.block w.heap.size (by omega) (by simp)).trans hG2
      have hgne : w.heap.size + 2 ≤ g := by rcases hat2 with h | h; exact hne2 g h; omega
      have hd3 := hd2.kept hg3 (Or.inr (by simp [Value.ownBlock]; omega))
      have hB3 : Below w.heap.size w (w2.setCell ⟨w.heap.size + 1, 0, none⟩ (.slice (some ⟨g, 0, none⟩) (k + 1) cp)) := hB2.setCell (by simp) _
      have hz3 : W0.heap.size ≤ (w2.setCell ⟨w.heap.size + 1, 0, none⟩ (.slice (some ⟨g, 0, none⟩) (k + 1) cp)).heap.size := by simp; omega
      generalize w2.setCell ⟨w.heap.size + 1, 0, none⟩ (.slice (some ⟨g, 0, none⟩) (k + 1) cp) = w4 at *
      refine HK3.out _ _ ⟨fun h => absurd rfl h, fun _ => ?_⟩
      clear HK3 K3
      try simp only [List.getElem_toArray, List.getElem_cons_succ, List.getElem_cons_zero, Act.put, List.setIfInBounds_toArray, List.set_cons_zero, List.set_cons_succ]
      refine wpLast_done (by kernel_rfl) ?_ _
      go_wp2
      go_roundw
      case rel => exact ⟨k + 1, j + 2, by omega, Lib.hid (by have := hj.out; omega), by omega, by go_num, hB3, hz3, hG3, _, by simpa using hR3, by rw [G1.out]; exact hd3⟩
      case measure => simp [intOf]; omega
    · have hkl : k = (pairL l).length := by omega
      rw [hkl, List.take_of_length_le (Nat.le_refl _)] at hd
      have g0 : wr.cell? ⟨w.heap.size, 0, none⟩ = some (.slice none 0 0) := by simp [World.cell?, hG]
      have g1 : wr.cell? ⟨w.heap.size, 1, none⟩ = some (.int .i64 0) := by simp [World.cell?, hG]
      have g2 : ∀ o, wr.frozen? ⟨w.heap.size, o, none⟩ = false := fun o => by simp [World.frozen?, hG]
      have r0 : wr.cell? ⟨w.heap.size + 1, 0, none⟩ = some sv := by simp [World.cell?, hR]
      have r1 : wr.cell? ⟨w.heap.size + 1, 1, none⟩ = some (.int .i64 i) := by simp [World.cell?, hR]
      have hne2 : ∀ q, sv.ownBlock = some q → w.heap.size + 2 ≤ q := fun q hq => (hd.lt q hq).1
      clear hkl hpl hj' hk hG hR hc
      obtain ⟨n0, hn0⟩ : ∃ n0, n0 = (pairL l).length := ⟨_, rfl⟩
      rw [← hn0] at hd
      obtain ⟨sa, scap, rfl⟩ : ∃ sa scap, sv = .slice sa n0 scap := by
        rcases hd.2 with ⟨h1, h2⟩ | ⟨g, cap, cur, h1, _⟩
        · rw [h2]; exact ⟨_, _, h1⟩
        · exact ⟨_, _, h1⟩
      have HN0 := Lib.hid hn0
      clear hn0
      have dlt : decide ((j : Int) + 1 < (l.length : Int)) = false := decide_eq_false (by omega)
      go_wp2
      refine bodyPost_ret (v := .agg #[.slice sa n0 scap, .int .i64 i]) (by simp [results, Try.results22, go_sem, g0, g1]) rfl ⟨_, rfl, ?_, ?_⟩
      · exact (hbel.setCell (by simp) _).setCell (by simp) _
      · rw [← HN0.out]
        refine ownsRow_mono' (base := w.heap.size + 2) ?_ (by omega)
        refine hd.kept ((setCell_grown _ ⟨w.heap.size, 0, none⟩ _).trans (setCell_grown _ ⟨w.heap.size, 1, none⟩ _)) ?_
        cases e : (Value.slice sa n0 scap).ownBlock with
        | none => exact .inl rfl
        | some t => exact .inr (fun e2 => by have h4 := hne2 t e; have h3 : t = w.heap.size := (Option.some.inj e2).symm ▸ rfl; omega)
end Go.Proofs.Ytoiapnokgpeipaa
