/- Contract: newTriangle: the triangle of choices in memory. -/
import Derived.Test.YtclcconllkfjiaaA1
import Derived.RegionTactic
import Derived.ChangeAlike
import Derived.LoopTactic
namespace Go.Proofs.Ytclcconllkfjiaa
set_option linter.unusedSimpArgs false
set_option linter.unusedVariables false
open Go.RowKit

/-- the cells of a row of ints -/
def matA (l : List Int) : Array Value := (l.map (Value.int .i64)).toArray
theorem matA_size (l : List Int) : (matA l).size = l.length := by simp [matA]
theorem mat_cell {X : World} {b : Nat} {l : List Int} {t : TypeId} {f : Nat × Nat} (h : X.heap[b]? = some (.cells (matA l) t f)) (k : Nat) (hk : k < l.length) : X.cell? ⟨b, k, none⟩ = some (.int .i64 (l.getD k 0)) := by
  simp [World.cell?, h, matA, hk, List.getD]
theorem mat_set {X : World} {b : Nat} {l : List Int} {t : TypeId} {f : Nat × Nat} (h : X.heap[b]? = some (.cells (matA l) t f)) (k : Nat) (v : Int) : (X.setCell ⟨b, k, none⟩ (.int .i64 v)).heap[b]? = some (.cells (matA (l.set k v)) t f) := by
  obtain ⟨hlt, hk⟩ := Array.getElem?_eq_some_iff.1 h
  show (X.heap.modify b _)[b]? = _
  rw [Array.getElem?_eq_getElem (by rw [Array.size_modify]; exact hlt), Array.getElem_modify_self, hk]
  simp [matA, List.map_set]
theorem frozen_of {w : World} {b o : Nat} {cs : Array Value} {t : TypeId} (h : w.heap[b]? = some (.cells cs t (0, 0))) : w.frozen? ⟨b, o, none⟩ = false := by
  simp [World.frozen?, h]

/-- the triangle, so many rows and so many numbers of the next one of it -/
def triF (n j k : Nat) : Int := if k / 51 < n ∨ (k / 51 = n ∧ k % 51 < j) then (ch (k / 51) (k % 51) : Nat) else 0
def triP (n j : Nat) : List Int := (List.range 2601).map (triF n j)
theorem triP_len (n j : Nat) : (triP n j).length = 2601 := by simp [triP]
theorem triP_get (n j k : Nat) (h : k < 2601) : (triP n j).getD k 0 = triF n j k := by
  unfold triP; simp [List.getD, h]
theorem triP_ext {n j n' j' : Nat} (h : ∀ k, k < 2601 → triF n j k = triF n' j' k) : triP n j = triP n' j' := by
  unfold triP
  exact List.map_congr_left (fun k hk => h k (List.mem_range.1 hk))
theorem triP_next (n : Nat) (hn : n < 51) : triP n (n + 1) = triP (n + 1) 0 := by
  refine triP_ext fun k hk => ?_
  unfold triF
  by_cases h1 : k / 51 < n
  · rw [if_pos (by omega), if_pos (by omega)]
  · by_cases h2 : k / 51 = n
    · by_cases h3 : k % 51 < n + 1
      · rw [if_pos (by omega), if_pos (by omega)]
      · rw [if_neg (by omega), if_pos (by omega), h2, ch_lt n (k % 51) (by omega)]; rfl
    · rw [if_neg (by omega), if_neg (by omega)]
set_option maxRecDepth 100000 in
theorem triP_set (n j : Nat) (hn : n < 51) (hj : j < 51) : (triP n j).set (n * 51 + j) (ch n j : Nat) = triP n (j + 1) := by
  refine List.ext_getElem (by simp [triP]) fun k h1 h2 => ?_
  have hk : k < 2601 := by rw [triP_len] at h2; exact h2
  rw [List.getElem_set]
  have e2 : (triP n (j + 1))[k]'h2 = triF n (j + 1) k := by simp [triP]
  have e1 : (triP n j)[k]'(by rw [triP_len]; exact hk) = triF n j k := by simp [triP]
  refine Eq.trans ?_ e2.symm
  by_cases e : n * 51 + j = k
  · rw [if_pos e]
    unfold triF
    rw [if_pos (by omega), show k / 51 = n by omega, show k % 51 = j by omega]
  · rw [if_neg e, e1]
    unfold triF
    by_cases h : k / 51 < n ∨ (k / 51 = n ∧ k % 51 < j)
    · rw [if_pos h, if_pos (by omega)]
    · rw [if_neg h, if_neg (by omega)]
theorem triP_is (n j a b : Nat) (hn : n ≤ 51) (ha : a < 51) (hb : b < 51) (h : a < n ∨ (a = n ∧ b < j)) : (triP n j).getD (a * 51 + b) 0 = (ch a b : Nat) := by
  rw [triP_get _ _ _ (by omega)]
  unfold triF
  rw [show (a * 51 + b) / 51 = a by omega, show (a * 51 + b) % 51 = b by omega, if_pos h]
/-- the triangle lies in a block -/
def TriAt (w : World) (b : Nat) : Prop := w.heap[b]? = some (.cells (matA (triP 51 0)) 87 (0, 0))
theorem TriAt.below {w w' : World} {b n : Nat} (h : TriAt w b) (hb : Below n w w') (hn : b < n) : TriAt w' b := (hb.block b hn).trans h
theorem TriAt.cell {w : World} {b : Nat} (h : TriAt w b) (n k : Nat) (hn : n ≤ 50) (hk : k ≤ 50) : w.cell? ⟨b, n * 51 + k, none⟩ = some (.int .i64 (ch n k : Nat)) := by
  rw [mat_cell h _ (by rw [triP_len]; omega), triP_is 51 0 n k (by omega) (by omega) (by omega) (by omega)]
theorem TriAt.lt {w : World} {b : Nat} (h : TriAt w b) : b < w.heap.size := (Array.getElem?_eq_some_iff.1 h).1

def zeros : Array Value := matA (List.replicate 2601 0)
set_option maxRecDepth 100000 in
theorem zero87 (w : World) : (zeroValue 87).run Try.prog w = .ok (.agg zeros) w := by kernel_rfl
theorem triP_zero : triP 0 0 = List.replicate 2601 0 := by
  refine List.eq_replicate_iff.2 ⟨triP_len 0 0, fun x hx => ?_⟩
  unfold triP at hx
  obtain ⟨k, _, rfl⟩ := List.mem_map.1 hx
  unfold triF
  rw [if_neg (by omega)]
theorem zeros_is : zeros = matA (triP 0 0) := by
  unfold zeros
  rw [triP_zero]
theorem zeros_size : zeros.size = 2601 := by unfold zeros; rw [matA_size, List.length_replicate]
theorem zeros_ne : ¬ zeros = #[] := fun h => by have := zeros_size; rw [h] at this; cases this
set_option maxRecDepth 100000 in
set_option maxHeartbeats 3200000 in
theorem newTriangle_any (w : World) : Calls Try.prog 24 #[] w fun e w' => ∃ B, e = .returned (.pointer (some ⟨B, 0, none⟩)) ∧ w.heap.size ≤ B ∧ TriAt w' B ∧ Below w.heap.size w w' := by
  have z1 := zero87
  have z2 := zeros_size
  have z3 := zeros_ne
  obtain ⟨W0, hW0⟩ : ∃ X, X = w.alloc (.cells zeros 87) := ⟨_, rfl⟩
  have hb0 : Below w.heap.size w W0 := by rw [hW0]; exact (Below.refl _ _).alloc (Nat.le_refl _) _
  have hr0 : W0.heap[w.heap.size]? = some (.cells zeros 87 (0, 0)) := by rw [hW0]; exact alloc_heap w _
  rw [zeros_is] at hr0
  obtain ⟨P, hP⟩ : ∃ P, w.heap.size = P := ⟨_, rfl⟩
  have HP := Lib.hid hP
  rw [hP] at hr0
  go_enter Try.func24, Try.ntmps24
  go_upto_region 2 with fail
  rw [← hW0]
  clear hW0 z1 z2 z3 hP
  go_wp2_with fail
  go_loopw [4] (fun i wr => ∃ n : Nat, n ≤ 51 ∧ i = .int .i64 n ∧ Below w.heap.size w wr ∧ wr.heap[P]? = some (.cells (matA (triP n 0)) 87 (0, 0))) (fun i _ => 51 - (intOf i).toNat)
  case atStart => exact ⟨0, by omega, rfl, hb0, hr0⟩
  case round =>
    obtain ⟨n, hn, rfl, hbel, hr⟩ := hrel
    obtain ⟨wo, hwo⟩ : ∃ wo : World, wo = wr := ⟨_, rfl⟩
    subst hwo
    by_cases hlt : n < 51
    · have in0 : (0 : Int) ≤ (n : Int) := by omega
      have in1 : (n : Int) < 51 := by omega
      have c0 := mat_cell hr (n * 51) (by rw [triP_len]; omega)
      have f0 : wo.frozen? ⟨P, n * 51, none⟩ = false := frozen_of hr
      have hset := mat_set hr (n * 51) 1
      have hch : (1 : Int) = (ch n 0 : Nat) := by rw [ch_zero]; rfl
      obtain ⟨W1, hW1⟩ : ∃ X, X = wo.setCell ⟨P, n * 51, none⟩ (.int .i64 1) := ⟨_, rfl⟩
      have hset2 : W1.heap[P]? = some (.cells (matA (triP n 1)) 87 (0, 0)) := by
        have := triP_set n 0 hlt (by omega)
        rw [← hch] at this
        rw [hW1, hset]
        rw [Nat.add_zero] at this
        rw [this]
      have hb1 : Below w.heap.size w W1 := by rw [hW1]; exact hbel.setCell (p := ⟨P, n * 51, none⟩) (by show w.heap.size ≤ P; have := HP.out; omega) _
      clear hset hch
      go_upto_region 6 with fail
      rw [← hW1]
      clear hW1 c0 f0 hr
      have HB1 := Lib.hid hb1
      have HS2 := Lib.hid hset2
      clear hb1 hset2 hbel hr0 hb0
      go_wp2_with fail
      go_loopw [3] (fun i wr => ∃ j : Nat, 1 ≤ j ∧ j ≤ n + 1 ∧ i = .int .i64 j ∧ Below w.heap.size w wr ∧ wr.heap[P]? = some (.cells (matA (triP n j)) 87 (0, 0))) (fun i _ => n + 1 - (intOf i).toNat)
      case atStart => exact ⟨1, by omega, by omega, rfl, HB1.out, HS2.out⟩
      case round =>
        obtain ⟨j, hj1, hj, rfl, hbel, hr⟩ := hrel
        by_cases hlj : j ≤ n
        · obtain ⟨m, hm⟩ : ∃ m, n = m + 1 := ⟨n - 1, by omega⟩
          obtain ⟨q, hq⟩ : ∃ q, j = q + 1 := ⟨j - 1, by omega⟩
          have c1 : wr.cell? ⟨P, m * 51 + q, none⟩ = some (.int .i64 (ch m q : Nat)) := by rw [mat_cell hr _ (by rw [triP_len]; omega), triP_is _ _ m q (by omega) (by omega) (by omega) (by omega)]
          have c2 : wr.cell? ⟨P, m * 51 + j, none⟩ = some (.int .i64 (ch m j : Nat)) := by rw [mat_cell hr _ (by rw [triP_len]; omega), triP_is _ _ m j (by omega) (by omega) (by omega) (by omega)]
          have c3 := mat_cell hr (n * 51 + j) (by rw [triP_len]; omega)
          have f3 : wr.frozen? ⟨P, n * 51 + j, none⟩ = false := frozen_of hr
          obtain ⟨v3, hv3⟩ : ∃ v, (triP n j).getD (n * 51 + j) 0 = v := ⟨_, rfl⟩
          rw [hv3] at c3
          have hset := mat_set hr (n * 51 + j) ((ch m q : Nat) + (ch m j : Nat))
          have hch : ((ch m q : Nat) : Int) + (ch m j : Nat) = (ch n j : Nat) := by rw [hm, hq, ch_succ]; rfl
          rw [hch, triP_set n j hlt (by omega), ← hch] at hset
          have b1 := ch_bd m q (by omega)
          have b2 := ch_bd m j (by omega)
          obtain ⟨x, hx⟩ : ∃ x, ch m q = x := ⟨_, rfl⟩
          obtain ⟨y, hy⟩ : ∃ y, ch m j = y := ⟨_, rfl⟩
          rw [hx] at c1 hset b1
          rw [hy] at c2 hset b2
          have hset2 := hbel.setCell (p := ⟨P, n * 51 + j, none⟩) (by show w.heap.size ≤ P; have := HP.out; omega) (.int .i64 ((x : Int) + y))
          have HS := Lib.hid hset
          have HS3 := Lib.hid hset2
          have hq0 : (j : Int) - 1 = (q : Int) := by omega
          have hm0 : (n : Int) - 1 = (m : Int) := by omega
          have w1 : IntKind.i64.wrap ((j : Int) - 1) = (q : Int) := by rw [hq0]; exact IntWalk.i64_in _ (by omega)
          have w2 : IntKind.i64.wrap ((n : Int) - 1) = (m : Int) := by rw [hm0]; exact IntWalk.i64_in _ (by omega)
          have m1 : (m : Int) < 51 := by omega
          have q1 : (q : Int) < 51 := by omega
          have j1 : (j : Int) < 51 := by omega
          have w3 : IntKind.i64.wrap ((x : Int) + (y : Int)) = (x : Int) + (y : Int) := IntWalk.i64_in _ (by omega)
          clear hset hset2 hx hy hv3 hr hbel hch hm hq
          go_upto_region 9 with fail
          go_region
          clear hq0 hm0 w1 w2 w3 c1 c2 c3
          go_wp2
          go_roundw
          case rel => exact ⟨j + 1, by omega, by omega, by go_num, HS3.out.drew, HS.out⟩
          case measure => simp [intOf]; omega
        · have hjn : j = n + 1 := by omega
          rw [hjn, triP_next n hlt] at hr
          have h2 : ¬ (j : Int) ≤ (n : Int) := by omega
          clear hjn hlj
          go_wp2
          go_roundw
          case rel => exact ⟨n + 1, by omega, by go_num, hbel, hr⟩
          case measure => simp [intOf]; omega
    · have hn51 : n = 51 := by omega
      subst hn51
      have hi : ¬ ((51 : Nat) : Int) < 51 := by omega
      go_wp2
      go_ret
      exact ⟨P, rfl, by have := HP.out; omega, hr, hbel⟩
end Go.Proofs.Ytclcconllkfjiaa
