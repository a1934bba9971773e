/- The iterator of plans: for every loop body that keeps what it reads. -/
import Derived.Test.YtclcconllkfjiaaA8
namespace Go.Proofs.Ytclcconllkfjiaa
set_option linter.unusedSimpArgs false
set_option linter.unusedVariables false
open Go.RowKit Go.Shelf
attribute [local go_sem] Oper.semAt_some

/-- all plans with fewer than k samples, and so many with k -/
def plansUp (k j : Nat) : List (Nat × Nat) := ((List.range k).flatMap fun s => (List.range (s + 1)).map fun a => (s, a)) ++ (List.range j).map fun a => (k, a)
/-- all plans for a size: those with fewer samples first, of these those that accept less -/
def plansL (n : Nat) : List (Nat × Nat) := plansUp (n + 1) 0
theorem plansUp_next (k : Nat) : plansUp k (k + 1) = plansUp (k + 1) 0 := by
  unfold plansUp
  rw [List.range_succ (n := k), List.flatMap_append]
  simp [List.range_succ]
theorem plansUp_snoc (k j : Nat) : plansUp k (j + 1) = plansUp k j ++ [(k, j)] := by
  unfold plansUp
  rw [List.range_succ (n := j), List.map_append, List.append_assoc]
  rfl
theorem plansUp_pre1 (k : Nat) : ∀ i j, i ≤ j → plansUp k i <+: plansUp k j := by
  intro i j h
  induction j with
  | zero => obtain rfl : i = 0 := by omega
            exact List.prefix_refl _
  | succ j ih =>
    by_cases e : i = j + 1
    · subst e; exact List.prefix_refl _
    · exact (ih (by omega)).trans (by rw [plansUp_snoc]; exact List.prefix_append _ _)
theorem plansUp_pre2 : ∀ k m, k ≤ m → plansUp k 0 <+: plansUp m 0 := by
  intro k m h
  induction m with
  | zero => obtain rfl : k = 0 := by omega
            exact List.prefix_refl _
  | succ m ih =>
    by_cases e : k = m + 1
    · subst e; exact List.prefix_refl _
    · exact (ih (by omega)).trans (by rw [← plansUp_next]; exact plansUp_pre1 m 0 (m + 1) (by omega))
theorem plansUp_pre {k j n : Nat} (hk : k ≤ n) (hj : j ≤ k + 1) : plansUp k j <+: plansL n :=
  (plansUp_pre1 k j (k + 1) hj).trans (by rw [plansUp_next]; exact plansUp_pre2 _ _ (by omega))
theorem plansL_in {n : Nat} {p : Nat × Nat} (h : p ∈ plansL n) : p.1 ≤ n ∧ p.2 ≤ p.1 := by
  unfold plansL plansUp at h
  simp only [List.range_zero, List.map_nil, List.append_nil, List.mem_flatMap, List.mem_range, List.mem_map] at h
  obtain ⟨s, hs, a, ha, rfl⟩ := h
  exact ⟨by omega, by omega⟩
/-- a plan as it comes: of no more samples than there are meters -/
def encPl (n : Nat) (x : Nat × Nat) : Array Value := #[planV (min x.1 n : Nat) (x.2 : Nat)]

set_option maxRecDepth 100000 in
set_option maxHeartbeats 3200000 in
theorem plans_in (n l N Bn : Nat) (hn1 : 1 ≤ n) (E : Nat → Prop) (hn : N ≤ 50) (J Jx : List (Nat × Nat) → World → Prop) (e1 : ¬ E Bn)
    (W : World) (hM : W.heap[Bn]? = some (.cells #[.int .i64 (N : Nat)] 3 (0, 0))) (hJ : AbidesFrom W.heap.size J)
    (hY : ∀ pre x W1, J pre W1 → pre.length < (plansL N).length → YieldAt Fence.wide (n - 1) Try.prog l (encPl N x) W1 fun e W' =>
      (e = .returned (.bool true) ∧ J (pre ++ [x]) W' ∧ KeepE E W1 W') ∨ (e = .returned (.bool false) ∧ Jx (pre ++ [x]) W'))
    (h0 : J [] W) :
    CallsIn Fence.wide n Try.prog 56 #[.func (.yield l) #[] #[], .pointer (some ⟨Bn, 0, none⟩)] W fun e W' => (∃ v, e = .returned v) ∧
      ((∃ ys, ys = plansL N ∧ J ys W') ∨ (∃ pre, pre <+: plansL N ∧ Jx pre W')) := by
  have c0 := one_cell hM
  have HY := Lib.hid hY
  clear hY
  refine callsIn_of_wp Try.func56 rfl trivial ?_ rfl
  simp only [Try.ntmps56, List.size_toArray, List.length_cons, List.length_nil, Nat.reduceAdd, Nat.reduceSub, Array.replicate_succ, Array.replicate_zero, List.push_toArray, List.append_toArray, List.nil_append, List.cons_append]
  gi_wp2
  clear c0
  gi_loopw [7] (fun i wr => ∃ k : Nat, k ≤ N + 1 ∧ i = .int .i64 k ∧ J (plansUp k 0) wr) (fun i _ => N + 1 - (intOf i).toNat)
  case atStart => exact ⟨0, by omega, rfl, by simpa [plansUp] using h0⟩
  case round =>
    obtain ⟨k, hk, rfl, hJk⟩ := hrel
    obtain ⟨wo, hwo⟩ : ∃ wo : World, wo = wr := ⟨_, rfl⟩
    subst hwo
    by_cases hlt : k < N + 1
    · have hlt' : (k : Int) < (N : Int) + 1 := by omega
      gi_wp2
      gi_loopw [12] (fun i wr => ∃ j : Nat, j ≤ k + 1 ∧ i = .int .i64 j ∧ J (plansUp k j) wr) (fun i _ => k + 1 - (intOf i).toNat)
      case atStart => exact ⟨0, by omega, rfl, hJk⟩
      case round =>
        obtain ⟨j, hj, rfl, hJj⟩ := hrel
        by_cases hlj : j < k + 1
        · have hlj' : (j : Int) < (k : Int) + 1 := by omega
          have hpl : (plansUp k j).length < (plansL N).length := by
            have := (plansUp_pre (k := k) (j := j + 1) (n := N) (by omega) (by omega)).length_le
            rw [plansUp_snoc, List.length_append, List.length_cons, List.length_nil] at this
            omega
          obtain ⟨fn, tmps, assign, body, hy', hR⟩ := HY.out _ (k, j) wr hJj hpl
          rw [← plansUp_snoc] at hR
          unfold encPl planV at hy'
          simp only [] at hy'
          rw [show min k N = k by omega] at hy'
          have Hr := Lib.hid hR
          clear hR hpl
          gi_wp2
          refine Hr.out.mono ?_
          rintro e W3 (⟨rfl, hJ3, hk3⟩ | ⟨rfl, hJx3⟩)
          · gi_wp2
            go_roundw
            case rel => exact ⟨j + 1, by omega, by go_num, hJ3⟩
            case measure => simp [intOf]; omega
          · gi_wp2
            refine bodyPost_ret (results_none rfl _ _ _) rfl ?_
            exact ⟨⟨_, rfl⟩, .inr ⟨_, plansUp_pre (by omega) (by omega), hJx3⟩⟩
        · have hjk : j = k + 1 := by omega
          rw [hjk, plansUp_next] at hJj
          have hge : ¬ (j : Int) < (k : Int) + 1 := by omega
          clear hjk
          gi_wp2
          go_roundw
          case rel => exact ⟨k + 1, by omega, by go_num, hJj⟩
          case measure => simp [intOf]; omega
    · have hkn : k = N + 1 := by omega
      rw [hkn] at hJk
      have hge : ¬ (k : Int) < (N : Int) + 1 := by omega
      clear hkn
      gi_wp2
      go_end0
      exact ⟨⟨_, rfl⟩, .inl hJk⟩
theorem plans_any (n : Nat) (w : World) : Calls Try.prog 51 #[.int .i64 (n : Nat)] w fun e w' => e = .returned (.func (.func 56) #[] #[.pointer (some ⟨w.heap.size, 0, none⟩)]) ∧ w' = w.alloc (.cells #[.int .i64 (n : Nat)] 3) := by
  go_enter Try.func51, Try.ntmps51
  go_wp2
  go_ret
  exact ⟨rfl, rfl⟩
theorem plans_stops (n N Bn : Nat) (hn1 : 1 ≤ n) (E : Nat → Prop) (hn : N ≤ 50) (e1 : ¬ E Bn) (w : World) (hM : w.heap[Bn]? = some (.cells #[.int .i64 (N : Nat)] 3 (0, 0))) :
    SeqStopsK Fence.wide n Try.prog 56 #[.pointer (some ⟨Bn, 0, none⟩)] (encPl N) (KeepE E) (fun xs => xs = plansL N) (fun pre => pre <+: plansL N) (plansL N).length w := by
  intro l J Jx W hb hJ _ hY h0
  exact plans_in n l N Bn hn1 E hn J Jx e1 W ((hb.block _ (Array.getElem?_eq_some_iff.1 hM).1).trans hM) hJ hY h0
end Go.Proofs.Ytclcconllkfjiaa
