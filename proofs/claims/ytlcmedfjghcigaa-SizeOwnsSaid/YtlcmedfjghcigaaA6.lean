/- Size: the sets that can be open: for every loop body that keeps what the iterator reads. -/
import Derived.Test.YtlcmedfjghcigaaA5
namespace Go.Proofs.Ytlcmedfjghcigaa
set_option linter.unusedSimpArgs false
set_option linter.unusedVariables false
open Go.RowKit Go.Shelf
attribute [local go_sem] Oper.semAt_some

theorem TabAt.keep {α : Type} [Inhabited α] {k : Nat} {f : α → Nat → Int} {E : Nat → Prop} {w w' : World} {a : Option Addr} {n c : Nat} {L : List α} (h : TabAt k f w (.slice a n c) L) (hk : KeepE E w w') (he : 0 < L.length → ∀ b off, a = some ⟨b, off, none⟩ → ¬ E b) : TabAt k f w' (.slice a n c) L := by
  obtain ⟨hl, ⟨rfl, h⟩ | ⟨b, off, cap, e, h1, h2, h3, h4⟩⟩ := h
  · exact ⟨hl, .inl ⟨rfl, h⟩⟩
  · simp only [Value.slice.injEq] at e
    obtain ⟨e1, e2, e3⟩ := e
    refine ⟨hl, .inr ⟨b, off, cap, by rw [e1, e2, e3], h1, h2, Nat.lt_of_lt_of_le h3 hk.size, fun i hi j hj => hk.cell (h4 i hi j hj) (he (by omega) b off e1)⟩⟩
def setsCells (h : Hs) (a1 : Option Addr) (c1 : Nat) (a2 : Option Addr) (c2 M : Nat) : Array Value := #[.int .i64 h.head, .int .i64 h.drip, .slice a1 h.tp.length c1, .slice a2 h.rl.length c2, .map (some M)]
def dV (h : Hs) (a1 : Option Addr) (c1 : Nat) (a2 : Option Addr) (c2 M : Nat) : Value := .agg (setsCells h a1 c1 a2 c2 M)
theorem sets_any (h : Hs) (a1 : Option Addr) (c1 : Nat) (a2 : Option Addr) (c2 M : Nat) (w : World) : Calls Try.prog 42 #[dV h a1 c1 a2 c2 M] w fun e w' => e = .returned (.func (.func 56) #[] #[.pointer (some ⟨w.heap.size, 0, none⟩)]) ∧ w' = w.alloc (.cells (setsCells h a1 c1 a2 c2 M) 72) := by
  have hmf : ∀ (fn : Fn) (first cap : Array Value) (w : World), (Instr.makeFunc fn first cap).run Try.prog w = .ok (.func fn first cap) w := fun _ _ _ _ => rfl
  unfold dV setsCells
  go_enter Try.func42, Try.ntmps42
  go_wp2
  go_ret
  exact ⟨rfl, rfl⟩
theorem setsUp_yes {rs : List Rl} {k : Nat} (h : openF rs k = true) : setsUp rs (k + 1) = setsUp rs k ++ [k] := by
  unfold setsUp; rw [List.range_succ, List.filter_append]; simp [h]
theorem setsUp_no {rs : List Rl} {k : Nat} (h : openF rs k = false) : setsUp rs (k + 1) = setsUp rs k := by
  unfold setsUp; rw [List.range_succ, List.filter_append]; simp [h]
theorem setsUp_few (rs : List Rl) (k : Nat) : (setsUp rs k).length ≤ k := by
  unfold setsUp
  exact Nat.le_trans (List.length_filter_le _ _) (by simp)
theorem setsUp_pre (rs : List Rl) : ∀ j k : Nat, j ≤ k → setsUp rs j <+: setsUp rs k := fun j k h => by
  induction k with
  | zero => obtain rfl : j = 0 := by omega
            exact List.prefix_refl _
  | succ k ih =>
    by_cases e : j = k + 1
    · rw [e]; exact List.prefix_refl _
    · refine (ih (by omega)).trans ?_
      by_cases hp : openF rs k = true
      · rw [setsUp_yes hp]; exact List.prefix_append _ _
      · rw [setsUp_no (by simpa using hp)]; exact List.prefix_refl _
/-- of a list's own, or its first -/
def clS (l : List Nat) (x : Nat) : Nat := if x ∈ l then x else l.headD 0
theorem clS_same {l : List Nat} {x : Nat} (h : x ∈ l) : clS l x = x := if_pos h
theorem clS_mem {l : List Nat} (x : Nat) (h : l ≠ []) : clS l x ∈ l := by
  unfold clS
  split
  · assumption
  · cases l with
    | nil => exact absurd rfl h
    | cons a l => simp
theorem clS_map {l : List Nat} : l.map (clS l) = l := by
  conv => rhs; rw [← List.map_id l]
  exact List.map_congr_left (fun x hx => clS_same hx)
def encS (h : Hs) (x : Nat) : Array Value := #[.int .i64 (clS (setsF h) x : Nat)]
theorem mem_sets {h : Hs} {k : Nat} : k ∈ setsF h ↔ k < 2 ^ h.tp.length ∧ openF h.rl k = true := by
  unfold setsF setsUp
  rw [List.mem_filter, List.mem_range]
/-- what the iterator reads -/
structure SMem (Bd : Nat) (h : Hs) (a1 : Option Addr) (c1 : Nat) (a2 : Option Addr) (c2 M : Nat) (W : World) : Prop where
  bd : W.heap[Bd]? = some (.cells (setsCells h a1 c1 a2 c2 M) 72 (0, 0))
  rl : TabAt 2 rlC W (.slice a2 h.rl.length c2) h.rl
theorem rules_in {h : Hs} (k : hsOk h = true) : RulesIn h.rl := fun i hi => by
  have k1 := (hsOk_iff.1 k).2.2 i hi
  have k2 := (headOk_iff.1 (hsOk_iff.1 k).1).2.2.1.2
  unfold ruleOk at k1
  rw [Bool.and_eq_true, inF_iff] at k1
  have := pow_table k2
  omega
theorem sets_zero {h : Hs} (k : hsOk h = true) : 0 ∈ setsF h := mem_sets.2 ⟨Nat.two_pow_pos _, by
  rw [open_iff]
  intro i hi
  have k1 := (hsOk_iff.1 k).2.2 i hi
  unfold ruleOk at k1
  rw [Bool.and_eq_true, inF_iff, inF_iff] at k1
  unfold keepF
  rw [decide_eq_true_eq]
  have e : ∀ t : Nat, 0 &&& t = 0 := fun t => Nat.zero_and t
  rw [e, onesN_zero]
  omega⟩
theorem sets_ne {h : Hs} (k : hsOk h = true) : setsF h ≠ [] := fun e => by have := sets_zero k; rw [e] at this; cases this
theorem few_taps {h : Hs} (k : hsOk h = true) : 1 ≤ h.tp.length ∧ h.tp.length ≤ 10 := (headOk_iff.1 (hsOk_iff.1 k).1).2.2.1
set_option maxRecDepth 100000 in
set_option maxHeartbeats 6400000 in
theorem sets_in (n : Nat) (hn : 1 ≤ n) (q Bd : Nat) (h : Hs) (hok : hsOk h = true) (a1 : Option Addr) (c1 : Nat) (a2 : Option Addr) (c2 M : Nat) (E : Nat → Prop) (J Jx : List Nat → World → Prop)
    (e1 : ¬ E Bd) (e2 : 0 < h.rl.length → ∀ b off, a2 = some ⟨b, off, none⟩ → ¬ E b) (W : World) (hM : SMem Bd h a1 c1 a2 c2 M W) (hJ : AbidesFrom W.heap.size J)
    (hY : ∀ pre x W1, J pre W1 → pre.length < 2 ^ h.tp.length → YieldAt Fence.wide (n - 1) Try.prog q (encS h x) W1 fun e W' =>
      (e = .returned (.bool true) ∧ J (pre ++ [x]) W' ∧ KeepE E W1 W') ∨ (e = .returned (.bool false) ∧ Jx (pre ++ [x]) W'))
    (h0 : J [] W) :
    CallsIn Fence.wide n Try.prog 56 #[.func (.yield q) #[] #[], .pointer (some ⟨Bd, 0, none⟩)] W fun e W' => (∃ v, e = .returned v) ∧
      ((∃ ys, ys = setsF h ∧ J ys W') ∨ (∃ pre, pre <+: setsF h ∧ Jx pre W')) := by
  obtain ⟨y0, y1, y2, y3, y4⟩ := five_cells hM.bd
  have hin := rules_in hok
  obtain ⟨ft1, ft2⟩ := few_taps hok
  have hsf : setsF h = setsUp h.rl (2 ^ h.tp.length) := rfl
  rw [hsf]
  have hp := pow_table ft2
  have hshl : (2 : Int) ^ h.tp.length = ((2 ^ h.tp.length : Nat) : Int) := by simp
  obtain ⟨N, hN⟩ : ∃ N : Nat, 2 ^ h.tp.length = N := ⟨_, rfl⟩
  rw [hN] at hY hp hshl ⊢
  have wN : IntKind.i64.wrap (N : Int) = N := IntWalk.i64_in _ (by omega)
  have HM := Lib.hid hM
  have HY := Lib.hid hY
  have E1 := Lib.hid e1
  have E2 := Lib.hid e2
  have HIN := Lib.hid hin
  have HT := Lib.hid (show h.tp.length ≤ 9223372036854775807 by omega)
  have ht63 : (h.tp.length : Int) < 64 := by omega
  have ht0 : h.tp.length < 64 := by omega
  have HN := Lib.hid hN
  clear hY hM e1 e2 hin hN hsf y0 y1 y4
  refine callsIn_of_wp Try.func56 rfl trivial ?_ rfl
  simp only [Try.ntmps56, List.size_toArray, List.length_cons, List.length_nil, Nat.reduceAdd, Nat.reduceSub, Array.replicate_succ, Array.replicate_zero, List.push_toArray, List.append_toArray, List.nil_append, List.cons_append]
  gi_wp2
  gi_loopw [9] (fun i wr => ∃ k : Nat, k ≤ N ∧ i = .int .i64 k ∧ KeepE E W wr ∧ J (setsUp h.rl k) wr) (fun i _ => N - (intOf i).toNat)
  case atStart => exact ⟨0, by omega, rfl, KeepE.refl _ _, by simpa [setsUp] using h0⟩
  case round =>
    obtain ⟨k, hk, rfl, hK, hJk⟩ := hrel
    by_cases hlt : k < N
    · have hlt' : (k : Int) < (N : Int) := by omega
      have hbd := hK.block HM.out.bd E1.out
      obtain ⟨_, _, y2, y3, _⟩ := five_cells hbd
      have hrl := HM.out.rl.keep hK E2.out
      have kk := keeps_any k (by omega) h.rl _ wr hrl HIN.out
      have hyes := setsUp_yes (rs := h.rl) (k := k)
      have hno := setsUp_no (rs := h.rl) (k := k)
      have hfew := setsUp_few h.rl k
      have hpre := setsUp_pre h.rl (k + 1) N hlt
      obtain ⟨b, hb⟩ : ∃ b, openF h.rl k = b := ⟨_, rfl⟩
      have hmem : openF h.rl k = true → k ∈ setsF h := fun ho => mem_sets.2 ⟨by rw [HN.out]; exact hlt, ho⟩
      rw [hb] at hyes hno kk hmem
      have HMEM := Lib.hid hmem
      clear hmem
      have KK := Lib.hid kk
      have HPRE := Lib.hid hpre
      have HK := Lib.hid hK
      clear hb kk hpre hbd hrl y2
      cases b with
      | true =>
        have hu := hyes rfl
        clear hyes hno
        gi_wp2
        refine ⟨trivial, callsIn_wide.2 (KK.out.mono ?_)⟩
        rintro e W2 ⟨rfl, hb2⟩
        have hJ2 := abides_below hJ hJk hb2
        have HK2 := Lib.hid (HK.out.trans (.of_below hb2))
        obtain ⟨fn, tmps, assign, body, hy', hR⟩ := HY.out _ k _ hJ2 (by omega)
        unfold encS at hy'
        rw [clS_same (HMEM.out (by simp))] at hy'
        rw [← hu] at hR
        have Hr := Lib.hid hR
        clear hR hu hb2 hJ2 y3
        gi_wp2
        refine Hr.out.mono ?_
        rintro e W3 (⟨rfl, hJ3, hk3⟩ | ⟨rfl, hJx3⟩)
        · have HK3 := Lib.hid (HK2.out.trans hk3)
          clear hk3
          gi_wp2
          go_roundw
          case rel => exact ⟨k + 1, by omega, by go_num, HK3.out, hJ3⟩
          case measure => simp [intOf]; omega
        · gi_wp2
          refine bodyPost_ret (results_none rfl _ _ _) rfl ?_
          exact ⟨⟨_, rfl⟩, .inr ⟨_, HPRE.out, hJx3⟩⟩
      | false =>
        have HU := Lib.hid (hno rfl)
        clear hyes hno
        gi_wp2
        refine ⟨trivial, callsIn_wide.2 (KK.out.mono ?_)⟩
        rintro e W2 ⟨rfl, hb2⟩
        have HJ2 := Lib.hid (abides_below hJ hJk hb2)
        have HK2 := Lib.hid (HK.out.trans (.of_below hb2))
        clear hb2 y3
        gi_wp2
        try (refine ⟨fun f h => (by cases h), ?_⟩; try gi_wp2)
        go_roundw
        case rel => exact ⟨k + 1, by omega, by go_num, HK2.out, by rw [HU.out]; exact HJ2.out⟩
        case measure => simp [intOf]; omega
    · have hkl : k = N := by omega
      have hge : ¬ (k : Int) < (N : Int) := by omega
      have HJ2 := Lib.hid (show J (setsUp h.rl N) wr by rw [← hkl]; exact hJk)
      clear hkl hJk
      gi_wp2
      go_end0
      exact ⟨⟨_, rfl⟩, .inl HJ2.out⟩
theorem SMem.below {Bd : Nat} {h : Hs} {a1 : Option Addr} {c1 : Nat} {a2 : Option Addr} {c2 M : Nat} {w W : World} (hM : SMem Bd h a1 c1 a2 c2 M w) (hb : Below w.heap.size w W) : SMem Bd h a1 c1 a2 c2 M W :=
  ⟨(hb.block _ (Array.getElem?_eq_some_iff.1 hM.bd).1).trans hM.bd, hM.rl.below hb⟩
theorem sets_stops (n : Nat) (hn : 1 ≤ n) (Bd : Nat) (h : Hs) (hok : hsOk h = true) (a1 : Option Addr) (c1 : Nat) (a2 : Option Addr) (c2 M : Nat) (E : Nat → Prop) (e1 : ¬ E Bd) (e2 : 0 < h.rl.length → ∀ b off, a2 = some ⟨b, off, none⟩ → ¬ E b) (w : World) (hM : SMem Bd h a1 c1 a2 c2 M w) :
    SeqStopsK Fence.wide n Try.prog 56 #[.pointer (some ⟨Bd, 0, none⟩)] (encS h) (KeepE E) (fun xs => xs = setsF h) (fun pre => pre <+: setsF h) (2 ^ h.tp.length) w := by
  intro q J Jx W hb hJ _ hY h0
  exact sets_in n hn q Bd h hok a1 c1 a2 c2 M E J Jx e1 e2 W (hM.below hb) hJ hY h0
end Go.Proofs.Ytlcmedfjghcigaa
