/- slices.SortFunc at the totals: a permutation, sorted by the first number. -/
import Derived.Test.YtmcndecmnfbggaaD22
import Derived.Test.YtmcndecmnfbggaaK1
import Derived.Shelf.SlSortCmp.NoneTotal
namespace Go.Proofs.Ytmcndecmnfbggaa
set_option linter.unusedSimpArgs false
set_option linter.unusedVariables false
open Go.RowKit Go.Shelf Go.Lib
open Go.Sort hiding Below

def SpansAt (w : World) (v : Value) (L : List (Int × Int)) : Prop := L.length ≤ maxLen ∧ ((L = [] ∧ ∃ a c, v = .slice a 0 c) ∨ ∃ b off cap, v = .slice (some ⟨b, off, none⟩) L.length cap ∧ L.length ≤ cap ∧ cap ≤ maxLen ∧ b < w.heap.size ∧
  ∀ i, i < L.length → w.cell? ⟨b, off + 2 * i, none⟩ = some (.int .i64 (L.getD i (0, 0)).1) ∧ w.cell? ⟨b, off + 2 * i + 1, none⟩ = some (.int .i64 (L.getD i (0, 0)).2))
theorem SpansAt.below {w w' : World} {v : Value} {L : List (Int × Int)} (h : SpansAt w v L) (hb : Below w.heap.size w w') : SpansAt w' v L := by
  obtain ⟨hl, ⟨rfl, h⟩ | ⟨b, off, cap, rfl, h1, h2, h3, h4⟩⟩ := h
  · exact ⟨hl, .inl ⟨rfl, h⟩⟩
  · exact ⟨hl, .inr ⟨b, off, cap, rfl, h1, h2, Nat.lt_of_lt_of_le h3 hb.size, fun i hi => ⟨(hb.cell (p := ⟨b, _, none⟩) h3).trans (h4 i hi).1, (hb.cell (p := ⟨b, _, none⟩) h3).trans (h4 i hi).2⟩⟩⟩
theorem SpansAt.shape {w : World} {v : Value} {L : List (Int × Int)} (h : SpansAt w v L) : ∃ a c, v = .slice a L.length c := by
  obtain ⟨_, ⟨rfl, a, c, rfl⟩ | ⟨b, off, cap, rfl, _⟩⟩ := h
  · exact ⟨a, c, rfl⟩
  · exact ⟨_, _, rfl⟩
theorem SpansAt.at {w : World} {L : List (Int × Int)} {a : Option Addr} {n c : Nat} (h : SpansAt w (.slice a n c) L) (hl : 0 < L.length) : ∃ b off, a = some ⟨b, off, none⟩ ∧ b < w.heap.size ∧ ∀ i, i < L.length → w.cell? ⟨b, off + 2 * i, none⟩ = some (.int .i64 (L.getD i (0, 0)).1) ∧ w.cell? ⟨b, off + 2 * i + 1, none⟩ = some (.int .i64 (L.getD i (0, 0)).2) := by
  obtain ⟨_, ⟨rfl, _⟩ | ⟨b, off, cap, e, _, _, h3, h4⟩⟩ := h
  · simp at hl
  · simp only [Value.slice.injEq] at e
    exact ⟨b, off, e.1, h3, h4⟩
theorem flatS_get : ∀ (L : List (Int × Int)) (i : Nat), i < L.length → (flatS L)[2 * i]? = some (.int .i64 (L.getD i (0, 0)).1) ∧ (flatS L)[2 * i + 1]? = some (.int .i64 (L.getD i (0, 0)).2)
  | [], i, h => by simp at h
  | x :: L, 0, _ => by simp [flatS]
  | x :: L, i + 1, h => by
    have := flatS_get L i (by simpa using h)
    unfold flatS at this ⊢
    simp only [List.flatMap_cons]
    rw [show 2 * (i + 1) = 2 * i + 2 by omega, show 2 * i + 2 + 1 = (2 * i + 1) + 2 by omega]
    simpa using this
theorem flatS_len (L : List (Int × Int)) : (flatS L).length = L.length * 2 := by
  unfold flatS
  induction L with
  | nil => rfl
  | cons x L ih => simp only [List.flatMap_cons, List.length_append, List.length_cons, List.length_nil, ih]; omega
theorem spans_own {w : World} {base : Nat} {v : Value} {L : List (Int × Int)} (h : w.ownsRow base 45 2 v L.length (flatS L)) (hl : L.length ≤ 1000000) : SpansAt w v L := by
  refine ⟨by unfold maxLen; omega, ?_⟩
  rcases h.2 with ⟨rfl, hn⟩ | ⟨g, cap, cur, rfl, h2, h3, h4, h5, _⟩
  · obtain rfl : L = [] := List.length_eq_zero_iff.1 hn
    exact .inl ⟨rfl, _, _, rfl⟩
  · refine .inr ⟨g, 0, cap, rfl, h4, h5, (Array.getElem?_eq_some_iff.1 h3).1, fun i hi => ?_⟩
    have := flatS_get L i hi
    rw [h.cellAt (0 + 2 * i) (by omega), h.cellAt (0 + 2 * i + 1) (by omega), Nat.zero_add]
    exact this
def encL (x : Int × Int) : List Value := [.int .i64 x.1, .int .i64 x.2]
set_option maxHeartbeats 1000000 in
theorem closure52 (x y : Int × Int) (W : World) : Calls Try.prog 52 #[.agg #[.int .i64 x.1, .int .i64 x.2], .agg #[.int .i64 y.1, .int .i64 y.2]] W fun e w' => e = .returned (.int .i64 (Lib.compareInt x.1 y.1)) ∧ ∃ q os', w' = grow (W.drewN q) os' := by
  have hcon := fun W' => AnyG.cmp_Compare_int Try.cmpInt x.1 y.1 W'
  change ∀ W', Calls Try.prog 53 _ _ _ at hcon
  generalize Lib.compareInt x.1 y.1 = r at hcon ⊢
  go_enter Try.func52, Try.ntmps52
  go_wp2_with (go_at_call 53; refine (hcon _).mono ?_; rintro e w' ⟨rfl, rfl⟩)
  go_ret
  exact ⟨rfl, 0, _, by rw [alloc_eq_grow, alloc_eq_grow, grow_grow]; rfl⟩
theorem cmp_lt (x y : Int × Int) : ltOf (fun x y : Int × Int => Lib.compareInt x.1 y.1) x y = decide (x.1 < y.1) := by
  unfold ltOf Lib.compareInt
  by_cases h1 : x.1 < y.1
  · simp [h1]
  · by_cases h2 : y.1 < x.1 <;> simp [h1, h2]
theorem cmp_swo : SWO (ltOf fun x y : Int × Int => Lib.compareInt x.1 y.1) where
  irrefl x := by rw [cmp_lt]; simp
  trans x y z h1 h2 := by rw [cmp_lt] at *; simp at *; omega
  ntrans x y z h1 h2 := by rw [cmp_lt] at *; simp at *; omega
theorem grown_sorted {w : World} {g n : Nat} {os : Array Obj} (d : Array (Int × Int)) : w.grownBy (sortWorldK encL 2 w g 0 n d os) (some g) := by
  refine ⟨rfl, rfl, rfl, by simp [sortWorldK, putRowK], fun k hk hne => ?_⟩
  unfold sortWorldK
  rw [heap_grow_old _ _ (by simpa [putRowK] using hk)]
  have : g ≠ k := fun e => hne (by rw [e])
  simp [putRowK, putRow, mapBlock, Sort.ahead, Array.getElem?_modify, this]
theorem cells_of_holds {X : World} {g : Nat} {d : Array (Int × Int)} (h : HoldsK encL 2 X g 0 d) : ∀ i, i < d.toList.length → X.cell? ⟨g, 0 + 2 * i, none⟩ = some (.int .i64 (d.toList.getD i (0, 0)).1) ∧ X.cell? ⟨g, 0 + 2 * i + 1, none⟩ = some (.int .i64 (d.toList.getD i (0, 0)).2) := by
  intro i hi
  have hi' : i < d.size := by simpa using hi
  have e : d.toList.getD i (0, 0) = d[i]! := by simp [List.getD, hi', getElem!_pos d i hi']
  have h0 := (h (2 * i) (by rw [size_flatK]; omega)).1
  have h1 := (h (2 * i + 1) (by rw [size_flatK]; omega)).1
  rw [get_flatK _ _ _ _ (by omega)] at h0 h1
  rw [show 2 * i / 2 = i by omega, show 2 * i % 2 = 0 by omega] at h0
  rw [show (2 * i + 1) / 2 = i by omega, show (2 * i + 1) % 2 = 1 by omega] at h1
  rw [e]
  exact ⟨h0, h1⟩
theorem holds_own {w : World} {base g cap : Nat} {L : List (Int × Int)} (h : w.ownsRow base 45 2 (.slice (some ⟨g, 0, none⟩) L.length cap) L.length (flatS L)) : HoldsK encL 2 w g 0 L.toArray := by
  rcases h.2 with ⟨e, _⟩ | ⟨g', cap', cur, e, h2, h3, h4, h5, h6, h7⟩
  · cases e
  · simp only [Value.slice.injEq, Option.some.injEq, Addr.mk.injEq, and_true, true_and] at e
    obtain ⟨rfl, rfl⟩ := e
    intro j hj
    rw [size_flatK] at hj
    have hj' : j < L.length * 2 := by simpa using hj
    refine ⟨?_, by simp [World.frozen?, h3]⟩
    rw [h.cellAt (0 + j) (by omega), Nat.zero_add, get_flatK _ _ _ _ (by simpa using hj')]
    have hq : j / 2 < L.length := by omega
    have e2 : (L.toArray)[j / 2]! = L.getD (j / 2) (0, 0) := by simp [List.getD, hq]
    have := flatS_get L (j / 2) hq
    rw [e2]
    rcases (by omega : j % 2 = 0 ∨ j % 2 = 1) with h0 | h0
    · rw [h0, show j = 2 * (j / 2) by omega, this.1]
      simp [encL]
    · rw [h0]
      obtain ⟨q, hq2⟩ : ∃ q, j / 2 = q := ⟨_, rfl⟩
      have hj2 : j = 2 * q + 1 := by omega
      rw [hq2] at this ⊢
      rw [hj2, this.2]
      simp [encL]
theorem sortF_any (L : List (Int × Int)) (v : Value) (base : Nat) (w : World) (h : w.ownsRow base 45 2 v L.length (flatS L)) (hl : L.length ≤ 1000000) (hb : base ≤ w.heap.size) :
    Calls Try.prog 58 #[v, .func (.func 52) #[] #[]] w fun e w' => e = .returned (.tuple #[]) ∧ ∃ M : List (Int × Int), M.Perm L ∧ M.Pairwise (fun a b => a.1 ≤ b.1) ∧ SpansAt w' v M ∧ Below base w w' := by
  rcases h.2 with ⟨rfl, hn⟩ | ⟨g, cap, cur, rfl, h2, h3, h4, h5, h6, h7⟩
  · obtain rfl : L = [] := List.length_eq_zero_iff.1 hn
    refine (AnyF.slices_SortFunc_none (P := Try.prog) (ρ := Try.sortSpans_ren) { Try.sortSpans with } none 0 (.func (.func 52) #[] #[]) w).mono ?_
    rintro e w' ⟨rfl, rfl⟩
    exact ⟨rfl, [], List.Perm.refl _, List.Pairwise.nil, ⟨by simp [maxLen], .inl ⟨rfl, _, _, rfl⟩⟩, Below.refl _ _⟩
  · have hlt := (Array.getElem?_eq_some_iff.1 h3).1
    have eg : ∀ args w, (callFunc 52 args).run Try.prog w = .ok (.enter 52 args) w := enters_of Try.func52 (by kernel_rfl) rfl
    have hcon := AnyQ.slices_SortFunc Try.sortSpans 2 Try.isAgg45 Try.sizeOf45 encL (fun _ => rfl) (fun x v hv => by simp [encL] at hv; rcases hv with rfl | rfl <;> rfl) (fun x y => Lib.compareInt x.1 y.1) cmp_swo 52 #[] g 0 cap L.toArray w eg (fun m os dk _ x y => closure52 x y _) (holds_own h) hlt (by simp; omega)
    refine hcon.mono ?_
    rintro e w' ⟨rfl, d', n, os, hp, hs, rfl⟩
    obtain ⟨p1, p2, p3⟩ := hp
    have hsz : d'.size = L.length := by simpa using p1
    refine ⟨rfl, d'.toList, ?_, ?_, ⟨by unfold maxLen; simp [hsz]; omega, .inr ⟨g, 0, cap, by simp [hsz], by simp [hsz]; exact h4, h5, ?_, cells_of_holds ?_⟩⟩, ?_⟩
    · have e1 : (d'.extract 0 L.toArray.size).toList = d'.toList := by simp [← hsz]
      have e2 : (L.toArray.extract 0 L.toArray.size).toList = L := by simp
      rw [e1, e2] at p3
      exact p3
    · rw [List.pairwise_iff_getElem]
      intro i j hi hj hij
      simp only [Array.length_toList] at hi hj
      have := hs i j (Nat.zero_le _) hij (by simp [← hsz]; exact hj)
      rw [cmp_lt, getElem!_pos d' i hi, getElem!_pos d' j hj] at this
      simp only [decide_eq_false_iff_not] at this
      simp only [Array.getElem_toList]
      omega
    · exact Nat.lt_of_lt_of_le hlt (size_sortWorldK_c encL 2 w g 0 n d' os)
    · exact holdsK_sortWorldK_c encL 2 w g 0 L.toArray d' n os (holds_own h) hlt (by simp [hsz])
    · exact (Below.refl base w).grown (grown_sorted d') hb (fun q e => by cases e; exact h2)
end Go.Proofs.Ytmcndecmnfbggaa
