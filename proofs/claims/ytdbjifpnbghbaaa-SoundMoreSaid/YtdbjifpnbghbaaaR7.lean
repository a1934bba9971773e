/- Sound: the reference Allows. -/
import Derived.Test.YtdbjifpnbghbaaaR6
namespace Go.Proofs.Ytdbjifpnbghbaaa
set_option linter.unusedSimpArgs false
set_option linter.unusedVariables false
open Go.RowKit Go.Maps Go.BigFrame

def allowsF (l : List Pi) (h : He) (t : Int) : Bool := decide ((lagsF l h.a h.b t).1 ≤ h.hi) && decide (h.lo ≤ (lagsF l h.a h.b t).2)
theorem lagUp_le (l : List Pi) (a b t : Int) : ∀ i : Nat, lagUp false l a b t i ≤ lagUp true l a b t i
  | 0 => Int.le_refl _
  | i + 1 => by
    have ih := lagUp_le l a b t i
    rw [lagUp_next, lagUp_next]
    unfold ofF
    simp only [Bool.false_eq_true, if_false, if_true]
    omega
theorem lags_le (l : List Pi) (a b t : Int) : (lagsF l a b t).1 ≤ (lagsF l a b t).2 := lagUp_le l a b _ _
theorem allows_empty {l : List Pi} {a b lo hi t : Int} (h : lo ≤ hi) : emptyF (cutF (lo, hi) [lagsF l a b t]) = !allowsF l ⟨a, b, lo, hi⟩ t := by
  have h1 := lags_le l a b t
  rw [Bool.eq_iff_iff]
  unfold emptyF allowsF
  rw [(cutF_one _ _).1, (cutF_one _ _).2]
  simp only [decide_eq_true_eq, Bool.not_eq_true', Bool.and_eq_false_iff, decide_eq_false_iff_not]
  omega
set_option maxRecDepth 100000 in
set_option maxHeartbeats 3200000 in
theorem rAllows_any (l : List Pi) (hok : lineOk l = true) (v : Value) (h : He) (t : Int) (hh : hearOk l h = true) (w : World) (hl : TabAt 3 piC w v l) : Calls Try.prog 30 #[v, heV h, .int .i64 t] w fun e w' => e = .returned (.bool (allowsF l h t)) ∧ Below w.heap.size w w' := by
  obtain ⟨a, cp, rfl⟩ := hl.shape
  obtain ⟨x, y, lo, hi⟩ := h
  have hE := end_in hok
  have hh2 : (0 ≤ x ∧ x ≤ y ∧ y ≤ endF l) := by
    unfold hearOk at hh
    simp only [Bool.and_eq_true, earsF_iff] at hh
    exact hh.1
  unfold heV
  simp only []
  obtain ⟨W0, hW0⟩ : ∃ X, X = w.alloc (.cells #[.int .i64 x, .int .i64 y, .int .i64 lo, .int .i64 hi] 26) := ⟨_, rfl⟩
  have hb0 : Below w.heap.size w W0 := by rw [hW0]; exact (Below.refl _ _).alloc (Nat.le_refl _) _
  have hr0 : W0.heap[w.heap.size]? = some (.cells #[.int .i64 x, .int .i64 y, .int .i64 lo, .int .i64 hi] 26 (0, 0)) := by rw [hW0]; exact alloc_heap w _
  have KO := Lib.hid (of_any l hok (.slice a l.length cp) x y t hh2.2.1 (by omega) (by omega) W0 (hl.below hb0))
  obtain ⟨P, hP⟩ : ∃ x, w.heap.size = x := ⟨_, rfl⟩
  rw [hP] at hr0
  have HB0 := Lib.hid hb0
  have H0 := Lib.hid hr0
  obtain ⟨y0, y1, y2, y3⟩ := four_cells hr0
  have hdef : allowsF l ⟨x, y, lo, hi⟩ t = (decide ((lagsF l x y t).1 ≤ hi) && decide (lo ≤ (lagsF l x y t).2)) := rfl
  obtain ⟨⟨g, q⟩, hg⟩ : ∃ z, lagsF l x y t = z := ⟨_, rfl⟩
  obtain ⟨R, hR⟩ : ∃ b, allowsF l ⟨x, y, lo, hi⟩ t = b := ⟨_, rfl⟩
  rw [hg] at KO hdef
  rw [hR] at hdef ⊢
  unfold spV at KO
  simp only [] at KO hdef
  clear hl hok hh hh2 hE hg hR hb0 hr0
  go_enter Try.func30, Try.ntmps30
  go_upto_region 1 with fail
  rw [← hW0]
  try rw [hP]
  clear hW0 hP
  go_wp2_with (go_at_call 38; fail)
  refine KO.out.mono ?_
  rintro e w2 ⟨rfl, hb2⟩
  have h02 := box_step (w0 := w) H0.out hb2
  have hbw := HB0.out.trans (hb2.mono HB0.out.size)
  clear y0 y1 y2 y3 hb2 H0
  obtain ⟨W3, hW3⟩ : ∃ X, X = w2.alloc (.cells #[.int .i64 g, .int .i64 q] 24) := ⟨_, rfl⟩
  have hb3 : Below w2.heap.size w2 W3 := by rw [hW3]; exact (Below.refl _ _).alloc (Nat.le_refl _) _
  have hr3 : W3.heap[w2.heap.size]? = some (.cells #[.int .i64 g, .int .i64 q] 24 (0, 0)) := by rw [hW3]; exact alloc_heap w2 _
  have h03 := box_step (w0 := w) h02 hb3
  have HB3 := Lib.hid (hbw.trans (hb3.mono hbw.size))
  obtain ⟨y0, y1, y2, y3⟩ := four_cells h03
  obtain ⟨B, hB⟩ : ∃ x, w2.heap.size = x := ⟨_, rfl⟩
  rw [hB] at hr3
  obtain ⟨z0, z1⟩ := two_cells hr3
  clear hb3 hr3 h03 h02 hbw KO HB0
  go_upto_region 2 with fail
  rw [← hW3]
  try rw [hB]
  clear hW3 hB
  by_cases h1 : g ≤ hi
  · have g1 : decide (g ≤ hi) = true := decide_eq_true h1
    have hrr : R = decide (lo ≤ q) := by rw [hdef, g1]; rfl
    subst hrr
    clear hdef
    go_wp2
    go_ret
    exact ⟨rfl, HB3.out⟩
  · have g1 : decide (g ≤ hi) = false := decide_eq_false h1
    have hrr : R = false := by rw [hdef, g1]; rfl
    subst hrr
    clear hdef
    go_wp2
    go_ret
    exact ⟨rfl, HB3.out⟩
end Go.Proofs.Ytdbjifpnbghbaaa
