/- Plain: places of drums, and what fits. -/
import Derived.Test.YtmcndecmnfbggaaM2
import Derived.Test.YtmcndecmnfbggaaD1
namespace Go.Proofs.Ytmcndecmnfbggaa
def plc (t : Int) : Nat → Int
  | 0 => t % 10000
  | k + 1 => 1000 * (t / (1000 * tenP (k + 1)) % 10) + max 0 (plc t k - 9000)
def mv (t : Int) : Nat → Bool
  | 0 => true
  | k + 1 => mv t k && decide (t / (1000 * tenP k) % 10 = 9)
theorem tenP_pos : ∀ n, 1 ≤ tenP n
  | 0 => by decide
  | n + 1 => by have := tenP_pos n; unfold tenP; omega
theorem plc_eq (t : Int) : ∀ k, plc t k = 1000 * (t / (1000 * tenP k) % 10) + (if mv t k then t % 1000 else 0)
  | 0 => by unfold plc mv tenP; simp only [if_true]; omega
  | k + 1 => by
    unfold plc
    rw [plc_eq t k]
    have hd : 0 ≤ t / (1000 * tenP k) % 10 ∧ t / (1000 * tenP k) % 10 < 10 := by omega
    obtain ⟨d, hd2⟩ : ∃ d, t / (1000 * tenP k) % 10 = d := ⟨_, rfl⟩
    have hm : mv t (k + 1) = (mv t k && decide (d = 9)) := by rw [← hd2]; rfl
    rw [hd2] at hd ⊢
    rw [hm]
    congr 1
    cases mv t k <;> by_cases h9 : d = 9 <;> simp [h9] <;> omega
theorem plc_bd (t : Int) (k : Nat) : 0 ≤ plc t k ∧ plc t k ≤ 9999 := by
  rw [plc_eq]; split <;> omega
def FitsP (figs : List Int) (t w : Int) : Prop := ∀ k, k < figs.length → withinP (plc t k) (figs.getD k 0) w = true
theorem div_ten (t : Int) (_h : 0 ≤ t) (k : Nat) : t / (1000 * tenP k) / 10 = t / (1000 * tenP (k + 1)) := by
  have := tenP_pos k
  rw [Int.ediv_ediv_of_nonneg (by omega)]
  congr 1
  rw [show tenP (k + 1) = 10 * tenP k from rfl]; omega
theorem fitsQ_iff (w t : Int) (h : 0 ≤ t) : ∀ (fs : List Int) (k : Nat), fitsQ w fs (mv t k) (t % 1000) (t / (1000 * tenP k)) ↔ (t < 1000 * tenP (k + fs.length) ∧ ∀ i, i < fs.length → withinP (plc t (k + i)) (fs.getD i 0) w = true)
  | [], k => by
    unfold fitsQ
    have := tenP_pos k
    simp only [List.length_nil, Nat.add_zero, Nat.not_lt_zero, false_implies, implies_true, and_true]
    constructor
    · intro e; rcases Int.lt_or_le t (1000 * tenP k) with h' | h'
      · exact h'
      · have := Int.ediv_le_ediv (c := 1000 * tenP k) (by omega) h'
        rw [Int.ediv_self (by omega)] at this; omega
    · intro e; exact Int.ediv_eq_zero_of_lt h e
  | f :: fs, k => by
    unfold fitsQ
    rw [← plc_eq, div_ten t h k]
    have : (mv t k && decide (t / (1000 * tenP k) % 10 = 9)) = mv t (k + 1) := rfl
    rw [this, fitsQ_iff w t h fs (k + 1)]
    rw [show k + 1 + fs.length = k + (f :: fs).length by simp; omega]
    constructor
    · rintro ⟨h1, h2, h3⟩
      refine ⟨h2, fun i hi => ?_⟩
      cases i with
      | zero => simpa using h1
      | succ i => have := h3 i (by simp at hi; omega); rw [show k + (i + 1) = k + 1 + i by omega]; simpa using this
    · rintro ⟨h1, h2⟩
      refine ⟨by simpa using h2 0 (by simp), h1, fun i hi => ?_⟩
      have := h2 (i + 1) (by simp; omega)
      rw [show k + (i + 1) = k + 1 + i by omega] at this
      simpa using this
def st0 : St := ⟨0, 1000, 0, 0, 999, true⟩
def FitP (figs : List Int) (w t : Int) : Prop := 0 ≤ t ∧ t < turnP figs.length ∧ FitsP figs t w
theorem totals_fit (figs : List Int) (w : Int) (hw : 0 ≤ w ∧ w ≤ 999) (t : Int) : (∃ x ∈ totalsP w figs st0, inS t x) ↔ FitP figs w t := by
  rw [totals_spec w hw figs st0 (by decide) (by decide) (by decide)]
  unfold FitP turnP
  rw [show ((figs.length : Nat) : Int).toNat = figs.length by simp]
  constructor
  · rintro ⟨b, q, h0, h1, h2, h3, h4⟩
    simp only [st0] at h1 h2 h3 h4
    have e1 : t % 1000 = b := by omega
    have e2 : t / (1000 * tenP 0) = q := by unfold tenP; omega
    have ht : 0 ≤ t := by omega
    have := (fitsQ_iff w t ht figs 0).1 (by rw [e1, e2]; exact h4)
    simp only [Nat.zero_add] at this
    exact ⟨ht, this⟩
  · rintro ⟨ht, h⟩
    refine ⟨t % 1000, t / 1000, by omega, ?_, ?_, ?_, ?_⟩
    · simp only [st0]; omega
    · simp only [st0]; omega
    · simp only [st0]; omega
    · have := (fitsQ_iff w t ht figs 0).2 (by simp only [Nat.zero_add]; exact h)
      unfold tenP at this
      simpa [st0, mv] using this
theorem fit_canon (figs : List Int) (w : Int) (hw : 0 ≤ w ∧ w ≤ 999) (L : List (Int × Int)) (hp : L.Perm (totalsP w figs st0)) (hs : L.Pairwise (fun a b => a.1 ≤ b.1)) : Canon (FitP figs w) (L.foldl joinS []) := by
  obtain ⟨f1, f2⟩ := totals_form w hw figs st0 (by decide) (by decide) (by decide)
  have f2 := f2 (by decide)
  have hm : ∀ x ∈ L, x.1 ≤ x.2 := fun x hx => (f1 x (hp.mem_iff.1 hx)).1
  have hd : L.Pairwise (fun a b => a.2 < b.1 ∨ b.2 < a.1) := hp.symm.pairwise f2 (fun h => h.symm)
  have hpw : L.Pairwise (fun a b => a.2 < b.1) := by
    refine List.Pairwise.imp_of_mem ?_ (hs.and hd)
    intro a b ha hb ⟨h1, h2⟩
    have := hm a ha
    have := hm b hb
    omega
  refine canon_congr (join_canon L canon_empty hm hpw (fun s hs => by cases hs)) (fun t => ?_)
  rw [← totals_fit figs w hw]
  simp only [false_or]
  exact ⟨fun ⟨x, hx, hi⟩ => ⟨x, hp.mem_iff.1 hx, hi⟩, fun ⟨x, hx, hi⟩ => ⟨x, hp.mem_iff.2 hx, hi⟩⟩
end Go.Proofs.Ytmcndecmnfbggaa
