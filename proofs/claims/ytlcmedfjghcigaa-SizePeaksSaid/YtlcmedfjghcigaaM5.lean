/- Size: what a set takes, and the greatest flow (for SizeTrue). -/
import Derived.Test.YtlcmedfjghcigaaM2
import Derived.Test.YtlcmedfjghcigaaA25
namespace Go.Proofs.Ytlcmedfjghcigaa
set_option linter.unusedSimpArgs false
set_option linter.unusedVariables false
open Go.RowKit

theorem great_spec (g : Nat → Int) : ∀ (l : List Nat) (p : Int × Nat), p.1 ≤ (l.foldl (greatStep g) p).1 ∧ (∀ s ∈ l, g s ≤ (l.foldl (greatStep g) p).1) ∧ (l.foldl (greatStep g) p = p ∨ ∃ s ∈ l, l.foldl (greatStep g) p = (g s, s))
  | [], p => ⟨Int.le_refl _, (fun s h => by cases h), .inl rfl⟩
  | x :: l, p => by
    rw [List.foldl_cons]
    obtain ⟨h1, h2, h3⟩ := great_spec g l (greatStep g p x)
    unfold greatStep at h1 h2 h3 ⊢
    by_cases k : p.1 < g x
    · rw [if_pos k] at h1 h2 h3 ⊢
      refine ⟨by have : (g x, x).1 = g x := rfl; rw [this] at h1; omega, fun s hs => ?_, ?_⟩
      · rcases List.mem_cons.1 hs with rfl | hs
        · exact h1
        · exact h2 s hs
      · rcases h3 with h3 | ⟨s, hs, h3⟩
        · exact .inr ⟨x, by simp, h3⟩
        · exact .inr ⟨s, by simp [hs], h3⟩
    · rw [if_neg k] at h1 h2 h3 ⊢
      refine ⟨h1, fun s hs => ?_, ?_⟩
      · rcases List.mem_cons.1 hs with rfl | hs
        · omega
        · exact h2 s hs
      · rcases h3 with h3 | ⟨s, hs, h3⟩
        · exact .inl h3
        · exact .inr ⟨s, by simp [hs], h3⟩
theorem zero_in {h : Hs} (hok : hsOk h = true) : 0 ∈ setsF h := by
  unfold setsF setsUp
  exact List.mem_filter.2 ⟨List.mem_range.2 (Nat.two_pow_pos _), open_zero hok⟩
theorem loadF_zero (h : Hs) : loadF h.tp 0 = ⟨(0, 0), 0⟩ := by
  have : ∀ k, loadUp h.tp 0 k = ⟨(0, 0), 0⟩ := fun k => by
    induction k with
    | zero => rfl
    | succ k ih =>
      rw [loadUp]
      have : hasF 0 k = false := by unfold hasF; simp
      rw [this, ih]; rfl
  exact this _
theorem load_le {ts : List Tp} (hok : ∀ i, i < ts.length → tapOk (ts.getD i default) = true) (s : Nat) : ∀ k, k ≤ ts.length → (loadUp ts s k).f.1 ≤ (loadUp ts s k).f.2
  | 0, _ => Int.le_refl _
  | k + 1, hk => by
    have ih := load_le hok s k (by omega)
    have ht := tapOk_iff.1 (hok k (by omega))
    rw [getD_bang ts (by omega)] at ht
    rw [loadUp]
    split
    · unfold withF
      simp only []
      omega
    · exact ih
/-- what Peak says -/
theorem peak_facts {h : Hs} (hok : hsOk h = true) : ∃ (lo hi : Int) (best : Nat), peakF h = (lo, hi, ((best : Nat) : Int), 0) ∧ best < 2 ^ h.tp.length ∧ openF h.rl best = true ∧ (loadF h.tp best).f.2 = hi ∧ lo ≤ hi ∧
    ∀ s ∈ setsF h, (loadF h.tp s).f.1 ≤ lo ∧ (loadF h.tp s).f.2 ≤ hi := by
  obtain ⟨_, a2, a3⟩ := great_spec (fun s => (loadF h.tp s).f.1) (setsF h) (0, 0)
  obtain ⟨b1, b2, b3⟩ := great_spec (fun s => (loadF h.tp s).f.2) (setsF h) (0, 0)
  have hto := (hsOk_iff.1 hok).2.1
  have hm : ∀ s ∈ setsF h, s < 2 ^ h.tp.length ∧ openF h.rl s = true := fun s hs => by
    unfold setsF setsUp at hs
    obtain ⟨q1, q2⟩ := List.mem_filter.1 hs
    exact ⟨List.mem_range.1 q1, q2⟩
  unfold peakF
  rw [if_pos hok]
  unfold greatF
  obtain ⟨⟨lo, ls⟩, hl⟩ : ∃ p, (setsF h).foldl (greatStep fun s => (loadF h.tp s).f.1) (0, 0) = p := ⟨_, rfl⟩
  obtain ⟨⟨hi, best⟩, hb⟩ : ∃ p, (setsF h).foldl (greatStep fun s => (loadF h.tp s).f.2) (0, 0) = p := ⟨_, rfl⟩
  rw [hl] at a2 a3 ⊢
  rw [hb] at b1 b2 b3 ⊢
  simp only [] at a2 a3 b1 b2 b3 ⊢
  have hbest : best ∈ setsF h ∧ (loadF h.tp best).f.2 = hi := by
    rcases b3 with b3 | ⟨s, hs, b3⟩
    · simp only [Prod.mk.injEq] at b3
      obtain ⟨rfl, rfl⟩ := b3
      exact ⟨zero_in hok, by rw [loadF_zero]⟩
    · simp only [Prod.mk.injEq] at b3
      obtain ⟨rfl, rfl⟩ := b3
      exact ⟨hs, rfl⟩
  refine ⟨lo, hi, best, rfl, (hm best hbest.1).1, (hm best hbest.1).2, hbest.2, ?_, fun s hs => ⟨a2 s hs, b2 s hs⟩⟩
  rcases a3 with a3 | ⟨s, hs, a3⟩
  · simp only [Prod.mk.injEq] at a3
    obtain ⟨rfl, rfl⟩ := a3
    exact b1
  · simp only [Prod.mk.injEq] at a3
    obtain ⟨rfl, rfl⟩ := a3
    exact Int.le_trans (load_le hto ls _ (Nat.le_refl _)) (b2 ls hs)
/-- what the taps of a set take, by remainders -/
def tookF (tk : List Nat) (t : Tp) (k : Nat) : Int := t.f.1 + ((tk.getD (k % tk.length) 0 : Nat) : Int) % (t.f.2 - t.f.1 + 1)
def flowUp (ts : List Tp) (tk : List Nat) (s : Nat) : Nat → Int
  | 0 => 0
  | k + 1 => if hasF s k then flowUp ts tk s k + tookF tk ts[k]! k else flowUp ts tk s k
theorem took_in {tk : List Nat} {t : Tp} (ht : tapOk t = true) (k : Nat) : t.f.1 ≤ tookF tk t k ∧ tookF tk t k ≤ t.f.2 := by
  obtain ⟨h1, h2, h3, _⟩ := tapOk_iff.1 ht
  unfold tookF
  have p := Int.emod_nonneg ((tk.getD (k % tk.length) 0 : Nat) : Int) (show t.f.2 - t.f.1 + 1 ≠ 0 by omega)
  have q := Int.emod_lt_of_pos ((tk.getD (k % tk.length) 0 : Nat) : Int) (show 0 < t.f.2 - t.f.1 + 1 by omega)
  omega
theorem flow_in {ts : List Tp} (hok : ∀ i, i < ts.length → tapOk (ts.getD i default) = true) (tk : List Nat) (s : Nat) : ∀ k, k ≤ ts.length → 0 ≤ flowUp ts tk s k ∧ flowUp ts tk s k ≤ (loadUp ts s k).f.2
  | 0, _ => ⟨Int.le_refl _, Int.le_refl _⟩
  | k + 1, hk => by
    obtain ⟨i1, i2⟩ := flow_in hok tk s k (by omega)
    have h0 := hok k (by omega)
    rw [getD_bang ts (by omega)] at h0
    have ht := tapOk_iff.1 h0
    obtain ⟨t1, t2⟩ := took_in (tk := tk) h0 k
    rw [flowUp, loadUp]
    split
    · unfold withF
      simp only []
      omega
    · exact ⟨i1, i2⟩
theorem serves {h : Hs} {z : Sz} {s : Nat} (hok : hsOk h = true) (hz : szOk z = true) (hf : fullF h z = true) (hs : s ∈ setsF h) {f : Int} (f0 : 0 ≤ f) (f1 : f ≤ (loadF h.tp s).f.2) : f ≤ z.full ∧ z.loss * f * f ≤ (h.head - (loadF h.tp s).n) * z.full * z.full := by
  unfold fullF at hf
  rw [List.all_eq_true] at hf
  have hb := hf s hs
  have hb2 : badF h z s = false := by simpa using hb
  unfold badF findF at hb2
  obtain ⟨hz1, _, hz3, _⟩ := szOk_iff.1 hz
  by_cases k : z.full < (loadF h.tp s).f.2
  · rw [if_pos k] at hb2; simp at hb2
  · rw [if_neg k] at hb2
    have k2 : ¬ (h.head - (loadF h.tp s).n) * z.full * z.full < z.loss * (loadF h.tp s).f.2 * (loadF h.tp s).f.2 := by simpa using hb2
    refine ⟨by omega, ?_⟩
    have m1 := Int.mul_le_mul_of_nonneg_left f1 hz3.1
    have m2 : z.loss * f * f ≤ z.loss * (loadF h.tp s).f.2 * (loadF h.tp s).f.2 := Int.mul_le_mul m1 f1 f0 (Int.mul_nonneg hz3.1 (by omega))
    omega
end Go.Proofs.Ytlcmedfjghcigaa
