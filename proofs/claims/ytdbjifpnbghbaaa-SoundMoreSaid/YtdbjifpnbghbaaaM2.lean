/- Sound: the lag grows with the place; the places that hearings allow are a span; the document's stretches, place by place, are the program's. -/
import Derived.Test.YtdbjifpnbghbaaaR7
namespace Go.Proofs.Ytdbjifpnbghbaaa
set_option linter.unusedSimpArgs false
set_option linter.unusedVariables false

theorem near_mono (s : Int × Int) {n m : Int} (h : n ≤ m) : nearF s n ≤ nearF s m := by unfold nearF; omega
theorem share_mono (l : List Pi) (a b : Int) {n m : Int} (h : n ≤ m) (i : Nat) : shareF l a b n i ≤ shareF l a b m i := by
  have := near_mono (posF l i, posF l (i + 1)) h
  unfold shareF
  simp only []
  omega
theorem of_mono (e : Bool) {n m lo hi : Int} (h : n ≤ m) (h1 : 0 ≤ lo) (h2 : 0 ≤ hi) : ofF e n lo hi ≤ ofF e m lo hi := by
  have a := Int.mul_le_mul_of_nonneg_right h h1
  have b := Int.mul_le_mul_of_nonneg_right h h2
  unfold ofF
  split <;> omega
theorem lagUp_mono {l : List Pi} (hok : lineOk l = true) (e : Bool) (a b : Int) {n m : Int} (h : n ≤ m) : ∀ i : Nat, i ≤ l.length → lagUp e l a b n i ≤ lagUp e l a b m i
  | 0, _ => Int.le_refl _
  | i + 1, hi => by
    have ih := lagUp_mono hok e a b h i (by omega)
    have hp := pipe_in hok (i := i) (by omega)
    have := of_mono e (share_mono l a b h i) (lo := (l.getD i default).lo) (hi := (l.getD i default).hi) (by omega) (by omega)
    simp only [lagUp]
    omega
theorem lag_mono {l : List Pi} (hok : lineOk l = true) (e : Bool) (a b : Int) {n m : Int} (h : n ≤ m) : lagF e l a b n ≤ lagF e l a b m :=
  lagUp_mono hok e a b (near_mono (a, b) h) _ (Nat.le_refl _)
theorem search_spec (P : Nat → Bool) (hP : ∀ a b, a ≤ b → P a = true → P b = true) : ∀ (f i j : Nat), i ≤ j → j - i < 2 ^ f → i ≤ searchF P f i j ∧ searchF P f i j ≤ j ∧ (∀ k, i ≤ k → k < searchF P f i j → P k = false) ∧ (∀ k, searchF P f i j ≤ k → k < j → P k = true)
  | 0, i, j, hij, hf => by
    simp only [searchF]
    exact ⟨Nat.le_refl _, hij, fun k h1 h2 => by omega, fun k h1 h2 => by omega⟩
  | f + 1, i, j, hij, hf => by
    have hpow : 2 ^ (f + 1) = 2 * 2 ^ f := by rw [Nat.pow_succ]; omega
    unfold searchF
    by_cases h : i < j
    · rw [if_pos h]
      simp only []
      cases hm : P ((i + j) / 2) with
      | true =>
        obtain ⟨h1, h2, h3, h4⟩ := search_spec P hP f i ((i + j) / 2) (by omega) (by omega)
        simp only [if_true]
        refine ⟨h1, by omega, h3, fun k hk hj => ?_⟩
        by_cases hkm : k < (i + j) / 2
        · exact h4 k hk hkm
        · exact hP _ k (by omega) hm
      | false =>
        obtain ⟨h1, h2, h3, h4⟩ := search_spec P hP f ((i + j) / 2 + 1) j (by omega) (by omega)
        simp only [Bool.false_eq_true, if_false]
        refine ⟨by omega, h2, fun k hk hj => ?_, h4⟩
        by_cases hkm : (i + j) / 2 < k
        · exact h3 k hkm hj
        · cases hk : P k with
          | false => rfl
          | true => have := hP k ((i + j) / 2) (by omega) hk; rw [hm] at this; cases this
    · rw [if_neg h]
      exact ⟨Nat.le_refl _, hij, fun k h1 h2 => by omega, fun k h1 h2 => by omega⟩
theorem first_iff {l : List Pi} (hok : lineOk l = true) (a b : Int) (e : Bool) (g : Int) {p : Int} (h0 : 0 ≤ p) (h1 : p ≤ endF l) : firstF l a b e g ≤ p ↔ g ≤ lagF e l a b p := by
  have hE := end_in hok
  obtain ⟨n, rfl⟩ : ∃ n : Nat, p = n := ⟨p.toNat, by omega⟩
  obtain ⟨j, hj⟩ : ∃ j, (endF l + 1).toNat = j := ⟨_, rfl⟩
  obtain ⟨s1, s2, s3, s4⟩ := search_spec (foundF l a b e g) (fun x y hxy hx => by
    have hm := lag_mono hok e a b (show (x : Int) ≤ (y : Int) by omega)
    unfold foundF at hx ⊢
    rw [decide_eq_true_eq] at hx ⊢
    omega) 20 0 j (by omega) (by omega)
  unfold firstF
  rw [hj]
  constructor
  · intro h
    have := s4 n (by omega) (by omega)
    unfold foundF at this
    rwa [decide_eq_true_eq] at this
  · intro h
    by_cases hn : n < searchF (foundF l a b e g) 20 0 j
    · have := s3 n (by omega) hn
      unfold foundF at this
      rw [decide_eq_false_iff_not] at this
      exact absurd h this
    · omega
theorem allow_iff {l : List Pi} (hok : lineOk l = true) (h : He) {p : Int} (h0 : 0 ≤ p) (h1 : p ≤ endF l) : allowsF l h p = true ↔ (allowF l h).1 ≤ p ∧ p ≤ (allowF l h).2 := by
  have a1 := first_iff hok h.a h.b true h.lo h0 h1
  have a2 := first_iff hok h.a h.b false (h.hi + 1) h0 h1
  unfold allowsF allowF lagsF
  simp only [Bool.and_eq_true, decide_eq_true_eq]
  omega
theorem cut_iff : ∀ (os : List (Int × Int)) (s : Int × Int) (p : Int), ((cutF s os).1 ≤ p ∧ p ≤ (cutF s os).2) ↔ (s.1 ≤ p ∧ p ≤ s.2) ∧ ∀ o ∈ os, o.1 ≤ p ∧ p ≤ o.2
  | [], s, p => by simp [cutF]
  | o :: os, s, p => by
    have ih := cut_iff os (max s.1 o.1, min s.2 o.2) p
    have e : cutF s (o :: os) = cutF (max s.1 o.1, min s.2 o.2) os := rfl
    rw [e, ih]
    simp only [List.mem_cons, forall_eq_or_imp]
    constructor
    · rintro ⟨⟨h1, h2⟩, h3⟩; exact ⟨by omega, by omega, h3⟩
    · rintro ⟨h1, h2, h3⟩; exact ⟨by omega, h3⟩
def allPF (l : List Pi) (hs : List He) (p : Int) : Bool := hs.all (fun h => allowsF l h p)
def spanF (l : List Pi) (hs : List He) : Int × Int := cutF (0, endF l) (allowedF l hs)
theorem allP_iff {l : List Pi} (hok : lineOk l = true) (hs : List He) {p : Int} (h0 : 0 ≤ p) (h1 : p ≤ endF l) : allPF l hs p = true ↔ (spanF l hs).1 ≤ p ∧ p ≤ (spanF l hs).2 := by
  unfold spanF
  rw [cut_iff]
  unfold allPF allowedF
  rw [List.all_eq_true]
  simp only [List.mem_map, forall_exists_index, and_imp, forall_apply_eq_imp_iff₂]
  constructor
  · intro h
    exact ⟨⟨h0, h1⟩, fun x hx => (allow_iff hok x h0 h1).1 (h x hx)⟩
  · rintro ⟨_, h⟩ x hx
    exact (allow_iff hok x h0 h1).2 (h x hx)
/-- the first and the last of the first n decimetres of pipe i that all hearings allow -/
def flUp (l : List Pi) (hs : List He) (i : Nat) : Nat → Int × Int
  | 0 => (-1, -1)
  | d + 1 => if allPF l hs (posF l i + (d : Nat)) then (if (flUp l hs i d).1 < 0 then ((d : Nat) : Int) else (flUp l hs i d).1, ((d : Nat) : Int)) else flUp l hs i d
/-- the stretches of the first i pipes, place by place -/
def rStrUp (l : List Pi) (hs : List He) : Nat → List St
  | 0 => []
  | i + 1 => let r := flUp l hs i ((l.getD i default).len.toNat + 1)
             if 0 ≤ r.1 then rStrUp l hs i ++ [⟨i, r.1, r.2⟩] else rStrUp l hs i
theorem fl_eq {l : List Pi} (hok : lineOk l = true) (hs : List He) {i : Nat} (hi : i < l.length) : ∀ n : Nat, (n : Int) ≤ (l.getD i default).len + 1 →
    flUp l hs i n = (if max (spanF l hs).1 (posF l i) ≤ min (spanF l hs).2 (posF l i + n - 1) then (max (spanF l hs).1 (posF l i) - posF l i, min (spanF l hs).2 (posF l i + n - 1) - posF l i) else (-1, -1))
  | 0, _ => by
    rw [if_neg (by omega)]
    rfl
  | n + 1, hn => by
    have ih := fl_eq hok hs hi n (by omega)
    have hp0 := pos_small hok (i := i) (by omega)
    have hp1 := pos_mono hok (i := i + 1) (j := l.length) (by omega) (Nat.le_refl _)
    have hps : posF l (i + 1) = posF l i + (l.getD i default).len := rfl
    have hiff := allP_iff hok hs (p := posF l i + (n : Nat)) (by omega) (by unfold endF; omega)
    have hs' : flUp l hs i (n + 1) = if allPF l hs (posF l i + (n : Nat)) then (if (flUp l hs i n).1 < 0 then ((n : Nat) : Int) else (flUp l hs i n).1, ((n : Nat) : Int)) else flUp l hs i n := rfl
    rw [hs', ih]
    obtain ⟨⟨A, B⟩, hS⟩ : ∃ s, spanF l hs = s := ⟨_, rfl⟩
    rw [hS] at hiff ⊢
    obtain ⟨q, hq⟩ : ∃ q, posF l i = q := ⟨_, rfl⟩
    rw [hq] at hiff hp0 ⊢
    dsimp only at hiff ⊢
    cases hb : allPF l hs (q + (n : Nat)) with
    | true =>
      have h := hiff.1 hb
      have h1 : max A q ≤ min B (q + ((n + 1 : Nat) : Int) - 1) := by omega
      rw [if_pos rfl, if_pos h1]
      by_cases hc : max A q ≤ min B (q + (n : Nat) - 1)
      · rw [if_pos hc]
        dsimp only
        rw [if_neg (show ¬ (max A q - q < 0) by omega)]
        simp only [Prod.mk.injEq, true_and]
        omega
      · rw [if_neg hc]
        dsimp only
        rw [if_pos (show (-1 : Int) < 0 by omega)]
        simp only [Prod.mk.injEq, true_and]
        omega
    | false =>
      have h : ¬ (A ≤ q + (n : Nat) ∧ q + (n : Nat) ≤ B) := fun h => by rw [hiff.2 h] at hb; cases hb
      rw [if_neg (show ¬ (false = true) by simp)]
      by_cases hc : max A q ≤ min B (q + (n : Nat) - 1)
      · rw [if_pos hc, if_pos (show max A q ≤ min B (q + ((n + 1 : Nat) : Int) - 1) by omega)]
        simp only [Prod.mk.injEq, true_and]
        omega
      · rw [if_neg hc, if_neg (show ¬ max A q ≤ min B (q + ((n + 1 : Nat) : Int) - 1) by omega)]
theorem rStr_eq {l : List Pi} (hok : lineOk l = true) (hs : List He) : ∀ i : Nat, i ≤ l.length → rStrUp l hs i = strUp l (spanF l hs) i
  | 0, _ => rfl
  | i + 1, hi => by
    have ih := rStr_eq hok hs i (by omega)
    have hp := pipe_in hok (i := i) (by omega)
    have hp0 := pos_small hok (i := i) (by omega)
    have hps : posF l (i + 1) = posF l i + (l.getD i default).len := rfl
    have hf := fl_eq hok hs (i := i) (by omega) ((l.getD i default).len.toNat + 1) (by omega)
    unfold rStrUp strUp emptyF
    simp only []
    rw [hf, ih, (cutF_one _ _).1, (cutF_one _ _).2]
    simp only [hps]
    obtain ⟨⟨A, B⟩, hS⟩ : ∃ s, spanF l hs = s := ⟨_, rfl⟩
    rw [hS]
    simp only []
    have he : posF l i + (((l.getD i default).len.toNat + 1 : Nat) : Int) - 1 = posF l i + (l.getD i default).len := by omega
    rw [he]
    by_cases hc : max A (posF l i) ≤ min B (posF l i + (l.getD i default).len)
    · rw [if_pos hc]
      simp only []
      rw [if_pos (by omega), if_neg (by rw [decide_eq_true_eq]; omega)]
    · rw [if_neg hc]
      simp only []
      rw [if_neg (by omega), if_pos (by rw [decide_eq_true_eq]; omega)]
end Go.Proofs.Ytdbjifpnbghbaaa
