/- Sound: with one hearing the stretches lie together, and their ends are the ends of what is allowed; both ends of a lag are those of a truth. -/
import Derived.Test.YtdbjifpnbghbaaaM3
import Derived.Test.YtdbjifpnbghbaaaT3
namespace Go.Proofs.Ytdbjifpnbghbaaa
set_option linter.unusedSimpArgs false
set_option linter.unusedVariables false

/-- pipe i has some of the places -/
def incP (l : List Pi) (s : Int × Int) (i : Nat) : Prop := max s.1 (posF l i) ≤ min s.2 (posF l (i + 1))
def stP (l : List Pi) (s : Int × Int) (i : Nat) : St := ⟨i, max s.1 (posF l i) - posF l i, min s.2 (posF l (i + 1)) - posF l i⟩
def stRow (l : List Pi) (s : Int × Int) (i0 m : Nat) : List St := (List.range m).map (fun j => stP l s (i0 + j))
theorem stRow_snoc (l : List Pi) (s : Int × Int) (i0 m : Nat) : stRow l s i0 (m + 1) = stRow l s i0 m ++ [stP l s (i0 + m)] := by simp [stRow, List.range_succ]
theorem stRow_at (l : List Pi) (s : Int × Int) (i0 : Nat) {m j : Nat} (h : j < m) : (stRow l s i0 m).getD j default = stP l s (i0 + j) := by simp [stRow, List.getD, h]
theorem stRow_len (l : List Pi) (s : Int × Int) (i0 m : Nat) : (stRow l s i0 m).length = m := by simp [stRow]
theorem str_next (l : List Pi) (s : Int × Int) (k : Nat) : (incP l s k → strUp l s (k + 1) = strUp l s k ++ [stP l s k]) ∧ (¬ incP l s k → strUp l s (k + 1) = strUp l s k) := by
  have hdef : strUp l s (k + 1) = if emptyF (cutF s [(posF l k, posF l (k + 1))]) then strUp l s k else strUp l s k ++ [⟨k, (cutF s [(posF l k, posF l (k + 1))]).1 - posF l k, (cutF s [(posF l k, posF l (k + 1))]).2 - posF l k⟩] := rfl
  rw [hdef]
  unfold emptyF incP
  rw [(cutF_one _ _).1, (cutF_one _ _).2]
  constructor
  · intro h
    rw [if_neg (by rw [decide_eq_true_eq]; dsimp only; omega)]
    rfl
  · intro h
    rw [if_pos (by rw [decide_eq_true_eq]; dsimp only; omega)]
theorem inc_mid {l : List Pi} (hok : lineOk l = true) (s : Int × Int) {i j k : Nat} (h1 : i < j) (h2 : j < k) (hk : k ≤ l.length) (hi : incP l s i) (hk' : incP l s k) : incP l s j := by
  have a := pos_mono hok (i := i + 1) (j := j) (by omega) (by omega)
  have b := pos_mono hok (i := j) (j := j + 1) (by omega) (by omega)
  have c := pos_mono hok (i := j + 1) (j := k) (by omega) (by omega)
  unfold incP at *
  omega
theorem str_row {l : List Pi} (hok : lineOk l = true) (s : Int × Int) : ∀ k : Nat, k ≤ l.length → ∃ i0 m, strUp l s k = stRow l s i0 m ∧ i0 + m ≤ k ∧ (∀ j, j < m → incP l s (i0 + j)) ∧ (0 < m → (i0 = 0 ∨ ¬ incP l s (i0 - 1)) ∧ (i0 + m = k ∨ ¬ incP l s (i0 + m))) ∧ (m = 0 → ∀ i, i < k → ¬ incP l s i)
  | 0, _ => ⟨0, 0, rfl, by omega, fun j hj => by omega, fun h => by omega, fun _ i hi => by omega⟩
  | k + 1, hk => by
    obtain ⟨i0, m, h1, h2, h3, h4, h5⟩ := str_row hok s k (by omega)
    have hn := str_next l s k
    by_cases hi : incP l s k
    · by_cases hm : m = 0
      · subst hm
        refine ⟨k, 1, ?_, by omega, fun j hj => ?_, fun _ => ⟨?_, .inl rfl⟩, fun h => by omega⟩
        · rw [hn.1 hi, h1]; simp [stRow]
        · rw [show k + j = k by omega]; exact hi
        · by_cases hk0 : k = 0
          · exact .inl hk0
          · exact .inr (h5 rfl (k - 1) (by omega))
      · obtain ⟨h6, h7⟩ := h4 (by omega)
        have hkk : i0 + m = k := by
          rcases h7 with h | h
          · exact h
          · by_cases e : i0 + m = k
            · exact e
            · exact absurd (inc_mid hok s (i := i0 + (m - 1)) (j := i0 + m) (k := k) (by omega) (by omega) (by omega) (h3 _ (by omega)) hi) h
        refine ⟨i0, m + 1, ?_, by omega, fun j hj => ?_, fun _ => ⟨h6, .inl (by omega)⟩, fun h => by omega⟩
        · rw [hn.1 hi, h1, stRow_snoc, hkk]
        · by_cases e : j = m
          · rw [e, hkk]; exact hi
          · exact h3 j (by omega)
    · refine ⟨i0, m, by rw [hn.2 hi, h1], by omega, h3, fun h => ?_, fun h i hi' => ?_⟩
      · obtain ⟨h6, h7⟩ := h4 h
        refine ⟨h6, .inr ?_⟩
        rcases h7 with h | h
        · rw [h]; exact hi
        · exact h
      · by_cases e : i = k
        · rw [e]; exact hi
        · exact h5 h i (by omega)
/-- what the stretches of one hearing are -/
theorem ends_math {l : List Pi} (hok : lineOk l = true) (h : He) (S : List St) (hS : strUp l (spanF l [h]) l.length = S) (hne : S ≠ []) :
    (∀ i, i < S.length → let x := S.getD i default
      ((0 ≤ x.p ∧ x.p < (l.length : Int)) ∧ 0 ≤ x.a ∧ x.a ≤ x.b ∧ x.b ≤ (l.getD x.p.toNat default).len) ∧
      (0 < i → let y := S.getD (i - 1) default; x.p = y.p + 1 ∧ x.a = 0 ∧ y.b = (l.getD y.p.toNat default).len)) ∧
    ∃ first last : Int, posF l (S.getD 0 default).p.toNat + (S.getD 0 default).a = first ∧ posF l (S.getD (S.length - 1) default).p.toNat + (S.getD (S.length - 1) default).b = last ∧
      (0 ≤ first ∧ first ≤ last ∧ last ≤ endF l) ∧ allowsF l h first = true ∧ allowsF l h last = true ∧ (first ≠ 0 → allowsF l h (first - 1) = false) ∧ (last ≠ endF l → allowsF l h (last + 1) = false) := by
  obtain ⟨s, hs⟩ : ∃ s, spanF l [h] = s := ⟨_, rfl⟩
  have hall : ∀ p, 0 ≤ p → p ≤ endF l → (allowsF l h p = true ↔ s.1 ≤ p ∧ p ≤ s.2) := fun p h0 h1 => by
    have := allP_iff hok [h] h0 h1
    rw [hs] at this
    unfold allPF at this
    rw [List.all_cons, List.all_nil, Bool.and_true] at this
    exact this
  rw [hs] at hS
  obtain ⟨i0, m, h1, h2, h3, h4, h5⟩ := str_row hok s l.length (Nat.le_refl _)
  rw [hS] at h1
  have hm : 0 < m := by
    rcases Nat.eq_zero_or_pos m with e | e
    · subst e; exact absurd h1 hne
    · exact e
  obtain ⟨h6, h7⟩ := h4 hm
  have hlen : S.length = m := by rw [h1, stRow_len]
  have hat : ∀ j, j < m → S.getD j default = stP l s (i0 + j) := fun j hj => by rw [h1]; exact stRow_at l s i0 hj
  have hE : endF l = posF l l.length := rfl
  refine ⟨fun i hi => ?_, ?_⟩
  · rw [hlen] at hi
    have hinc := h3 i hi
    have hp := pipe_in hok (i := i0 + i) (by omega)
    have hps : posF l (i0 + i + 1) = posF l (i0 + i) + (l.getD (i0 + i) default).len := rfl
    simp only []
    rw [hat i hi]
    unfold stP incP at *
    dsimp only
    rw [Int.toNat_natCast]
    refine ⟨by omega, fun h0 => ?_⟩
    have hinc2 := h3 (i - 1) (by omega)
    rw [hat (i - 1) (by omega)]
    dsimp only
    rw [Int.toNat_natCast]
    have e : i0 + (i - 1) + 1 = i0 + i := by omega
    have hps2 : posF l (i0 + (i - 1) + 1) = posF l (i0 + (i - 1)) + (l.getD (i0 + (i - 1)) default).len := rfl
    rw [e] at hinc2 hps2
    rw [e]
    omega
  · have a0 := h3 0 hm
    have a1 := h3 (m - 1) (by omega)
    rw [Nat.add_zero] at a0
    rw [hlen, hat 0 hm, hat (m - 1) (by omega), Nat.add_zero]
    have e1 : i0 + (m - 1) + 1 = i0 + m := by omega
    have hp0 := pos_small hok (i := i0) (by omega)
    have hp1 := pos_mono hok (i := i0 + m) (j := l.length) (by omega) (Nat.le_refl _)
    have hp2 := pos_mono hok (i := i0) (j := i0 + (m - 1)) (by omega) (by omega)
    have hp3 := pos_mono hok (i := i0 + 1) (j := i0 + m) (by omega) (by omega)
    have hq0 := pipe_in hok (i := i0) (by omega)
    have hq1 := pipe_in hok (i := i0 + (m - 1)) (by omega)
    have hr0 : posF l (i0 + 1) = posF l i0 + (l.getD i0 default).len := rfl
    have hr1 : posF l (i0 + (m - 1) + 1) = posF l (i0 + (m - 1)) + (l.getD (i0 + (m - 1)) default).len := rfl
    have hfst : max s.1 (posF l i0) = max s.1 0 := by
      rcases h6 with e | e
      · subst e
        have : posF l 0 = 0 := rfl
        rw [this]
      · by_cases e0 : i0 = 0
        · subst e0
          have : posF l 0 = 0 := rfl
          rw [this]
        · have hq := pipe_in hok (i := i0 - 1) (by omega)
          have hr : posF l (i0 - 1 + 1) = posF l (i0 - 1) + (l.getD (i0 - 1) default).len := rfl
          have hz := pos_small hok (i := i0 - 1) (by omega)
          rw [show i0 - 1 + 1 = i0 by omega] at hr
          unfold incP at e a0
          rw [show i0 - 1 + 1 = i0 by omega] at e
          omega
    have hlst : min s.2 (posF l (i0 + m)) = min s.2 (endF l) := by
      rcases h7 with e | e
      · rw [e, hE]
      · by_cases e0 : i0 + m = l.length
        · rw [e0, hE]
        · have hq := pipe_in hok (i := i0 + m) (by omega)
          have hr : posF l (i0 + m + 1) = posF l (i0 + m) + (l.getD (i0 + m) default).len := rfl
          have hz := pos_mono hok (i := i0 + m + 1) (j := l.length) (by omega) (Nat.le_refl _)
          unfold incP at e a1
          rw [e1] at a1
          omega
    refine ⟨max s.1 0, min s.2 (endF l), ?_, ?_, ?_⟩
    · unfold stP
      dsimp only
      rw [Int.toNat_natCast]
      omega
    · unfold stP
      dsimp only
      rw [Int.toNat_natCast, e1]
      omega
    · unfold incP at a0 a1
      rw [e1] at a1
      have hb : 0 ≤ max s.1 0 ∧ max s.1 0 ≤ min s.2 (endF l) ∧ min s.2 (endF l) ≤ endF l := by omega
      refine ⟨hb, (hall _ (by omega) (by omega)).2 (by omega), (hall _ (by omega) (by omega)).2 (by omega), fun hf => ?_, fun hl => ?_⟩
      · rw [← Bool.not_eq_true, hall _ (by omega) (by omega)]
        omega
      · rw [← Bool.not_eq_true, hall _ (by omega) (by omega)]
        omega
/-- none is allowed -/
theorem none_math {l : List Pi} (hok : lineOk l = true) (h : He) (hS : strUp l (spanF l [h]) l.length = []) : allowsF l h 0 = false ∧ allowsF l h (endF l) = false := by
  have hE := end_in hok
  have hno : ∀ p, 0 ≤ p → p ≤ endF l → allowsF l h p = false := fun p h0 h1 => by
    rw [← Bool.not_eq_true]
    intro ha
    have hp := (allP_iff hok [h] h0 h1).1 (by unfold allPF; rw [List.all_cons, List.all_nil, Bool.and_true]; exact ha)
    exact (on_str hok (spanF l [h]) h0 h1 hp.1 hp.2).1 hS
  exact ⟨hno 0 (by omega) (by omega), hno _ (by omega) (by omega)⟩
/-- the numbers of a truth with the least, and with the greatest lag -/
def lowF (l : List Pi) (a b t : Int) (e : Bool) (i : Nat) : Int := if (shareF l a b (nearF (a, b) t) i < 0) = (e = true) then (l.getD i default).lo else (l.getD i default).hi
theorem low_def (l : List Pi) (a b t : Int) (i : Nat) : lowF l a b t false i = (if shareF l a b (nearF (a, b) t) i < 0 then (l.getD i default).hi else (l.getD i default).lo) ∧ lowF l a b t true i = (if shareF l a b (nearF (a, b) t) i < 0 then (l.getD i default).lo else (l.getD i default).hi) := by
  unfold lowF
  by_cases h : shareF l a b (nearF (a, b) t) i < 0 <;> simp [h]
def lowsF (l : List Pi) (a b t : Int) (e : Bool) (k : Nat) : List Int := (List.range k).map (lowF l a b t e)
theorem lows_len (l : List Pi) (a b t : Int) (e : Bool) (k : Nat) : (lowsF l a b t e k).length = k := by simp [lowsF]
theorem lows_snoc (l : List Pi) (a b t : Int) (e : Bool) (k : Nat) : lowsF l a b t e (k + 1) = lowsF l a b t e k ++ [lowF l a b t e k] := by simp [lowsF, List.range_succ]
theorem lows_at (l : List Pi) (a b t : Int) (e : Bool) {i k : Nat} (h : i < k) : (lowsF l a b t e k).getD i default = lowF l a b t e i := by simp [lowsF, List.getD, h]
theorem low_in {l : List Pi} (hok : lineOk l = true) (a b t : Int) (e : Bool) {i : Nat} (hi : i < l.length) : 1 ≤ lowF l a b t e i ∧ lowF l a b t e i ≤ 10000 := by
  have hp := pipe_in hok hi
  unfold lowF
  split <;> omega
theorem low_of {l : List Pi} (hok : lineOk l = true) (a b t : Int) (e : Bool) {i : Nat} (hi : i < l.length) : shareF l a b (nearF (a, b) t) i * lowF l a b t e i = ofF e (shareF l a b (nearF (a, b) t) i) (l.getD i default).lo (l.getD i default).hi := by
  have hp := pipe_in hok hi
  have hd := low_def l a b t i
  obtain ⟨n, hn⟩ : ∃ n, shareF l a b (nearF (a, b) t) i = n := ⟨_, rfl⟩
  rw [hn] at hd ⊢
  by_cases h : n < 0
  · have m := Int.mul_le_mul_of_nonpos_left (a := n) (by omega) hp.2.2.2.1
    rw [if_pos h, if_pos h] at hd
    unfold ofF
    cases e
    · rw [hd.1]; simp only [Bool.false_eq_true, if_false]; omega
    · rw [hd.2]; simp only [if_true]; omega
  · have m := Int.mul_le_mul_of_nonneg_left hp.2.2.2.1 (show 0 ≤ n by omega)
    rw [if_neg h, if_neg h] at hd
    unfold ofF
    cases e
    · rw [hd.1]; simp only [Bool.false_eq_true, if_false]; omega
    · rw [hd.2]; simp only [if_true]; omega
theorem low_lag {l : List Pi} (hok : lineOk l = true) (a b t : Int) (e : Bool) : ∀ k : Nat, k ≤ l.length → lagT l (lowsF l a b t e l.length) a b t k = lagUp e l a b (nearF (a, b) t) k
  | 0, _ => rfl
  | k + 1, hk => by
    have ih := low_lag hok a b t e k (by omega)
    simp only [lagT, lagUp]
    rw [ih, lows_at l a b t e (by omega), low_of hok a b t e (by omega)]
end Go.Proofs.Ytdbjifpnbghbaaa
