/- Sound: the true lag lies within the lags, the true numbers within what Tune leaves, the leak within what hearings allow. -/
import Derived.Test.YtdbjifpnbghbaaaT2
namespace Go.Proofs.Ytdbjifpnbghbaaa
set_option linter.unusedSimpArgs false
set_option linter.unusedVariables false

/-- numbers of a truth -/
def TrueS (l : List Pi) (sl : List Int) : Prop := ∀ i, i < l.length → (l.getD i default).lo ≤ sl.getD i default ∧ sl.getD i default ≤ (l.getD i default).hi
theorem mul_mid {n lo s hi : Int} (h1 : lo ≤ s) (h2 : s ≤ hi) : ofF false n lo hi ≤ n * s ∧ n * s ≤ ofF true n lo hi := by
  unfold ofF
  simp only [Bool.false_eq_true, if_false, if_true]
  by_cases h : 0 ≤ n
  · have a := Int.mul_le_mul_of_nonneg_left h1 h
    have b := Int.mul_le_mul_of_nonneg_left h2 h
    omega
  · have a := Int.mul_le_mul_of_nonpos_left (a := n) (by omega) h1
    have b := Int.mul_le_mul_of_nonpos_left (a := n) (by omega) h2
    omega
/-- what the other pipes add to the true lag is what they can add -/
theorem lagT_rest {l : List Pi} {sl : List Int} (hs : TrueS l sl) (a b t : Int) : ∀ k : Nat, k ≤ l.length →
    (lagUp false l a b (nearF (a, b) t) k ≤ lagT l sl a b t k ∧ lagT l sl a b t k ≤ lagUp true l a b (nearF (a, b) t) k) ∧
    ∀ i, i < k → let n := shareF l a b (nearF (a, b) t) i; let p := l.getD i default
      lagUp false l a b (nearF (a, b) t) k - ofF false n p.lo p.hi ≤ lagT l sl a b t k - n * sl.getD i default ∧ lagT l sl a b t k - n * sl.getD i default ≤ lagUp true l a b (nearF (a, b) t) k - ofF true n p.lo p.hi
  | 0, _ => ⟨by simp [lagUp, lagT], fun i hi => by omega⟩
  | k + 1, hk => by
    obtain ⟨ih1, ih2⟩ := lagT_rest hs a b t k (by omega)
    have hm := mul_mid (n := shareF l a b (nearF (a, b) t) k) (hs k (by omega)).1 (hs k (by omega)).2
    refine ⟨by simp only [lagUp, lagT]; omega, fun i hi => ?_⟩
    simp only [lagUp, lagT]
    by_cases e : i = k
    · subst e
      omega
    · have h := ih2 i (by omega)
      simp only [] at h
      omega
theorem lagT_lags {l : List Pi} {sl : List Int} (hs : TrueS l sl) (a b t : Int) : (lagsF l a b t).1 ≤ lagT l sl a b t l.length ∧ lagT l sl a b t l.length ≤ (lagsF l a b t).2 := (lagT_rest hs a b t l.length (Nat.le_refl _)).1
theorem down_le {n d s : Int} (h : d ≠ 0) (hle : 0 < d → n ≤ d * s) (hge : d < 0 → d * s ≤ n) : downF n d ≤ s := by
  unfold downF
  by_cases h0 : 0 < d
  · rw [Int.fdiv_eq_ediv_of_nonneg _ (by omega)]
    have := hle h0
    exact Int.ediv_le_of_le_mul h0 (by rw [Int.mul_comm]; exact this)
  · have h1 : d < 0 := by omega
    have e : n.fdiv d = (-n).fdiv (-d) := by rw [Int.neg_fdiv_neg]
    rw [e, Int.fdiv_eq_ediv_of_nonneg _ (by omega)]
    have := hge h1
    exact Int.ediv_le_of_le_mul (by omega) (by rw [Int.mul_neg, Int.mul_comm s d]; omega)
theorem le_up {n d s : Int} (h : d ≠ 0) (hle : 0 < d → d * s ≤ n) (hge : d < 0 → n ≤ d * s) : s ≤ upF n d := by
  have := down_le (n := -n) (d := d) (s := -s) h (fun h0 => by have := hle h0; rw [Int.mul_neg]; omega) (fun h0 => by have := hge h0; rw [Int.mul_neg]; omega)
  unfold upF
  omega
theorem tune_true {l : List Pi} {sl : List Int} (hs : TrueS l sl) (a b t lo hi : Int) (h1 : lo ≤ lagT l sl a b t l.length) (h2 : lagT l sl a b t l.length ≤ hi) {i : Nat} (hi' : i < l.length) :
    let p := tuneP l a b t lo hi i
    (p.lo ≤ sl.getD i default ∧ sl.getD i default ≤ p.hi) ∧ (l.getD i default).lo ≤ p.lo ∧ p.hi ≤ (l.getD i default).hi := by
  have hr := (lagT_rest hs a b t l.length (Nat.le_refl _)).2 i hi'
  have hsi := hs i hi'
  have hlg : lagsF l a b t = (lagUp false l a b (nearF (a, b) t) l.length, lagUp true l a b (nearF (a, b) t) l.length) := rfl
  unfold tuneP
  rw [hlg]
  simp only [] at hr ⊢
  obtain ⟨sh, hsh⟩ : ∃ n, shareF l a b (nearF (a, b) t) i = n := ⟨_, rfl⟩
  rw [hsh] at hr ⊢
  obtain ⟨p, hp⟩ : ∃ p, l.getD i default = p := ⟨_, rfl⟩
  rw [hp] at hr hsi ⊢
  obtain ⟨L, hL⟩ : ∃ n, lagT l sl a b t l.length = n := ⟨_, rfl⟩
  rw [hL] at hr h1 h2
  obtain ⟨A0, hA0⟩ : ∃ n, lagUp false l a b (nearF (a, b) t) l.length - ofF false sh p.lo p.hi = n := ⟨_, rfl⟩
  obtain ⟨A1, hA1⟩ : ∃ n, lagUp true l a b (nearF (a, b) t) l.length - ofF true sh p.lo p.hi = n := ⟨_, rfl⟩
  rw [hA0, hA1] at hr ⊢
  obtain ⟨s, hss⟩ : ∃ n, sl.getD i default = n := ⟨_, rfl⟩
  rw [hss] at hr hsi ⊢
  by_cases h0 : sh = 0
  · rw [if_pos h0]
    omega
  · rw [if_neg h0]
    simp only [(cutF_one _ _).1, (cutF_one _ _).2]
    have hm1 : lo - A1 ≤ sh * s := by omega
    have hm2 : sh * s ≤ hi - A0 := by omega
    unfold byF
    by_cases hn : sh < 0
    · rw [if_pos hn]
      simp only []
      have e1 := down_le (n := hi - A0) (d := sh) (s := s) h0 (fun h => by omega) (fun _ => hm2)
      have e2 := le_up (n := lo - A1) (d := sh) (s := s) h0 (fun h => by omega) (fun _ => hm1)
      omega
    · rw [if_neg hn]
      simp only []
      have e1 := down_le (n := lo - A1) (d := sh) (s := s) h0 (fun _ => hm1) (fun h => by omega)
      have e2 := le_up (n := hi - A0) (d := sh) (s := s) h0 (fun _ => hm2) (fun h => by omega)
      omega
theorem allows_true {l : List Pi} {sl : List Int} (hs : TrueS l sl) (h : He) (t : Int) (h1 : h.lo ≤ lagT l sl h.a h.b t l.length) (h2 : lagT l sl h.a h.b t l.length ≤ h.hi) : allowsF l h t = true := by
  have := lagT_lags hs h.a h.b t
  unfold allowsF
  simp only [Bool.and_eq_true, decide_eq_true_eq]
  omega
/-- places that are on some stretch -/
def onF (l : List Pi) (S : List St) (t : Int) : Bool := S.any (fun x => decide (posF l x.p.toNat + x.a ≤ t) && decide (t ≤ posF l x.p.toNat + x.b))
theorem str_mem (l : List Pi) (s : Int × Int) : ∀ (k i : Nat), i < k → ¬ min s.2 (posF l (i + 1)) < max s.1 (posF l i) → (⟨i, max s.1 (posF l i) - posF l i, min s.2 (posF l (i + 1)) - posF l i⟩ : St) ∈ strUp l s k
  | 0, i, h, _ => by omega
  | k + 1, i, h, hc => by
    have hdef : strUp l s (k + 1) = if emptyF (cutF s [(posF l k, posF l (k + 1))]) then strUp l s k else strUp l s k ++ [⟨k, (cutF s [(posF l k, posF l (k + 1))]).1 - posF l k, (cutF s [(posF l k, posF l (k + 1))]).2 - posF l k⟩] := rfl
    rw [hdef]
    by_cases e : i = k
    · subst e
      rw [if_neg (by unfold emptyF; rw [(cutF_one _ _).1, (cutF_one _ _).2, decide_eq_true_eq]; exact hc)]
      rw [(cutF_one _ _).1, (cutF_one _ _).2]
      simp
    · have := str_mem l s k i (by omega) hc
      split
      · exact this
      · exact List.mem_append_left _ this
theorem str_rows {l : List Pi} (hok : lineOk l = true) (s : Int × Int) : ∀ (k : Nat), k ≤ l.length → ∀ (x : St), x ∈ strUp l s k → (0 ≤ x.p ∧ x.p < (k : Int)) ∧ (0 ≤ x.a ∧ x.a ≤ 100000) ∧ (0 ≤ x.b ∧ x.b ≤ 100000)
  | 0, _, x, h => by simp [strUp] at h
  | k + 1, hk, x, h => by
    have hdef : strUp l s (k + 1) = if emptyF (cutF s [(posF l k, posF l (k + 1))]) then strUp l s k else strUp l s k ++ [⟨k, (cutF s [(posF l k, posF l (k + 1))]).1 - posF l k, (cutF s [(posF l k, posF l (k + 1))]).2 - posF l k⟩] := rfl
    rw [hdef] at h
    have ih := fun h => str_rows hok s k (by omega) x h
    have hp := pipe_in hok (i := k) (by omega)
    have hps : posF l (k + 1) = posF l k + (l.getD k default).len := rfl
    split at h
    · have := ih h; omega
    · rename_i he
      unfold emptyF at he
      rw [(cutF_one _ _).1, (cutF_one _ _).2, decide_eq_true_eq] at he
      rw [(cutF_one _ _).1, (cutF_one _ _).2] at h
      rcases List.mem_append.1 h with h | h
      · have := ih h; omega
      · rw [List.mem_singleton] at h
        subst h
        dsimp only at he ⊢
        omega
theorem pipe_of {l : List Pi} (hok : lineOk l = true) {t : Int} : ∀ k : Nat, k ≤ l.length → 0 ≤ t → 0 < k → t ≤ posF l k → ∃ i, i < k ∧ posF l i ≤ t ∧ t ≤ posF l (i + 1)
  | 0, _, _, h, _ => by omega
  | k + 1, hk, h0, _, h => by
    by_cases hle : posF l k ≤ t
    · exact ⟨k, by omega, hle, h⟩
    · by_cases hk0 : k = 0
      · subst hk0
        have : posF l 0 = 0 := rfl
        omega
      · obtain ⟨i, h1, h2⟩ := pipe_of hok k (by omega) h0 (by omega) (by omega)
        exact ⟨i, by omega, h2⟩
theorem on_str {l : List Pi} (hok : lineOk l = true) (s : Int × Int) {t : Int} (h0 : 0 ≤ t) (h1 : t ≤ endF l) (h2 : s.1 ≤ t) (h3 : t ≤ s.2) : strUp l s l.length ≠ [] ∧ onF l (strUp l s l.length) t = true := by
  obtain ⟨i, hi, a, b⟩ := pipe_of hok l.length (Nat.le_refl _) h0 (line_few hok).1 h1
  have hm := str_mem l s l.length i hi (by omega)
  refine ⟨List.ne_nil_of_mem hm, ?_⟩
  unfold onF
  rw [List.any_eq_true]
  refine ⟨_, hm, ?_⟩
  simp only [Bool.and_eq_true, decide_eq_true_eq, Int.toNat_natCast]
  omega
theorem where_true {l : List Pi} (hok : lineOk l = true) {hs : List He} (h8 : hs.length ≤ 8) (hh : ∀ h ∈ hs, hearOk l h = true) {t : Int} (h0 : 0 ≤ t) (h1 : t ≤ endF l) (ha : ∀ h ∈ hs, allowsF l h t = true) :
    ∃ S, whereF l hs = (S, 0) ∧ onF l S t = true ∧ (∀ x ∈ S, (0 ≤ x.p ∧ x.p < (l.length : Int)) ∧ (0 ≤ x.a ∧ x.a ≤ 100000) ∧ (0 ≤ x.b ∧ x.b ≤ 100000)) ∧ S.length ≤ l.length := by
  have hp := (allP_iff hok hs h0 h1).1 (by unfold allPF; rw [List.all_eq_true]; exact ha)
  obtain ⟨h2, h3⟩ := on_str hok (spanF l hs) h0 h1 hp.1 hp.2
  refine ⟨strUp l (spanF l hs) l.length, ?_, h3, str_rows hok _ _ (Nat.le_refl _), strUp_few l _ _⟩
  unfold whereF
  rw [if_pos hok, if_pos h8, if_pos (by rw [List.all_eq_true]; exact hh)]
  simp only []
  exact if_neg h2
end Go.Proofs.Ytdbjifpnbghbaaa
