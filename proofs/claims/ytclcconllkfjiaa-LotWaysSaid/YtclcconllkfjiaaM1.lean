/- Choices, and how many samples have so many bad ones: plain mathematics. -/
namespace Go.Proofs.Ytclcconllkfjiaa

/-- in how many ways k can be taken of n -/
def ch : Nat → Nat → Nat
  | _, 0 => 1
  | 0, _ + 1 => 0
  | n + 1, k + 1 => ch n k + ch n (k + 1)
theorem ch_zero (n : Nat) : ch n 0 = 1 := by cases n <;> rfl
theorem ch_succ (n k : Nat) : ch (n + 1) (k + 1) = ch n k + ch n (k + 1) := rfl
theorem ch_lt : ∀ n k, n < k → ch n k = 0
  | 0, k + 1, _ => rfl
  | n + 1, k + 1, h => by rw [ch_succ, ch_lt n k (by omega), ch_lt n (k + 1) (by omega)]
theorem ch_self : ∀ n, ch n n = 1
  | 0 => rfl
  | n + 1 => by rw [ch_succ, ch_self n, ch_lt n (n + 1) (by omega)]
theorem ch_pos : ∀ n k, k ≤ n → 1 ≤ ch n k
  | n, 0, _ => by rw [ch_zero]; exact Nat.le_refl _
  | n + 1, k + 1, h => by rw [ch_succ]; have := ch_pos n k (by omega); omega
theorem ch_le : ∀ n k, ch n k ≤ 2 ^ n
  | n, 0 => by rw [ch_zero]; exact Nat.one_le_two_pow
  | 0, k + 1 => by simp [ch]
  | n + 1, k + 1 => by
    rw [ch_succ, Nat.pow_succ]
    have h1 := ch_le n k
    have h2 := ch_le n (k + 1)
    omega
theorem ch_bd (n k : Nat) (h : n ≤ 50) : ch n k ≤ 1125899906842624 :=
  Nat.le_trans (ch_le n k) (Nat.pow_le_pow_right (n := 2) (by decide) h)
theorem ch_bd30 (n k : Nat) (h : n ≤ 30) : ch n k ≤ 1073741824 :=
  Nat.le_trans (ch_le n k) (Nat.pow_le_pow_right (n := 2) (by decide) h)
theorem ch_mul : ∀ n k, ch (n + 1) (k + 1) * (k + 1) = ch n k * (n + 1)
  | 0, 0 => rfl
  | 0, k + 1 => by rw [ch_succ]; simp [ch]
  | n + 1, 0 => by
    have h := ch_mul n 0
    rw [ch_zero] at h ⊢
    rw [ch_succ (n + 1) 0, ch_zero]
    omega
  | n + 1, k + 1 => by
    have h1 := ch_mul n k
    have h2 := ch_mul n (k + 1)
    have e : ch n k * (n + 1) + ch n (k + 1) * (n + 1) = ch (n + 1) (k + 1) * (n + 1) := by rw [← Nat.add_mul]; rfl
    have l1 : ch (n + 1 + 1) (k + 1 + 1) * (k + 1 + 1) = ch (n + 1) (k + 1) * (k + 1) + ch (n + 1) (k + 1) + ch (n + 1) (k + 1 + 1) * (k + 1 + 1) := by
      rw [ch_succ (n + 1) (k + 1), Nat.add_mul, Nat.mul_add _ (k + 1) 1, Nat.mul_one]
    have l2 : ch (n + 1) (k + 1) * (n + 1 + 1) = ch (n + 1) (k + 1) * (n + 1) + ch (n + 1) (k + 1) := by rw [Nat.mul_add _ (n + 1) 1, Nat.mul_one]
    rw [l1, l2, h1, h2, ← e]; omega

/-- on how many samples of c just x are bad -/
def exT (b g c x : Nat) : Nat := if x ≤ c then ch b x * ch g (c - x) else 0
/-- on how many less than m are bad -/
def sm (b g c : Nat) : Nat → Nat
  | 0 => 0
  | m + 1 => sm b g c m + exT b g c m
theorem exT_bad (b g c x : Nat) : exT (b + 1) g (c + 1) (x + 1) = exT b g (c + 1) (x + 1) + exT b g c x := by
  unfold exT
  by_cases h : x ≤ c
  · rw [if_pos (by omega), if_pos (by omega), if_pos h, ch_succ, Nat.add_mul, show c + 1 - (x + 1) = c - x by omega]; omega
  · rw [if_neg (by omega), if_neg (by omega), if_neg h]
theorem exT_bad0 (b g c : Nat) : exT (b + 1) g c 0 = exT b g c 0 := by unfold exT; rw [if_pos (by omega), if_pos (by omega), ch_zero, ch_zero]
theorem exT_good (b g c x : Nat) : exT b (g + 1) (c + 1) x = exT b g (c + 1) x + exT b g c x := by
  unfold exT
  by_cases h : x ≤ c
  · rw [if_pos (by omega), if_pos (by omega), if_pos h, show c + 1 - x = (c - x) + 1 by omega, ch_succ, Nat.mul_add]; omega
  · by_cases h2 : x = c + 1
    · subst h2
      rw [if_pos (by omega), if_pos (by omega), if_neg h, Nat.sub_self, ch_zero, ch_zero]; omega
    · rw [if_neg (by omega), if_neg (by omega), if_neg h]
theorem sm_bad (b g c : Nat) : ∀ m, sm (b + 1) g (c + 1) (m + 1) = sm b g (c + 1) (m + 1) + sm b g c m
  | 0 => by show sm _ _ _ 0 + _ = sm _ _ _ 0 + _ + sm _ _ _ 0; rw [exT_bad0]; rfl
  | m + 1 => by
    have := sm_bad b g c m
    show sm (b + 1) g (c + 1) (m + 1) + exT (b + 1) g (c + 1) (m + 1) = sm b g (c + 1) (m + 1) + exT b g (c + 1) (m + 1) + (sm b g c m + exT b g c m)
    rw [this, exT_bad]; omega
theorem sm_good (b g c : Nat) : ∀ m, sm b (g + 1) (c + 1) m = sm b g (c + 1) m + sm b g c m
  | 0 => rfl
  | m + 1 => by
    have := sm_good b g c m
    show sm b (g + 1) (c + 1) m + exT b (g + 1) (c + 1) m = sm b g (c + 1) m + exT b g (c + 1) m + (sm b g c m + exT b g c m)
    rw [this, exT_good]; omega
theorem exT_c0 (b g x : Nat) : exT b g 0 x = if x = 0 then 1 else 0 := by
  unfold exT
  by_cases h : x = 0
  · subst h; rw [if_pos (by omega), if_pos rfl, ch_zero, ch_zero]
  · rw [if_neg (by omega), if_neg h]
theorem sm_c0 (b g b' g' : Nat) : ∀ m, sm b g 0 m = sm b' g' 0 m
  | 0 => rfl
  | m + 1 => by show sm _ _ _ m + _ = sm _ _ _ m + _; rw [sm_c0 b g b' g' m, exT_c0, exT_c0]
theorem exT_b0 (g c x : Nat) : exT 0 g c x = if x = 0 then ch g c else 0 := by
  unfold exT
  by_cases h : x = 0
  · subst h; rw [if_pos (by omega), if_pos rfl, ch_zero]; simp
  · rw [if_neg h]
    by_cases h2 : x ≤ c
    · rw [if_pos h2, ch_lt 0 x (by omega)]; simp
    · rw [if_neg h2]
theorem sm_b0 (g c : Nat) : ∀ m, sm 0 g c (m + 1) = ch g c
  | 0 => by show 0 + exT _ _ _ 0 = _; rw [exT_b0]; simp
  | m + 1 => by show sm 0 g c (m + 1) + exT _ _ _ (m + 1) = _; rw [sm_b0 g c m, exT_b0]; simp
/-- all samples -/
theorem sm_all : ∀ (b g c : Nat), sm b g c (c + 1) = ch (b + g) c
  | 0, g, c => by rw [sm_b0, Nat.zero_add]
  | b + 1, g, 0 => by rw [ch_zero]; show 0 + exT _ _ 0 0 = 1; rw [exT_c0]; rfl
  | b + 1, g, c + 1 => by rw [sm_bad, sm_all b g (c + 1), sm_all b g c, show b + 1 + g = (b + g) + 1 by omega, ch_succ]; omega
theorem sm_succ (b g c m : Nat) : sm b g c (m + 1) = sm b g c m + exT b g c m := rfl
theorem sm_mono (b g c : Nat) : ∀ m n, m ≤ n → sm b g c m ≤ sm b g c n := by
  intro m n h
  induction n with
  | zero => obtain rfl : m = 0 := by omega
            exact Nat.le_refl _
  | succ n ih =>
    by_cases e : m = n + 1
    · subst e; exact Nat.le_refl _
    · have := ih (by omega)
      rw [sm_succ]; omega
theorem exT_big (b g c x : Nat) (h : c < x ∨ b < x ∨ g + x < c) : exT b g c x = 0 := by
  unfold exT
  by_cases h0 : x ≤ c
  · rw [if_pos h0]
    rcases h with h | h | h
    · omega
    · rw [ch_lt b x h]; simp
    · rw [ch_lt g (c - x) (by omega)]; simp
  · rw [if_neg h0]
theorem sm_flat (b g c : Nat) : ∀ m n, m ≤ n → (∀ x, m ≤ x → x < n → exT b g c x = 0) → sm b g c n = sm b g c m := by
  intro m n h h0
  induction n with
  | zero => obtain rfl : m = 0 := by omega
            rfl
  | succ n ih =>
    by_cases e : m = n + 1
    · subst e; rfl
    · rw [sm_succ, ih (by omega) (fun x h1 h2 => h0 x h1 (by omega)), h0 n (by omega) (by omega)]; rfl
theorem sm_le (b g c m : Nat) : sm b g c m ≤ ch (b + g) c := by
  by_cases h : m ≤ c + 1
  · rw [← sm_all]; exact sm_mono b g c m _ h
  · rw [sm_flat b g c (c + 1) m (by omega) (fun x h1 _ => exT_big b g c x (.inl (by omega))), sm_all]; exact Nat.le_refl _
theorem sm_full (b g c m : Nat) (h : c < m) : sm b g c m = ch (b + g) c := by
  rw [sm_flat b g c (c + 1) m (by omega) (fun x h1 _ => exT_big b g c x (.inl (by omega))), sm_all]
/-- with more bad ones no more samples have so few -/
theorem sm_worse : ∀ (b g c m : Nat), sm (b + 1) g c m ≤ sm b (g + 1) c m
  | b, g, 0, m => Nat.le_of_eq (sm_c0 _ _ _ _ m)
  | b, g, c + 1, 0 => Nat.le_refl _
  | b, g, c + 1, m + 1 => by
    rw [sm_bad, sm_good]
    have := sm_mono b g c m (m + 1) (by omega)
    omega
theorem exT_le (b g c x : Nat) : exT b g c x ≤ ch (b + g) c := by
  have := sm_le b g c (x + 1)
  rw [sm_succ] at this; omega
end Go.Proofs.Ytclcconllkfjiaa
