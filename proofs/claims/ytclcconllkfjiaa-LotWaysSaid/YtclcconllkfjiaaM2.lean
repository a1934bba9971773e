/- What a consumer of the samples adds up. -/
import Derived.Test.YtclcconllkfjiaaA3
namespace Go.Proofs.Ytclcconllkfjiaa

/-- f over some numbers of bad ones, added up -/
def sumF (f : Nat → Nat) (b g c : Nat) (pre : List Nat) : Nat := (pre.map fun x => f (cl b g c x)).sum
theorem sumF_nil (f : Nat → Nat) (b g c : Nat) : sumF f b g c [] = 0 := rfl
theorem sumF_snoc (f : Nat → Nat) (b g c : Nat) (pre : List Nat) (x : Nat) : sumF f b g c (pre ++ [x]) = sumF f b g c pre + f (cl b g c x) := by simp [sumF]
/-- f from the first number to before the m-th -/
def upF (f : Nat → Nat) (lo : Nat) : Nat → Nat
  | 0 => 0
  | m + 1 => upF f lo m + f (lo + m)
theorem sumF_take (f : Nat → Nat) (b g c : Nat) : ∀ k, k ≤ min c b + 1 - (c - g) → sumF f b g c ((itemsL b g c).take k) = upF f (c - g) k
  | 0, _ => by simp [sumF, upF]
  | k + 1, h => by
    rw [itemsL_take b g c k (by omega), sumF_snoc, sumF_take f b g c k (by omega), cl_eq (by omega) (by omega)]; rfl
theorem sumF_all (f : Nat → Nat) (b g c : Nat) : sumF f b g c (itemsL b g c) = upF f (c - g) (min c b + 1 - (c - g)) := by
  rw [← sumF_take f b g c _ (Nat.le_refl _), List.take_of_length_le (by rw [itemsL_len]; exact Nat.le_refl _)]
theorem upF_sm (b g c : Nat) : ∀ m, m ≤ c + 1 - (c - g) → upF (waysN b g c) (c - g) m = sm b g c (c - g + m)
  | 0, _ => by
    show 0 = sm b g c (c - g + 0)
    rw [Nat.add_zero, sm_flat b g c 0 (c - g) (by omega) (fun x _ h => exT_big b g c x (.inr (.inr (by omega))))]; rfl
  | m + 1, h => by
    show upF (waysN b g c) (c - g) m + waysN b g c (c - g + m) = sm b g c (c - g + m) + exT b g c (c - g + m)
    rw [upF_sm b g c m (by omega), exT, if_pos (by omega)]; rfl
theorem ways_all (b g c : Nat) (h : c ≤ b + g) : sumF (waysN b g c) b g c (itemsL b g c) = ch (b + g) c := by
  rw [sumF_all, upF_sm b g c _ (by omega), ← sm_all, show c - g + (min c b + 1 - (c - g)) = min c b + 1 by omega]
  exact (sm_flat b g c (min c b + 1) (c + 1) (by omega) (fun x h1 h2 => exT_big b g c x (.inr (.inl (by omega))))).symm
/-- on how many samples at most so many are bad -/
def passN (b g c : Nat) (a : Int) : Nat := sm b g c (a + 1).toNat
theorem passN_le (b g c : Nat) (a : Int) : passN b g c a ≤ ch (b + g) c := sm_le _ _ _ _
theorem pass_done (b g c : Nat) (a : Int) (h : c ≤ b + g) (ha : ∀ x ∈ itemsL b g c, (cl b g c x : Int) ≤ a) : sumF (waysN b g c) b g c (itemsL b g c) = passN b g c a := by
  rw [sumF_all, upF_sm b g c _ (by omega), show c - g + (min c b + 1 - (c - g)) = min c b + 1 by omega]
  have hm : min c b ∈ itemsL b g c := by
    unfold itemsL
    exact List.mem_map.2 ⟨min c b - (c - g), List.mem_range.2 (by omega), by omega⟩
  have h1 := ha _ hm
  rw [cl_eq (by omega) (by omega)] at h1
  exact (sm_flat b g c (min c b + 1) (a + 1).toNat (by omega) (fun x h1 h2 => exT_big b g c x (by omega))).symm
theorem pass_stop (b g c : Nat) (a : Int) (h : c ≤ b + g) {pre : List Nat} {x : Nat} (hp : pre ++ [x] <+: itemsL b g c) (ha : ∀ y ∈ pre, (cl b g c y : Int) ≤ a) (hx : ¬ (cl b g c x : Int) ≤ a) : sumF (waysN b g c) b g c pre = passN b g c a := by
  have hlen := hp.length_le
  rw [itemsL_len, List.length_append, List.length_cons, List.length_nil] at hlen
  have he := List.prefix_iff_eq_take.1 hp
  rw [List.length_append, List.length_cons, List.length_nil, Nat.zero_add, itemsL_take b g c _ (by omega)] at he
  obtain ⟨e1, e2⟩ := List.append_inj' he rfl
  obtain rfl : x = c - g + pre.length := by simpa using e2
  have hxc : cl b g c (c - g + pre.length) = c - g + pre.length := cl_eq (by omega) (by omega)
  rw [hxc] at hx
  have hs := sumF_take (waysN b g c) b g c pre.length (by omega)
  rw [← e1] at hs
  rw [hs, upF_sm b g c _ (by omega)]
  unfold passN
  by_cases h0 : pre.length = 0
  · rw [h0, Nat.add_zero]
    rw [sm_flat b g c 0 (c - g) (by omega) (fun x _ h => exT_big b g c x (.inr (.inr (by omega))))]
    rw [sm_flat b g c 0 (a + 1).toNat (by omega) (fun x _ h => exT_big b g c x (.inr (.inr (by omega))))]
  · have hm : c - g + (pre.length - 1) ∈ pre := by
      have : pre[pre.length - 1]'(by omega) = c - g + (pre.length - 1) := by
        have h2 : (itemsL b g c)[pre.length - 1]'(by rw [itemsL_len]; omega) = c - g + (pre.length - 1) := by simp [itemsL]
        rw [← h2]
        have h3 : pre[pre.length - 1]? = ((itemsL b g c).take pre.length)[pre.length - 1]? := by rw [← e1]
        rw [List.getElem?_take_of_lt (by omega), List.getElem?_eq_getElem (by omega), List.getElem?_eq_getElem (by rw [itemsL_len]; omega)] at h3
        exact Option.some.inj h3
      rw [← this]
      exact List.getElem_mem _
    have h1 := ha _ hm
    rw [cl_eq (by omega) (by omega)] at h1
    rw [show (a + 1).toNat = c - g + pre.length by omega]
theorem ways_le (b g c x : Nat) (h : b + g ≤ 50) : waysN b g c x ≤ 1125899906842624 := by
  unfold waysN
  refine Nat.le_trans (Nat.mul_le_mul (ch_le b x) (ch_le g (c - x))) ?_
  rw [← Nat.pow_add]
  exact Nat.pow_le_pow_right (n := 2) (by decide) h
theorem ways_le30 (b g c x : Nat) (h : b + g ≤ 30) : waysN b g c x ≤ 1073741824 := by
  unfold waysN
  refine Nat.le_trans (Nat.mul_le_mul (ch_le b x) (ch_le g (c - x))) ?_
  rw [← Nat.pow_add]
  exact Nat.pow_le_pow_right (n := 2) (by decide) h
end Go.Proofs.Ytclcconllkfjiaa
