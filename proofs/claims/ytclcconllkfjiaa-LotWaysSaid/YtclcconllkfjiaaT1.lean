/- LotTwice's mathematics: what two samples pass, and how it lies between the first ones. -/
import Derived.Test.YtclcconllkfjiaaA13
import Derived.Test.YtclcconllkfjiaaA6
namespace Go.Proofs.Ytclcconllkfjiaa

theorem sumF_congr (f f' : Nat → Nat) (b g c : Nat) (h : ∀ x, f (cl b g c x) = f' (cl b g c x)) (pre : List Nat) : sumF f b g c pre = sumF f' b g c pre := by
  unfold sumF
  congr 1
  exact List.map_congr_left (fun x _ => h x)
theorem tw_first (b g c s : Nat) (ac re tot : Int) (h : c + s ≤ b + g) : passN b g c ac * ch (b + g - c) s ≤ sumF (pasW b g c s ac re tot) b g c (itemsL b g c) := by
  rw [← sum_le b g c ac (by omega), ← sumF_mul]
  refine sumF_mono _ _ _ _ _ (fun x => ?_) _
  unfold leW pasW
  split
  · exact Nat.le_refl _
  · rw [Nat.zero_mul]; exact Nat.zero_le _
theorem tw_most (b g c s : Nat) (ac re tot m : Int) (h : c + s ≤ b + g) (h1 : ac ≤ m) (h2 : ∀ x : Nat, x ≤ c → (x : Int) < re → (x : Int) ≤ m) : sumF (pasW b g c s ac re tot) b g c (itemsL b g c) ≤ passN b g c m * ch (b + g - c) s := by
  rw [← sum_le b g c m (by omega), ← sumF_mul]
  refine sumF_mono _ _ _ _ _ (fun x => ?_) _
  have hci := cl_in (b := b) (g := g) x (show c ≤ b + g by omega)
  have hp := passN_le (b - cl b g c x) (g - (c - cl b g c x)) s (tot - (cl b g c x : Nat))
  rw [show (b - cl b g c x) + (g - (c - cl b g c x)) = b + g - c by omega] at hp
  unfold leW pasW
  by_cases h3 : (cl b g c x : Int) ≤ ac
  · rw [if_pos h3, if_pos (by omega)]; exact Nat.le_refl _
  · rw [if_neg h3]
    by_cases h4 : (cl b g c x : Int) < re
    · rw [if_pos h4, if_pos (h2 _ hci.2.1 h4)]; exact Nat.mul_le_mul_left _ hp
    · rw [if_neg h4]; exact Nat.zero_le _
theorem tw_second (b g c s : Nat) (ac re m : Int) (h : c ≤ b + g) (h1 : ac ≤ m) (h2 : ∀ x : Nat, x ≤ c → ((x : Int) < re ↔ (x : Int) ≤ m)) : sumF (secW b g c s ac re) b g c (itemsL b g c) + passN b g c ac * ch (b + g - c) s = passN b g c m * ch (b + g - c) s := by
  rw [← sum_le b g c m (by omega), ← sum_le b g c ac (by omega), ← sumF_mul, ← sumF_mul, ← sumF_add]
  refine sumF_congr _ _ _ _ _ (fun x => ?_) _
  have hci := cl_in (b := b) (g := g) x h
  have h2 := h2 _ hci.2.1
  unfold leW secW
  by_cases h3 : (cl b g c x : Int) ≤ ac
  · rw [if_pos h3, if_pos h3, if_pos (by omega)]; omega
  · rw [if_neg h3, if_neg h3]
    by_cases h4 : (cl b g c x : Int) < re
    · rw [if_pos h4, if_pos (by omega)]; omega
    · rw [if_neg h4, if_neg (by omega), Nat.zero_add]
theorem tw_empty (b g c : Nat) (ac tot : Int) (h : c ≤ b + g) : sumF (pasW b g c 0 ac (ac + 1) tot) b g c (itemsL b g c) = passN b g c ac := by
  rw [← sum_le b g c ac h]
  refine sumF_congr _ _ _ _ _ (fun x => ?_) _
  unfold leW pasW
  by_cases h3 : (cl b g c x : Int) ≤ ac
  · rw [if_pos h3, if_pos h3, ch_zero, Nat.mul_one]
  · rw [if_neg h3, if_neg h3, if_neg (by omega)]
theorem tw_empty2 (b g c : Nat) (ac : Int) (pre : List Nat) : sumF (secW b g c 0 ac (ac + 1)) b g c pre = 0 := by
  have : sumF (secW b g c 0 ac (ac + 1)) b g c pre = sumF (fun x => (secW b g c 0 ac (ac + 1)) x * 0) b g c pre := sumF_congr _ _ _ _ _ (fun x => by
    unfold secW
    by_cases h3 : (cl b g c x : Int) ≤ ac
    · rw [if_pos h3]
    · rw [if_neg h3, if_neg (by omega)]) _
  rw [this, sumF_mul, Nat.mul_zero]
/-- what LotTwice is about, where the two samples are valid -/
structure TwiceOk (n b : Int) (fi ac re se tot : Int) (P S A F O R M : Nat) : Prop where
  v1 : 1 ≤ n ∧ n ≤ 30
  v2 : 0 ≤ fi ∧ fi ≤ n
  v3 : 0 ≤ se ∧ se ≤ n - fi
  v4 : 0 ≤ ac ∧ ac ≤ fi
  v5 : ac + 1 ≤ re ∧ re ≤ fi + 1
  v6 : ac ≤ tot ∧ tot ≤ fi + se
  v7 : 0 ≤ b ∧ b ≤ n
  twice : twiceP n b fi ac re se tot = ((P : Int), (S : Int), (A : Int), 0)
  first : waysP n b fi ac = ((F : Int), (O : Int), 0)
  rest : n ≠ fi → waysP (n - fi) 0 se se = ((R : Int), (R : Int), 0)
  rest1 : n = fi → R = 1
  most : waysP n b fi (min fi (re - 1)) = ((M : Int), (O : Int), 0)
  empty : twiceP n b fi ac (ac + 1) 0 ac = ((F : Int), 0, (O : Int), 0)
  all : A = O * R
  low : F * R ≤ P
  high : P ≤ M * R
  second : S + F * R = M * R
  fm : F ≤ M
  bO : O ≤ 1073741824
  bR : R ≤ 1073741824
  bM : M ≤ 1073741824
theorem isDoubleB_spec {fi ac re se tot n : Int} (h : isDoubleB fi ac re se tot n = true) : (1 ≤ n ∧ n ≤ 30) ∧ (0 ≤ fi ∧ fi ≤ n) ∧ (0 ≤ se ∧ se ≤ n - fi) ∧ (0 ≤ ac ∧ ac ≤ fi) ∧ (ac + 1 ≤ re ∧ re ≤ fi + 1) ∧ (ac ≤ tot ∧ tot ≤ fi + se) := by
  unfold isDoubleB at h
  simp only [Bool.and_eq_true] at h
  obtain ⟨⟨⟨⟨⟨h1, h2⟩, h3⟩, h4⟩, h5⟩, h6⟩ := h
  exact ⟨inB_iff.1 h1, inB_iff.1 h2, inB_iff.1 h3, inB_iff.1 h4, inB_iff.1 h5, inB_iff.1 h6⟩
theorem isDoubleB_mk {fi ac re se tot n : Int} (v1 : 1 ≤ n ∧ n ≤ 30) (v2 : 0 ≤ fi ∧ fi ≤ n) (v3 : 0 ≤ se ∧ se ≤ n - fi) (v4 : 0 ≤ ac ∧ ac ≤ fi) (v5 : ac + 1 ≤ re ∧ re ≤ fi + 1) (v6 : ac ≤ tot ∧ tot ≤ fi + se) : isDoubleB fi ac re se tot n = true := by
  unfold isDoubleB
  simp only [Bool.and_eq_true]
  exact ⟨⟨⟨⟨⟨inB_iff.2 v1, inB_iff.2 v2⟩, inB_iff.2 v3⟩, inB_iff.2 v4⟩, inB_iff.2 v5⟩, inB_iff.2 v6⟩
theorem ways_val {n b c a : Int} (v1 : 1 ≤ n ∧ n ≤ 50) (v2 : 0 ≤ b ∧ b ≤ n) (v3 : 0 ≤ c ∧ c ≤ n) (v4 : 0 ≤ a ∧ a ≤ c) : waysP n b c a = (((passN b.toNat (n - b).toNat c.toNat a : Nat) : Int), ((ch n.toNat c.toNat : Nat) : Int), 0) := by
  unfold waysP isPlanB
  rw [inB_iff.2 v1, inB_iff.2 v2, inB_iff.2 v3, inB_iff.2 v4]; rfl
theorem twice_math (n b fi ac re se tot : Int) (hd : isDoubleB fi ac re se tot n = true) (hb : inB b 0 n = true) : ∃ P S A F O R M, TwiceOk n b fi ac re se tot P S A F O R M := by
  obtain ⟨v1, v2, v3, v4, v5, v6⟩ := isDoubleB_spec hd
  have v7 := inB_iff.1 hb
  obtain ⟨B, hB⟩ : ∃ B : Nat, b.toNat = B := ⟨_, rfl⟩
  obtain ⟨G, hG⟩ : ∃ G : Nat, (n - b).toNat = G := ⟨_, rfl⟩
  obtain ⟨C, hC⟩ : ∃ C : Nat, fi.toNat = C := ⟨_, rfl⟩
  obtain ⟨E, hE⟩ : ∃ E : Nat, se.toNat = E := ⟨_, rfl⟩
  have hn : n.toNat = B + G := by omega
  refine ⟨sumF (pasW B G C E ac re tot) B G C (itemsL B G C), sumF (secW B G C E ac re) B G C (itemsL B G C), sumF (allW B G C E) B G C (itemsL B G C), passN B G C ac, ch (B + G) C, ch (B + G - C) E, passN B G C (min fi (re - 1)), ⟨v1, v2, v3, v4, v5, v6, v7, ?_, ?_, ?_, ?_, ?_, ?_, ?_, ?_, ?_, ?_, ?_, ?_, ?_, ?_⟩⟩
  · unfold twiceP; rw [hd, hb, hB, hG, hC, hE]; rfl
  · rw [ways_val (by omega) v7 v2 v4, hB, hG, hC, hn]
  · intro hne
    rw [ways_val (by omega) (by omega) (by omega) (by omega), show (n - fi - 0).toNat = B + G - C by omega, show (n - fi).toNat = B + G - C by omega, hE, show (0 : Int).toNat = 0 from rfl]
    unfold passN
    rw [sm_full 0 (B + G - C) E _ (by omega), Nat.zero_add]
  · intro he
    rw [show E = 0 by omega, ch_zero]
  · rw [ways_val (by omega) v7 v2 (by omega), hB, hG, hC, hn]
  · unfold twiceP
    rw [isDoubleB_mk v1 v2 (by omega) v4 (by omega) (by omega), hb, hB, hG, hC, show (0 : Int).toNat = 0 from rfl, tw_empty B G C ac ac (by omega), tw_empty2, all_is B G C 0 (by omega), ch_zero, Nat.mul_one]; rfl
  · exact all_is B G C E (by omega)
  · exact tw_first B G C E ac re tot (by omega)
  · exact tw_most B G C E ac re tot _ (by omega) (by omega) (fun x _ _ => by omega)
  · exact tw_second B G C E ac re _ (by omega) (by omega) (fun x _ => by omega)
  · unfold passN; exact sm_mono _ _ _ _ _ (by omega)
  · exact ch_bd30 _ _ (by omega)
  · exact ch_bd30 _ _ (by omega)
  · exact Nat.le_trans (passN_le _ _ _ _) (ch_bd30 _ _ (by omega))
end Go.Proofs.Ytclcconllkfjiaa
