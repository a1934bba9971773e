/- The document's sums over both samples are those of the program. -/
import Derived.Test.YtclcconllkfjiaaU4
namespace Go.Proofs.Ytclcconllkfjiaa
open Go.RowKit

/-- the parameters, where the lot has B bad and G good ones -/
def parN (B G C S : Nat) (ac re tot : Int) : Par := ⟨(B : Int) + (G : Int), B, C, ac, re, S, tot⟩
variable {B G C S : Nat} {ac re tot : Int}
theorem parN_E (x : Nat) : (parN B G C S ac re tot).E x = exT B G C x := exI_is B G C x
theorem parN_I {x : Nat} (h : x ≤ C) (h1 : x ≤ B) (h2 : C - x ≤ G) : ∀ j, (parN B G C S ac re tot).I x j = sm (B - x) (G - (C - x)) S j
  | 0 => rfl
  | j + 1 => by
    have ih := parN_I h h1 h2 j
    rw [sm_succ, ← ih, ← exI_is, show ((B - x : Nat) : Int) + ((G - (C - x) : Nat) : Int) = (B : Int) + (G : Int) - (C : Int) by omega, show ((B - x : Nat) : Int) = (B : Int) - (x : Int) by omega]
    rfl
theorem sumX_zero (f : Nat → Nat) : ∀ m, (∀ x, x < m → f x = 0) → sumX f m = 0
  | 0, _ => rfl
  | m + 1, h => by show sumX f m + f m = 0; rw [sumX_zero f m (fun x hx => h x (by omega)), h m (by omega)]
theorem sumX_up (f : Nat → Nat) (lo : Nat) (h : ∀ x, x < lo → f x = 0) : ∀ j, sumX f (lo + j) = upF f lo j
  | 0 => sumX_zero f lo h
  | j + 1 => by show sumX f (lo + j) + f (lo + j) = upF f lo j + f (lo + j); rw [sumX_up f lo h j]
theorem sumX_flat (f : Nat → Nat) (m : Nat) : ∀ j, (∀ x, m ≤ x → x < m + j → f x = 0) → sumX f (m + j) = sumX f m
  | 0, _ => rfl
  | j + 1, h => by show sumX f (m + j) + f (m + j) = _; rw [sumX_flat f m j (fun x h1 h2 => h x h1 (by omega)), h (m + j) (by omega) (by omega)]; rfl
theorem upF_congr (f g : Nat → Nat) (lo : Nat) : ∀ m, (∀ x, lo ≤ x → x < lo + m → f x = g x) → upF f lo m = upF g lo m
  | 0, _ => rfl
  | m + 1, h => by show upF f lo m + f (lo + m) = upF g lo m + g (lo + m); rw [upF_congr f g lo m (fun x h1 h2 => h x h1 (by omega)), h (lo + m) (by omega) (by omega)]
theorem sum_items (f g : Nat → Nat) (hc : C ≤ B + G) (h0 : ∀ x, x ≤ C → (x < C - G ∨ B < x) → f x = 0) (h1 : ∀ x, C - G ≤ x → x ≤ C → x ≤ B → f x = g x) : sumX f (C + 1) = sumF g B G C (itemsL B G C) := by
  rw [sumF_all, ← upF_congr f g (C - G) _ (fun x h2 h3 => h1 x h2 (by omega) (by omega)), ← sumX_up f (C - G) (fun x hx => h0 x (by omega) (.inl hx)), show C - G + (min C B + 1 - (C - G)) = min C B + 1 by omega]
  have := sumX_flat f (min C B + 1) (C - min C B) (fun x h2 h3 => h0 x (by omega) (.inr (by omega)))
  rw [show min C B + 1 + (C - min C B) = C + 1 by omega] at this
  exact this
theorem ways_of {x : Nat} (h : x ≤ C) : exT B G C x = waysN B G C x := if_pos h
theorem none_of {x : Nat} (h : x < C - G ∨ B < x) : exT B G C x = 0 := exT_big B G C x (by omega)
theorem all_sum (hc : C + S ≤ B + G) : sumX (fun x => (parN B G C S ac re tot).all x (S + 1)) (C + 1) = sumF (allW B G C S) B G C (itemsL B G C) := by
  refine sum_items _ _ (by omega) (fun x _ h => ?_) (fun x h1 h2 h3 => ?_)
  · show (parN B G C S ac re tot).E x * _ = 0
    rw [parN_E, none_of h, Nat.zero_mul]
  · show (parN B G C S ac re tot).E x * (parN B G C S ac re tot).I x (S + 1) = allW B G C S x
    rw [parN_E, parN_I h2 h3 (by omega), ways_of h2, sm_all, show B - x + (G - (C - x)) = B + G - C by omega]; rfl
theorem sec_sum (hc : C + S ≤ B + G) : sumX (fun x => (parN B G C S ac re tot).sec x (S + 1)) (C + 1) = sumF (secW B G C S ac re) B G C (itemsL B G C) := by
  refine sum_items _ _ (by omega) (fun x _ h => ?_) (fun x h1 h2 h3 => ?_)
  · show secI ac re ((parN B G C S ac re tot).E x) _ x _ = 0
    unfold secI
    rw [parN_E, none_of h, Nat.zero_mul]
    simp
  · show secI ac re ((parN B G C S ac re tot).E x) ((parN B G C S ac re tot).I x) x (S + 1) = secW B G C S ac re x
    unfold secI secW
    rw [parN_E, parN_I h2 h3 (by omega), ways_of h2, sm_all, show B - x + (G - (C - x)) = B + G - C by omega]
theorem pas_sum (hc : C + S ≤ B + G) : sumX (fun x => (parN B G C S ac re tot).pas x (S + 1)) (C + 1) = sumF (pasW B G C S ac re tot) B G C (itemsL B G C) := by
  refine sum_items _ _ (by omega) (fun x _ h => ?_) (fun x h1 h2 h3 => ?_)
  · show pasI ac re tot ((parN B G C S ac re tot).E x) _ x _ = 0
    unfold pasI
    rw [parN_E, none_of h, Nat.zero_mul, Nat.zero_mul]
    simp
  · show pasI ac re tot ((parN B G C S ac re tot).E x) ((parN B G C S ac re tot).I x) x (S + 1) = pasW B G C S ac re tot x
    unfold pasI pasW passN
    rw [parN_E, parN_I h2 h3 (by omega), parN_I h2 h3 (by omega), ways_of h2, sm_all, show B - x + (G - (C - x)) = B + G - C by omega]
    by_cases ht : S + 1 ≤ (tot - (x : Int) + 1).toNat
    · rw [show min (S + 1) (tot - (x : Int) + 1).toNat = S + 1 by omega, sm_all, sm_full _ _ _ _ (by omega)]
    · rw [show min (S + 1) (tot - (x : Int) + 1).toNat = (tot - (x : Int) + 1).toNat by omega]
theorem wv_is (n : Nat) (h : n ≤ 1152921504606846976) : wv n = (n : Int) := i64n n h
end Go.Proofs.Ytclcconllkfjiaa
