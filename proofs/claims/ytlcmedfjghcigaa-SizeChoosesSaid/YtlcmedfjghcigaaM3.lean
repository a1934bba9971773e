/- Size: the pair that is chosen: good, of the least price, the first such. -/
import Derived.Test.YtlcmedfjghcigaaM2
namespace Go.Proofs.Ytlcmedfjghcigaa
set_option linter.unusedSimpArgs false
set_option linter.unusedVariables false
open Go.RowKit

def ltP (x y : Nat × Nat) : Prop := x.1 < y.1 ∨ x.1 = y.1 ∧ x.2 < y.2
/-- the best of what was seen -/
def BestOf (good : Nat × Nat → Bool) (price : Nat × Nat → Int) (D : Nat × Nat → Prop) (b : Best) : Prop :=
  (b = none ∧ ∀ x, D x → good x = false) ∨ ∃ x, D x ∧ good x = true ∧ b = some (x, price x) ∧ ∀ y, D y → good y = true → price x < price y ∨ price x = price y ∧ (y = x ∨ ltP x y)
theorem best_step {good : Nat × Nat → Bool} {price : Nat × Nat → Int} {D : Nat × Nat → Prop} {b : Best} (h : BestOf good price D b) {x : Nat × Nat} (hx : ∀ y, D y → ltP y x) :
    BestOf good price (fun y => D y ∨ y = x) (if good x then offerF b x (price x) else b) := by
  cases g : good x with
  | false =>
    rw [if_neg (by simp)]
    rcases h with ⟨h1, h2⟩ | ⟨z, h1, h2, h3, h4⟩
    · refine .inl ⟨h1, fun y hy => ?_⟩
      rcases hy with hy | rfl
      · exact h2 y hy
      · exact g
    · refine .inr ⟨z, .inl h1, h2, h3, fun y hy gy => ?_⟩
      rcases hy with hy | rfl
      · exact h4 y hy gy
      · rw [g] at gy; cases gy
  | true =>
    rw [if_pos rfl]
    rcases h with ⟨rfl, h2⟩ | ⟨z, h1, h2, rfl, h4⟩
    · refine .inr ⟨x, .inr rfl, g, rfl, fun y hy gy => ?_⟩
      rcases hy with hy | rfl
      · rw [h2 y hy] at gy; cases gy
      · exact .inr ⟨rfl, .inl rfl⟩
    · unfold offerF
      simp only []
      by_cases hp : price x < price z
      · rw [if_pos hp]
        refine .inr ⟨x, .inr rfl, g, rfl, fun y hy gy => ?_⟩
        rcases hy with hy | rfl
        · rcases h4 y hy gy with q | ⟨q, _⟩
          · exact .inl (by omega)
          · exact .inl (by omega)
        · exact .inr ⟨rfl, .inl rfl⟩
      · rw [if_neg hp]
        refine .inr ⟨z, .inl h1, h2, rfl, fun y hy gy => ?_⟩
        rcases hy with hy | rfl
        · exact h4 y hy gy
        · rcases Int.lt_or_eq_of_le (show price z ≤ price y by omega) with q | q
          · exact .inl q
          · exact .inr ⟨q, .inr (hx z h1)⟩
theorem best_list {good : Nat × Nat → Bool} {price : Nat × Nat → Int} : ∀ (L : List (Nat × Nat)) (D : Nat × Nat → Prop) (b : Best), BestOf good price D b → (∀ y, D y → ∀ x ∈ L, ltP y x) → L.Pairwise ltP →
    BestOf good price (fun y => D y ∨ y ∈ L) (L.foldl (fun b x => if good x then offerF b x (price x) else b) b)
  | [], D, b, h, _, _ => by simpa using h
  | x :: L, D, b, h, hd, hp => by
    obtain ⟨p1, p2⟩ := List.pairwise_cons.1 hp
    have := best_list L (fun y => D y ∨ y = x) _ (best_step h (x := x) (fun y hy => hd y hy x (by simp))) (fun y hy z hz => by
      rcases hy with hy | rfl
      · exact hd y hy z (by simp [hz])
      · exact p1 z hz) p2
    have e : (fun y => (D y ∨ y = x) ∨ y ∈ L) = (fun y => D y ∨ y ∈ x :: L) := by funext y; simp [or_assoc]
    rw [e] at this
    exact this
def goodF (h : Hs) (l : List Sz) (i k : Nat) : Bool := decide (i < k) && (hearF h l[i]! && decide (l[k]!.start ≤ l[i]!.full))
def priceF (l : List Sz) (x : Nat × Nat) : Int := l[x.1]!.price + l[x.2]!.price
def pairsL (h : Hs) (l : List Sz) : List (Nat × Nat) := (List.range l.length).flatMap fun i => (enoughF h l).map fun k => (i, k)
theorem pairF_list (h : Hs) (l : List Sz) : pairF h l = (pairsL h l).foldl (fun b x => if goodF h l x.1 x.2 then offerF b x (priceF l x) else b) none := by
  unfold pairF pairsL
  rw [List.foldl_flatMap]
  congr 1
  funext b i
  unfold pairRow
  rw [List.foldl_map]
  rfl
theorem pairs_sorted (h : Hs) (l : List Sz) : (pairsL h l).Pairwise ltP := by
  unfold pairsL
  rw [List.pairwise_flatMap]
  refine ⟨fun i hi => ?_, ?_⟩
  · rw [List.pairwise_map]
    unfold enoughF enoughUp
    exact (List.pairwise_lt_range.filter _).imp (fun hab => .inr ⟨rfl, hab⟩)
  · refine List.pairwise_lt_range.imp fun hab x hx y hy => ?_
    obtain ⟨k1, _, rfl⟩ := List.mem_map.1 hx
    obtain ⟨k2, _, rfl⟩ := List.mem_map.1 hy
    exact .inl hab
theorem mem_pairs {h : Hs} {l : List Sz} {i k : Nat} : (i, k) ∈ pairsL h l ↔ i < l.length ∧ k < l.length ∧ fullF h l[k]! = true := by
  unfold pairsL enoughF enoughUp
  simp only [List.mem_flatMap, List.mem_map, List.mem_filter, List.mem_range, Prod.mk.injEq]
  constructor
  · rintro ⟨a, ha, b, ⟨hb, hf⟩, rfl, rfl⟩
    exact ⟨ha, hb, hf⟩
  · rintro ⟨h1, h2, h3⟩
    exact ⟨i, h1, k, ⟨h2, h3⟩, rfl, rfl⟩
/-- what the law's closure says of two -/
def goodL (h : Hs) (l : List Sz) (i k : Nat) : Bool := decide (i < k) && (fullF h l[k]! && (hearF h l[i]! && decide (l[k]!.start ≤ l[i]!.full)))
theorem goodL_iff {h : Hs} {l : List Sz} {i k : Nat} (hi : i < l.length) (hk : k < l.length) : goodL h l i k = true ↔ (i, k) ∈ pairsL h l ∧ goodF h l i k = true := by
  rw [mem_pairs]
  unfold goodL goodF
  simp only [Bool.and_eq_true, decide_eq_true_eq]
  constructor
  · rintro ⟨a, b, c, d⟩; exact ⟨⟨hi, hk, b⟩, a, c, d⟩
  · rintro ⟨⟨_, _, b⟩, a, c, d⟩; exact ⟨a, b, c, d⟩
theorem pair_facts {h : Hs} {l : List Sz} (hh : hsOk h = true) (hl : szsOk l = true) :
    (pairR h l = (0, 0, 0, 4) ∧ ∀ i k, i < l.length → k < l.length → goodL h l i k = false) ∨
    (∃ i k : Nat, i < k ∧ k < l.length ∧ pairR h l = ((i : Int), (k : Int), l[i]!.price + l[k]!.price, 0) ∧ goodL h l i k = true ∧
      ∀ a b, a < l.length → b < l.length → goodL h l a b = true → l[i]!.price + l[k]!.price < l[a]!.price + l[b]!.price ∨ (l[i]!.price + l[k]!.price = l[a]!.price + l[b]!.price ∧ (i < a ∨ (a = i ∧ k ≤ b)))) := by
  have e0 : errF h l = 0 := by unfold errF; rw [if_pos hh, if_pos hl]
  have hb := best_list (good := fun x => goodF h l x.1 x.2) (price := priceF l) (pairsL h l) (fun _ => False) none (.inl ⟨rfl, fun _ h => h.elim⟩) (fun _ h => h.elim) (pairs_sorted h l)
  rw [← pairF_list] at hb
  unfold pairR
  rw [if_pos e0]
  rcases hb with ⟨h1, h2⟩ | ⟨⟨i, k⟩, h1, h2, h3, h4⟩
  · rw [h1]
    refine .inl ⟨rfl, fun i k hi hk => ?_⟩
    cases g : goodL h l i k with
    | false => rfl
    | true =>
      obtain ⟨m, g2⟩ := (goodL_iff hi hk).1 g
      have := h2 (i, k) (.inr m)
      simp only [] at this
      rw [this] at g2; cases g2
  · rw [h3]
    have m : (i, k) ∈ pairsL h l := h1.resolve_left (fun e => e)
    obtain ⟨m1, m2, m3⟩ := mem_pairs.1 m
    have g : goodL h l i k = true := (goodL_iff m1 m2).2 ⟨m, h2⟩
    have hlt : i < k := by
      unfold goodL at g
      simp only [Bool.and_eq_true, decide_eq_true_eq] at g
      exact g.1
    refine .inr ⟨i, k, hlt, m2, rfl, g, fun a b ha hb2 gab => ?_⟩
    obtain ⟨m5, g5⟩ := (goodL_iff ha hb2).1 gab
    rcases h4 (a, b) (.inr m5) g5 with q | ⟨q, q2⟩
    · exact .inl q
    · refine .inr ⟨q, ?_⟩
      rcases q2 with q2 | q2 | ⟨q2, q3⟩
      · simp only [Prod.mk.injEq] at q2
        exact .inr ⟨q2.1, by omega⟩
      · exact .inl q2
      · exact .inr ⟨q2.symm, by simp only [] at q3; omega⟩
end Go.Proofs.Ytlcmedfjghcigaa
