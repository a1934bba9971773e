/- Which train is chosen. -/
import Derived.Test.YtoiapnokgpeipaaC1
import Derived.Test.YtoiapnokgpeipaaC5
import Derived.Test.YtoiapnokgpeipaaB5
namespace Go.Proofs.Ytoiapnokgpeipaa
set_option linter.unusedSimpArgs false
open Go.RowKit Go.Maps

def tlOf (S : List (Int × Int)) : List T6 := S.map (fun x => if h : 6 ≤ x.1 ∧ x.1 ≤ 100 then ⟨x.1, h⟩ else default)
theorem tlOf_len (S : List (Int × Int)) : (tlOf S).length = S.length := by simp [tlOf]
theorem tlOf_teeth {S : List (Int × Int)} (hS : ∀ x ∈ S, 6 ≤ x.1 ∧ x.1 ≤ 100) : ∀ i, i < S.length → (S.getD i (0, 0)).1 = ((tlOf S).getD i default).1 := by
  intro i hi
  have h1 : S.getD i (0, 0) = S[i] := by simp [hi]
  have h2 : (tlOf S).getD i default = if h : 6 ≤ S[i].1 ∧ S[i].1 ≤ 100 then ⟨S[i].1, h⟩ else default := by simp [tlOf, hi]
  rw [h1, h2, dif_pos (hS _ (List.getElem_mem hi))]
theorem stockB_teeth {S : List (Int × Int)} (h : stockB S = true) : ∀ x ∈ S, 6 ≤ x.1 ∧ x.1 ≤ 100 := by
  intro x hx
  obtain ⟨i, hi, rfl⟩ := List.getElem_of_mem hx
  have h1 := (of_decide_eq_true h).2 i hi
  have h2 : S.getD i (0, 0) = S[i] := by simp [hi]
  unfold rowB at h1
  rw [h2] at h1
  have := of_decide_eq_true h1
  exact ⟨this.1, this.2.1⟩

def bestP (S : List (Int × Int)) (t r p o : Int) (same : Bool) : Option Tri := searchP S (tlOf S) t r o same (p + 1).toNat
def trainP (u : Tri) : List (Int × Int) := [(u.a0, u.a1), (u.a2, u.a3), (u.a4, u.a5)].take u.c.toNat
def TrainAt (w w' : World) (x : Value) (P : List (Int × Int)) : Prop := P.length ≤ 3 ∧ w'.ownsRow w.heap.size 49 2 x P.length ((usedP P).map (Value.int .i64))
theorem trainP_L (u : Tri) {k : Nat} (hc : u.c = k) (hk : k ≤ 3) : usedP (trainP u) = trainL u k ∧ (trainP u).length = k := by
  unfold trainP trainL
  rw [hc, Int.toNat_natCast]
  match k, hk with
  | 0, _ => exact ⟨rfl, rfl⟩
  | 1, _ => exact ⟨rfl, rfl⟩
  | 2, _ => exact ⟨rfl, rfl⟩
  | 3, _ => exact ⟨rfl, rfl⟩

/-- a train's count -/
def BestC (b : Option Tri) : Prop := ∀ u, b = some u → ∃ k : Nat, u.c = k ∧ k ≤ 3
theorem BestC.offer {t r : Int} {best : Option Tri} {u : Tri} {c : Nat} (hb : BestC best) (hu : TriOk u c) (i : Int) : BestC (offerP t r best { u with i := i }) := by
  intro v hv
  cases best with
  | none => simp only [offerP, Option.some.injEq] at hv; subst hv; exact ⟨c, hu.1, hu.2.1⟩
  | some b =>
    simp only [offerP, Option.some.injEq] at hv
    split at hv <;> subst hv
    · exact ⟨c, hu.1, hu.2.1⟩
    · exact hb _ rfl
theorem tryP_c {S : List (Int × Int)} {tl : List T6} {t r room : Int} {same : Bool} : ∀ (k : Nat) (u : Tri) (c : Nat) (f : Int → Int) (best : Option Tri), TriOk u c → c + k ≤ 3 → BestC best → BestC (tryP S tl t r room same k u f best)
  | 0, u, c, f, best, hu, _, hb => by
    unfold tryP
    split
    · exact hb.offer hu _
    · exact hb
  | k + 1, u, c, f, best, hu, hck, hb => by
    unfold tryP
    generalize pairsL tl = l
    induction l generalizing best with
    | nil => exact hb
    | cons p l ih =>
      rw [List.foldl_cons]
      refine ih _ ?_
      split
      · exact hb
      · split
        · exact hb
        · split
          · exact tryP_c k _ (c + 1) _ _ (hu.withP (by omega) p.1.2 p.2.2) (by omega) hb
          · exact hb
theorem searchP_c (S : List (Int × Int)) (tl : List T6) (t r o : Int) (same : Bool) : ∀ k, k ≤ 4 → BestC (searchP S tl t r o same k)
  | 0, _ => fun u h => by cases h
  | k + 1, hk => by rw [searchP_succ]; exact tryP_c k _ 0 _ _ tri0_ok (by omega) (searchP_c S tl t r o same k (by omega))

theorem usedP_getD (P : List (Int × Int)) : ∀ i, i < P.length → (usedP P).getD (i * 2) 0 = (P.getD i (0, 0)).1 ∧ (usedP P).getD (i * 2 + 1) 0 = (P.getD i (0, 0)).2 := by
  induction P with
  | nil => intro i hi; simp at hi
  | cons x t ih =>
    intro i hi
    have e : usedP (x :: t) = x.1 :: x.2 :: usedP t := rfl
    rw [e]
    cases i with
    | zero => exact ⟨rfl, rfl⟩
    | succ i =>
      have := ih i (by simpa using hi)
      rw [show (i + 1) * 2 = i * 2 + 1 + 1 by omega]
      simpa using this

theorem wheels_own {w : World} {base : Nat} {x : Value} {P : List (Int × Int)} (h : w.ownsRow base 49 2 x P.length ((usedP P).map (Value.int .i64))) (hl : P.length ≤ 1000) : WheelsAt w x P := by
  refine ⟨by unfold maxLen; omega, ?_⟩
  rcases h.2 with ⟨rfl, hn⟩ | ⟨g, cap, cur, rfl, h2, h3, h4, h5, _⟩
  · obtain rfl : P = [] := List.length_eq_zero_iff.1 hn
    exact .inl ⟨rfl, _, _, rfl⟩
  · refine .inr ⟨g, 0, cap, rfl, h4, h5, (Array.getElem?_eq_some_iff.1 h3).1, fun i hi => ?_⟩
    have hul := usedP_len P
    obtain ⟨e1, e2⟩ := usedP_getD P i hi
    refine ⟨?_, ?_⟩
    · rw [h.cellAt (0 + i * 2) (by omega), ← e1, Nat.zero_add]; simp [List.getD, show i * 2 < (usedP P).length by omega]
    · rw [h.cellAt (0 + i * 2 + 1) (by omega), ← e2, Nat.zero_add]; simp [List.getD, show i * 2 + 1 < (usedP P).length by omega]
end Go.Proofs.Ytoiapnokgpeipaa
