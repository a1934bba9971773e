/- The search is the first nearest of its candidates. Plain lists and numbers. -/
import Derived.Test.YtoiapnokgpeipaaC8
namespace Go.Proofs.Ytoiapnokgpeipaa
set_option linter.unusedSimpArgs false

/-- all candidates with so many pairs more, in their order -/
def candsP (S : List (Int × Int)) (tl : List T6) (room : Int) (same : Bool) : Nat → Tri → (Int → Int) → List Tri
  | 0, u, f => if (idlerI S f u.c same).2 then [{ u with i := (idlerI S f u.c same).1 }] else []
  | k + 1, u, f => (pairsL tl).flatMap fun p =>
      if u.fallP p.1.1 p.2.1 || decide (p.1.1 + p.2.1 > room) then []
      else if fitsB S f [p.1.1, p.2.1] then candsP S tl room same k (u.withP p.1.1 p.2.1) (addF f [p.1.1, p.2.1]) else []

def TriPos (u : Tri) : Prop := 1 ≤ u.d ∧ u.d ≤ 1000000 ∧ 1 ≤ u.n ∧ u.n ≤ 1000000

theorem candsP_pos {S : List (Int × Int)} {tl : List T6} {room : Int} {same : Bool} : ∀ (k : Nat) (u : Tri) (c : Nat) (f : Int → Int), TriOk u c → c + k ≤ 3 → ∀ v ∈ candsP S tl room same k u f, TriPos v
  | 0, u, c, f, hu, _, v, hv => by
    unfold candsP at hv
    split at hv
    · obtain rfl := List.mem_singleton.1 hv
      exact hu.bd
    · simp at hv
  | k + 1, u, c, f, hu, hck, v, hv => by
    unfold candsP at hv
    obtain ⟨p, _, hv⟩ := List.mem_flatMap.1 hv
    split at hv
    · simp at hv
    · split at hv
      · exact candsP_pos k _ (c + 1) _ (hu.withP (by omega) p.1.2 p.2.2) (by omega) v hv
      · simp at hv

theorem distB_nonneg (n : Int) : 0 ≤ distB n := by unfold distB; split <;> omega

theorem offer_exact {t r : Int} {b v : Tri} (hb : b.exactP t r = true) (hr : 1 ≤ r) (hbp : TriPos b) : offerP t r (some b) v = some b := by
  unfold offerP
  have h0 : b.d * t - b.n * r = 0 := by simpa [Tri.exactP] using hb
  have hn : nearB t r v.d v.n b.d b.n = false := by
    unfold nearB
    rw [h0]
    refine decide_eq_false ?_
    have h1 : 0 ≤ distB (v.d * t - v.n * r) * (b.n * r) := Int.mul_nonneg (distB_nonneg _) (Int.mul_nonneg (by have := hbp.2.2.1; omega) (by omega))
    have h2 : distB 0 = 0 := by decide
    rw [h2, Int.zero_mul]; omega
  simp only [hn]; rfl

theorem offers_exact {t r : Int} {b : Tri} (hb : b.exactP t r = true) (hr : 1 ≤ r) (hbp : TriPos b) : ∀ l : List Tri, l.foldl (offerP t r) (some b) = some b
  | [] => rfl
  | v :: l => by rw [List.foldl_cons, offer_exact hb hr hbp]; exact offers_exact hb hr hbp l

theorem foldl_flatMap {α β γ : Type} (g : α → List β) (f : γ → β → γ) : ∀ (l : List α) (b : γ), (l.flatMap g).foldl f b = l.foldl (fun b x => (g x).foldl f b) b
  | [], b => rfl
  | x :: l, b => by rw [List.flatMap_cons, List.foldl_append, List.foldl_cons, foldl_flatMap g f l]

theorem tryP_cands {S : List (Int × Int)} {tl : List T6} {t r room : Int} {same : Bool} (hr : 1 ≤ r) : ∀ (k : Nat) (u : Tri) (c : Nat) (f : Int → Int) (best : Option Tri), TriOk u c → c + k ≤ 3 → BestOk best →
    tryP S tl t r room same k u f best = (candsP S tl room same k u f).foldl (offerP t r) best
  | 0, u, c, f, best, hu, _, hb => by
    unfold tryP candsP
    split <;> rfl
  | k + 1, u, c, f, best, hu, hck, hb => by
    unfold tryP candsP
    rw [foldl_flatMap]
    generalize pairsL tl = l
    induction l generalizing best with
    | nil => rfl
    | cons p l ih =>
      rw [List.foldl_cons, List.foldl_cons]
      by_cases hfr : (u.fallP p.1.1 p.2.1 || decide (p.1.1 + p.2.1 > room)) = true
      · simp only [if_pos hfr, List.foldl_nil, ite_self]
        exact ih best hb
      · simp only [if_neg hfr]
        by_cases hfi : fitsB S f [p.1.1, p.2.1] = true
        · simp only [if_pos hfi]
          have hw := hu.withP (by omega) p.1.2 p.2.2
          have e := tryP_cands (S := S) (tl := tl) (t := t) (room := room) (same := same) hr k (u.withP p.1.1 p.2.1) (c + 1) (addF f [p.1.1, p.2.1]) best hw (by omega) hb
          by_cases hex : best.any (Tri.exactP t r) = true
          · simp only [if_pos hex]
            cases best with
            | none => simp at hex
            | some b =>
              have hx : b.exactP t r = true := by simpa using hex
              rw [offers_exact hx hr (hb b rfl)]
              exact ih _ hb
          · simp only [if_neg hex]
            rw [← e]
            exact ih _ (tryP_ok k _ (c + 1) _ _ hw (by omega) hb)
        · simp only [if_neg hfi, List.foldl_nil, ite_self]
          exact ih best hb

/-- all candidates -/
def allP (S : List (Int × Int)) (tl : List T6) (o : Int) (same : Bool) (k : Nat) : List Tri := (List.range k).flatMap fun k => candsP S tl o same k tri0 (fun _ => 0)
theorem allP_succ (S : List (Int × Int)) (tl : List T6) (o : Int) (same : Bool) (k : Nat) : allP S tl o same (k + 1) = allP S tl o same k ++ candsP S tl o same k tri0 (fun _ => 0) := by
  unfold allP; rw [List.range_succ, List.flatMap_append]; simp
theorem allP_pos {S : List (Int × Int)} {tl : List T6} {o : Int} {same : Bool} {k : Nat} (hk : k ≤ 4) : ∀ v ∈ allP S tl o same k, TriPos v := by
  intro v hv
  unfold allP at hv
  obtain ⟨j, hj, hv⟩ := List.mem_flatMap.1 hv
  exact candsP_pos j _ 0 _ tri0_ok (by have := List.mem_range.1 hj; omega) v hv
theorem searchP_all {S : List (Int × Int)} {tl : List T6} {t r o : Int} {same : Bool} (hr : 1 ≤ r) : ∀ k, k ≤ 4 → searchP S tl t r o same k = (allP S tl o same k).foldl (offerP t r) none
  | 0, _ => rfl
  | k + 1, hk => by
    rw [searchP_succ, tryP_cands hr k _ 0 _ _ tri0_ok (by omega) (searchP_ok S tl t r o same k (by omega)), searchP_all hr k (by omega), allP_succ, List.foldl_append]

/-- is one nearer than the other? -/
def nearer (t r : Int) (u v : Tri) : Bool := nearB t r u.d u.n v.d v.n
theorem nearer_trans {t r : Int} {x b v : Tri} (hr : 1 ≤ r) (hx : TriPos x) (hb : TriPos b) (hv : TriPos v) (h1 : nearer t r x b = true) (h2 : nearer t r v b = false) : nearer t r x v = true := by
  unfold nearer nearB at *
  have h1 := of_decide_eq_true h1
  have h2 := of_decide_eq_false h2
  refine decide_eq_true ?_
  have pb : 0 < b.n * r := Int.mul_pos (by have := hb.2.2.1; omega) (by omega)
  have px : 0 < x.n * r := Int.mul_pos (by have := hx.2.2.1; omega) (by omega)
  have pv : 0 < v.n * r := Int.mul_pos (by have := hv.2.2.1; omega) (by omega)
  generalize distB (x.d * t - x.n * r) = X at *
  generalize distB (v.d * t - v.n * r) = V at *
  generalize distB (b.d * t - b.n * r) = B at *
  generalize b.n * r = nb at *
  generalize x.n * r = nx at *
  generalize v.n * r = nv at *
  have a1 : X * nb * nv < B * nx * nv := Int.mul_lt_mul_of_pos_right h1 pv
  have a2 : B * nv * nx ≤ V * nb * nx := Int.mul_le_mul_of_nonneg_right (by omega) (by omega)
  have e1 : X * nb * nv = X * nv * nb := by rw [Int.mul_assoc, Int.mul_comm nb nv, ← Int.mul_assoc]
  have e2 : B * nx * nv = B * nv * nx := by rw [Int.mul_assoc, Int.mul_comm nx nv, ← Int.mul_assoc]
  have e3 : V * nb * nx = V * nx * nb := by rw [Int.mul_assoc, Int.mul_comm nb nx, ← Int.mul_assoc]
  have a3 : X * nv * nb < V * nx * nb := by omega
  exact Int.lt_of_mul_lt_mul_right a3 (by omega)
theorem nearer_anti {t r : Int} {x b : Tri} (h : nearer t r x b = true) : nearer t r b x = false := by
  unfold nearer nearB at *
  have h := of_decide_eq_true h
  exact decide_eq_false (by omega)

/-- the first nearest of a list -/
def FirstBest (t r : Int) (l : List Tri) (u : Tri) : Prop := ∃ l1 l2, l = l1 ++ u :: l2 ∧ (∀ v ∈ l1, nearer t r u v = true) ∧ ∀ v ∈ l, nearer t r v u = false
theorem nearer_self {t r : Int} (u : Tri) : nearer t r u u = false := by unfold nearer nearB; exact decide_eq_false (by omega)
theorem firstBest_step {t r : Int} (hr : 1 ≤ r) : ∀ (l l0 : List Tri) (b : Tri), (∀ v ∈ l0 ++ l, TriPos v) → FirstBest t r l0 b → ∃ u, l.foldl (offerP t r) (some b) = some u ∧ FirstBest t r (l0 ++ l) u
  | [], l0, b, _, h => ⟨b, rfl, by simpa using h⟩
  | x :: l, l0, b, hp, h => by
    have hx := hp x (by simp)
    have hl0 : ∀ v ∈ l0, TriPos v := fun v hv => hp v (List.mem_append_left _ hv)
    rw [List.foldl_cons]
    have hstep : ∃ u, offerP t r (some b) x = some u ∧ FirstBest t r (l0 ++ [x]) u := by
      obtain ⟨l1, l2, rfl, h1, h2⟩ := h
      have hb := hl0 b (by simp)
      by_cases hn : nearer t r x b = true
      · refine ⟨x, ?_, l1 ++ b :: l2, [], rfl, ?_, ?_⟩
        · show some (if nearer t r x b = true then x else b) = some x
          rw [if_pos hn]
        · intro v hv
          exact nearer_trans hr hx hb (hl0 v hv) hn (h2 v hv)
        · intro v hv
          rcases List.mem_append.1 hv with hv | hv
          · exact nearer_anti (nearer_trans hr hx hb (hl0 v hv) hn (h2 v hv))
          · obtain rfl := List.mem_singleton.1 hv; exact nearer_self _
      · refine ⟨b, ?_, l1, l2 ++ [x], by simp, h1, ?_⟩
        · show some (if nearer t r x b = true then x else b) = some b
          rw [if_neg hn]
        · intro v hv
          rcases List.mem_append.1 hv with hv | hv
          · exact h2 v hv
          · obtain rfl := List.mem_singleton.1 hv; simpa using hn
    obtain ⟨u, hu, hf⟩ := hstep
    rw [hu]
    obtain ⟨z, hz, hfz⟩ := firstBest_step hr l (l0 ++ [x]) u (by simpa using hp) hf
    exact ⟨z, hz, by simpa using hfz⟩
theorem firstBest_fold {t r : Int} (hr : 1 ≤ r) : ∀ (l : List Tri), (∀ v ∈ l, TriPos v) → (l = [] ∧ l.foldl (offerP t r) none = none) ∨ ∃ u, l.foldl (offerP t r) none = some u ∧ FirstBest t r l u
  | [], _ => .inl ⟨rfl, rfl⟩
  | x :: l, hp => by
    right
    rw [List.foldl_cons]
    exact firstBest_step hr l [x] x hp ⟨[], [], rfl, by simp, by intro v hv; obtain rfl := List.mem_singleton.1 hv; exact nearer_self _⟩
theorem bestP_first {S : List (Int × Int)} {t r p o : Int} {same : Bool} (hr : 1 ≤ r) (hp : p ≤ 3) :
    (allP S (tlOf S) o same (p + 1).toNat = [] ∧ bestP S t r p o same = none) ∨ ∃ u, bestP S t r p o same = some u ∧ FirstBest t r (allP S (tlOf S) o same (p + 1).toNat) u := by
  unfold bestP
  rw [searchP_all hr _ (by omega)]
  exact firstBest_fold hr _ (allP_pos (by omega))
end Go.Proofs.Ytoiapnokgpeipaa
