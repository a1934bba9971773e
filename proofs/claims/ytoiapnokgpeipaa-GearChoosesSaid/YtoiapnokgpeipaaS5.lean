/- What Near and Choose answer, against any train that can be built. Plain lists and numbers. -/
import Derived.Test.YtoiapnokgpeipaaO2
namespace Go.Proofs.Ytoiapnokgpeipaa
set_option linter.unusedSimpArgs false
open Go.RowKit

def prodZ : List Int → Int
  | [] => 1
  | x :: l => x * prodZ l
theorem prodZ_perm {l m : List Int} (h : l.Perm m) : prodZ l = prodZ m := by
  induction h with
  | nil => rfl
  | cons x _ ih => simp only [prodZ, ih]
  | swap x y l => simp only [prodZ]; rw [Int.mul_left_comm]
  | trans _ _ h1 h2 => exact h1.trans h2
theorem prodW_Z {l : List Int} (h : ∀ x ∈ l, 6 ≤ x ∧ x ≤ 100) (hl : l.length ≤ 3) : prodW l = prodZ l := by
  match l, hl with
  | [], _ => rfl
  | [x], _ =>
    have hx := h x (by simp)
    show wrap64 (1 * x) = x * 1
    rw [Int.one_mul, Int.mul_one, IntWalk.wrap64_in _ (by omega)]
  | [x, y], _ =>
    have hx := h x (by simp)
    have hy := h y (by simp)
    have p1 := mul_bd (x := x) (y := y) (by omega) hx.2 (by omega) hy.2
    show wrap64 (wrap64 (1 * x) * y) = x * (y * 1)
    rw [Int.one_mul, Int.mul_one, IntWalk.wrap64_in x (by omega), IntWalk.wrap64_in _ (by omega)]
  | [x, y, z], _ =>
    have hx := h x (by simp)
    have hy := h y (by simp)
    have hz := h z (by simp)
    have p1 := mul_bd (x := x) (y := y) (by omega) hx.2 (by omega) hy.2
    have p2 := mul_bd (x := x * y) (y := z) p1.1 p1.2 (by omega) hz.2
    show wrap64 (wrap64 (wrap64 (1 * x) * y) * z) = x * (y * (z * 1))
    rw [Int.one_mul, Int.mul_one, IntWalk.wrap64_in x (by omega), IntWalk.wrap64_in (x * y) (by omega), IntWalk.wrap64_in _ (by omega), Int.mul_assoc]

theorem pl_trans {a b c : Int × Int} (h1 : pl b a = false) (h2 : pl c b = false) : pl c a = false := by
  unfold pl at *
  have h1 := of_decide_eq_false h1
  have h2 := of_decide_eq_false h2
  exact decide_eq_false (by omega)
theorem pl_total (a b : Int × Int) : (!pl b a || !pl a b) = true := by
  cases h1 : pl b a <;> cases h2 : pl a b <;> simp
  unfold pl at *
  have h1 := of_decide_eq_true h1
  have h2 := of_decide_eq_true h2
  omega
theorem sorted_exists (P : List (Int × Int)) : ∃ Q : List (Int × Int), Q.Perm P ∧ SortedP Q := by
  refine ⟨P.mergeSort (fun a b => !pl b a), List.mergeSort_perm _ _, fun k hk => ?_⟩
  have h := List.pairwise_mergeSort (le := fun a b => !pl b a) (fun a b c h1 h2 => by simpa using pl_trans (a := a) (b := b) (c := c) (by simpa using h1) (by simpa using h2)) pl_total P
  have h2 := List.pairwise_iff_getElem.1 h k (k + 1) (by omega) hk (by omega)
  simpa [List.getD, List.getElem?_eq_getElem hk, List.getElem?_eq_getElem (show k < (P.mergeSort (fun a b => !pl b a)).length by omega)] using h2

/-- what can be built, can be built with its pairs in another order, with more in stock, more pairs, or more room -/
theorem able_mono {S S' : List (Int × Int)} (hS : stockB S = true) (hS' : stockB S' = true) {p p' o o' : Int} {same : Bool} {P Q : List (Int × Int)} {i : Int} (h : ableC S p o same P i = 0) (hq : Q.Perm P) (hp : p ≤ p') (ho : o ≤ o')
    (hh : ∀ x, heldI S x ≤ heldI S' x) : ableC S' p' o' same Q i = 0 := by
  obtain ⟨hpe, hn1, hn2, hsh, ht⟩ := ableC_zero h
  obtain ⟨hl, hm⟩ := pairsErr_zero hpe
  have hlen := hq.length_eq
  have hm2 : ∀ x ∈ Q, (6 ≤ x.1 ∧ x.1 ≤ 100) ∧ (6 ≤ x.2 ∧ x.2 ≤ 100) ∧ x.1 + x.2 ≤ o' := fun x hx => by have := hm x (hq.mem_iff.1 hx); omega
  have hpe2 := pairsErr_ok (p := p') (o := o') (by omega) hm2
  have hte : i = 0 ∨ teethB i = true := by
    by_cases h0 : i = 0
    · exact .inl h0
    · exact .inr (by simpa [h0] using hn2)
  have hut := usedL_teeth (P := P) (i := i) (fun x hx => ⟨(hm x hx).1, (hm x hx).2.1⟩) hte
  have hut2 := usedL_teeth (P := Q) (i := i) (fun x hx => ⟨(hm2 x hx).1, (hm2 x hx).2.1⟩) hte
  have hsf := short_fits hS hut
  rw [hsh] at hsf
  have hf : fitsB S (fun _ => 0) (usedL P i) = true := by simpa using hsf.symm
  have hup : (usedL Q i).Perm (usedL P i) := by unfold usedL usedP; exact (hq.flatMap_right _).append_right _
  have hf2 : fitsB S' (fun _ => 0) (usedL Q i) = true := fits_iff.2 fun x hx => by
    rw [hup.count_eq]
    exact Int.le_trans (fits_iff.1 hf x (hup.mem_iff.1 hx)) (hh x)
  have hsf2 := short_fits hS' hut2
  rw [hf2] at hsf2
  unfold ableC
  rw [if_neg (by simp [hpe2]), if_neg (by rw [hlen]; exact hn1), if_neg hn2, if_neg (by rw [hsf2]; simp), if_neg (by rw [hlen]; simp [ht])]
theorem able_bd {S : List (Int × Int)} {p o : Int} {same : Bool} {P : List (Int × Int)} {i : Int} (hp : p ≤ 3) (h : ableC S p o same P i = 0) : (1 ≤ prodW (drvs P) ∧ prodW (drvs P) ≤ 1000000) ∧ (1 ≤ prodW (drns P) ∧ prodW (drns P) ≤ 1000000) := prods_bd hp (ableC_zero h).1
theorem able_prods {S : List (Int × Int)} {p o : Int} {same : Bool} {P Q : List (Int × Int)} {i : Int} (hp : p ≤ 3) (h : ableC S p o same P i = 0) (hq : Q.Perm P) : prodW (drvs Q) = prodW (drvs P) ∧ prodW (drns Q) = prodW (drns P) := by
  obtain ⟨hpe, -, -, -, -⟩ := ableC_zero h
  obtain ⟨hl, hm⟩ := pairsErr_zero hpe
  have hlen := hq.length_eq
  have e1 : (drvs Q).Perm (drvs P) := hq.map _
  have e2 : (drns Q).Perm (drns P) := hq.map _
  have b1 : ∀ x ∈ drvs P, 6 ≤ x ∧ x ≤ 100 := by intro z hz; obtain ⟨q, hq, rfl⟩ := List.mem_map.1 hz; exact (hm q hq).1
  have b2 : ∀ x ∈ drns P, 6 ≤ x ∧ x ≤ 100 := by intro z hz; obtain ⟨q, hq, rfl⟩ := List.mem_map.1 hz; exact (hm q hq).2.1
  have l1 : (drvs P).length ≤ 3 := by simp [drvs]; omega
  have l2 : (drns P).length ≤ 3 := by simp [drns]; omega
  rw [prodW_Z b1 l1, prodW_Z b2 l2, prodW_Z (fun x hx => b1 x (e1.mem_iff.1 hx)) (by rw [e1.length_eq]; exact l1), prodW_Z (fun x hx => b2 x (e2.mem_iff.1 hx)) (by rw [e2.length_eq]; exact l2)]
  exact ⟨prodZ_perm e1, prodZ_perm e2⟩
/-- any train that can be built has a candidate with the same products -/
theorem able_in {S : List (Int × Int)} (hS : stockB S = true) {p o : Int} {same : Bool} {P : List (Int × Int)} {i : Int} (hp : p ≤ 3) (h : ableC S p o same P i = 0) :
    ∃ v ∈ allP S (tlOf S) o same (p + 1).toNat, v.d = prodW (drvs P) ∧ v.n = prodW (drns P) ∧ v.c = P.length ∧ (v.i = 0 ↔ i = 0) ∧ v.i ≤ i := by
  obtain ⟨Q, hq, hso⟩ := sorted_exists P
  have hab := able_mono hS hS h hq (Int.le_refl _) (Int.le_refl _) (fun _ => Int.le_refl _)
  obtain ⟨e1, e2⟩ := able_prods hp h hq
  obtain ⟨hl, hgd, k, hk, hk0, hk1⟩ := able_cand hS hso hab
  obtain ⟨v, hv, hc, rfl⟩ := allP_mem (k := (p + 1).toNat) (by omega) (by omega) hgd hk
  exact ⟨v, hv, by rw [hc.rep.dr, e1], by rw [hc.rep.dn, e2], by rw [hc.rep.c, hq.length_eq], hk0, hk1⟩

/-- the excess of a train: above, below -/
def exA (t r : Int) (P : List (Int × Int)) : Int := prodW (drvs P) * t - prodW (drns P) * r
def exB (r : Int) (P : List (Int × Int)) : Int := prodW (drns P) * r

/-- what Near answers, if stock and gearing are valid -/
def NearFacts (S : List (Int × Int)) (t r p o : Int) (same : Bool) (P : List (Int × Int)) (i x : Int) : Prop :=
  ableC S p o same P i = 0 ∧ x = exA t r P * 1000000 / exB r P ∧ ∀ Q j, ableC S p o same Q j = 0 → ¬ distB (exA t r Q) * exB r P < distB (exA t r P) * exB r Q
theorem near_choose {S : List (Int × Int)} {t r p o : Int} {same : Bool} (hs : stockB S = true) (hg : gearB t r p o = true) {P : List (Int × Int)} {i x ne : Int} (h : NearOf t r (nearC S t r p o same) P i x ne)
    {P' : List (Int × Int)} {i' nw ne' : Int} (h' : RowOf (chooseC S t r p o same) P' i' nw ne') :
    ((P = [] ∧ i = 0 ∧ x = 0 ∧ ne = 4) ∧ (P' = [] ∧ i' = 0 ∧ nw = 0 ∧ ne' = 4) ∧ ∀ Q j, ableC S p o same Q j ≠ 0) ∨
    (ne = 0 ∧ NearFacts S t r p o same P i x ∧ ((exA t r P = 0 ∧ P' = P ∧ i' = i ∧ nw = wheelsN P i ∧ ne' = 0) ∨ (exA t r P ≠ 0 ∧ P' = [] ∧ i' = 0 ∧ nw = 0 ∧ ne' = 4))) := by
  have hgi := gearB_iff.1 hg
  unfold nearC at h
  unfold chooseC at h'
  rw [hs, hg] at h h'
  simp only [Bool.and_self, if_true] at h h'
  rcases bestP_first (S := S) (t := t) (o := o) (same := same) (show 1 ≤ r by omega) (show p ≤ 3 by omega) with ⟨ha, hb⟩ | ⟨u, hb, hf⟩
  · rw [hb] at h h'
    obtain ⟨rfl, rfl, rfl, rfl⟩ := h
    obtain ⟨rfl, rfl, rfl, rfl⟩ := h'
    refine .inl ⟨⟨rfl, rfl, rfl, rfl⟩, ⟨rfl, rfl, rfl, rfl⟩, fun Q j hab => ?_⟩
    obtain ⟨v, hv, _⟩ := able_in hs (by omega) hab
    rw [ha] at hv; simp at hv
  · rw [hb] at h h'
    obtain ⟨hP, rfl, rfl, rfl⟩ := h
    have hm : u ∈ allP S (tlOf S) o same (p + 1).toNat := by obtain ⟨l1, l2, e, _⟩ := hf; rw [e]; simp
    obtain ⟨Q, hQ, hc⟩ := mem_allP (by omega) hm
    have e : Q = P := by rw [← hP]; exact hc.rep.tr.symm
    subst e
    have eA : u.d * t - u.n * r = exA t r Q := by unfold exA; rw [hc.rep.dr, hc.rep.dn]
    have eB : u.n * r = exB r Q := by unfold exB; rw [hc.rep.dn]
    refine .inr ⟨rfl, ⟨cand_able hs hc (by omega), ?_, fun Q2 j hab => ?_⟩, ?_⟩
    · unfold Tri.milli; rw [eA, eB]
    · obtain ⟨v, hv, e1, e2, _⟩ := able_in hs (by omega) hab
      obtain ⟨l1, l2, e, h1, h2⟩ := hf
      have h3 := h2 v hv
      unfold nearer nearB at h3
      have h3 := of_decide_eq_false h3
      rw [eA, eB, e1, e2] at h3
      exact h3
    · cases hx : u.exactP t r with
      | true =>
        simp only [hx, if_true] at h'
        obtain ⟨hP', rfl, rfl, rfl⟩ := h'
        have := hx
        unfold Tri.exactP at this
        rw [eA] at this
        exact .inl ⟨by simpa using this, by rw [← hP', hP], rfl, by rw [wheelsN_len, ← hP', hP], rfl⟩
      | false =>
        simp only [hx, Bool.false_eq_true, if_false] at h'
        obtain ⟨rfl, rfl, rfl, rfl⟩ := h'
        have := hx
        unfold Tri.exactP at this
        rw [eA] at this
        exact .inr ⟨by simpa using this, rfl, rfl, rfl, rfl⟩
end Go.Proofs.Ytoiapnokgpeipaa

/- The candidates come in their order: no exact train comes before the one that is chosen. Plain lists and numbers. -/
namespace Go.Proofs.Ytoiapnokgpeipaa
set_option linter.unusedSimpArgs false
open Go.RowKit

/-- does a list of pairs come before another one as long? -/
def lexP : List (Int × Int) → List (Int × Int) → Prop
  | a :: l, b :: m => pl a b = true ∨ a = b ∧ lexP l m
  | _, _ => False
theorem lexP_pre (P : List (Int × Int)) {Q Q' : List (Int × Int)} (h : lexP Q Q') : lexP (P ++ Q) (P ++ Q') := by
  induction P with
  | nil => exact h
  | cons a P ih => exact .inr ⟨rfl, ih⟩

theorem cands_rep {S : List (Int × Int)} {tl : List T6} {o : Int} {same : Bool} : ∀ (k : Nat) (u : Tri) (P : List (Int × Int)) (f : Int → Int), Rep u P → TriOk u P.length → P.length + k ≤ 3 →
    ∀ v ∈ candsP S tl o same k u f, ∃ Q, Q.length = k ∧ trainP v = P ++ Q
  | 0, u, P, f, hr, hu, _, v, hv => by
    unfold candsP at hv
    split at hv
    · obtain rfl := List.mem_singleton.1 hv
      exact ⟨[], rfl, by rw [List.append_nil]; exact (hr.idler _).tr⟩
    · simp at hv
  | k + 1, u, P, f, hr, hu, hk, v, hv => by
    unfold candsP at hv
    obtain ⟨p, hp, hv⟩ := List.mem_flatMap.1 hv
    split at hv
    · simp at hv
    · split at hv
      · have hr2 := hr.withP hu (by omega) p.1.2 p.2.2
        have hu2 := hu.withP (by omega) p.1.2 p.2.2
        obtain ⟨Q, hQ, e⟩ := cands_rep k _ _ _ hr2 (by simpa using hu2) (by simp; omega) v hv
        exact ⟨(p.1.1, p.2.1) :: Q, by simp [hQ], by rw [List.append_cons]; exact e⟩
      · simp at hv

def Rises (tl : List T6) : Prop := ∀ i j, i < j → j < tl.length → (tl.getD i default).1 < (tl.getD j default).1
theorem pairs_rise {tl : List T6} (ht : Rises tl) : (pairsL tl).Pairwise (fun p q => pl (p.1.1, p.2.1) (q.1.1, q.2.1) = true) := by
  unfold pairsL
  rw [List.pairwise_map]
  refine List.Pairwise.imp_of_mem ?_ List.pairwise_lt_range
  intro i j hi hj hij
  have hi := List.mem_range.1 hi
  have hj := List.mem_range.1 hj
  have h0 : 0 < tl.length := Nat.pos_of_ne_zero (fun e => by rw [e] at hj; simp at hj)
  have b1 : j / tl.length < tl.length := Nat.div_lt_of_lt_mul hj
  have b2 : j % tl.length < tl.length := Nat.mod_lt _ h0
  have e1 := Nat.div_add_mod i tl.length
  have e2 := Nat.div_add_mod j tl.length
  have l1 : i / tl.length ≤ j / tl.length := Nat.div_le_div_right (by omega)
  unfold pairAt pl
  refine decide_eq_true ?_
  rcases Nat.lt_or_eq_of_le l1 with h | h
  · exact .inl (ht _ _ h b1)
  · refine .inr ⟨by rw [h], ht _ _ ?_ b2⟩
    rw [h] at e1; omega
theorem tlOf_rises {S : List (Int × Int)} (h : stockB S = true) : Rises (tlOf S) := by
  intro i j hij hj
  rw [tlOf_len] at hj
  rw [← tlOf_teeth (stockB_teeth h) i (by omega), ← tlOf_teeth (stockB_teeth h) j hj]
  have := stock_lt h (i := i) j hj hij
  simpa [List.getD, hj, show i < S.length by omega] using this

theorem cands_lex {S : List (Int × Int)} {tl : List T6} {o : Int} {same : Bool} (ht : Rises tl) : ∀ (k : Nat) (u : Tri) (P : List (Int × Int)) (f : Int → Int), Rep u P → TriOk u P.length → P.length + k ≤ 3 →
    (candsP S tl o same k u f).Pairwise (fun x y => lexP (trainP x) (trainP y))
  | 0, u, P, f, hr, hu, _ => by
    unfold candsP
    split <;> simp
  | k + 1, u, P, f, hr, hu, hk => by
    unfold candsP
    rw [List.pairwise_flatMap]
    constructor
    · intro p hp
      split
      · simp
      · split
        · exact cands_lex ht k _ _ _ (hr.withP hu (by omega) p.1.2 p.2.2) (by simpa using hu.withP (by omega) p.1.2 p.2.2) (by simp; omega)
        · simp
    · refine List.Pairwise.imp ?_ (pairs_rise ht)
      intro p q hpq x hx y hy
      have hh : ∀ (p : T6 × T6), ∀ x ∈ (if (u.fallP p.1.1 p.2.1 || decide (p.1.1 + p.2.1 > o)) = true then [] else if fitsB S f [p.1.1, p.2.1] = true then candsP S tl o same k (u.withP p.1.1 p.2.1) (addF f [p.1.1, p.2.1]) else []),
          ∃ Q, trainP x = P ++ (p.1.1, p.2.1) :: Q := by
        intro p x hx
        split at hx
        · simp at hx
        · split at hx
          · obtain ⟨Q, _, e⟩ := cands_rep k _ _ _ (hr.withP hu (by omega) p.1.2 p.2.2) (by simpa using hu.withP (by omega) p.1.2 p.2.2) (by simp; omega) x hx
            exact ⟨Q, by rw [List.append_cons]; exact e⟩
          · simp at hx
      obtain ⟨Q1, e1⟩ := hh p x hx
      obtain ⟨Q2, e2⟩ := hh q y hy
      rw [e1, e2]
      exact lexP_pre P (.inl hpq)

/-- does a train come before another one, but for its idler? -/
def comesP (x y : List (Int × Int)) : Prop := x.length < y.length ∨ x.length = y.length ∧ lexP x y
theorem allP_order {S : List (Int × Int)} (hS : stockB S = true) {o : Int} {same : Bool} {k : Nat} (hk : k ≤ 4) : (allP S (tlOf S) o same k).Pairwise (fun x y => comesP (trainP x) (trainP y)) := by
  unfold allP
  have hlen : ∀ j, j < 4 → ∀ v ∈ candsP S (tlOf S) o same j tri0 (fun _ => 0), (trainP v).length = j := by
    intro j hj v hv
    obtain ⟨Q, hQ, e⟩ := cands_rep j tri0 [] _ rep0 tri0_ok (by simp; omega) v hv
    rw [e]; simpa using hQ
  rw [List.pairwise_flatMap]
  constructor
  · intro j hj
    have hj := List.mem_range.1 hj
    refine List.Pairwise.imp_of_mem ?_ (cands_lex (tlOf_rises hS) j tri0 [] _ rep0 tri0_ok (by simp; omega))
    intro x y hx hy h
    exact .inr ⟨by rw [hlen j (by omega) x hx, hlen j (by omega) y hy], h⟩
  · refine List.Pairwise.imp_of_mem ?_ List.pairwise_lt_range
    intro i j hi hj hij x hx y hy
    have hi := List.mem_range.1 hi
    have hj := List.mem_range.1 hj
    exact .inl (by rw [hlen i (by omega) x hx, hlen j (by omega) y hy]; exact hij)

theorem exact_not_nearer {t r : Int} {u v : Tri} (hr : 1 ≤ r) (hv : TriPos v) (hx : v.exactP t r = true) : nearer t r u v = false := by
  unfold nearer nearB
  have e1 : v.d * t - v.n * r = 0 := by simpa [Tri.exactP] using hx
  rw [e1]
  refine decide_eq_false ?_
  have e3 : distB 0 = 0 := by decide
  have h1 : 0 ≤ distB (u.d * t - u.n * r) * (v.n * r) := Int.mul_nonneg (distB_nonneg _) (Int.mul_nonneg (by have := hv.2.2.1; omega) (by omega))
  rw [e3, Int.zero_mul]; omega
theorem first_exact {R : Tri → Tri → Prop} {t r : Int} {l : List Tri} {u v : Tri} (hr : 1 ≤ r) (hl : ∀ v ∈ l, TriPos v) (hp : l.Pairwise R) (hf : FirstBest t r l u) (hv : v ∈ l) (hx : v.exactP t r = true) : v = u ∨ R u v := by
  have hpv := hl v hv
  obtain ⟨l1, l2, rfl, h1, h2⟩ := hf
  rcases List.mem_append.1 hv with h | h
  · have := h1 v h; rw [exact_not_nearer hr hpv hx] at this; cases this
  · rcases List.mem_cons.1 h with h | h
    · exact .inl h
    · exact .inr ((List.pairwise_cons.1 (List.pairwise_append.1 hp).2.1).1 v h)

/-- no exact train comes before the one that is chosen -/
theorem choose_first {S : List (Int × Int)} {t r p o : Int} {same : Bool} {P : List (Int × Int)} {i nw : Int} (h : RowOf (chooseC S t r p o same) P i nw 0) {Q : List (Int × Int)} {j : Int} (hso : SortedP Q) (hab : ableC S p o same Q j = 0) (hex : exA t r Q = 0) :
    (Q = P ∧ i ≤ j) ∨ comesP P Q := by
  rcases choose_facts h with ⟨_, _, hcs, u, hf, hc, hui⟩ | ⟨_, _, _, ⟨h, _⟩ | ⟨h, _⟩⟩
  · have hs := hcs.valid.1
    have hgi := gearB_iff.1 hcs.valid.2
    obtain ⟨hl, hgd, k, hk, hk0, hk1⟩ := able_cand hs hso hab
    obtain ⟨v, hv, hcv, hvk⟩ := allP_mem (k := (p + 1).toNat) (by omega) (by omega) hgd hk
    have hx : v.exactP t r = true := by unfold Tri.exactP; rw [hcv.rep.dr, hcv.rep.dn]; unfold exA at hex; simpa using hex
    rcases first_exact (by omega) (allP_pos (by omega)) (allP_order hs (by omega)) hf hv hx with h | h
    · subst h
      exact .inl ⟨hcv.rep.tr.symm.trans hc.rep.tr, by omega⟩
    · rw [hc.rep.tr, hcv.rep.tr] at h
      exact .inr h
  · omega
  · omega
theorem wheels_len {S S' : List (Int × Int)} {p p' o o' : Int} {same : Bool} {P Q : List (Int × Int)} {i j : Int} (h1 : ableC S p o same P i = 0) (h2 : ableC S' p' o' same Q j = 0) (hl : P.length ≤ Q.length) :
    wheelsN P i ≤ wheelsN Q j ∧ (P.length = Q.length → wheelsN P i = wheelsN Q j) ∧ (P.length < Q.length → wheelsN P i < wheelsN Q j) := by
  obtain ⟨_, _, _, _, t1⟩ := ableC_zero h1
  obtain ⟨_, _, _, _, t2⟩ := ableC_zero h2
  have he : P.length = Q.length → (i = 0 ↔ j = 0) := by
    intro e
    rw [← e] at t2
    constructor
    · intro h
      apply Classical.byContradiction
      intro hj
      rw [turns_flip _ j (by omega) hj] at t2
      rw [h] at t1
      rw [t1] at t2
      cases same <;> simp at t2
    · intro h
      apply Classical.byContradiction
      intro hi
      rw [turns_flip _ i (by omega) hi] at t1
      rw [h] at t2
      rw [t2] at t1
      cases same <;> simp at t1
  unfold wheelsN
  by_cases hi : i = 0 <;> by_cases hj : j = 0 <;> simp only [hi, hj, if_true, if_false] at he ⊢ <;> simp at he <;> omega
/-- no exact train has fewer wheels than the one that is chosen -/
theorem choose_fewest {S : List (Int × Int)} {t r p o : Int} {same : Bool} {P : List (Int × Int)} {i nw : Int} (h : RowOf (chooseC S t r p o same) P i nw 0) {Q : List (Int × Int)} {j : Int} (hab : ableC S p o same Q j = 0) (hex : exA t r Q = 0) :
    wheelsN P i ≤ wheelsN Q j := by
  rcases choose_facts h with ⟨_, _, hcs, _⟩ | ⟨_, _, _, ⟨h, _⟩ | ⟨h, _⟩⟩
  · have hs := hcs.valid.1
    have hgi := gearB_iff.1 hcs.valid.2
    obtain ⟨Q', hq, hso⟩ := sorted_exists Q
    have hab' := able_mono hs hs hab hq (Int.le_refl _) (Int.le_refl _) (fun _ => Int.le_refl _)
    obtain ⟨e1, e2⟩ := able_prods (by omega) hab hq
    have hex' : exA t r Q' = 0 := by unfold exA at *; rw [e1, e2]; exact hex
    have hl : P.length ≤ Q.length := by
      rcases choose_first h hso hab' hex' with ⟨h, _⟩ | h | ⟨h, _⟩
      · rw [← h, hq.length_eq]; omega
      · rw [hq.length_eq] at h; omega
      · rw [hq.length_eq] at h; omega
    exact (wheels_len hcs.able hab hl).1
  · omega
  · omega
end Go.Proofs.Ytoiapnokgpeipaa
