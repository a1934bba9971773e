/- Which trains are candidates. Plain lists and numbers. -/
import Derived.Test.YtoiapnokgpeipaaS1
import Derived.Test.YtoiapnokgpeipaaR6
namespace Go.Proofs.Ytoiapnokgpeipaa
set_option linter.unusedSimpArgs false
open Go.RowKit

/-- does a pair come before another one? -/
def pl (a b : Int × Int) : Bool := decide (a.1 < b.1 ∨ a.1 = b.1 ∧ a.2 < b.2)
def SortedP (P : List (Int × Int)) : Prop := ∀ k, k + 1 < P.length → pl (P.getD (k + 1) (0, 0)) (P.getD k (0, 0)) = false

/-- a trial stands for a list of pairs -/
structure Rep (u : Tri) (P : List (Int × Int)) : Prop where
  c : u.c = P.length
  l3 : P.length ≤ 3
  tr : trainP u = P
  dr : u.d = prodW (drvs P)
  dn : u.n = prodW (drns P)
theorem Rep.idler {u : Tri} {P : List (Int × Int)} (h : Rep u P) (i : Int) : Rep { u with i := i } P := ⟨h.c, h.l3, h.tr, h.dr, h.dn⟩
theorem rep0 : Rep tri0 [] := ⟨rfl, by decide, rfl, rfl, rfl⟩
theorem prodW_snoc (l : List Int) (x : Int) : prodW (l ++ [x]) = wrap64 (prodW l * x) := by unfold prodW; rw [List.foldl_append]; rfl
theorem Rep.withP {u : Tri} {P : List (Int × Int)} (h : Rep u P) (hu : TriOk u P.length) (hl : P.length ≤ 2) {x y : Int} (hx : 6 ≤ x ∧ x ≤ 100) (hy : 6 ≤ y ∧ y ≤ 100) : Rep (u.withP x y) (P ++ [(x, y)]) := by
  have hb := hu.bd
  have p1 := mul_bd (x := u.d) (y := x) (by omega) hb.2.1 (by omega) hx.2
  have p2 := mul_bd (x := u.n) (y := y) (by omega) hb.2.2.2 (by omega) hy.2
  have hc := h.c
  have hd : u.d * x = prodW (drvs (P ++ [(x, y)])) := by
    unfold drvs; rw [List.map_append]; show _ = prodW (drvs P ++ [x]); rw [prodW_snoc, ← h.dr, IntWalk.wrap64_in _ (by omega)]
  have hn : u.n * y = prodW (drns (P ++ [(x, y)])) := by
    unfold drns; rw [List.map_append]; show _ = prodW (drns P ++ [y]); rw [prodW_snoc, ← h.dn, IntWalk.wrap64_in _ (by omega)]
  have ht := h.tr
  match P, hl with
  | [], _ =>
    have h0 : u.c = 0 := by simpa using hc
    unfold Tri.withP
    rw [if_pos h0]
    exact ⟨rfl, by simp, rfl, hd, hn⟩
  | [q0], _ =>
    have h1 : u.c = 1 := by simpa using hc
    unfold Tri.withP
    rw [if_neg (by omega), if_pos h1]
    refine ⟨rfl, by simp, ?_, hd, hn⟩
    unfold trainP at ht ⊢
    rw [h1] at ht
    simp at ht ⊢
    exact ht
  | [q0, q1], _ =>
    have h2 : u.c = 2 := by simpa using hc
    unfold Tri.withP
    rw [if_neg (by omega), if_neg (by omega)]
    refine ⟨rfl, by simp, ?_, hd, hn⟩
    unfold trainP at ht ⊢
    rw [h2] at ht
    simp at ht ⊢
    exact ht
theorem Rep.falls {u : Tri} {P : List (Int × Int)} (h : Rep u P) (hl : P.length ≤ 2) (x y : Int) : u.fallP x y = (P.getLast?.map (pl (x, y))).getD false := by
  have hc := h.c
  have ht := h.tr
  match P, hl with
  | [], _ =>
    have h0 : u.c = 0 := by simpa using hc
    unfold Tri.fallP; rw [if_pos h0]; rfl
  | [q0], _ =>
    have h1 : u.c = 1 := by simpa using hc
    unfold Tri.fallP; rw [if_neg (by omega), if_pos h1]
    unfold trainP at ht; rw [h1] at ht; simp at ht; subst ht
    rw [fallB_pos (by decide)]; rfl
  | [q0, q1], _ =>
    have h2 : u.c = 2 := by simpa using hc
    unfold Tri.fallP; rw [if_neg (by omega), if_neg (by omega)]
    unfold trainP at ht; rw [h2] at ht; simp at ht; obtain ⟨h3, rfl⟩ := ht
    rw [fallB_pos (by decide)]; rfl

theorem sorted_snoc {P : List (Int × Int)} {q : Int × Int} : SortedP (P ++ [q]) ↔ SortedP P ∧ (P.getLast?.map (pl q)).getD false = false := by
  constructor
  · intro h
    refine ⟨fun k hk => ?_, ?_⟩
    · have := h k (by simp; omega)
      simpa [List.getD, List.getElem?_append_left (show k < P.length by omega), List.getElem?_append_left hk] using this
    · cases hl : P.getLast? with
      | none => rfl
      | some z =>
        have hne : P ≠ [] := fun e => by rw [e] at hl; cases hl
        have hp : 0 < P.length := List.length_pos_iff.2 hne
        have := h (P.length - 1) (by simp; omega)
        rw [show P.length - 1 + 1 = P.length by omega] at this
        have hz : P[P.length - 1]? = some z := by rw [← List.getLast?_eq_getElem?]; exact hl
        simpa [List.getD, List.getElem?_append_left (show P.length - 1 < P.length by omega), hz] using this
  · rintro ⟨h1, h2⟩ k hk
    simp at hk
    by_cases hkl : k + 1 < P.length
    · have := h1 k hkl
      simpa [List.getD, List.getElem?_append_left (show k < P.length by omega), List.getElem?_append_left hkl] using this
    · have hk1 : k + 1 = P.length := by omega
      cases hl : P.getLast? with
      | none => rw [List.getLast?_eq_none_iff] at hl; rw [hl] at hk1; simp at hk1
      | some z =>
        rw [hl] at h2
        have hz : P[k]? = some z := by rw [List.getLast?_eq_getElem?] at hl; rw [show k = P.length - 1 by omega]; exact hl
        have e1 : (P ++ [q])[k + 1]? = some q := by rw [hk1]; simp
        have e2 : (P ++ [q])[k]? = some z := by rw [List.getElem?_append_left (by omega)]; exact hz
        simpa [List.getD, e1, e2] using h2

theorem fitsF_iff {S : List (Int × Int)} {f : Int → Int} {l : List Int} : fitsB S f l = true ↔ ∀ x ∈ l, f x + (l.count x : Int) ≤ heldI S x := by
  constructor
  · intro h x hx
    obtain ⟨i, hi, h1, h2⟩ := last_place l x hx
    unfold fitsB at h
    have := of_decide_eq_true (List.all_eq_true.1 h i (List.mem_range.2 hi))
    have hg : l.getD i 0 = x := by simp [hi, h1]
    rw [hg] at this
    simp only [addF] at this
    omega
  · intro h
    refine fitsB_true fun i hi => ?_
    have hg : l.getD i 0 = l[i] := by simp [hi]
    rw [hg]
    simp only [addF]
    have h1 := h l[i] (List.getElem_mem hi)
    have h2 : l.count l[i] = (l.take i).count l[i] + (l.drop i).count l[i] := by rw [← List.count_append, List.take_append_drop]
    have h3 : 0 < (l.drop i).count l[i] := by
      rw [List.count_pos_iff, List.mem_iff_getElem]; exact ⟨0, by simp; omega, by simp⟩
    omega
theorem fits_append {S : List (Int × Int)} {l m : List Int} : fitsB S (fun _ => 0) (l ++ m) = true ↔ fitsB S (fun _ => 0) l = true ∧ fitsB S (addF (fun _ => 0) l) m = true ∨ fitsB S (fun _ => 0) (l ++ m) = true := by
  exact ⟨fun h => .inr h, fun h => h.elim (fun ⟨h1, h2⟩ => by
    rw [fitsF_iff] at h1 h2 ⊢
    intro x hx
    rw [List.count_append]
    by_cases hm : x ∈ m
    · have := h2 x hm; simp only [addF] at this; omega
    · have hl : x ∈ l := (List.mem_append.1 hx).resolve_right hm
      have := h1 x hl
      rw [List.count_eq_zero_of_not_mem hm]; omega) id⟩
theorem fits_left {S : List (Int × Int)} {l m : List Int} (h : fitsB S (fun _ => 0) (l ++ m) = true) : fitsB S (fun _ => 0) l = true := by
  rw [fitsF_iff] at h ⊢
  intro x hx
  have := h x (List.mem_append_left _ hx)
  rw [List.count_append] at this; omega
theorem fits_right {S : List (Int × Int)} {l m : List Int} (h : fitsB S (fun _ => 0) (l ++ m) = true) : fitsB S (addF (fun _ => 0) l) m = true := by
  rw [fitsF_iff] at h ⊢
  intro x hx
  have := h x (List.mem_append_right _ hx)
  rw [List.count_append] at this
  simp only [addF]; omega
theorem fits_both {S : List (Int × Int)} {l m : List Int} (h1 : fitsB S (fun _ => 0) l = true) (h2 : fitsB S (addF (fun _ => 0) l) m = true) : fitsB S (fun _ => 0) (l ++ m) = true := fits_append.2 (.inl ⟨h1, h2⟩)

theorem usedP_append (P Q : List (Int × Int)) : usedP (P ++ Q) = usedP P ++ usedP Q := by unfold usedP; rw [List.flatMap_append]
theorem addF_append (f : Int → Int) (l m : List Int) : addF (addF f l) m = addF f (l ++ m) := by funext x; unfold addF; rw [List.count_append]; omega

/-- a list of pairs that can be had -/
structure Good (S : List (Int × Int)) (tl : List T6) (o : Int) (P : List (Int × Int)) : Prop where
  sorted : SortedP P
  kinds : ∀ x ∈ P, ∃ a ∈ tl, ∃ b ∈ tl, x = (a.1, b.1)
  room : ∀ x ∈ P, x.1 + x.2 ≤ o
  fits : fitsB S (fun _ => 0) (usedP P) = true
theorem good0 (S : List (Int × Int)) (tl : List T6) (o : Int) : Good S tl o [] := ⟨fun k hk => by simp at hk, by simp, by simp, by rw [fitsF_iff]; simp [usedP]⟩
theorem Good.left {S : List (Int × Int)} {tl : List T6} {o : Int} {P : List (Int × Int)} {q : Int × Int} (h : Good S tl o (P ++ [q])) : Good S tl o P :=
  ⟨(sorted_snoc.1 h.sorted).1, fun x hx => h.kinds x (List.mem_append_left _ hx), fun x hx => h.room x (List.mem_append_left _ hx), by have := h.fits; rw [usedP_append] at this; exact fits_left this⟩

theorem mem_pairsL {tl : List T6} {p : T6 × T6} : p ∈ pairsL tl ↔ p.1 ∈ tl ∧ p.2 ∈ tl := by
  unfold pairsL
  rw [List.mem_map]
  constructor
  · rintro ⟨q, hq, rfl⟩
    have hq := List.mem_range.1 hq
    have h0 : 0 < tl.length := Nat.pos_of_ne_zero (fun e => by rw [e] at hq; simp at hq)
    have h1 : q / tl.length < tl.length := Nat.div_lt_of_lt_mul hq
    have h2 : q % tl.length < tl.length := Nat.mod_lt _ h0
    unfold pairAt
    simp only [List.getD, List.getElem?_eq_getElem h1, List.getElem?_eq_getElem h2, Option.getD_some]
    exact ⟨List.getElem_mem _, List.getElem_mem _⟩
  · rintro ⟨h1, h2⟩
    obtain ⟨i, hi, e1⟩ := List.getElem_of_mem h1
    obtain ⟨j, hj, e2⟩ := List.getElem_of_mem h2
    refine ⟨i * tl.length + j, List.mem_range.2 ?_, ?_⟩
    · have : (i + 1) * tl.length ≤ tl.length * tl.length := Nat.mul_le_mul_right _ (by omega)
      rw [Nat.add_mul] at this; omega
    · have d1 : (i * tl.length + j) / tl.length = i := by
        rw [Nat.mul_comm, Nat.mul_add_div (by omega), Nat.div_eq_of_lt hj]; omega
      have d2 : (i * tl.length + j) % tl.length = j := by
        rw [Nat.mul_comm, Nat.mul_add_mod, Nat.mod_eq_of_lt hj]
      unfold pairAt
      rw [d1, d2]
      simp [hi, hj, e1, e2]

/-- what a candidate is -/
structure IsCand (S : List (Int × Int)) (tl : List T6) (o : Int) (same : Bool) (P : List (Int × Int)) (v : Tri) : Prop where
  good : Good S tl o P
  rep : Rep v P
  idler : idlerI S (addF (fun _ => 0) (usedP P)) P.length same = (v.i, true)

theorem cands_fwd {S : List (Int × Int)} {tl : List T6} {o : Int} {same : Bool} : ∀ (k : Nat) (u : Tri) (P : List (Int × Int)), Rep u P → TriOk u P.length → P.length + k ≤ 3 → Good S tl o P →
    ∀ v ∈ candsP S tl o same k u (addF (fun _ => 0) (usedP P)), ∃ Q, Q.length = k ∧ IsCand S tl o same (P ++ Q) v
  | 0, u, P, hr, hu, _, hg, v, hv => by
    unfold candsP at hv
    split at hv
    · rename_i hi
      obtain rfl := List.mem_singleton.1 hv
      exact ⟨[], rfl, by rw [List.append_nil]; exact ⟨hg, hr.idler _, by rw [← hr.c]; exact Prod.ext rfl hi⟩⟩
    · simp at hv
  | k + 1, u, P, hr, hu, hk, hg, v, hv => by
    unfold candsP at hv
    obtain ⟨p, hp, hv⟩ := List.mem_flatMap.1 hv
    split at hv
    · simp at hv
    · rename_i hnf
      split at hv
      · rename_i hfi
        have hnf : u.fallP p.1.1 p.2.1 = false ∧ p.1.1 + p.2.1 ≤ o := by simpa using hnf
        have hpm := mem_pairsL.1 hp
        have hr2 := hr.withP hu (by omega) p.1.2 p.2.2
        have hu2 := hu.withP (by omega) p.1.2 p.2.2
        have hg2 : Good S tl o (P ++ [(p.1.1, p.2.1)]) := by
          refine ⟨sorted_snoc.2 ⟨hg.sorted, by rw [← hr.falls (by omega)]; exact hnf.1⟩, ?_, ?_, ?_⟩
          · intro x hx
            rcases List.mem_append.1 hx with hx | hx
            · exact hg.kinds x hx
            · obtain rfl := List.mem_singleton.1 hx; exact ⟨p.1, hpm.1, p.2, hpm.2, rfl⟩
          · intro x hx
            rcases List.mem_append.1 hx with hx | hx
            · exact hg.room x hx
            · obtain rfl := List.mem_singleton.1 hx; exact hnf.2
          · rw [usedP_append]; exact fits_both hg.fits hfi
        rw [addF_append, show usedP P ++ [p.1.1, p.2.1] = usedP (P ++ [(p.1.1, p.2.1)]) by rw [usedP_append]; rfl] at hv
        obtain ⟨Q, hQ, hc⟩ := cands_fwd k _ _ hr2 (by simpa using hu2) (by simp; omega) hg2 v hv
        exact ⟨(p.1.1, p.2.1) :: Q, by simp [hQ], by rw [List.append_cons]; exact hc⟩
      · simp at hv

theorem good_prefix {S : List (Int × Int)} {tl : List T6} {o : Int} : ∀ (Q P : List (Int × Int)), Good S tl o (P ++ Q) → Good S tl o P := by
  intro Q
  induction Q with
  | nil => intro P h; simpa using h
  | cons q Q ih =>
    intro P h
    rw [List.append_cons] at h
    exact (ih _ h).left

theorem cands_bwd {S : List (Int × Int)} {tl : List T6} {o : Int} {same : Bool} {i : Int} : ∀ (Q : List (Int × Int)) (u : Tri) (P : List (Int × Int)), Rep u P → TriOk u P.length → P.length + Q.length ≤ 3 → Good S tl o (P ++ Q) →
    idlerI S (addF (fun _ => 0) (usedP (P ++ Q))) (P ++ Q).length same = (i, true) → ∃ v ∈ candsP S tl o same Q.length u (addF (fun _ => 0) (usedP P)), IsCand S tl o same (P ++ Q) v ∧ v.i = i
  | [], u, P, hr, hu, _, hg, hi => by
    rw [List.append_nil] at hg hi ⊢
    refine ⟨{ u with i := i }, ?_, ⟨hg, hr.idler _, hi⟩, rfl⟩
    show _ ∈ candsP S tl o same 0 u _
    unfold candsP
    rw [hr.c, hi]
    simp
  | q :: Q, u, P, hr, hu, hk, hg, hi => by
    rw [List.append_cons] at hg hi ⊢
    have hg2 := good_prefix Q _ hg
    obtain ⟨a, ha, b, hb, hq⟩ := hg2.kinds q (by simp)
    subst hq
    have hl : P.length ≤ 2 := by simp at hk; omega
    have hr2 := hr.withP hu hl a.2 b.2
    have hu2 := hu.withP (by omega) a.2 b.2
    obtain ⟨v, hv, hc, hvi⟩ := cands_bwd Q (u.withP a.1 b.1) (P ++ [(a.1, b.1)]) hr2 (by simpa using hu2) (by simp at hk ⊢; omega) hg hi
    refine ⟨v, ?_, hc, hvi⟩
    show v ∈ candsP S tl o same (Q.length + 1) u _
    unfold candsP
    refine List.mem_flatMap.2 ⟨(a, b), mem_pairsL.2 ⟨ha, hb⟩, ?_⟩
    have h1 : (u.fallP a.1 b.1 || decide (a.1 + b.1 > o)) = false := by
      have e1 : u.fallP a.1 b.1 = false := by rw [hr.falls hl]; exact (sorted_snoc.1 hg2.sorted).2
      have e2 := hg2.room (a.1, b.1) (by simp)
      rw [e1]; simpa using e2
    have h2 : fitsB S (addF (fun _ => 0) (usedP P)) [a.1, b.1] = true := by
      have := hg2.fits; rw [usedP_append] at this; exact fits_right this
    simp only [h1, h2]
    rw [addF_append, show usedP P ++ [a.1, b.1] = usedP (P ++ [(a.1, b.1)]) by rw [usedP_append]; rfl]
    simpa using hv

theorem addF_none : addF (fun _ => 0) (usedP []) = fun _ => 0 := addF_nil _
/-- the candidates are just the lists of pairs that can be had, with the idler that is needed -/
theorem mem_allP {S : List (Int × Int)} {tl : List T6} {o : Int} {same : Bool} {k : Nat} (hk : k ≤ 4) {v : Tri} (hv : v ∈ allP S tl o same k) : ∃ P, P.length < k ∧ IsCand S tl o same P v := by
  unfold allP at hv
  obtain ⟨j, hj, hv⟩ := List.mem_flatMap.1 hv
  have hj := List.mem_range.1 hj
  rw [← addF_none] at hv
  obtain ⟨Q, hQ, hc⟩ := cands_fwd j tri0 [] rep0 tri0_ok (by simp; omega) (good0 S tl o) v hv
  exact ⟨Q, by omega, by simpa using hc⟩
theorem allP_mem {S : List (Int × Int)} {tl : List T6} {o : Int} {same : Bool} {k : Nat} (hk : k ≤ 4) {P : List (Int × Int)} (hP : P.length < k) (hg : Good S tl o P) {i : Int} (hi : idlerI S (addF (fun _ => 0) (usedP P)) P.length same = (i, true)) :
    ∃ v ∈ allP S tl o same k, IsCand S tl o same P v ∧ v.i = i := by
  obtain ⟨v, hv, hc, hvi⟩ := cands_bwd (same := same) (i := i) P tri0 [] rep0 tri0_ok (by simp; omega) (by simpa using hg) (by simpa using hi)
  rw [addF_none] at hv
  exact ⟨v, List.mem_flatMap.2 ⟨P.length, List.mem_range.2 hP, hv⟩, by simpa using hc, hvi⟩
end Go.Proofs.Ytoiapnokgpeipaa
