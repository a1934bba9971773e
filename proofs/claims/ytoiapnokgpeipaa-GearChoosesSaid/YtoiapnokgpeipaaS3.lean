/- Candidates can be built, and what can be built is a candidate. Plain lists and numbers. -/
import Derived.Test.YtoiapnokgpeipaaS2
namespace Go.Proofs.Ytoiapnokgpeipaa
set_option linter.unusedSimpArgs false
open Go.RowKit

theorem stock_row {S : List (Int × Int)} (h : stockB S = true) {i : Nat} (hi : i < S.length) : 6 ≤ S[i].1 ∧ S[i].1 ≤ 100 ∧ 0 ≤ S[i].2 ∧ S[i].2 ≤ 4 := by
  have h1 := (of_decide_eq_true h).2 i hi
  have h2 : S.getD i (0, 0) = S[i] := by simp [hi]
  unfold rowB at h1
  rw [h2] at h1
  have := of_decide_eq_true h1
  exact ⟨this.1, this.2.1, this.2.2.1, this.2.2.2.1⟩
theorem stock_next {S : List (Int × Int)} (h : stockB S = true) {i : Nat} (hi : i + 1 < S.length) : S[i].1 < S[i + 1].1 := by
  have h1 := (of_decide_eq_true h).2 (i + 1) hi
  have h2 : S.getD (i + 1) (0, 0) = S[i + 1] := by simp [hi]
  have h3 : S.getD i (0, 0) = S[i] := by simp [show i < S.length by omega]
  unfold rowB at h1
  rw [h2, Nat.add_sub_cancel, h3] at h1
  have := of_decide_eq_true h1
  rcases this.2.2.2.2 with h | h
  · omega
  · exact h
theorem stock_lt {S : List (Int × Int)} (h : stockB S = true) {i : Nat} : ∀ (j : Nat) (hj : j < S.length) (hij : i < j), S[i].1 < S[j].1
  | j + 1, hj, hij => by
    have := stock_next h hj
    by_cases e : i = j
    · subst e; exact this
    · have := stock_lt h (i := i) j (by omega) (by omega); omega
theorem stock_held {S : List (Int × Int)} (h : stockB S = true) {x : Int × Int} (hx : x ∈ S) : heldI S x.1 = x.2 := by
  obtain ⟨i, hi, rfl⟩ := List.getElem_of_mem hx
  refine heldI_hit hi ?_ (by simp)
  rw [List.find?_eq_none]
  intro y hy
  obtain ⟨j, hj, rfl⟩ := List.getElem_of_mem hy
  rw [List.length_take] at hj
  have hlt := stock_lt h (i := j) i hi (by omega)
  rw [List.getElem_take]
  simp; omega
theorem held_mem {S : List (Int × Int)} {t : Int} (h : 0 < heldI S t) : ∃ x ∈ S, x.1 = t := by
  unfold heldI at h
  cases hf : S.find? (fun x => x.1 == t) with
  | none => rw [hf] at h; simp at h
  | some y => exact ⟨y, List.mem_of_find?_eq_some hf, by have := List.find?_some hf; simpa using this⟩
theorem mem_tlOf {S : List (Int × Int)} (h : stockB S = true) {x : Int} (hx : 6 ≤ x ∧ x ≤ 100) : (⟨x, hx⟩ : T6) ∈ tlOf S ↔ ∃ y ∈ S, y.1 = x := by
  unfold tlOf
  rw [List.mem_map]
  constructor
  · rintro ⟨y, hy, e⟩
    have hb := stockB_teeth h y hy
    rw [dif_pos hb] at e
    exact ⟨y, hy, by have := congrArg Subtype.val e; simpa using this⟩
  · rintro ⟨y, hy, rfl⟩
    exact ⟨y, hy, by rw [dif_pos (stockB_teeth h y hy)]⟩

/-- the least wheel that is left -/
theorem spare_spec {S : List (Int × Int)} (h : stockB S = true) {f : Int → Int} : (spareI S f = 0 ∧ ∀ x ∈ S, ¬ f x.1 < x.2) ∨ ∃ x ∈ S, f x.1 < x.2 ∧ spareI S f = x.1 ∧ ∀ y ∈ S, f y.1 < y.2 → x.1 ≤ y.1 := by
  unfold spareI
  cases hf : S.find? (fun x => decide (f x.1 < x.2)) with
  | none =>
    left
    exact ⟨rfl, fun x hx => by have := List.find?_eq_none.1 hf x hx; simpa using this⟩
  | some x =>
    right
    have hx := List.mem_of_find?_eq_some hf
    have h1 := List.find?_some hf
    refine ⟨x, hx, by simpa using h1, rfl, fun y hy hyl => ?_⟩
    obtain ⟨h2, la, bs, hS, has⟩ := List.find?_eq_some_iff_append.1 hf
    by_cases hy2 : y ∈ la
    · have := has y hy2; simp at this; omega
    · have hmem : y = x ∨ y ∈ bs := by
        rw [hS] at hy
        rcases List.mem_append.1 hy with hy | hy
        · exact absurd hy hy2
        · simpa using hy
      rcases hmem with rfl | hb
      · omega
      · obtain ⟨j, hj, rfl⟩ := List.getElem_of_mem hb
        have e1 : S[la.length]? = some x := by rw [hS]; simp
        have e2 : S[la.length + 1 + j]? = some bs[j] := by rw [hS, List.getElem?_append_right (by omega)]; simp [show la.length + 1 + j - la.length = j + 1 by omega, hj]
        obtain ⟨k1, g1⟩ := List.getElem?_eq_some_iff.1 e1
        obtain ⟨k2, g2⟩ := List.getElem?_eq_some_iff.1 e2
        have := stock_lt h (i := la.length) (la.length + 1 + j) k2 (by omega)
        rw [g1, g2] at this
        omega

theorem turns_flip (p i : Int) (hp : 0 ≤ p) (hi : i ≠ 0) : turnsB p i = !turnsB p 0 := by
  unfold turnsB
  rw [if_neg hi, if_pos rfl, Int.add_zero, Int.tmod_eq_emod_of_nonneg hp, Int.tmod_eq_emod_of_nonneg (by omega)]
  by_cases h : p % 2 = 0
  · have : (p + 1) % 2 = 1 := by omega
    rw [h, this]; rfl
  · have h1 : p % 2 = 1 := by omega
    have : (p + 1) % 2 = 0 := by omega
    rw [h1, this]; rfl

/-- the idler that a list of pairs needs -/
theorem idler_ok {S : List (Int × Int)} {f : Int → Int} {n : Nat} {same : Bool} {i : Int} (h : idlerI S f n same = (i, true)) :
    turnsB n i = same ∧ (i = 0 ∨ (n ≠ 0 ∧ i = spareI S f ∧ i ≠ 0)) := by
  unfold idlerI at h
  split at h
  · rename_i ht
    simp only [Prod.mk.injEq, and_true] at h
    subst h
    exact ⟨ht, .inl rfl⟩
  · rename_i ht
    split at h
    · simp at h
    · rename_i hn
      simp only [Prod.mk.injEq] at h
      obtain ⟨rfl, h2⟩ := h
      have h0 : spareI S f ≠ 0 := by simpa using h2
      refine ⟨?_, .inr ⟨by omega, rfl, h0⟩⟩
      rw [turns_flip n _ (by omega) h0]
      cases ht2 : turnsB n 0 <;> cases same <;> simp_all

theorem good_range {S : List (Int × Int)} {tl : List T6} {o : Int} {P : List (Int × Int)} (h : Good S tl o P) : ∀ x ∈ P, (6 ≤ x.1 ∧ x.1 ≤ 100) ∧ (6 ≤ x.2 ∧ x.2 ≤ 100) := by
  intro x hx
  obtain ⟨a, _, b, _, rfl⟩ := h.kinds x hx
  exact ⟨a.2, b.2⟩
theorem pairsErr_ok {P : List (Int × Int)} {p o : Int} (hl : (P.length : Int) ≤ p) (h : ∀ x ∈ P, (6 ≤ x.1 ∧ x.1 ≤ 100) ∧ (6 ≤ x.2 ∧ x.2 ≤ 100) ∧ x.1 + x.2 ≤ o) : pairsErr P p o = 0 := by
  refine pairsErr_none (by omega) ?_
  rw [List.find?_eq_none]
  intro x hx
  obtain ⟨h1, h2, h3⟩ := h x hx
  have : pairErr o x = 0 := by
    unfold pairErr
    rw [if_pos (by simp [teethB, h1, h2]), if_neg (by omega)]
  simp [this]

theorem usedL_fits {S : List (Int × Int)} (hS : stockB S = true) {P : List (Int × Int)} {i : Int} (h1 : fitsB S (fun _ => 0) (usedP P) = true) (h2 : i = 0 ∨ ∃ x ∈ S, addF (fun _ => 0) (usedP P) x.1 < x.2 ∧ i = x.1) : fitsB S (fun _ => 0) (usedL P i) = true := by
  unfold usedL
  by_cases h0 : i = 0
  · rw [if_pos h0, List.append_nil]; exact h1
  · rw [if_neg h0]
    obtain ⟨x, hx, hlt, rfl⟩ := h2.resolve_left h0
    refine fits_both h1 (fitsF_iff.2 ?_)
    intro y hy
    obtain rfl := List.mem_singleton.1 hy
    rw [stock_held hS hx]; simp; omega

theorem cand_able {S : List (Int × Int)} (hS : stockB S = true) {p o : Int} {same : Bool} {P : List (Int × Int)} {v : Tri} (hc : IsCand S (tlOf S) o same P v) (hl : (P.length : Int) ≤ p) : ableC S p o same P v.i = 0 := by
  have hr := good_range hc.good
  have hpe := pairsErr_ok (p := p) (o := o) hl (fun x hx => ⟨(hr x hx).1, (hr x hx).2, hc.good.room x hx⟩)
  obtain ⟨ht, hi⟩ := idler_ok hc.idler
  have hsp : v.i = 0 ∨ ∃ x ∈ S, addF (fun _ => 0) (usedP P) x.1 < x.2 ∧ v.i = x.1 := by
    rcases hi with h | ⟨_, h1, h2⟩
    · exact .inl h
    · rcases spare_spec hS (f := addF (fun _ => 0) (usedP P)) with ⟨h3, _⟩ | ⟨x, hx, h3, h4, _⟩
      · exact .inl (by omega)
      · exact .inr ⟨x, hx, h3, by omega⟩
  have hte : v.i = 0 ∨ teethB v.i = true := by
    rcases hsp with h | ⟨x, hx, _, h⟩
    · exact .inl h
    · exact .inr (by rw [h]; exact decide_eq_true (stockB_teeth hS x hx))
  have hut := usedL_teeth hr hte
  have hsh := short_fits hS hut
  rw [usedL_fits hS hc.good.fits hsp] at hsh
  unfold ableC
  rw [if_neg (by simp [hpe]), if_neg, if_neg, if_neg (by rw [hsh]; simp), if_neg (by simp [ht])]
  · rintro ⟨h1, h2⟩
    rcases hte with h | h
    · exact h1 h
    · rw [h] at h2; cases h2
  · rintro ⟨h1, h2⟩
    rcases hi with h | ⟨h, _⟩
    · exact h1 h
    · exact h h2

/-- what can be built, sorted, is a candidate, with an idler that is no greater -/
theorem able_cand {S : List (Int × Int)} (hS : stockB S = true) {p o : Int} {same : Bool} {P : List (Int × Int)} {i : Int} (hs : SortedP P) (h : ableC S p o same P i = 0) :
    (P.length : Int) ≤ p ∧ Good S (tlOf S) o P ∧ ∃ j, idlerI S (addF (fun _ => 0) (usedP P)) P.length same = (j, true) ∧ (j = 0 ↔ i = 0) ∧ j ≤ i := by
  obtain ⟨hpe, hn1, hn2, hsh, ht⟩ := ableC_zero h
  obtain ⟨hl, hm⟩ := pairsErr_zero hpe
  have hte : i = 0 ∨ teethB i = true := by
    by_cases h0 : i = 0
    · exact .inl h0
    · exact .inr (by simpa [h0] using hn2)
  have hut := usedL_teeth (P := P) (i := i) (fun x hx => ⟨(hm x hx).1, (hm x hx).2.1⟩) hte
  have hsf := short_fits hS hut
  rw [hsh] at hsf
  have hf : fitsB S (fun _ => 0) (usedL P i) = true := by simpa using hsf.symm
  have hfp : fitsB S (fun _ => 0) (usedP P) = true := by unfold usedL at hf; exact fits_left hf
  have hkind : ∀ y ∈ usedP P, ∃ x ∈ S, x.1 = y := by
    intro y hy
    have := fitsF_iff.1 hfp y hy
    have hc : 0 < (usedP P).count y := List.count_pos_iff.2 hy
    exact held_mem (by omega)
  have hg : Good S (tlOf S) o P := by
    refine ⟨hs, fun x hx => ?_, fun x hx => (hm x hx).2.2, hfp⟩
    have m1 : x.1 ∈ usedP P := by unfold usedP; exact List.mem_flatMap.2 ⟨x, hx, by simp⟩
    have m2 : x.2 ∈ usedP P := by unfold usedP; exact List.mem_flatMap.2 ⟨x, hx, by simp⟩
    exact ⟨⟨x.1, (hm x hx).1⟩, (mem_tlOf hS _).2 (hkind _ m1), ⟨x.2, (hm x hx).2.1⟩, (mem_tlOf hS _).2 (hkind _ m2), rfl⟩
  refine ⟨hl, hg, ?_⟩
  by_cases h0 : i = 0
  · subst h0
    refine ⟨0, ?_, Iff.rfl, Int.le_refl _⟩
    unfold idlerI
    rw [if_pos ht]
  · have hne : ¬ turnsB P.length 0 = same := by
      rw [turns_flip _ i (by omega) h0] at ht
      intro e; rw [e] at ht; cases same <;> simp at ht
    have hn0 : ¬ ((P.length : Int) = 0) := fun e => hn1 ⟨h0, by omega⟩
    have hib : 6 ≤ i ∧ i ≤ 100 := of_decide_eq_true (hte.resolve_left h0)
    have hfi : addF (fun _ => 0) (usedP P) i < heldI S i := by
      unfold usedL at hf
      rw [if_neg h0] at hf
      have := fitsF_iff.1 (fits_right hf) i (by simp)
      simp at this; omega
    have hip : 0 ≤ addF (fun _ => 0) (usedP P) i := by simp only [addF]; omega
    obtain ⟨x, hx, hxi⟩ := held_mem (S := S) (t := i) (by omega)
    have hxl : addF (fun _ => 0) (usedP P) x.1 < x.2 := by rw [← stock_held hS hx, hxi]; exact hfi
    rcases spare_spec hS (f := addF (fun _ => 0) (usedP P)) with ⟨_, h4⟩ | ⟨y, hy, _, h4, h5⟩
    · exact absurd hxl (h4 x hx)
    · have hyb := stockB_teeth hS y hy
      refine ⟨y.1, ?_, by omega, by have := h5 x hx hxl; omega⟩
      unfold idlerI
      rw [if_neg hne, if_neg hn0, h4]
      simp; omega
end Go.Proofs.Ytoiapnokgpeipaa
