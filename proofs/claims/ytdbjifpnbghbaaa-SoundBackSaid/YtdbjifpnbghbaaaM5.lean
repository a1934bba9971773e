/- Sound: heard from the other end: the line turned round has the same stretches, turned round. -/
import Derived.Test.YtdbjifpnbghbaaaM4
namespace Go.Proofs.Ytdbjifpnbghbaaa
set_option linter.unusedSimpArgs false
set_option linter.unusedVariables false

theorem rev_at (l : List Pi) {i : Nat} (hi : i < l.length) : l.reverse.getD i default = l.getD (l.length - 1 - i) default := by
  rw [List.getD, List.getD, List.getElem?_reverse hi]
theorem ok_rev (l : List Pi) : lineOk l.reverse = lineOk l := by
  unfold lineOk
  rw [List.length_reverse, List.all_reverse]
theorem pos_rev (l : List Pi) : ∀ i : Nat, i ≤ l.length → posF l.reverse i = endF l - posF l (l.length - i)
  | 0, _ => by
    have : posF l.reverse 0 = 0 := rfl
    rw [this, Nat.sub_zero]
    unfold endF
    omega
  | i + 1, hi => by
    have ih := pos_rev l i (by omega)
    have h1 : posF l.reverse (i + 1) = posF l.reverse i + (l.reverse.getD i default).len := rfl
    have e : l.length - i = (l.length - 1 - i) + 1 := by omega
    have h2 : posF l (l.length - i) = posF l (l.length - 1 - i) + (l.getD (l.length - 1 - i) default).len := by rw [e]; rfl
    rw [h1, ih, rev_at l (by omega), h2, show l.length - (i + 1) = l.length - 1 - i by omega]
    omega
theorem end_rev (l : List Pi) : endF l.reverse = endF l := by
  have := pos_rev l l.length (Nat.le_refl _)
  unfold endF at *
  rw [List.length_reverse, this, Nat.sub_self]
  have : posF l 0 = 0 := rfl
  omega
theorem near_rev (s : Int × Int) (h : s.1 ≤ s.2) (E n : Int) : nearF (E - s.2, E - s.1) (E - n) = E - nearF s n := by unfold nearF; simp only []; omega
theorem share_rev {l : List Pi} (hok : lineOk l = true) {i : Nat} (hi : i < l.length) (a b t : Int) : shareF l.reverse (endF l - b) (endF l - a) (endF l - t) i = - shareF l a b t (l.length - 1 - i) := by
  have h1 := pos_rev l i (by omega)
  have h2 := pos_rev l (i + 1) (by omega)
  have e1 : l.length - i = l.length - 1 - i + 1 := by omega
  have e2 : l.length - (i + 1) = l.length - 1 - i := by omega
  rw [e1] at h1
  rw [e2] at h2
  have hp := pipe_in hok (i := l.length - 1 - i) (by omega)
  have hs : posF l (l.length - 1 - i + 1) = posF l (l.length - 1 - i) + (l.getD (l.length - 1 - i) default).len := rfl
  have n1 := fun x => near_rev (posF l (l.length - 1 - i), posF l (l.length - 1 - i + 1)) (by simp only []; omega) (endF l) x
  simp only [] at n1
  unfold shareF
  simp only []
  rw [h1, h2, n1, n1, n1]
  omega
theorem of_rev (e : Bool) (n lo hi : Int) : ofF e (-n) lo hi = - ofF (!e) n lo hi := by
  unfold ofF
  cases e <;> simp [Int.neg_mul] <;> omega
/-- sums -/
def sumF (f : Nat → Int) : Nat → Int
  | 0 => 0
  | k + 1 => sumF f k + f k
theorem sum_first (f : Nat → Int) : ∀ n : Nat, sumF f (n + 1) = f 0 + sumF (fun i => f (i + 1)) n
  | 0 => by simp [sumF]
  | n + 1 => by
    have ih := sum_first f n
    have h1 : sumF f (n + 1 + 1) = sumF f (n + 1) + f (n + 1) := rfl
    have h2 : sumF (fun i => f (i + 1)) (n + 1) = sumF (fun i => f (i + 1)) n + f (n + 1) := rfl
    rw [h1, ih, h2]; omega
theorem sum_same {f g : Nat → Int} : ∀ n : Nat, (∀ i, i < n → f i = g i) → sumF f n = sumF g n
  | 0, _ => rfl
  | n + 1, h => by
    have := sum_same n (fun i hi => h i (by omega))
    simp only [sumF]
    rw [this, h n (by omega)]
theorem sum_rev (f : Nat → Int) : ∀ n : Nat, sumF (fun i => f (n - 1 - i)) n = sumF f n
  | 0 => rfl
  | n + 1 => by
    rw [sum_first]
    have ih := sum_rev f n
    have : sumF (fun i => f (n + 1 - 1 - (i + 1))) n = sumF (fun i => f (n - 1 - i)) n := sum_same n (fun i hi => by rw [show n + 1 - 1 - (i + 1) = n - 1 - i by omega])
    rw [this, ih]
    simp only [sumF]
    rw [show n + 1 - 1 - 0 = n by omega]
    omega
theorem lagUp_sum (e : Bool) (l : List Pi) (a b t : Int) : ∀ n : Nat, lagUp e l a b t n = sumF (fun i => ofF e (shareF l a b t i) (l.getD i default).lo (l.getD i default).hi) n
  | 0 => rfl
  | n + 1 => by
    have ih := lagUp_sum e l a b t n
    simp only [lagUp, sumF]
    rw [ih]
theorem sum_neg (f : Nat → Int) : ∀ n : Nat, sumF (fun i => - f i) n = - sumF f n
  | 0 => rfl
  | n + 1 => by
    have ih := sum_neg f n
    simp only [sumF]
    rw [ih]; omega
theorem lagF_rev {l : List Pi} (hok : lineOk l = true) (e : Bool) {a b : Int} (hab : a ≤ b) (t : Int) : lagF e l.reverse (endF l - b) (endF l - a) (endF l - t) = - lagF (!e) l a b t := by
  unfold lagF
  have hn : nearF (endF l - b, endF l - a) (endF l - t) = endF l - nearF (a, b) t := near_rev (a, b) hab (endF l) t
  rw [hn, lagUp_sum, lagUp_sum, List.length_reverse, ← sum_neg, ← sum_rev (fun i => -ofF (!e) (shareF l a b (nearF (a, b) t) i) (l.getD i default).lo (l.getD i default).hi)]
  refine sum_same _ (fun i hi => ?_)
  try simp only []
  rw [share_rev hok hi, rev_at l hi, of_rev]
theorem lags_rev {l : List Pi} (hok : lineOk l = true) {a b : Int} (hab : a ≤ b) (t : Int) : lagsF l.reverse (endF l - b) (endF l - a) (endF l - t) = (-(lagsF l a b t).2, -(lagsF l a b t).1) := by
  unfold lagsF
  rw [lagF_rev hok false hab, lagF_rev hok true hab]
  rfl
/-- a hearing from the other end -/
def backH (l : List Pi) (h : He) : He := ⟨endF l - h.b, endF l - h.a, -h.hi, -h.lo⟩
theorem hear_rev {l : List Pi} (h : He) (hh : hearOk l h = true) : hearOk l.reverse (backH l h) = true := by
  unfold hearOk backH at *
  simp only [Bool.and_eq_true, earsF_iff, withinF_iff, end_rev] at *
  omega
theorem allows_rev {l : List Pi} (hok : lineOk l = true) (h : He) (hh : hearOk l h = true) (p : Int) : allowsF l.reverse (backH l h) (endF l - p) = allowsF l h p := by
  have hab : h.a ≤ h.b := by
    unfold hearOk at hh
    simp only [Bool.and_eq_true, earsF_iff] at hh
    exact hh.1.2.1
  unfold allowsF backH
  simp only []
  rw [lags_rev hok hab]
  simp only []
  rw [Bool.eq_iff_iff]
  simp only [Bool.and_eq_true, decide_eq_true_eq]
  omega
theorem all_rev {l : List Pi} (hok : lineOk l = true) : ∀ (hs : List He), (∀ h ∈ hs, hearOk l h = true) → ∀ p, allPF l.reverse (hs.map (backH l)) (endF l - p) = allPF l hs p
  | [], _, _ => rfl
  | h :: hs, hh, p => by
    have ih := all_rev hok hs (fun x hx => hh x (List.mem_cons_of_mem _ hx)) p
    unfold allPF at *
    rw [List.map_cons, List.all_cons, List.all_cons, ih, allows_rev hok h (hh h List.mem_cons_self)]
/-- the stretch of pipe i -/
def strP (l : List Pi) (s : Int × Int) (i : Nat) : Option St := if min s.2 (posF l (i + 1)) < max s.1 (posF l i) then none else some ⟨i, max s.1 (posF l i) - posF l i, min s.2 (posF l (i + 1)) - posF l i⟩
theorem str_filter (l : List Pi) (s : Int × Int) : ∀ k : Nat, strUp l s k = (List.range k).filterMap (strP l s)
  | 0 => rfl
  | k + 1 => by
    have ih := str_filter l s k
    have hdef : strUp l s (k + 1) = if emptyF (cutF s [(posF l k, posF l (k + 1))]) then strUp l s k else strUp l s k ++ [⟨k, (cutF s [(posF l k, posF l (k + 1))]).1 - posF l k, (cutF s [(posF l k, posF l (k + 1))]).2 - posF l k⟩] := rfl
    rw [hdef, ih, List.range_succ, List.filterMap_append]
    unfold emptyF
    rw [(cutF_one _ _).1, (cutF_one _ _).2]
    by_cases h : min s.2 (posF l (k + 1)) < max s.1 (posF l k)
    · rw [if_pos (decide_eq_true h)]
      have : strP l s k = none := by unfold strP; rw [if_pos h]
      simp [this]
    · rw [if_neg (by simpa using h)]
      have : strP l s k = some ⟨k, max s.1 (posF l k) - posF l k, min s.2 (posF l (k + 1)) - posF l k⟩ := by unfold strP; rw [if_neg h]
      simp [this]
def mirF (l : List Pi) (x : St) : St := ⟨(l.length : Int) - 1 - x.p, (l.getD x.p.toNat default).len - x.b, (l.getD x.p.toNat default).len - x.a⟩
theorem strP_rev {l : List Pi} (hok : lineOk l = true) {s s' : Int × Int} (hss : ∀ p, 0 ≤ p → p ≤ endF l → (((s'.1 ≤ endF l - p) ∧ endF l - p ≤ s'.2) ↔ (s.1 ≤ p ∧ p ≤ s.2))) {i : Nat} (hi : i < l.length) :
    strP l.reverse s' i = (strP l s (l.length - 1 - i)).map (mirF l) := by
  have h1 := pos_rev l i (by omega)
  have h2 := pos_rev l (i + 1) (by omega)
  have e1 : l.length - i = l.length - 1 - i + 1 := by omega
  have e2 : l.length - (i + 1) = l.length - 1 - i := by omega
  rw [e1] at h1
  rw [e2] at h2
  obtain ⟨j, hj⟩ : ∃ j, l.length - 1 - i = j := ⟨_, rfl⟩
  rw [hj] at h1 h2 ⊢
  have hjl : j < l.length := by omega
  have hp := pipe_in hok hjl
  have hs : posF l (j + 1) = posF l j + (l.getD j default).len := rfl
  have hp0 := pos_small hok (i := j) (by omega)
  have hp1 := pos_mono hok (i := j + 1) (j := l.length) (by omega) (Nat.le_refl _)
  have hE : endF l = posF l l.length := rfl
  unfold strP
  rw [h1, h2]
  obtain ⟨A, B⟩ := s
  obtain ⟨A', B'⟩ := s'
  obtain ⟨E, hEe⟩ : ∃ E, endF l = E := ⟨_, rfl⟩
  obtain ⟨q, hq⟩ : ∃ q, posF l j = q := ⟨_, rfl⟩
  obtain ⟨q1, hq1⟩ : ∃ q, posF l (j + 1) = q := ⟨_, rfl⟩
  rw [hEe] at hss hE ⊢
  rw [hq, hq1] at hs ⊢
  rw [hq] at hp0
  rw [hq1] at hp1
  simp only [] at hss ⊢
  have k1 := hss (max A q)
  have k2 := hss (min B q1)
  have k3 := hss (E - max A' (E - q1))
  have k4 := hss (E - min B' (E - q))
  by_cases hc : min B q1 < max A q
  · rw [if_pos hc, if_pos (by omega)]
    rfl
  · rw [if_neg hc, if_neg (by omega)]
    have c1 : max A' (E - q1) = E - min B q1 := by omega
    have c2 : min B' (E - q) = E - max A q := by omega
    rw [c1, c2]
    simp only [Option.map_some, Option.some.injEq]
    unfold mirF
    simp only [Int.toNat_natCast, St.mk.injEq]
    omega
theorem filter_same {α β : Type} {f g : α → Option β} : ∀ (L : List α), (∀ x ∈ L, f x = g x) → L.filterMap f = L.filterMap g
  | [], _ => rfl
  | x :: L, h => by
    have ih := filter_same L (fun y hy => h y (List.mem_cons_of_mem _ hy))
    rw [List.filterMap_cons, List.filterMap_cons, h x List.mem_cons_self, ih]
theorem str_rev {l : List Pi} (hok : lineOk l = true) {s s' : Int × Int} (hss : ∀ p, 0 ≤ p → p ≤ endF l → (((s'.1 ≤ endF l - p) ∧ endF l - p ≤ s'.2) ↔ (s.1 ≤ p ∧ p ≤ s.2))) :
    strUp l.reverse s' l.length = ((strUp l s l.length).map (mirF l)).reverse := by
  have hr : (List.range l.length).map (fun i => l.length - 1 - i) = (List.range l.length).reverse := by
    refine List.ext_getElem (by simp) (fun i h1 h2 => ?_)
    simp
  rw [str_filter, str_filter, List.map_filterMap, ← List.filterMap_reverse, ← hr, List.filterMap_map]
  refine filter_same _ (fun i hi => ?_)
  rw [List.mem_range] at hi
  exact strP_rev hok hss hi
theorem where_rev {l : List Pi} (hok : lineOk l = true) {hs : List He} (hh : ∀ h ∈ hs, hearOk l h = true) : whereF l.reverse (hs.map (backH l)) = (((whereF l hs).1.map (mirF l)).reverse, (whereF l hs).2) := by
  have hsp : ∀ p, 0 ≤ p → p ≤ endF l → ((((spanF l.reverse (hs.map (backH l))).1 ≤ endF l - p) ∧ endF l - p ≤ (spanF l.reverse (hs.map (backH l))).2) ↔ ((spanF l hs).1 ≤ p ∧ p ≤ (spanF l hs).2)) := fun p h0 h1 => by
    rw [← allP_iff (by rw [ok_rev]; exact hok) _ (by omega) (by rw [end_rev]; omega), all_rev hok hs hh p, allP_iff hok hs h0 h1]
  have hst := str_rev hok hsp
  have h1 : hs.all (hearOk l) = true := by rw [List.all_eq_true]; exact hh
  have h2 : (hs.map (backH l)).all (hearOk l.reverse) = true := by
    rw [List.all_eq_true]
    intro x hx
    obtain ⟨y, hy, rfl⟩ := List.mem_map.1 hx
    exact hear_rev y (hh y hy)
  have hw : ∀ (l : List Pi) (hs : List He), whereF l hs = if lineOk l then (if hs.length ≤ 8 then (if hs.all (hearOk l) then
    (if strUp l (spanF l hs) l.length = [] then ([], 4) else (strUp l (spanF l hs) l.length, 0)) else ([], 2)) else ([], 3)) else ([], 1) := fun _ _ => rfl
  rw [hw, hw, ok_rev, if_pos hok, if_pos hok, List.length_map]
  by_cases h8 : hs.length ≤ 8
  · rw [if_pos h8, if_pos h8, if_pos h1, if_pos h2, List.length_reverse, hst]
    by_cases he : strUp l (spanF l hs) l.length = []
    · rw [he]; rfl
    · rw [if_neg he, if_neg (by simpa using he)]
  · rw [if_neg h8, if_neg h8]; rfl
end Go.Proofs.Ytdbjifpnbghbaaa
