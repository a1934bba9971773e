/- Term: seals balance (the mathematics of TermBalance). -/
import Derived.Test.YtcmfplfnpjknlaaM4
import Derived.Test.YtcmfplfnpjknlaaA28
namespace Go.Proofs.Ytcmfplfnpjknlaa
set_option linter.unusedSimpArgs false
set_option linter.unusedVariables false
open Go.RowKit

theorem count_le_range : ∀ (n : Nat) (lo : Int) (l : List Int), l.Nodup → (∀ x ∈ l, lo ≤ x ∧ x < lo + n) → l.length ≤ n
  | 0, lo, l, _, h => by
    cases l with
    | nil => simp
    | cons a l => have := h a (by simp); omega
  | n + 1, lo, l, hn, h => by
    have h1 : (l.erase lo).length ≤ n := count_le_range n (lo + 1) (l.erase lo) (hn.erase _) (fun x hx => by
      have hx2 := (List.Nodup.mem_erase_iff hn).1 hx
      have := h x hx2.2
      omega)
    have h2 := List.length_erase (a := lo) (l := l)
    split at h2 <;> omega
/-- the broken seals of a row by a day are no more than its seals -/
theorem gone_size {bs : List (Int × Int)} (hn : (bs.map (·.1)).Nodup) (r : Row) (hr : r.lo ≤ r.hi) (d : Int) : (goneF bs r d : Int) ≤ sizeF r := by
  have h1 : goneF bs r d ≤ bs.countP (fun b => hasF r b.1) := by
    unfold goneF
    exact List.countP_mono_left (fun b _ hb => by simp only [Bool.and_eq_true] at hb; exact hb.1)
  have h2 : bs.countP (fun b => hasF r b.1) = ((bs.map (·.1)).filter (fun n => hasF r n)).length := by
    rw [← List.countP_eq_length_filter, List.countP_map]; rfl
  have hnd : ((bs.map (fun b : Int × Int => b.1)).filter (fun n => hasF r n)).Nodup := List.Pairwise.filter _ hn
  have h3 := count_le_range (r.hi - r.lo + 1).toNat r.lo ((bs.map (fun b : Int × Int => b.1)).filter (fun n => hasF r n)) hnd (fun x hx => by
    have := (List.mem_filter.1 hx).2
    unfold hasF at this
    rw [inF_iff] at this
    omega)
  unfold sizeF
  omega
theorem nodup_of_takes : ∀ (bs : List (Int × Int)), (∀ i, i < bs.length → (bs.take i).any (fun b => b.1 == bs[i]!.1) = false) → (bs.map (·.1)).Nodup := by
  intro bs h
  rw [List.nodup_iff_pairwise_ne, List.pairwise_iff_getElem]
  intro i j hi hj hij
  rw [List.length_map] at hi hj
  have hb := h j hj
  rw [List.any_eq_false] at hb
  have hm : bs[i] ∈ bs.take j := by
    rw [List.mem_take_iff_getElem]
    exact ⟨i, by omega, rfl⟩
  have := hb _ hm
  rw [getElem!_pos bs j hj] at this
  rw [List.getElem_map, List.getElem_map]
  intro e
  exact this (by simp [e])
/-- only one row has the seal -/
def OneHas (rs : List Row) (k : Nat) (n : Int) : Prop := k < rs.length ∧ ∀ i, i < rs.length → (hasF rs[i]! n = true ↔ i = k)
theorem rows_apart {s : Stk} (h0 : (termsF s).2.1 = 0) {i j : Nat} (hi : i < s.rs.length) (hj : j < i) {n : Int} (h1 : hasF s.rs[i]! n = true) (h2 : hasF s.rs[j]! n = true) : False := by
  obtain ⟨hok, hr, _, _⟩ := right_parts h0
  have h := firstErr_all _ _ hr i hi
  rw [Nat.zero_add] at h
  split at h
  · omega
  · rename_i hb
    unfold rowBad at hb
    have hb2 : (s.rs.take i).any (fun r => meetsF r s.rs[i]!) = false := by
      cases hx : (s.rs.take i).any (fun r => meetsF r s.rs[i]!) with
      | true => exact absurd hx hb
      | false => rfl
    rw [List.any_eq_false] at hb2
    have hm : s.rs[j]! ∈ s.rs.take i := by
      rw [List.mem_take_iff_getElem]
      exact ⟨j, by omega, (getElem!_pos s.rs j (by omega)).symm⟩
    have := hb2 _ hm
    unfold hasF at h1 h2
    rw [inF_iff] at h1 h2
    unfold meetsF at this
    simp only [Bool.and_eq_true, decide_eq_true_eq] at this
    omega
theorem one_has {s : Stk} (h0 : (termsF s).2.1 = 0) {k : Nat} {n : Int} (hk : rowIx s.rs n = some k) : OneHas s.rs k n := by
  obtain ⟨hl, hh⟩ := rowIx_lt hk
  refine ⟨hl, fun i hi => ⟨fun h => ?_, fun e => by rw [e]; exact hh⟩⟩
  rcases Nat.lt_trichotomy i k with h1 | h1 | h1
  · exact (rows_apart h0 hl h1 hh h).elim
  · exact h1
  · exact (rows_apart h0 hi h1 h hh).elim
/-- a broken seal of a row is broken from the row's day on -/
theorem brk_row {s : Stk} (h0 : (termsF s).2.1 = 0) {i : Nat} (hi : i < s.rs.length) {b : Int × Int} (hb : b ∈ s.bs) (hh : hasF s.rs[i]! b.1 = true) : s.rs[i]!.day ≤ b.2 := by
  obtain ⟨j, hj, rfl⟩ := List.getElem_of_mem hb
  obtain ⟨k, hk, hd, _⟩ := brk_at h0 hj
  rw [getElem!_pos s.bs j hj] at hk hd
  have := ((one_has h0 hk).2 i hi).1 hh
  rw [this]; exact hd
/-- sums over a list -/
def sumF {α : Type} (f : α → Int) (l : List α) : Int := (l.map f).sum
theorem sumF_nil {α : Type} (f : α → Int) : sumF f [] = 0 := rfl
theorem sumF_cons {α : Type} (f : α → Int) (x : α) (l : List α) : sumF f (x :: l) = f x + sumF f l := by simp [sumF]
theorem sumF_congr {α : Type} {f g : α → Int} : ∀ {l : List α}, (∀ x ∈ l, f x = g x) → sumF f l = sumF g l
  | [], _ => rfl
  | x :: l, h => by rw [sumF_cons, sumF_cons, h x (by simp), sumF_congr (fun y hy => h y (by simp [hy]))]
theorem sumF_add {α : Type} (f g : α → Int) : ∀ l : List α, sumF (fun x => f x + g x) l = sumF f l + sumF g l
  | [] => rfl
  | x :: l => by rw [sumF_cons, sumF_cons, sumF_cons, sumF_add f g l]; omega
theorem sumF_neg {α : Type} (f : α → Int) : ∀ l : List α, sumF (fun x => - f x) l = - sumF f l
  | [] => rfl
  | x :: l => by rw [sumF_cons, sumF_cons, sumF_neg f l]; omega
theorem sumF_nonneg {α : Type} {f : α → Int} : ∀ {l : List α}, (∀ x ∈ l, 0 ≤ f x) → 0 ≤ sumF f l
  | [], _ => by simp [sumF]
  | x :: l, h => by
    have h1 := h x (by simp)
    have h2 := sumF_nonneg (fun y hy => h y (List.mem_cons_of_mem _ hy)) (l := l) (f := f)
    rw [sumF_cons]; omega
theorem sumF_le {α : Type} {f : α → Int} {c : Int} : ∀ {l : List α}, (∀ x ∈ l, f x ≤ c) → sumF f l ≤ l.length * c
  | [], _ => by simp [sumF]
  | x :: l, h => by
    have h1 := h x (by simp)
    have h2 := sumF_le (fun y hy => h y (List.mem_cons_of_mem _ hy)) (l := l) (f := f) (c := c)
    rw [sumF_cons, List.length_cons]; push_cast; rw [Int.add_mul]; omega
abbrev RT := Row × (Int × Int)
def n0 (bs : List (Int × Int)) (day : Int) (x : RT) : Int := if standsF x.1 x.2.1 day = 0 then wholeF bs x.1 day else 0
def n1 (bs : List (Int × Int)) (day : Int) (x : RT) : Int := if standsF x.1 x.2.1 day = 1 then wholeF bs x.1 day else 0
def n2 (bs : List (Int × Int)) (day : Int) (x : RT) : Int := if standsF x.1 x.2.1 day = 2 then wholeF bs x.1 day else 0
def n3 (bs : List (Int × Int)) (day : Int) (x : RT) : Int := (goneF bs x.1 day : Int)
theorem tally_sum (bs : List (Int × Int)) (day : Int) : ∀ (l : List RT) (a b c d : Int), l.foldl (tallyF bs day) (a, b, c, d) = (a + sumF (n0 bs day) l, b + sumF (n1 bs day) l, c + sumF (n2 bs day) l, d + sumF (n3 bs day) l)
  | [], a, b, c, d => by simp [sumF]
  | x :: l, a, b, c, d => by
    have e : tallyF bs day (a, b, c, d) x = (a + n0 bs day x, b + n1 bs day x, c + n2 bs day x, d + n3 bs day x) := by
      unfold tallyF n0 n1 n2 n3
      simp only []
      congr 1
      · split <;> simp
      · congr 1
        · split <;> simp
        · congr 1
          split <;> simp
    rw [List.foldl_cons, e, tally_sum bs day l]
    simp only [sumF_cons, Int.add_assoc]
theorem stands_cases (r : Row) (e day : Int) : (standsF r e day = 0 ∧ day < r.day) ∨ (standsF r e day = 1 ∧ r.day ≤ day ∧ day < e) ∨ (standsF r e day = 2 ∧ r.day ≤ day ∧ e ≤ day) := by
  unfold standsF
  split
  · left; exact ⟨rfl, by assumption⟩
  · split
    · right; left; exact ⟨rfl, by omega, by assumption⟩
    · right; right; exact ⟨rfl, by omega, by omega⟩
theorem ns_all (bs : List (Int × Int)) (day : Int) (x : RT) : n0 bs day x + n1 bs day x + n2 bs day x + n3 bs day x = sizeF x.1 := by
  unfold n0 n1 n2 n3 wholeF
  rcases stands_cases x.1 x.2.1 day with ⟨h, _⟩ | ⟨h, _⟩ | ⟨h, _⟩ <;> rw [h] <;> simp <;> omega
/-- seals of a row that are broken on the day -/
def onF (bs : List (Int × Int)) (r : Row) (d : Int) : Nat := bs.countP (fun b => hasF r b.1 && decide (b.2 = d))
theorem gone_next (r : Row) (d : Int) : ∀ bs : List (Int × Int), goneF bs r (d + 1) = goneF bs r d + onF bs r (d + 1)
  | [] => rfl
  | b :: bs => by
    have ih := gone_next r d bs
    unfold goneF onF at *
    rw [List.countP_cons, List.countP_cons, List.countP_cons, ih]
    cases hasF r b.1 with
    | false => simp
    | true =>
      simp only [Bool.true_and, decide_eq_true_eq]
      split <;> split <;> split <;> omega
structure RowFacts (bs : List (Int × Int)) (x : RT) : Prop where
  lo : x.1.lo ≤ x.1.hi
  late : x.1.day < x.2.1
  brk : ∀ b ∈ bs, hasF x.1 b.1 = true → x.1.day ≤ b.2
theorem gone_none {bs : List (Int × Int)} {x : RT} (h : RowFacts bs x) {d : Int} (hd : d < x.1.day) : goneF bs x.1 d = 0 := by
  unfold goneF
  rw [List.countP_eq_zero]
  intro b hb
  simp only [Bool.and_eq_true, decide_eq_true_eq, not_and]
  intro h1
  have := h.brk b hb h1
  omega
theorem on_none {bs : List (Int × Int)} {x : RT} (h : RowFacts bs x) {d : Int} (hd : d < x.1.day) : onF bs x.1 d = 0 := by
  unfold onF
  rw [List.countP_eq_zero]
  intro b hb
  simp only [Bool.and_eq_true, decide_eq_true_eq, not_and]
  intro h1
  have := h.brk b hb h1
  omega
def putN (d : Int) (r : Row) : Int := if r.day = d + 1 then sizeF r else 0
def endN (bs : List (Int × Int)) (d : Int) (x : RT) : Int := if x.2.1 = d + 1 then wholeF bs x.1 x.2.1 else 0
def brkN (bs : List (Int × Int)) (d : Int) (x : RT) : Int := if d + 1 ≤ x.2.1 then (onF bs x.1 (d + 1) : Int) else 0
theorem row_sealed {bs : List (Int × Int)} {x : RT} (h : RowFacts bs x) (d : Int) : n1 bs (d + 1) x = n1 bs d x + (putN d x.1 + (- brkN bs d x + - endN bs d x)) := by
  have hg := gone_next x.1 d bs
  have hl := h.late
  have g1 := fun (hd : d < x.1.day) => gone_none h hd
  have g2 := fun (hd : d + 1 < x.1.day) => on_none h hd
  unfold n1 putN brkN endN wholeF
  by_cases c1 : d + 1 < x.1.day
  · have g3 := g2 c1
    have e1 : standsF x.1 x.2.1 d = 0 := by rcases stands_cases x.1 x.2.1 d with ⟨h, _⟩ | ⟨h, _⟩ | ⟨h, _⟩ <;> omega
    have e2 : standsF x.1 x.2.1 (d + 1) = 0 := by rcases stands_cases x.1 x.2.1 (d + 1) with ⟨h, _⟩ | ⟨h, _⟩ | ⟨h, _⟩ <;> omega
    rw [e1, e2, if_neg (by decide), if_neg (by decide), if_neg (by omega), if_neg (by omega : ¬ x.2.1 = d + 1)]
    split <;> omega
  · by_cases c2 : x.1.day = d + 1
    · have g3 := g1 (by omega)
      have e1 : standsF x.1 x.2.1 d = 0 := by rcases stands_cases x.1 x.2.1 d with ⟨h, _⟩ | ⟨h, _⟩ | ⟨h, _⟩ <;> omega
      have e2 : standsF x.1 x.2.1 (d + 1) = 1 := by rcases stands_cases x.1 x.2.1 (d + 1) with ⟨h, _⟩ | ⟨h, _⟩ | ⟨h, _⟩ <;> omega
      rw [e1, e2, if_pos rfl, if_neg (by decide), if_pos c2, if_pos (by omega : d + 1 ≤ x.2.1), if_neg (by omega : ¬ x.2.1 = d + 1)]
      omega
    · by_cases c3 : d + 1 < x.2.1
      · have e1 : standsF x.1 x.2.1 d = 1 := by rcases stands_cases x.1 x.2.1 d with ⟨h, _⟩ | ⟨h, _⟩ | ⟨h, _⟩ <;> omega
        have e2 : standsF x.1 x.2.1 (d + 1) = 1 := by rcases stands_cases x.1 x.2.1 (d + 1) with ⟨h, _⟩ | ⟨h, _⟩ | ⟨h, _⟩ <;> omega
        rw [e1, e2, if_pos rfl, if_pos rfl, if_neg c2, if_pos (by omega : d + 1 ≤ x.2.1), if_neg (by omega : ¬ x.2.1 = d + 1)]
        omega
      · by_cases c4 : x.2.1 = d + 1
        · have e1 : standsF x.1 x.2.1 d = 1 := by rcases stands_cases x.1 x.2.1 d with ⟨h, _⟩ | ⟨h, _⟩ | ⟨h, _⟩ <;> omega
          have e2 : standsF x.1 x.2.1 (d + 1) = 2 := by rcases stands_cases x.1 x.2.1 (d + 1) with ⟨h, _⟩ | ⟨h, _⟩ | ⟨h, _⟩ <;> omega
          rw [e1, e2, if_neg (by decide), if_pos rfl, if_neg c2, if_pos (by omega : d + 1 ≤ x.2.1), if_pos c4, c4]
          omega
        · have e1 : standsF x.1 x.2.1 d = 2 := by rcases stands_cases x.1 x.2.1 d with ⟨h, _⟩ | ⟨h, _⟩ | ⟨h, _⟩ <;> omega
          have e2 : standsF x.1 x.2.1 (d + 1) = 2 := by rcases stands_cases x.1 x.2.1 (d + 1) with ⟨h, _⟩ | ⟨h, _⟩ | ⟨h, _⟩ <;> omega
          rw [e1, e2, if_neg (by decide), if_neg c2, if_neg (by omega : ¬ d + 1 ≤ x.2.1), if_neg c4]
          omega
theorem row_notyet {bs : List (Int × Int)} {x : RT} (h : RowFacts bs x) (d : Int) : n0 bs (d + 1) x = n0 bs d x + - putN d x.1 := by
  have g1 := fun (hd : d < x.1.day) => gone_none h hd
  have g2 := fun (hd : d + 1 < x.1.day) => gone_none h hd
  unfold n0 putN wholeF
  by_cases c1 : d + 1 < x.1.day
  · have e1 : standsF x.1 x.2.1 d = 0 := by rcases stands_cases x.1 x.2.1 d with ⟨h, _⟩ | ⟨h, _⟩ | ⟨h, _⟩ <;> omega
    have e2 : standsF x.1 x.2.1 (d + 1) = 0 := by rcases stands_cases x.1 x.2.1 (d + 1) with ⟨h, _⟩ | ⟨h, _⟩ | ⟨h, _⟩ <;> omega
    rw [e1, e2, if_pos rfl, if_pos rfl, if_neg (by omega), g1 (by omega), g2 c1]; omega
  · have e2 : standsF x.1 x.2.1 (d + 1) ≠ 0 := by rcases stands_cases x.1 x.2.1 (d + 1) with ⟨h, _⟩ | ⟨h, _⟩ | ⟨h, _⟩ <;> omega
    rw [if_neg e2]
    by_cases c2 : x.1.day = d + 1
    · have e1 : standsF x.1 x.2.1 d = 0 := by rcases stands_cases x.1 x.2.1 d with ⟨h, _⟩ | ⟨h, _⟩ | ⟨h, _⟩ <;> omega
      rw [e1, if_pos rfl, if_pos c2, g1 (by omega)]; omega
    · have e1 : standsF x.1 x.2.1 d ≠ 0 := by rcases stands_cases x.1 x.2.1 d with ⟨h, _⟩ | ⟨h, _⟩ | ⟨h, _⟩ <;> omega
      rw [if_neg e1, if_neg c2]; omega

theorem sumF_zero {α : Type} {f : α → Int} : ∀ {l : List α}, (∀ x ∈ l, f x = 0) → sumF f l = 0
  | [], _ => rfl
  | x :: l, h => by rw [sumF_cons, h x (by simp), sumF_zero (fun y hy => h y (List.mem_cons_of_mem _ hy))]; rfl
theorem sumF_one {α : Type} {f : α → Int} : ∀ (l : List α) (k : Nat) (hk : k < l.length), (∀ i (hi : i < l.length), i ≠ k → f l[i] = 0) → sumF f l = f l[k]
  | [], k, hk, _ => by simp at hk
  | x :: l, 0, _, h => by
    rw [sumF_cons, sumF_zero (fun y hy => by
      obtain ⟨i, hi, rfl⟩ := List.getElem_of_mem hy
      have := h (i + 1) (by simpa using hi) (by omega)
      simpa using this)]
    simp
  | x :: l, k + 1, hk, h => by
    have h1 := h 0 (by simp) (by omega)
    rw [sumF_cons, show f x = 0 from h1, sumF_one l k (by simpa using hk) (fun i hi hne => by
      have := h (i + 1) (by simpa using hi) (by omega)
      simpa using this)]
    simp
theorem zip_get {s : Stk} {ts : List (Int × Int)} (hl : ts.length = s.rs.length) {i : Nat} (hi : i < (rowsT s ts).length) : (rowsT s ts)[i] = (s.rs[i]!, ts[i]!) := by
  have hi2 : i < s.rs.length := by rw [← rowsT_len hl]; exact hi
  have := rowsT_get hl hi2
  rwa [List.getD, List.getElem?_eq_getElem hi] at this
/-- the row of a seal, with its term -/
def rowOf (s : Stk) (ts : List (Int × Int)) (n : Int) : RT := (s.rs[(rowIx s.rs n).getD 0]!, ts[(rowIx s.rs n).getD 0]!)
theorem pick_row {s : Stk} {ts : List (Int × Int)} (h0 : (termsF s).2.1 = 0) (hl : ts.length = s.rs.length) {n : Int} {k : Nat} (hk : rowIx s.rs n = some k) (P : RT → Int) : sumF (fun x => if hasF x.1 n then P x else 0) (rowsT s ts) = P (rowOf s ts n) := by
  obtain ⟨hkl, hone⟩ := one_has h0 hk
  have hlen := rowsT_len hl
  rw [sumF_one (rowsT s ts) k (by omega) (fun i hi hne => by
    rw [zip_get hl hi]
    have := hone i (by omega)
    simp only []
    rw [if_neg (fun h => hne (this.1 h))])]
  rw [zip_get hl (by omega : k < (rowsT s ts).length)]
  simp only []
  rw [if_pos ((hone k hkl).2 rfl)]
  unfold rowOf
  rw [hk]; rfl
theorem sum_on {s : Stk} {ts : List (Int × Int)} (h0 : (termsF s).2.1 = 0) (hl : ts.length = s.rs.length) (Q : RT → Bool) (D : Int) : ∀ bs' : List (Int × Int), (∀ b ∈ bs', ∃ k, rowIx s.rs b.1 = some k) →
    sumF (fun x => if Q x then (onF bs' x.1 D : Int) else 0) (rowsT s ts) = (bs'.countP (fun b => decide (b.2 = D) && Q (rowOf s ts b.1)) : Nat)
  | [], _ => by
    rw [sumF_zero (fun x _ => by simp [onF])]; simp
  | b :: bs', h => by
    obtain ⟨k, hk⟩ := h b (by simp)
    have ih := sum_on h0 hl Q D bs' (fun c hc => h c (List.mem_cons_of_mem _ hc))
    have e : ∀ x : RT, (if Q x then (onF (b :: bs') x.1 D : Int) else 0) = (if Q x then (onF bs' x.1 D : Int) else 0) + (if hasF x.1 b.1 then (if decide (b.2 = D) && Q x then 1 else 0) else 0) := by
      intro x
      unfold onF
      rw [List.countP_cons]
      cases Q x <;> cases hasF x.1 b.1 <;> simp
      split <;> simp
    rw [sumF_congr (fun x _ => e x), sumF_add, ih, pick_row h0 hl hk, List.countP_cons]
    try simp only []
    push_cast
    congr 1
    split <;> simp
theorem dueAll_sum {bs : List (Int × Int)} {lo hi : Int} : ∀ (l : List RT) (z : List Int), (∀ x ∈ l, 0 ≤ x.1.cls ∧ x.1.cls < z.length) → (l.foldl (dueStep bs lo hi) z).sum = z.sum + sumF (fun x => if inF x.2.1 lo hi then wholeF bs x.1 x.2.1 else 0) l ∧ (l.foldl (dueStep bs lo hi) z).length = z.length
  | [], z, _ => by simp [sumF]
  | x :: l, z, h => by
    have hx := h x (by simp)
    have hlen : (dueStep bs lo hi z x).length = z.length := by unfold dueStep addAt; split <;> simp
    have hsum : (dueStep bs lo hi z x).sum = z.sum + (if inF x.2.1 lo hi then wholeF bs x.1 x.2.1 else 0) := by
      unfold dueStep
      split
      · exact addAt_sum z x.1.cls.toNat _ (by omega)
      · simp
    obtain ⟨h1, h2⟩ := dueAll_sum l (dueStep bs lo hi z x) (fun y hy => by rw [hlen]; exact h y (List.mem_cons_of_mem _ hy))
    rw [List.foldl_cons, h1, h2, hsum, hlen, sumF_cons]
    exact ⟨by omega, rfl⟩
where addAt_sum : ∀ (z : List Int) (k : Nat) (n : Int), k < z.length → (addAt z k n).sum = z.sum + n
  | [], k, n, h => by simp at h
  | a :: z, 0, n, _ => by simp [addAt]; omega
  | a :: z, k + 1, n, h => by
    have := addAt_sum z k n (by simpa using h)
    unfold addAt at this ⊢
    simp only [List.set_cons_succ, List.sum_cons]
    have e : (a :: z)[k + 1]! = z[k]! := by simp
    rw [e, this]; omega
theorem row_facts {s : Stk} (h0 : (termsF s).2.1 = 0) : ∀ x ∈ rowsT s (termsF s).2.2, RowFacts s.bs x ∧ 0 ≤ x.1.cls ∧ x.1.cls < s.cs.length ∧ sizeF x.1 ≤ 1000000 := by
  intro x hx
  obtain ⟨hok, _, _, _⟩ := right_parts h0
  have hl := (terms_tsOk hok h0).1
  obtain ⟨i, hi, rfl⟩ := List.getElem_of_mem hx
  have hi2 : i < s.rs.length := by rw [← rowsT_len hl]; exact hi
  rw [zip_get hl hi]
  obtain ⟨c, hc, hcl, h1, h2, h3, h4, h5, h6, h7⟩ := rowOk_of hok hi2
  have hm := (stands_math h0 hi2).2.2.2.2
  refine ⟨⟨h2, hm, fun b hb hh => brk_row h0 hi2 hb hh⟩, by show 0 ≤ s.rs[i]!.cls; omega, by show s.rs[i]!.cls < s.cs.length; omega, by show sizeF s.rs[i]! ≤ _; unfold sizeF; omega⟩
theorem fst_sum {s : Stk} {ts : List (Int × Int)} (hl : ts.length = s.rs.length) (f : Row → Int) : sumF (fun x : RT => f x.1) (rowsT s ts) = sumF f s.rs := by
  have := rowsT_fst hl
  unfold sumF
  rw [← this, List.map_map]; rfl
/-- a broken seal that was sealed the day before -/
def brokeF (s : Stk) (d : Int) (b : Int × Int) : Bool := decide (b.2 = d + 1) && decide (d + 1 ≤ (endF s b.1).1)
def onDay (d : Int) (b : Int × Int) : Bool := decide (b.2 = d + 1)
structure Balance (s : Stk) (d : Int) (a b c g a' b' c' g' put ends : Int) (broken opened : Nat) : Prop where
  all : a + b + c + g = allF s.rs
  pos : 0 ≤ a ∧ 0 ≤ b ∧ 0 ≤ c ∧ 0 ≤ g
  pos' : 0 ≤ b'
  few : a ≤ 24000000 ∧ b ≤ 24000000 ∧ c ≤ 24000000 ∧ g ≤ 24000000
  few' : a' ≤ 24000000 ∧ b' ≤ 24000000 ∧ c' ≤ 24000000 ∧ g' ≤ 24000000
  sealed : b' = b + put - broken - ends
  notyet : a' = a - put
  open_ : g' = g + opened
theorem ns_bounds {bs : List (Int × Int)} (hn : (bs.map (·.1)).Nodup) {x : RT} (h : RowFacts bs x) (hs : sizeF x.1 ≤ 1000000) (d : Int) :
    (0 ≤ n0 bs d x ∧ 0 ≤ n1 bs d x ∧ 0 ≤ n2 bs d x ∧ 0 ≤ n3 bs d x) ∧ n0 bs d x ≤ 1000000 ∧ n1 bs d x ≤ 1000000 ∧ n2 bs d x ≤ 1000000 ∧ n3 bs d x ≤ 1000000 := by
  have hg := gone_size hn x.1 h.lo d
  unfold n0 n1 n2 n3 wholeF
  refine ⟨⟨?_, ?_, ?_, ?_⟩, ?_, ?_, ?_, ?_⟩
  all_goals first | omega | (split <;> omega)
theorem balance_math {s : Stk} (h0 : (termsF s).2.1 = 0) (d : Int) :
    let t := tallyAll s (termsF s).2.2 d
    let u := tallyAll s (termsF s).2.2 (d + 1)
    Balance s d t.1 t.2.1 t.2.2.1 t.2.2.2 u.1 u.2.1 u.2.2.1 u.2.2.2 (sumF (putN d) s.rs) (dueAll s (termsF s).2.2 (d + 1) (d + 1)).sum (s.bs.countP (brokeF s d)) (s.bs.countP (onDay d)) := by
  intro t u
  obtain ⟨hok, _, _, _⟩ := right_parts h0
  have hl := (terms_tsOk hok h0).1
  have hf := row_facts h0
  have hnd := nodup_of_takes s.bs (fun i hi => (brk_at h0 hi).choose_spec.2.2)
  have hrows : ∀ b ∈ s.bs, ∃ k, rowIx s.rs b.1 = some k := fun b hb => by
    obtain ⟨j, hj, rfl⟩ := List.getElem_of_mem hb
    obtain ⟨k, hk, _⟩ := brk_at h0 hj
    rw [getElem!_pos s.bs j hj] at hk
    exact ⟨k, hk⟩
  have hlen : (rowsT s (termsF s).2.2).length ≤ 24 := by rw [rowsT_len hl]; exact rows_few hok
  have et : t = (sumF (n0 s.bs d) (rowsT s (termsF s).2.2), sumF (n1 s.bs d) (rowsT s (termsF s).2.2), sumF (n2 s.bs d) (rowsT s (termsF s).2.2), sumF (n3 s.bs d) (rowsT s (termsF s).2.2)) := by
    show tallyAll s _ d = _
    unfold tallyAll; rw [tally_sum]; simp
  have eu : u = (sumF (n0 s.bs (d + 1)) (rowsT s (termsF s).2.2), sumF (n1 s.bs (d + 1)) (rowsT s (termsF s).2.2), sumF (n2 s.bs (d + 1)) (rowsT s (termsF s).2.2), sumF (n3 s.bs (d + 1)) (rowsT s (termsF s).2.2)) := by
    show tallyAll s _ (d + 1) = _
    unfold tallyAll; rw [tally_sum]; simp
  have hb := fun d x hx => ns_bounds hnd (hf x hx).1 (hf x hx).2.2.2 d
  have few : ∀ f : RT → Int, (∀ x ∈ rowsT s (termsF s).2.2, f x ≤ 1000000) → sumF f (rowsT s (termsF s).2.2) ≤ 24000000 := fun f h => by
    have := sumF_le h
    have h2 : ((rowsT s (termsF s).2.2).length : Int) * 1000000 ≤ 24 * 1000000 := Int.mul_le_mul_of_nonneg_right (by omega) (by decide)
    omega
  have hbrk : sumF (brkN s.bs d) (rowsT s (termsF s).2.2) = (s.bs.countP (brokeF s d) : Nat) := by
    have h1 := sum_on h0 hl (fun x => decide (d + 1 ≤ x.2.1)) (d + 1) s.bs hrows
    have h2 : s.bs.countP (fun b => decide (b.2 = d + 1) && decide (d + 1 ≤ (rowOf s (termsF s).2.2 b.1).2.1)) = s.bs.countP (brokeF s d) := by
      apply List.countP_congr
      intro b hb
      obtain ⟨k, hk⟩ := hrows b hb
      unfold brokeF rowOf
      rw [end_good h0]
      simp only [hk]
      exact Iff.rfl
    rw [← h2, ← h1]
    apply sumF_congr
    intro x _
    unfold brkN
    simp
  have hopen : sumF (fun x : RT => (onF s.bs x.1 (d + 1) : Int)) (rowsT s (termsF s).2.2) = (s.bs.countP (onDay d) : Nat) := by
    have h1 := sum_on h0 hl (fun _ => true) (d + 1) s.bs hrows
    simp only [if_true, Bool.and_true] at h1
    exact h1
  have hends : (dueAll s (termsF s).2.2 (d + 1) (d + 1)).sum = sumF (endN s.bs d) (rowsT s (termsF s).2.2) := by
    unfold dueAll
    rw [(dueAll_sum (rowsT s (termsF s).2.2) (List.replicate s.cs.length 0) (fun x hx => by rw [List.length_replicate]; exact ⟨(hf x hx).2.1, (hf x hx).2.2.1⟩)).1]
    have hz : (List.replicate s.cs.length (0 : Int)).sum = 0 := by simp
    rw [hz, Int.zero_add]
    apply sumF_congr
    intro x _
    unfold endN inF
    by_cases h : x.2.1 = d + 1
    · rw [if_pos h, if_pos (by simp; omega)]
    · rw [if_neg h, if_neg (by simp; omega)]
  rw [et, eu]
  refine ⟨?_, ⟨?_, ?_, ?_, ?_⟩, sumF_nonneg (fun x hx => (hb (d + 1) x hx).1.2.1), ⟨?_, ?_, ?_, ?_⟩, ⟨?_, ?_, ?_, ?_⟩, ?_, ?_, ?_⟩
  · show _ = sumF sizeF s.rs
    rw [← fst_sum hl sizeF, ← sumF_congr (fun x _ => ns_all s.bs d x), sumF_add, sumF_add, sumF_add]
  · exact sumF_nonneg (fun x hx => (hb d x hx).1.1)
  · exact sumF_nonneg (fun x hx => (hb d x hx).1.2.1)
  · exact sumF_nonneg (fun x hx => (hb d x hx).1.2.2.1)
  · exact sumF_nonneg (fun x hx => (hb d x hx).1.2.2.2)
  · exact few _ (fun x hx => (hb d x hx).2.1)
  · exact few _ (fun x hx => (hb d x hx).2.2.1)
  · exact few _ (fun x hx => (hb d x hx).2.2.2.1)
  · exact few _ (fun x hx => (hb d x hx).2.2.2.2)
  · exact few _ (fun x hx => (hb (d + 1) x hx).2.1)
  · exact few _ (fun x hx => (hb (d + 1) x hx).2.2.1)
  · exact few _ (fun x hx => (hb (d + 1) x hx).2.2.2.1)
  · exact few _ (fun x hx => (hb (d + 1) x hx).2.2.2.2)
  · show sumF (n1 s.bs (d + 1)) _ = _
    rw [sumF_congr (fun x hx => row_sealed (hf x hx).1 d), sumF_add, sumF_add, sumF_add, sumF_neg, sumF_neg, hbrk, ← hends, fst_sum hl (putN d)]
    show _ = sumF (n1 s.bs d) _ + _ - _ - _
    omega
  · show sumF (n0 s.bs (d + 1)) _ = sumF (n0 s.bs d) _ - _
    rw [sumF_congr (fun x hx => row_notyet (hf x hx).1 d), sumF_add, sumF_neg, fst_sum hl (putN d)]
    omega
  · show sumF (n3 s.bs (d + 1)) _ = sumF (n3 s.bs d) _ + _
    rw [← hopen, ← sumF_add]
    apply sumF_congr
    intro x _
    unfold n3
    rw [gone_next x.1 d s.bs]
    push_cast; rfl
theorem count_err {s : Stk} {day : Int} {L : List Int} {e : Int} (h : countF s day = (L, e)) (he : e ≠ 0) : L = [] := by
  by_cases h0 : (termsF s).2.1 = 0
  · rw [count_good h0] at h
    split at h
    · simp only [Prod.mk.injEq] at h; exact h.1.symm
    · simp only [Prod.mk.injEq] at h; exact absurd h.2.symm he
  · rw [count_bad h0] at h
    simp only [Prod.mk.injEq] at h; exact h.1.symm
theorem count_ok {s : Stk} {day : Int} {L : List Int} (h : countF s day = (L, 0)) : (termsF s).2.1 = 0 ∧ 0 ≤ day ∧ day ≤ 131072 ∧ ∃ a b c d, tallyAll s (termsF s).2.2 day = (a, b, c, d) ∧ L = [a, b, c, d] := by
  by_cases h0 : (termsF s).2.1 = 0
  · rw [count_good h0] at h
    split at h
    · simp only [Prod.mk.injEq] at h; exact absurd h.2 (by decide)
    · rename_i hd
      simp only [Prod.mk.injEq] at h
      have hd2 : inF day 0 131072 = true := by
        cases hx : inF day 0 131072 with
        | true => rfl
        | false => exact absurd hx hd
      rw [inF_iff] at hd2
      exact ⟨h0, hd2.1, hd2.2, _, _, _, _, rfl, h.1.symm⟩
  · rw [count_bad h0] at h
    simp only [Prod.mk.injEq] at h; exact absurd h.2 h0
theorem count_last {s : Stk} {day : Int} {L : List Int} {e : Int} (h0 : (termsF s).2.1 = 0) (h1 : 0 ≤ day) (h2 : day ≤ 131072) (h : countF s (day + 1) = (L, e)) (he : e ≠ 0) : day = 131072 := by
  rw [count_good h0] at h
  split at h
  · rename_i hd
    unfold inF at hd
    simp only [Bool.and_eq_false_iff, decide_eq_false_iff_not] at hd
    omega
  · simp only [Prod.mk.injEq] at h; exact absurd h.2.symm he
theorem broken_few {s : Stk} (hok : stkOk s = true) : s.bs.length ≤ 24 := by
  unfold stkOk at hok
  simp only [Bool.and_eq_true, decide_eq_true_eq] at hok
  exact hok.1.2.2.2
theorem put_step {d : Int} {rs : List Row} {j : Nat} (hj : j < rs.length) : sumF (putN d) (rs.take (j + 1)) = sumF (putN d) (rs.take j) + putN d (rs.getD j default) := by
  rw [List.take_succ_eq_append_getElem hj]
  unfold sumF
  rw [List.map_append, List.sum_append]
  simp [List.getD, hj]
theorem cnt_step {f : Int × Int → Bool} {bs : List (Int × Int)} {j : Nat} (hj : j < bs.length) : (bs.take (j + 1)).countP f = (bs.take j).countP f + (if f (bs.getD j default) then 1 else 0) := by
  rw [List.take_succ_eq_append_getElem hj, List.countP_append]
  simp [List.countP_cons, List.getD, hj]
theorem end_of_brk {s : Stk} (h0 : (termsF s).2.1 = 0) {j : Nat} (hj : j < s.bs.length) : (endF s (s.bs.getD j default).1).2.2 = 0 ∧ 0 ≤ (endF s (s.bs.getD j default).1).1 ∧ (endF s (s.bs.getD j default).1).1 ≤ 1000000 := by
  obtain ⟨k, hk, _⟩ := brk_at h0 hj
  obtain ⟨hok, _⟩ := right_parts h0
  have e : s.bs.getD j default = s.bs[j]! := by rw [getElem!_pos s.bs j hj, List.getD, List.getElem?_eq_getElem hj]; rfl
  rw [e, end_good h0, hk]
  have := (terms_tsOk hok h0).2 k (rowIx_lt hk).1
  refine ⟨rfl, this.1, ?_⟩
  show (termsF s).2.2[k]!.1 ≤ _
  omega
end Go.Proofs.Ytcmfplfnpjknlaa
