/- Term: seal by seal is what is counted by rows (TermCounts' mathematics). -/
import Derived.Test.YtcmfplfnpjknlaaM5
import Derived.Test.YtcmfplfnpjknlaaC1
namespace Go.Proofs.Ytcmfplfnpjknlaa
set_option linter.unusedSimpArgs false
set_option linter.unusedVariables false
open Go.RowKit

theorem one_brk : ∀ {bs : List (Int × Int)}, (bs.map (·.1)).Nodup → ∀ (n day : Int), bs.countP (fun b => decide (b.1 = n) && decide (b.2 ≤ day)) = if brkBy bs n day then 1 else 0
  | [], _, n, day => by simp [brkBy, brkDay]
  | b :: l, h, n, day => by
    rw [List.map_cons, List.nodup_cons] at h
    obtain ⟨h1, h2⟩ := h
    rw [List.countP_cons]
    by_cases hb : b.1 = n
    · have h0 : l.countP (fun b => decide (b.1 = n) && decide (b.2 ≤ day)) = 0 := by
        rw [List.countP_eq_zero]
        intro x hx hp
        simp only [Bool.and_eq_true, decide_eq_true_eq] at hp
        exact h1 (List.mem_map.2 ⟨x, hx, by rw [hp.1, hb]⟩)
      have hd : brkDay (b :: l) n = some b.2 := by unfold brkDay; simp [List.find?_cons, hb]
      rw [h0]
      unfold brkBy
      rw [hd]
      simp [hb]
    · have hd : brkDay (b :: l) n = brkDay l n := by unfold brkDay; simp [List.find?_cons, hb]
      have ih := one_brk h2 n day
      unfold brkBy at ih ⊢
      rw [hd, ih]
      simp [hb]
/-- how many of the first m numbers from lo on are broken by a day -/
def upTo (bs : List (Int × Int)) (lo : Int) (m : Nat) (day : Int) : Nat := bs.countP (fun b => (decide (lo ≤ b.1) && decide (b.1 < lo + m)) && decide (b.2 ≤ day))
theorem up_zero (bs : List (Int × Int)) (lo day : Int) : upTo bs lo 0 day = 0 := by
  unfold upTo
  rw [List.countP_eq_zero]
  intro x _ hp
  simp only [Bool.and_eq_true, decide_eq_true_eq] at hp
  omega
theorem up_add (lo day : Int) (m : Nat) : ∀ bs : List (Int × Int), upTo bs lo (m + 1) day = upTo bs lo m day + bs.countP (fun b => decide (b.1 = lo + m) && decide (b.2 ≤ day))
  | [] => rfl
  | b :: l => by
    have ih := up_add lo day m l
    unfold upTo at ih ⊢
    rw [List.countP_cons, List.countP_cons, List.countP_cons, ih]
    obtain ⟨n1, hn1⟩ : ∃ n, List.countP (fun b : Int × Int => decide (lo ≤ b.1) && decide (b.1 < lo + m) && decide (b.2 ≤ day)) l = n := ⟨_, rfl⟩
    obtain ⟨n2, hn2⟩ : ∃ n, List.countP (fun b : Int × Int => decide (b.1 = lo + m) && decide (b.2 ≤ day)) l = n := ⟨_, rfl⟩
    rw [hn1, hn2]
    have key : (if (decide (lo ≤ b.1) && decide (b.1 < lo + (m + 1 : Nat)) && decide (b.2 ≤ day)) = true then 1 else 0) = (if (decide (lo ≤ b.1) && decide (b.1 < lo + (m : Int)) && decide (b.2 ≤ day)) = true then 1 else 0) + (if (decide (b.1 = lo + (m : Int)) && decide (b.2 ≤ day)) = true then 1 else 0) := by
      simp only [Bool.and_eq_true, decide_eq_true_eq]
      by_cases h2 : b.2 ≤ day
      · by_cases e : b.1 = lo + m
        · rw [if_pos ⟨⟨by omega, by omega⟩, h2⟩, if_neg (by omega), if_pos ⟨e, h2⟩]
        · rw [if_neg (c := b.1 = lo + (m : Int) ∧ b.2 ≤ day) (by omega)]
          by_cases h3 : lo ≤ b.1 ∧ b.1 < lo + (m : Int)
          · rw [if_pos ⟨⟨h3.1, by omega⟩, h2⟩, if_pos ⟨h3, h2⟩]
          · rw [if_neg (by omega), if_neg (by omega)]
      · rw [if_neg (by omega), if_neg (by omega), if_neg (by omega)]
    rw [key]
    omega
theorem up_step {bs : List (Int × Int)} (hn : (bs.map (·.1)).Nodup) (lo day : Int) (m : Nat) : upTo bs lo (m + 1) day = upTo bs lo m day + if brkBy bs (lo + m) day then 1 else 0 := by
  rw [up_add, one_brk hn]
theorem up_all (bs : List (Int × Int)) (r : Row) (day : Int) (m : Nat) (hm : (m : Int) = sizeF r) : upTo bs r.lo m day = goneF bs r day := by
  unfold upTo goneF
  congr 1
  funext b
  unfold hasF inF sizeF at *
  congr 1
  rw [Bool.eq_iff_iff]
  simp only [Bool.and_eq_true, decide_eq_true_eq]
  omega
theorem up_few (bs : List (Int × Int)) (lo day : Int) (m : Nat) : upTo bs lo m day ≤ bs.length := List.countP_le_length
abbrev T4 := Int × Int × Int × Int
/-- the tally behind m seals of a row -/
def partF (bs : List (Int × Int)) (day : Int) (t : T4) (r : Row) (e : Int) (m : Nat) : T4 :=
  (if standsF r e day = 0 then t.1 + ((m : Int) - upTo bs r.lo m day) else t.1, if standsF r e day = 1 then t.2.1 + ((m : Int) - upTo bs r.lo m day) else t.2.1, if standsF r e day = 2 then t.2.2.1 + ((m : Int) - upTo bs r.lo m day) else t.2.2.1, t.2.2.2 + upTo bs r.lo m day)
def bumpF (t : T4) (k : Int) : T4 := (if k = 0 then t.1 + 1 else t.1, if k = 1 then t.2.1 + 1 else t.2.1, if k = 2 then t.2.2.1 + 1 else t.2.2.1, if k = 3 then t.2.2.2 + 1 else t.2.2.2)
theorem part_zero (bs : List (Int × Int)) (day : Int) (t : T4) (r : Row) (e : Int) : partF bs day t r e 0 = t := by
  unfold partF
  rw [up_zero]
  simp
theorem part_all (bs : List (Int × Int)) (day : Int) (t : T4) (x : Row × (Int × Int)) (m : Nat) (hm : (m : Int) = sizeF x.1) : partF bs day t x.1 x.2.1 m = tallyF bs day t x := by
  unfold partF tallyF wholeF
  rw [up_all bs x.1 day m hm, hm]
theorem refStat_four (bs : List (Int × Int)) (r : Row) (e n day : Int) : refStatF bs r e n day = 0 ∨ refStatF bs r e n day = 1 ∨ refStatF bs r e n day = 2 ∨ refStatF bs r e n day = 3 := by
  unfold refStatF
  split
  · simp
  · split
    · simp
    · split <;> simp
theorem part_step {bs : List (Int × Int)} (hn : (bs.map (·.1)).Nodup) (day : Int) (t : T4) (r : Row) (e : Int) (m : Nat) (hb : brkBy bs (r.lo + m) day = true → r.day ≤ day) : partF bs day t r e (m + 1) = bumpF (partF bs day t r e m) (refStatF bs r e (r.lo + m) day) := by
  have hu := up_step hn r.lo day m
  unfold partF bumpF refStatF
  rw [hu]
  obtain ⟨u, hu'⟩ : ∃ u, upTo bs r.lo m day = u := ⟨_, rfl⟩
  rw [hu']
  cases hbr : brkBy bs (r.lo + m) day with
  | true =>
    have h := hb hbr
    have h1 : ¬ day < r.day := by omega
    simp only [if_true, if_neg h1]
    refine Prod.ext ?_ (Prod.ext ?_ (Prod.ext ?_ ?_)) <;> simp <;> (try split) <;> omega
  | false =>
    simp only [Bool.false_eq_true, if_false]
    unfold standsF
    by_cases h1 : day < r.day
    · simp [h1]; omega
    · by_cases h2 : day < e
      · simp [h1, h2]; omega
      · simp [h1, h2]; omega
/-- the list of dues behind m seals of a row -/
def dueP (bs : List (Int × Int)) (l : List Int) (x : Row × (Int × Int)) (m : Nat) : List Int := addAt l x.1.cls.toNat ((m : Int) - upTo bs x.1.lo m x.2.1)
theorem addAt_zero (l : List Int) (k : Nat) (hk : k < l.length) : addAt l k 0 = l := by
  unfold addAt
  rw [Int.add_zero, getElem!_pos l k hk, List.set_getElem_self]
theorem addAt_add (l : List Int) (k : Nat) (hk : k < l.length) (a b : Int) : addAt (addAt l k a) k b = addAt l k (a + b) := by
  unfold addAt
  rw [List.set_set, getElem!_pos (l.set k _) k (by simpa using hk), List.getElem_set_self, Int.add_assoc]
theorem dueP_zero (bs : List (Int × Int)) (l : List Int) (x : Row × (Int × Int)) (hk : x.1.cls.toNat < l.length) : dueP bs l x 0 = l := by
  unfold dueP; rw [up_zero]; exact addAt_zero l _ hk
theorem dueP_all (bs : List (Int × Int)) (lo hi : Int) (l : List Int) (x : Row × (Int × Int)) (m : Nat) (hm : (m : Int) = sizeF x.1) (hin : inF x.2.1 lo hi = true) : dueP bs l x m = dueStep bs lo hi l x := by
  unfold dueP dueStep wholeF
  rw [up_all bs x.1 _ m hm, hm, if_pos hin]
theorem dueP_step {bs : List (Int × Int)} (hn : (bs.map (·.1)).Nodup) (l : List Int) (x : Row × (Int × Int)) (m : Nat) (hk : x.1.cls.toNat < l.length) : dueP bs l x (m + 1) = if brkBy bs (x.1.lo + m) x.2.1 then dueP bs l x m else addAt (dueP bs l x m) x.1.cls.toNat 1 := by
  have hu := up_step hn x.1.lo x.2.1 m
  unfold dueP
  rw [hu]
  cases brkBy bs (x.1.lo + m) x.2.1 with
  | true => simp only [if_true]; congr 1; omega
  | false =>
    simp only [Bool.false_eq_true, if_false]
    rw [addAt_add l _ hk]
    congr 1; omega
theorem dueP_len (bs : List (Int × Int)) (l : List Int) (x : Row × (Int × Int)) (m : Nat) : (dueP bs l x m).length = l.length := by unfold dueP addAt; simp
end Go.Proofs.Ytcmfplfnpjknlaa
