/- Sound: the program's functions, written plainly. -/
import Derived.Test.YtdbjifpnbghbaaaRows
import Derived.WalkKit
import Derived.Maps.Own
import Derived.Maps.OwnOps
import Derived.BigQuiet
import Derived.Deep.QuietTactic
import Derived.Deep.RegionWith
import Derived.Lib.Hide
import Derived.WalkSpells
import Derived.WalkLawsBesides
import Derived.IntWalk
import Derived.Outline
import Derived.Deep.DeepCutAuto
namespace Go.Proofs.Ytdbjifpnbghbaaa

structure Pi where
  len : Int
  lo : Int
  hi : Int
deriving Inhabited, DecidableEq
structure He where
  a : Int
  b : Int
  lo : Int
  hi : Int
deriving Inhabited, DecidableEq
structure St where
  p : Int
  a : Int
  b : Int
deriving Inhabited, DecidableEq

def inF (n lo hi : Int) : Bool := decide (lo ≤ n) && decide (n ≤ hi)
theorem inF_iff {n lo hi : Int} : inF n lo hi = true ↔ lo ≤ n ∧ n ≤ hi := by simp [inF]
def withinF (s : Int × Int) (lo hi : Int) : Bool := decide (lo ≤ s.1) && (decide (s.1 ≤ s.2) && decide (s.2 ≤ hi))
theorem withinF_iff {s : Int × Int} {lo hi : Int} : withinF s lo hi = true ↔ lo ≤ s.1 ∧ s.1 ≤ s.2 ∧ s.2 ≤ hi := by simp [withinF]
def pipeOk (p : Pi) : Bool := inF p.len 1 100000 && withinF (p.lo, p.hi) 1 10000
theorem pipeOk_iff {p : Pi} : pipeOk p = true ↔ (1 ≤ p.len ∧ p.len ≤ 100000) ∧ 1 ≤ p.lo ∧ p.lo ≤ p.hi ∧ p.hi ≤ 10000 := by simp [pipeOk, inF_iff, withinF_iff]
def lineOk (l : List Pi) : Bool := inF l.length 1 8 && l.all pipeOk
theorem all_iff {α : Type} [Inhabited α] {p : α → Bool} {l : List α} : l.all p = true ↔ ∀ i, i < l.length → p (l.getD i default) = true := by
  rw [List.all_eq_true]
  constructor
  · intro h i hi
    rw [List.getD, List.getElem?_eq_getElem hi]
    exact h _ (List.getElem_mem hi)
  · intro h x hx
    obtain ⟨i, hi, rfl⟩ := List.mem_iff_getElem.1 hx
    have := h i hi
    rwa [List.getD, List.getElem?_eq_getElem hi] at this
theorem lineOk_iff {l : List Pi} : lineOk l = true ↔ (1 ≤ l.length ∧ l.length ≤ 8) ∧ ∀ i, i < l.length → pipeOk (l.getD i default) = true := by
  unfold lineOk
  rw [Bool.and_eq_true, inF_iff, all_iff]
  constructor
  · rintro ⟨h1, h2⟩; exact ⟨by omega, h2⟩
  · rintro ⟨h1, h2⟩; exact ⟨by omega, h2⟩
/-- where pipe number i begins -/
def posF (l : List Pi) : Nat → Int
  | 0 => 0
  | i + 1 => posF l i + (l.getD i default).len
def endF (l : List Pi) : Int := posF l l.length
theorem pipe_in {l : List Pi} (h : lineOk l = true) {i : Nat} (hi : i < l.length) : 1 ≤ (l.getD i default).len ∧ (l.getD i default).len ≤ 100000 ∧ 1 ≤ (l.getD i default).lo ∧ (l.getD i default).lo ≤ (l.getD i default).hi ∧ (l.getD i default).hi ≤ 10000 := by
  have := pipeOk_iff.1 ((lineOk_iff.1 h).2 i hi)
  omega
theorem pos_in {l : List Pi} (h : lineOk l = true) : ∀ i : Nat, i ≤ l.length → (i : Int) ≤ posF l i ∧ posF l i ≤ (i : Int) * 100000
  | 0, _ => by simp [posF]
  | i + 1, hi => by
    have ih := pos_in h i (by omega)
    have hp := pipe_in h (i := i) (by omega)
    simp only [posF]
    omega
theorem line_few {l : List Pi} (h : lineOk l = true) : 1 ≤ l.length ∧ l.length ≤ 8 := (lineOk_iff.1 h).1
theorem pos_small {l : List Pi} (h : lineOk l = true) {i : Nat} (hi : i ≤ l.length) : 0 ≤ posF l i ∧ posF l i ≤ 800000 := by
  have h1 := pos_in h i hi
  have h2 := line_few h
  omega
theorem pos_mono {l : List Pi} (h : lineOk l = true) : ∀ {i j : Nat}, i ≤ j → j ≤ l.length → posF l i ≤ posF l j := by
  intro i j hij hj
  induction j with
  | zero => obtain rfl : i = 0 := by omega
            exact Int.le_refl _
  | succ j ih =>
    by_cases e : i = j + 1
    · rw [e]; exact Int.le_refl _
    · have h1 := ih (by omega) (by omega)
      have hp := pipe_in h (i := j) (by omega)
      simp only [posF]
      omega
theorem end_in {l : List Pi} (h : lineOk l = true) : 1 ≤ endF l ∧ endF l ≤ 800000 := by
  have h1 := pos_in h l.length (Nat.le_refl _)
  have h2 := line_few h
  unfold endF
  omega
def placeF (l : List Pi) (n : Int) : Bool := inF n 0 (endF l)
def earsF (l : List Pi) (a b : Int) : Bool := placeF l a && (placeF l b && decide (a ≤ b))
theorem earsF_iff {l : List Pi} {a b : Int} : earsF l a b = true ↔ 0 ≤ a ∧ a ≤ b ∧ b ≤ endF l := by
  unfold earsF placeF
  simp only [Bool.and_eq_true, inF_iff, decide_eq_true_eq]
  omega
def hearOk (l : List Pi) (h : He) : Bool := earsF l h.a h.b && withinF (h.lo, h.hi) (-1099511627776) 1099511627776
def nearF (s : Int × Int) (n : Int) : Int := min (max n s.1) s.2
/-- how often the number of pipe i counts in the lag of a noise -/
def shareF (l : List Pi) (a b at' : Int) (i : Nat) : Int :=
  let p := (posF l i, posF l (i + 1))
  (nearF p at' - nearF p a) - (nearF p b - nearF p at')
def ofF (e : Bool) (n lo hi : Int) : Int := if e then max (n * lo) (n * hi) else min (n * lo) (n * hi)
/-- the lag by the first i pipes -/
def lagUp (e : Bool) (l : List Pi) (a b at' : Int) : Nat → Int
  | 0 => 0
  | i + 1 => lagUp e l a b at' i + ofF e (shareF l a b at' i) (l.getD i default).lo (l.getD i default).hi
def lagF (e : Bool) (l : List Pi) (a b at' : Int) : Int := lagUp e l a b (nearF (a, b) at') l.length
def lagsF (l : List Pi) (a b at' : Int) : Int × Int := (lagF false l a b at', lagF true l a b at')
def cutF (s : Int × Int) (os : List (Int × Int)) : Int × Int := os.foldl (fun s o => (max s.1 o.1, min s.2 o.2)) s
def emptyF (s : Int × Int) : Bool := decide (s.2 < s.1)
/-- the stretches of the first i pipes -/
def strUp (l : List Pi) (s : Int × Int) : Nat → List St
  | 0 => []
  | i + 1 => let c := cutF s [(posF l i, posF l (i + 1))]
             if emptyF c then strUp l s i else strUp l s i ++ [⟨i, c.1 - posF l i, c.2 - posF l i⟩]
def slowsF (l : List Pi) : List (Int × Int) := l.map (fun p => (p.lo, p.hi))
/-- sort.Search -/
def searchF (p : Nat → Bool) : Nat → Nat → Nat → Nat
  | 0, i, _ => i
  | f + 1, i, j => if i < j then (let m := (i + j) / 2; if p m then searchF p f i m else searchF p f (m + 1) j) else i
def foundF (l : List Pi) (a b : Int) (e : Bool) (great : Int) (at' : Nat) : Bool := decide (great ≤ lagF e l a b at')
def firstF (l : List Pi) (a b : Int) (e : Bool) (great : Int) : Int := (searchF (foundF l a b e great) 20 0 (endF l + 1).toNat : Nat)
def allowF (l : List Pi) (h : He) : Int × Int := (firstF l h.a h.b true h.lo, firstF l h.a h.b false (h.hi + 1) - 1)
def allowedF (l : List Pi) (hs : List He) : List (Int × Int) := hs.map (allowF l)
def whereF (l : List Pi) (hs : List He) : List St × Int :=
  if lineOk l then (if hs.length ≤ 8 then (if hs.all (hearOk l) then
    (let s := strUp l (cutF (0, endF l) (allowedF l hs)) l.length
     if s = [] then ([], 4) else (s, 0)) else ([], 2)) else ([], 3)) else ([], 1)
def lagR (l : List Pi) (a b at' : Int) : (Int × Int) × Int :=
  if lineOk l then (if placeF l at' && earsF l a b then (lagsF l a b at', 0) else ((0, 0), 2)) else ((0, 0), 1)
def downF (n d : Int) : Int := n.fdiv d
def upF (n d : Int) : Int := -downF (-n) d
def byF (n0 n1 share : Int) : Int × Int := if share < 0 then (downF n1 share, upF n0 share) else (downF n0 share, upF n1 share)
/-- what is left of the numbers of pipe i -/
def tuneP (l : List Pi) (a b at' : Int) (lo hi : Int) (i : Nat) : Pi :=
  let p := l.getD i default
  let share := shareF l a b (nearF (a, b) at') i
  if share = 0 then p else
    let all := lagsF l a b at'
    let o := (all.1 - ofF false share p.lo p.hi, all.2 - ofF true share p.lo p.hi)
    let c := cutF (p.lo, p.hi) [byF (lo - o.2) (hi - o.1) share]
    ⟨p.len, c.1, c.2⟩
def tunedF (l : List Pi) (a b at' lo hi : Int) : List Pi := (List.range l.length).map (tuneP l a b at' lo hi)
def tuneR (l : List Pi) (at' : Int) (h : He) : List (Int × Int) × Int :=
  if lineOk l then (if placeF l at' && hearOk l h then
    (if emptyF (cutF (h.lo, h.hi) [lagsF l h.a h.b at']) then ([], 6) else (slowsF (tunedF l h.a h.b at' h.lo h.hi), 0)) else ([], 2)) else ([], 1)
-- the chapter's examples
def exL : List Pi := [⟨100, 8, 10⟩, ⟨50, 5, 5⟩]
example : (lagR exL 0 150 100, lagR exL 0 150 50, lagR exL 0 150 0, lagR exL 0 150 120) = (((550, 750), 0), ((-250, -250), 0), ((-1250, -1050), 0), ((750, 950), 0)) := by decide +kernel
example : (lagR exL 20 60 10, lagR exL 20 60 40, lagR exL 20 60 150) = (((-400, -320), 0), ((0, 0), 0), ((320, 400), 0)) := by decide +kernel
example : (whereF exL [⟨0, 150, 0, 100⟩], whereF exL [⟨0, 150, 700, 800⟩], whereF exL [⟨0, 150, 2000, 2100⟩]) = (([⟨0, 63, 71⟩], 0), ([⟨0, 98, 100⟩, ⟨1, 0, 25⟩], 0), ([], 4)) := by decide +kernel
example : (tuneR exL 100 ⟨0, 150, 600, 650⟩, tuneR exL 100 ⟨0, 150, 800, 900⟩) = (([(8, 9), (5, 5)], 0), ([], 6)) := by decide +kernel

-- bounds
theorem near_in {s : Int × Int} (n : Int) (h : s.1 ≤ s.2) : s.1 ≤ nearF s n ∧ nearF s n ≤ s.2 := by unfold nearF; omega
theorem share_in {l : List Pi} (h : lineOk l = true) {i : Nat} (hi : i < l.length) (a b at' : Int) : -200000 ≤ shareF l a b at' i ∧ shareF l a b at' i ≤ 200000 := by
  have hp := pipe_in h hi
  have hs : posF l (i + 1) = posF l i + (l.getD i default).len := rfl
  have h1 := near_in (s := (posF l i, posF l (i + 1))) at' (by simp only []; omega)
  have h2 := near_in (s := (posF l i, posF l (i + 1))) a (by simp only []; omega)
  have h3 := near_in (s := (posF l i, posF l (i + 1))) b (by simp only []; omega)
  simp only [] at h1 h2 h3
  unfold shareF
  simp only []
  omega
theorem mul_in {a b A B : Int} (ha : -A ≤ a ∧ a ≤ A) (hb : 0 ≤ b ∧ b ≤ B) (hA : 0 ≤ A) : -(A * B) ≤ a * b ∧ a * b ≤ A * B := by
  have h1 : a * b ≤ A * b := Int.mul_le_mul_of_nonneg_right ha.2 hb.1
  have h2 : A * b ≤ A * B := Int.mul_le_mul_of_nonneg_left hb.2 hA
  have h3 : (-A) * b ≤ a * b := Int.mul_le_mul_of_nonneg_right ha.1 hb.1
  rw [Int.neg_mul] at h3
  omega
theorem of_in {e : Bool} {n lo hi : Int} (hn : -200000 ≤ n ∧ n ≤ 200000) (h1 : 1 ≤ lo) (h2 : lo ≤ hi) (h3 : hi ≤ 10000) : -2000000000 ≤ ofF e n lo hi ∧ ofF e n lo hi ≤ 2000000000 := by
  have m1 := mul_in (A := 200000) (B := 10000) hn (b := lo) (by omega) (by omega)
  have m2 := mul_in (A := 200000) (B := 10000) hn (b := hi) (by omega) (by omega)
  unfold ofF
  split <;> omega
theorem lagUp_in {l : List Pi} (h : lineOk l = true) (e : Bool) (a b at' : Int) : ∀ i : Nat, i ≤ l.length → -((i : Int) * 2000000000) ≤ lagUp e l a b at' i ∧ lagUp e l a b at' i ≤ (i : Int) * 2000000000
  | 0, _ => by simp [lagUp]
  | i + 1, hi => by
    have ih := lagUp_in h e a b at' i (by omega)
    have hp := pipe_in h (i := i) (by omega)
    have := of_in (e := e) (share_in h (i := i) (by omega) a b at') hp.2.2.1 hp.2.2.2.1 hp.2.2.2.2
    simp only [lagUp]
    omega
theorem lagF_in {l : List Pi} (h : lineOk l = true) (e : Bool) (a b at' : Int) : -16000000000 ≤ lagF e l a b at' ∧ lagF e l a b at' ≤ 16000000000 := by
  have h1 := lagUp_in h e a b (nearF (a, b) at') l.length (Nat.le_refl _)
  have h2 := line_few h
  unfold lagF
  omega
end Go.Proofs.Ytdbjifpnbghbaaa
