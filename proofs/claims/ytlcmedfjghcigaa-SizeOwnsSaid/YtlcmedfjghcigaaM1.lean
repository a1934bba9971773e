/- Size in plain words: what is valid, what starves, what is chosen. -/
import Derived.Test.YtlcmedfjghcigaaRows
import Derived.WalkKit
import Derived.Maps.Own
import Derived.Maps.OwnOps
import Derived.BigQuiet
import Derived.Deep.QuietTactic
import Derived.Deep.RegionWith
import Derived.Lib.Hide
import Derived.WalkSpells
import Derived.WalkLawsBesides
import Derived.IntWalk
import Derived.Outline
import Derived.Deep.DeepCutAuto
namespace Go.Proofs.Ytlcmedfjghcigaa
set_option linter.unusedSimpArgs false
set_option linter.unusedVariables false
open Go.RowKit
abbrev Sp := Int × Int
structure Tp where
  f : Sp
  n : Int
deriving Inhabited, DecidableEq
structure Rl where
  t : Int
  m : Int
deriving Inhabited, DecidableEq
structure Hs where
  head : Int
  drip : Int
  tp : List Tp
  rl : List Rl
deriving Inhabited, DecidableEq
structure Sz where
  start : Int
  full : Int
  loss : Int
  price : Int
deriving Inhabited, DecidableEq
def inF (n a b : Int) : Bool := decide (a ≤ n) && decide (n ≤ b)
theorem inF_iff {n a b : Int} : inF n a b = true ↔ a ≤ n ∧ n ≤ b := by unfold inF; simp
def tapOk (t : Tp) : Bool := decide (0 ≤ t.f.1) && (decide (t.f.1 ≤ t.f.2) && (decide (t.f.2 ≤ 100000) && inF t.n 0 10000))
theorem tapOk_iff {t : Tp} : tapOk t = true ↔ 0 ≤ t.f.1 ∧ t.f.1 ≤ t.f.2 ∧ t.f.2 ≤ 100000 ∧ 0 ≤ t.n ∧ t.n ≤ 10000 := by unfold tapOk; simp [inF_iff]
def ruleOk (n : Nat) (r : Rl) : Bool := inF r.t 0 ((2 ^ n : Nat) - 1) && inF r.m 0 10
def headOk (h : Hs) : Bool := inF h.head 0 10000 && (inF h.drip 0 1000000 && (inF h.tp.length 1 10 && decide (h.rl.length ≤ 8)))
def hsOk (h : Hs) : Bool := headOk h && (h.tp.all tapOk && h.rl.all (ruleOk h.tp.length))
def szOk (s : Sz) : Bool := inF s.full 1 1000000 && (inF s.start 0 s.full && (inF s.loss 0 10000 && inF s.price 0 1000000))
theorem szOk_iff {s : Sz} : szOk s = true ↔ (1 ≤ s.full ∧ s.full ≤ 1000000) ∧ (0 ≤ s.start ∧ s.start ≤ s.full) ∧ (0 ≤ s.loss ∧ s.loss ≤ 10000) ∧ 0 ≤ s.price ∧ s.price ≤ 1000000 := by unfold szOk; simp [inF_iff]
/-- a size is valid, and greater than the one before it -/
def SzOkAt (l : List Sz) (i : Nat) : Bool := szOk l[i]! && (decide (i = 0) || decide (l[i - 1]!.full < l[i]!.full))
def szsOk (l : List Sz) : Bool := decide (l.length ≤ 12) && (List.range l.length).all (SzOkAt l)
def hasF (s k : Nat) : Bool := decide (s / 2 ^ k % 2 = 1)
def onesN : Nat → Nat → Nat
  | 0, _ => 0
  | k + 1, n => n % 2 + onesN k (n / 2)
def keepF (s : Nat) (r : Rl) : Bool := decide ((onesN 20 (s &&& r.t.toNat) : Nat) ≤ r.m)
def openF (rs : List Rl) (s : Nat) : Bool := rs.all (keepF s)
structure Ld where
  f : Sp
  n : Int
deriving Inhabited, DecidableEq
def withF (l : Ld) (t : Tp) : Ld := ⟨(l.f.1 + t.f.1, l.f.2 + t.f.2), max l.n t.n⟩
def loadUp (ts : List Tp) (s : Nat) : Nat → Ld
  | 0 => ⟨(0, 0), 0⟩
  | k + 1 => if hasF s k then withF (loadUp ts s k) ts[k]! else loadUp ts s k
def loadF (ts : List Tp) (s : Nat) : Ld := loadUp ts s ts.length
/-- the sets that can be open, below k -/
def setsUp (rs : List Rl) (k : Nat) : List Nat := (List.range k).filter (openF rs)
def setsF (h : Hs) : List Nat := setsUp h.rl (2 ^ h.tp.length)
def greatStep (g : Nat → Int) (p : Int × Nat) (s : Nat) : Int × Nat := if p.1 < g s then (g s, s) else p
def greatF (g : Nat → Int) (l : List Nat) : Int × Nat := l.foldl (greatStep g) (0, 0)
/-- starved: by the flow, by the pressure -/
def findF (h : Hs) (z : Sz) (s : Nat) : Bool × Bool :=
  if z.full < (loadF h.tp s).f.2 then (true, false)
  else (false, decide ((h.head - (loadF h.tp s).n) * z.full * z.full < z.loss * (loadF h.tp s).f.2 * (loadF h.tp s).f.2))
def badF (h : Hs) (z : Sz) (s : Nat) : Bool := decide (findF h z s ≠ (false, false))
def starveF (h : Hs) (z : Sz) : Option Nat := (setsF h).find? (badF h z)
def fullF (h : Hs) (z : Sz) : Bool := (setsF h).all (fun s => !badF h z s)
def enoughUp (h : Hs) (l : List Sz) (k : Nat) : List Nat := (List.range k).filter (fun i => fullF h l[i]!)
def enoughF (h : Hs) (l : List Sz) : List Nat := enoughUp h l l.length
def hearF (h : Hs) (z : Sz) : Bool := decide (z.start ≤ h.drip)
def errF (h : Hs) (l : List Sz) : Int := if hsOk h then (if szsOk l then 0 else 2) else 1
/-- Peak: the least, the greatest, the set, the error -/
def peakF (h : Hs) : Int × Int × Int × Int :=
  if hsOk h then ((greatF (fun s => (loadF h.tp s).f.1) (setsF h)).1, (greatF (fun s => (loadF h.tp s).f.2) (setsF h)).1, ((greatF (fun s => (loadF h.tp s).f.2) (setsF h)).2 : Nat), 0) else (0, 0, 0, 1)
def starvedF (h : Hs) (z : Sz) : Int × Bool × Int :=
  if errF h [z] = 0 then (match starveF h z with | some s => ((s : Nat), (findF h z s).2, 0) | none => (0, false, 4)) else (0, false, errF h [z])
def chooseF (h : Hs) (l : List Sz) : Int × Int :=
  if errF h l = 0 then (match enoughF h l with
    | [] => (0, 10)
    | i :: e => (match (i :: e).find? (fun i => hearF h l[i]!) with | some i => ((i : Nat), 0) | none => (0, 11))) else (0, errF h l)
abbrev Best := Option ((Nat × Nat) × Int)
def offerF (b : Best) (v : Nat × Nat) (p : Int) : Best := match b with | none => some (v, p) | some (_, q) => if p < q then some (v, p) else b
def pairStep (h : Hs) (l : List Sz) (i : Nat) (b : Best) (k : Nat) : Best :=
  if decide (i < k) && (hearF h l[i]! && decide (l[k]!.start ≤ l[i]!.full)) then offerF b (i, k) (l[i]!.price + l[k]!.price) else b
def pairRow (h : Hs) (l : List Sz) (b : Best) (i : Nat) : Best := (enoughF h l).foldl (pairStep h l i) b
def pairF (h : Hs) (l : List Sz) : Best := (List.range l.length).foldl (pairRow h l) none
def pairR (h : Hs) (l : List Sz) : Int × Int × Int × Int :=
  if errF h l = 0 then (match pairF h l with | some ((i, k), p) => ((i : Nat), (k : Nat), p, 0) | none => (0, 0, 0, 4)) else (0, 0, 0, errF h l)
/-- halves: from i to j the first one that is so -/
def searchF (p : Nat → Bool) : Nat → Nat → Nat → Nat
  | 0, i, _ => i
  | n + 1, i, j => if i < j then (if p ((i + j) / 2) then searchF p n i ((i + j) / 2) else searchF p n ((i + j) / 2 + 1) j) else i
def leastP (h : Hs) (loss : Int) (n : Nat) : Bool := fullF h ⟨0, (n : Int) + 1, loss, 0⟩
def leastF (h : Hs) (loss : Int) : Int × Int :=
  if hsOk h then (if inF loss 0 10000 then (if searchF (leastP h loss) 20 0 1000000 = 1000000 then (0, 4) else ((searchF (leastP h loss) 20 0 1000000 : Nat) + 1, 0)) else (0, 2)) else (0, 1)
def sampleH (head drip : Int) : Hs := ⟨head, drip, [⟨(300, 400), 100⟩, ⟨(600, 800), 150⟩, ⟨(200, 300), 50⟩], [⟨3, 1⟩]⟩
def sampleL : List Sz := [⟨5, 1000, 200, 10⟩, ⟨10, 1500, 250, 15⟩, ⟨20, 3000, 250, 30⟩]
example : peakF (sampleH 400 12) = (800, 1100, 6, 0) := by kernel_rfl
example : starvedF (sampleH 400 12) ⟨5, 1000, 200, 10⟩ = (6, false, 0) := by kernel_rfl
example : starvedF (sampleH 400 12) ⟨10, 1500, 250, 15⟩ = (0, false, 4) := by kernel_rfl
example : starvedF (sampleH 250 12) ⟨10, 1500, 250, 15⟩ = (6, true, 0) := by kernel_rfl
example : chooseF (sampleH 400 12) sampleL = (1, 0) := by kernel_rfl
example : chooseF (sampleH 400 8) sampleL = (0, 11) := by kernel_rfl
example : chooseF (sampleH 400 12) [⟨5, 1000, 200, 10⟩] = (0, 10) := by kernel_rfl
example : pairR (sampleH 400 8) sampleL = (0, 1, 25, 0) := by kernel_rfl
example : leastF (sampleH 400 12) 200 = (1100, 0) := by kernel_rfl
example : leastF (sampleH 200 12) 200 = (2200, 0) := by kernel_rfl
example : leastF (sampleH 150 12) 200 = (0, 4) := by kernel_rfl
end Go.Proofs.Ytlcmedfjghcigaa
