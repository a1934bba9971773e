/- Term in plain words: what is valid, what is wrong, until when, how many. -/
import Derived.Test.YtcmfplfnpjknlaaRows
import Derived.WalkKit
import Derived.Maps.Own
import Derived.Maps.OwnOps
import Derived.BigQuiet
import Derived.Deep.QuietTactic
import Derived.Deep.RegionWith
import Derived.Lib.Hide
import Derived.WalkSpells
import Derived.WalkLawsBesides
import Derived.IntWalk
import Derived.Outline
import Derived.Deep.DeepCutAuto
namespace Go.Proofs.Ytcmfplfnpjknlaa
set_option linter.unusedSimpArgs false
set_option linter.unusedVariables false
open Go.RowKit

def inF (n a b : Int) : Bool := decide (a ≤ n) && decide (n ≤ b)
theorem inF_iff {n a b : Int} : inF n a b = true ↔ a ≤ n ∧ n ≤ b := by unfold inF; simp
structure Cls where
  term : Int
  times : Int
  more : Int
  fail : Int
deriving Inhabited, DecidableEq
structure Row where
  lo : Int
  hi : Int
  cls : Int
  day : Int
deriving Inhabited, DecidableEq
structure Prf where
  cls : Int
  day : Int
  seals : List Int
  failed : Int
deriving Inhabited, DecidableEq
structure Stk where
  cs : List Cls
  rs : List Row
  ps : List Prf
  bs : List (Int × Int)
deriving Inhabited, DecidableEq
def clsOk (c : Cls) : Bool := inF c.term 1 10000 && (inF c.more 1 10000 && (inF c.times 0 4 && inF c.fail 0 20))
def rowOk (n : Int) (r : Row) : Bool := inF r.lo 1 1000000 && (inF r.hi 1 1000000 && (decide (r.lo ≤ r.hi) && (inF r.cls 0 (n - 1) && inF r.day 0 131072)))
def prfOk (n : Int) (p : Prf) : Bool := inF p.seals.length 1 20 && (p.seals.all (fun s => inF s 1 1000000) && (inF p.cls 0 (n - 1) && (inF p.day 0 131072 && inF p.failed 0 (2 ^ p.seals.length - 1))))
def brkOk (b : Int × Int) : Bool := inF b.1 1 1000000 && inF b.2 0 131072
def stkOk (s : Stk) : Bool :=
  (decide (s.cs.length ≤ 5) && (decide (s.rs.length ≤ 24) && (decide (s.ps.length ≤ 12) && decide (s.bs.length ≤ 24)))) &&
  (s.cs.all clsOk && (s.rs.all (rowOk s.cs.length) && (s.ps.all (prfOk s.cs.length) && s.bs.all brkOk)))
/-- the row has the seal -/
def hasF (r : Row) (n : Int) : Bool := inF n r.lo r.hi
def meetsF (r s : Row) : Bool := decide (r.lo ≤ s.hi) && decide (s.lo ≤ r.hi)
def standsF (r : Row) (e day : Int) : Int := if day < r.day then 0 else if day < e then 1 else 2
/-- the index of the row that has the seal -/
def rowIx (rs : List Row) (n : Int) : Option Nat := rs.findIdx? (fun r => hasF r n)
def rowBad (rs : List Row) (i : Nat) : Bool := (rs.take i).any (fun r => meetsF r rs[i]!)
def brkErr (rs : List Row) (bs : List (Int × Int)) (i : Nat) : Int :=
  match rowIx rs bs[i]!.1 with
  | none => 4
  | some k => if (bs.take i).any (fun b => b.1 == bs[i]!.1) then 5 else if bs[i]!.2 < rs[k]!.day then 7 else 0
/-- the day on which a seal is broken -/
def brkDay (bs : List (Int × Int)) (n : Int) : Option Int := (bs.find? (fun b => b.1 == n)).map (·.2)
def brkBy (bs : List (Int × Int)) (n day : Int) : Bool := match brkDay bs n with | some d => decide (d ≤ day) | none => false
/-- how a seal of the row stands -/
def sealStands (bs : List (Int × Int)) (r : Row) (e n day : Int) : Int := if brkBy bs n day then 3 else standsF r e day
def sealErr (s : Stk) (ts : List (Int × Int)) (p : Prf) (i : Nat) : Int :=
  match rowIx s.rs p.seals[i]! with
  | none => 4
  | some k => if s.rs[k]!.cls ≠ p.cls then 11 else if (p.seals.take i).contains p.seals[i]! then 5 else if sealStands s.bs s.rs[k]! ts[k]!.1 p.seals[i]! p.day ≠ 1 then 6 else 0
/-- the first of n that is not 0 -/
def firstErr (f : Nat → Int) : Nat → Nat → Nat × Int
  | 0, _ => (0, 0)
  | n + 1, i => if f i = 0 then firstErr f n (i + 1) else (i, f i)
def s1F (n : Int) : Int := IntKind.u64.wrap (bits BinOp.and IntKind.u64 (n / 2) 6148914691236517205 + bits BinOp.and IntKind.u64 n 6148914691236517205)
def s2F (n : Int) : Int := IntKind.u64.wrap (bits BinOp.and IntKind.u64 (n / 4) 3689348814741910323 + bits BinOp.and IntKind.u64 n 3689348814741910323)
def s3F (n : Int) : Int := bits BinOp.and IntKind.u64 (IntKind.u64.wrap (n / 16 + n)) 1085102592571150095
def s4F (n : Int) : Int := IntKind.u64.wrap (n + n / 256)
def s5F (n : Int) : Int := IntKind.u64.wrap (n + n / 65536)
def s6F (n : Int) : Int := IntKind.u64.wrap (n + n / 4294967296)
def popF (n : Int) : Int := bits BinOp.and IntKind.i64 (wrap64 (s6F (s5F (s4F (s3F (s2F (s1F n))))))) 127
def failsF (p : Prf) : Int := popF p.failed
def provF (c : Cls) (p : Prf) (r : Row) (t : Int × Int) : Int × Int :=
  if standsF r t.1 p.day ≠ 1 then t else if c.fail < failsF p then (p.day + 1, t.2) else if t.2 < c.times then (t.1 + c.more, t.2 + 1) else t
def stepF (c : Cls) (p : Prf) (r : Row) (t : Int × Int) : Int × Int := if r.cls = p.cls then provF c p r t else t
def afterF (s : Stk) (ts : List (Int × Int)) (p : Prf) : List (Int × Int) := List.zipWith (stepF s.cs[p.cls.toNat]! p) s.rs ts
def prfErr (s : Stk) (ts : List (Int × Int)) (p : Prf) : Int := (firstErr (sealErr s ts p) p.seals.length 0).2
def beginF (s : Stk) : List (Int × Int) := s.rs.map (fun r => (r.day + s.cs[r.cls.toNat]!.term, 0))
def runF (s : Stk) : List Nat → List (Int × Int) → Nat × Int × List (Int × Int)
  | [], ts => (0, 0, ts)
  | i :: o, ts => if prfErr s ts s.ps[i]! = 0 then runF s o (afterF s ts s.ps[i]!) else (i, prfErr s ts s.ps[i]!, [])
/-- what comes behind all that are no later; the list is the other way round -/
def putF (ps : List Prf) (i : Nat) : List Nat → List Nat
  | [] => [i]
  | j :: o => if ps[i]!.day < ps[j]!.day then j :: putF ps i o else i :: j :: o
def ordR (ps : List Prf) : Nat → List Nat
  | 0 => []
  | n + 1 => putF ps n (ordR ps n)
/-- the proofs by their days, those of the same day as in the list -/
def orderF (ps : List Prf) (n : Nat) : List Nat := (ordR ps n).reverse
def termsF (s : Stk) : Nat × Int × List (Int × Int) :=
  if stkOk s = false then (0, 1, []) else
  match firstErr (fun i => if rowBad s.rs i then 5 else 0) s.rs.length 0 with
  | (i, e) => if e ≠ 0 then (i, e, []) else
    match firstErr (brkErr s.rs s.bs) s.bs.length 0 with
    | (i, e) => if e ≠ 0 then (i, e, []) else runF s (orderF s.ps s.ps.length) (beginF s)
def checkF (s : Stk) : Nat × Int := ((termsF s).1, (termsF s).2.1)
def endF (s : Stk) (n : Int) : Int × Int × Int :=
  match termsF s with
  | (_, e, ts) => if e ≠ 0 then (0, 0, e) else match rowIx s.rs n with | none => (0, 0, 4) | some k => (ts[k]!.1, ts[k]!.2, 0)
def statusF (s : Stk) (n day : Int) : Int × Int :=
  match termsF s with
  | (_, e, ts) => if e ≠ 0 then (0, e) else match rowIx s.rs n with | none => (0, 4) | some k => if inF day 0 131072 = false then (0, 2) else (sealStands s.bs s.rs[k]! ts[k]!.1 n day, 0)
def sizeF (r : Row) : Int := r.hi - r.lo + 1
/-- how many seals of a row are broken by a day -/
def goneF (bs : List (Int × Int)) (r : Row) (day : Int) : Nat := bs.countP (fun b => hasF r b.1 && decide (b.2 ≤ day))
def wholeF (bs : List (Int × Int)) (r : Row) (day : Int) : Int := sizeF r - goneF bs r day
def tallyF (bs : List (Int × Int)) (day : Int) (t : Int × Int × Int × Int) (x : Row × (Int × Int)) : Int × Int × Int × Int :=
  match t, standsF x.1 x.2.1 day, wholeF bs x.1 day, (goneF bs x.1 day : Int) with
  | (a, b, c, d), k, n, g => (if k = 0 then a + n else a, if k = 1 then b + n else b, if k = 2 then c + n else c, d + g)
def countF (s : Stk) (day : Int) : List Int × Int :=
  match termsF s with
  | (_, e, ts) => if e ≠ 0 then ([], e) else if inF day 0 131072 = false then ([], 2) else
    match (s.rs.zip ts).foldl (tallyF s.bs day) (0, 0, 0, 0) with
    | (a, b, c, d) => ([a, b, c, d], 0)
def addAt (l : List Int) (k : Nat) (n : Int) : List Int := l.set k (l[k]! + n)
def dueStep (bs : List (Int × Int)) (lo hi : Int) (l : List Int) (x : Row × (Int × Int)) : List Int :=
  if inF x.2.1 lo hi then addAt l x.1.cls.toNat (wholeF bs x.1 x.2.1) else l
def dueF (s : Stk) (lo hi : Int) : List Int × Int :=
  match termsF s with
  | (_, e, ts) => if e ≠ 0 then ([], e) else if inF lo 0 131072 = false ∨ inF hi 0 131072 = false ∨ hi < lo then ([], 2) else
    ((s.rs.zip ts).foldl (dueStep s.bs lo hi) (List.replicate s.cs.length 0), 0)
/-- the stock of the chapter's example -/
def sampleF (n : Int) : Stk := ⟨[⟨1000, 1, 300, 1⟩, ⟨500, 2, 100, 0⟩], [⟨1, 100, 0, 10⟩, ⟨101, 150, 1, 20⟩, ⟨201, 210, 0, 400⟩],
  [⟨0, 900, [5, 50, 205], 1⟩, ⟨1, 300, [110, n], 2⟩, ⟨0, 1300, [60], 0⟩], [(50, 1000), (130, 200)]⟩
example : checkF (sampleF 120) = (0, 0) := by kernel_rfl
example : endF (sampleF 120) 7 = (1310, 1, 0) := by kernel_rfl
example : endF (sampleF 120) 110 = (301, 0, 0) := by kernel_rfl
example : endF (sampleF 120) 205 = (1700, 1, 0) := by kernel_rfl
example : statusF (sampleF 120) 7 1310 = (2, 0) := by kernel_rfl
example : countF (sampleF 120) 1000 = ([0, 109, 49, 2], 0) := by kernel_rfl
example : dueF (sampleF 120) 300 1310 = ([99, 49], 0) := by kernel_rfl
example : checkF (sampleF 130) = (1, 6) := by kernel_rfl
theorem firstErr_ok {f : Nat → Int} : ∀ (n i : Nat), (∀ j, j < n → f (i + j) = 0) → firstErr f n i = (0, 0)
  | 0, _, _ => rfl
  | n + 1, i, h => by
    have h0 := h 0 (by omega)
    simp only [Nat.add_zero] at h0
    rw [firstErr, if_pos h0]
    exact firstErr_ok n (i + 1) (fun j hj => by have := h (j + 1) (by omega); rwa [show i + 1 + j = i + (j + 1) by omega])
theorem firstErr_at {f : Nat → Int} : ∀ (n i k : Nat), k < n → (∀ j, j < k → f (i + j) = 0) → f (i + k) ≠ 0 → firstErr f n i = (i + k, f (i + k))
  | 0, _, _, h, _, _ => by omega
  | n + 1, i, 0, _, _, hk => by
    rw [firstErr, if_neg (by simpa using hk)]; rfl
  | n + 1, i, k + 1, hlt, h, hk => by
    have h0 := h 0 (by omega)
    simp only [Nat.add_zero] at h0
    rw [firstErr, if_pos h0, firstErr_at n (i + 1) k (by omega) (fun j hj => by have := h (j + 1) (by omega); rwa [show i + 1 + j = i + (j + 1) by omega]) (by rwa [show i + 1 + k = i + (k + 1) by omega])]
    rw [show i + 1 + k = i + (k + 1) by omega]
end Go.Proofs.Ytcmfplfnpjknlaa
