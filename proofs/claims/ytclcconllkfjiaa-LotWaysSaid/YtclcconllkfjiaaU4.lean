/- Contract: the document's Twice, as sums over both samples. -/
import Derived.Test.YtclcconllkfjiaaU2
import Derived.Test.YtclcconllkfjiaaA13
namespace Go.Proofs.Ytclcconllkfjiaa
set_option linter.unusedSimpArgs false
set_option linter.unusedVariables false
open Go.RowKit

/-- on how many second samples less than j are bad -/
def inI (n b s : Int) : Nat → Nat
  | 0 => 0
  | j + 1 => inI n b s j + exI n b s j
/-- what the samples with x bad ones of the first add to those that pass, up to j bad ones of the second -/
def pasI (ac re tot : Int) (E : Nat) (I : Nat → Nat) (x j : Nat) : Nat := if (x : Int) ≤ ac then E * I j else if (x : Int) < re then E * I (min j (tot - x + 1).toNat) else 0
def secI (ac re : Int) (E : Nat) (I : Nat → Nat) (x j : Nat) : Nat := if (x : Int) ≤ ac then 0 else if (x : Int) < re then E * I j else 0
structure Par where
  (n b c ac re s tot : Int)
def Par.E (p : Par) (x : Nat) : Nat := exI p.n p.b p.c x
def Par.I (p : Par) (x : Nat) : Nat → Nat := inI (p.n - p.c) (p.b - x) p.s
def Par.pas (p : Par) (x j : Nat) : Nat := pasI p.ac p.re p.tot (p.E x) (p.I x) x j
def Par.sec (p : Par) (x j : Nat) : Nat := secI p.ac p.re (p.E x) (p.I x) x j
def Par.all (p : Par) (x j : Nat) : Nat := p.E x * p.I x j
/-- a sum over the first samples -/
def sumX (f : Nat → Nat) : Nat → Nat
  | 0 => 0
  | k + 1 => sumX f k + f k
theorem all_step (p : Par) (x j : Nat) : p.all x (j + 1) = p.all x j + p.E x * exI (p.n - p.c) (p.b - x) p.s j := by
  unfold Par.all Par.I
  show p.E x * (inI _ _ _ j + _) = _
  rw [Nat.mul_add]
theorem pas_step1 (p : Par) (x j : Nat) (h : (x : Int) ≤ p.ac) : p.pas x (j + 1) = p.pas x j + p.E x * exI (p.n - p.c) (p.b - x) p.s j := by
  unfold Par.pas pasI
  rw [if_pos h, if_pos h]
  exact all_step p x j
theorem pas_step2 (p : Par) (x j : Nat) (h : ¬ (x : Int) ≤ p.ac) (h2 : (x : Int) < p.re) (h3 : (x : Int) + j ≤ p.tot) : p.pas x (j + 1) = p.pas x j + p.E x * exI (p.n - p.c) (p.b - x) p.s j := by
  unfold Par.pas pasI
  rw [if_neg h, if_neg h, if_pos h2, if_pos h2, show min (j + 1) (p.tot - x + 1).toNat = j + 1 by omega, show min j (p.tot - x + 1).toNat = j by omega]
  exact all_step p x j
theorem pas_step3 (p : Par) (x j : Nat) (h : ¬ (x : Int) ≤ p.ac) (h2 : (x : Int) < p.re) (h3 : ¬ (x : Int) + j ≤ p.tot) : p.pas x (j + 1) = p.pas x j := by
  unfold Par.pas pasI
  rw [if_neg h, if_neg h, if_pos h2, if_pos h2, show min (j + 1) (p.tot - x + 1).toNat = min j (p.tot - x + 1).toNat by omega]
theorem pas_step4 (p : Par) (x j : Nat) (h : ¬ (x : Int) ≤ p.ac) (h2 : ¬ (x : Int) < p.re) : p.pas x (j + 1) = p.pas x j := by
  unfold Par.pas pasI
  rw [if_neg h, if_neg h, if_neg h2, if_neg h2]
theorem sec_step1 (p : Par) (x j : Nat) (h : (x : Int) ≤ p.ac) : p.sec x (j + 1) = p.sec x j := by
  unfold Par.sec secI
  rw [if_pos h, if_pos h]
theorem sec_step2 (p : Par) (x j : Nat) (h : ¬ (x : Int) ≤ p.ac) (h2 : (x : Int) < p.re) : p.sec x (j + 1) = p.sec x j + p.E x * exI (p.n - p.c) (p.b - x) p.s j := by
  unfold Par.sec secI
  rw [if_neg h, if_neg h, if_pos h2, if_pos h2]
  exact all_step p x j
theorem sec_step3 (p : Par) (x j : Nat) (h : ¬ (x : Int) ≤ p.ac) (h2 : ¬ (x : Int) < p.re) : p.sec x (j + 1) = p.sec x j := by
  unfold Par.sec secI
  rw [if_neg h, if_neg h, if_neg h2, if_neg h2]
theorem pas_zero (p : Par) (x : Nat) : p.pas x 0 = 0 := by
  unfold Par.pas pasI Par.I
  split
  · exact Nat.mul_zero _
  · split
    · rw [Nat.zero_min]; exact Nat.mul_zero _
    · rfl
theorem sec_zero (p : Par) (x : Nat) : p.sec x 0 = 0 := by
  unfold Par.sec secI Par.I
  split
  · rfl
  · split
    · exact Nat.mul_zero _
    · rfl
theorem all_zero (p : Par) (x : Nat) : p.all x 0 = 0 := Nat.mul_zero _
/-- an int as it is kept -/
def wv (n : Nat) : Int := IntKind.i64.wrap (n : Int)
theorem wv_add (a b : Nat) : IntKind.i64.wrap (wv a + (b : Int)) = wv (a + b) := by unfold wv; rw [wrap_wrap, ← Int.natCast_add]
end Go.Proofs.Ytclcconllkfjiaa
