/-
  No cell of these rows narrows 'for every input' (looked for: loops, veiled, ifaces, maps, wideKeys, modest, calm, conditions, laid).
  DERIVED. THE GIVEN ROWS OF THIS SEAT. 6 by the template 'for every input the law returns true; each argument reads behind the call as it read before'; 0 by the template 'total and deterministic' (their statements: YtclcconllkfjiaaTotals.lean).
  GIVEN WITH THE SEED: the statements are not yours to turn. If you find one false, say at which input.
  Laid BY PROGRAM, IN A SANDBOX (cutbox-rows.mjs): the forced cells as the released guide's own fill.sh prints them over the translation 72a654f36dfedaf4… (all of the seat's roots in one cut). By AI agents, Wed Nov 11 2026. No macro, syntax, notation, axiom, sorry.
-/
import Derived.Test.YtclcconllkfjiaaChecked
import GoSem.Claim
import GoSem.ClaimJoined
import GoSem.ClaimMapViews
import Derived.JoinedTies
import Derived.KernelRfl
namespace Go.Proofs.Ytclcconllkfjiaa
/- THE CELL 'sum', in the pinned program and in every row, IS THE sha256 OF THE DUMP (.gsa) THAT YtclcconllkfjiaaProg.lean LOADS. Nothing in Lean hashes anything: it is a label: what it is worth is what the hold of that sum in a sandbox is worth. -/
noncomputable def Try.pinned : Pinned := { name := "ytclcconllkfjiaa", sum := "72a654f36dfedaf46c6e7aa003feee26739bcce9b318275e09c38986e448459d", checked := Try.checked }
namespace Rows
def none {H : Type} : Left H := { results := [], args := [] }

/-- 'meterworkslaw06.LotWays': WHATEVER THE INPUT: true; the input reads as it did. -/
def lotWaysSpec : ChangeSpec := { name := "lotWays", fn := fun _ => fun
  | [d1, d2, d3, d4, d5, d6, d7] => { results := [.lit (.bool true)], args := [d1, d2, d3, d4, d5, d6, d7] }
  | _ => none }
def lotWaysRow : OpenClaim := { program := "ytclcconllkfjiaa", sum := "72a654f36dfedaf46c6e7aa003feee26739bcce9b318275e09c38986e448459d", func := "meterworks/meterworkslaw06.LotWays", spec := "lotWays", unfollowed := true, recurses := true, apart := false }
def LotWaysSaid : Prop := lotWaysRow.holds Try.pinned (OpenSpec.ofChange lotWaysSpec)

/-- ITS FALSE NEIGHBOUR: 'it returns false'. Refute it at one input. -/
def lotWaysWrong : ChangeSpec := { name := "lotWays", fn := fun _ => fun
  | [d1, d2, d3, d4, d5, d6, d7] => { results := [.lit (.bool false)], args := [d1, d2, d3, d4, d5, d6, d7] }
  | _ => none }
def LotWaysWrongFalsely : Prop := lotWaysRow.holds Try.pinned (OpenSpec.ofChange lotWaysWrong)

/-- 'meterworkslaw06.LotNames': WHATEVER THE INPUT: true; the input reads as it did. -/
def lotNamesSpec : ChangeSpec := { name := "lotNames", fn := fun _ => fun
  | [] => { results := [.lit (.bool true)], args := [] }
  | _ => none }
def lotNamesRow : OpenClaim := { program := "ytclcconllkfjiaa", sum := "72a654f36dfedaf46c6e7aa003feee26739bcce9b318275e09c38986e448459d", func := "meterworks/meterworkslaw06.LotNames", spec := "lotNames", unfollowed := true, recurses := true, apart := false }
def LotNamesSaid : Prop := lotNamesRow.holds Try.pinned (OpenSpec.ofChange lotNamesSpec)

/-- ITS FALSE NEIGHBOUR: 'it returns false'. Refute it at one input. -/
def lotNamesWrong : ChangeSpec := { name := "lotNames", fn := fun _ => fun
  | [] => { results := [.lit (.bool false)], args := [] }
  | _ => none }
def LotNamesWrongFalsely : Prop := lotNamesRow.holds Try.pinned (OpenSpec.ofChange lotNamesWrong)

/-- 'meterworkslaw06.LotCounts': WHATEVER THE INPUT: true; the input reads as it did. -/
def lotCountsSpec : ChangeSpec := { name := "lotCounts", fn := fun _ => fun
  | [d1, d2, d3] => { results := [.lit (.bool true)], args := [d1, d2, d3] }
  | _ => none }
def lotCountsRow : OpenClaim := { program := "ytclcconllkfjiaa", sum := "72a654f36dfedaf46c6e7aa003feee26739bcce9b318275e09c38986e448459d", func := "meterworks/meterworkslaw06.LotCounts", spec := "lotCounts", unfollowed := true, recurses := true, apart := false }
def LotCountsSaid : Prop := lotCountsRow.holds Try.pinned (OpenSpec.ofChange lotCountsSpec)

/-- ITS FALSE NEIGHBOUR: 'it returns false'. Refute it at one input. -/
def lotCountsWrong : ChangeSpec := { name := "lotCounts", fn := fun _ => fun
  | [d1, d2, d3] => { results := [.lit (.bool false)], args := [d1, d2, d3] }
  | _ => none }
def LotCountsWrongFalsely : Prop := lotCountsRow.holds Try.pinned (OpenSpec.ofChange lotCountsWrong)

/-- 'meterworkslaw06.LotTwice': WHATEVER THE INPUT: true; the input reads as it did. -/
def lotTwiceSpec : ChangeSpec := { name := "lotTwice", fn := fun _ => fun
  | [d1, d2, d3] => { results := [.lit (.bool true)], args := [d1, d2, d3] }
  | _ => none }
def lotTwiceRow : OpenClaim := { program := "ytclcconllkfjiaa", sum := "72a654f36dfedaf46c6e7aa003feee26739bcce9b318275e09c38986e448459d", func := "meterworks/meterworkslaw06.LotTwice", spec := "lotTwice", unfollowed := true, recurses := true, apart := false }
def LotTwiceSaid : Prop := lotTwiceRow.holds Try.pinned (OpenSpec.ofChange lotTwiceSpec)

/-- ITS FALSE NEIGHBOUR: 'it returns false'. Refute it at one input. -/
def lotTwiceWrong : ChangeSpec := { name := "lotTwice", fn := fun _ => fun
  | [d1, d2, d3] => { results := [.lit (.bool false)], args := [d1, d2, d3] }
  | _ => none }
def LotTwiceWrongFalsely : Prop := lotTwiceRow.holds Try.pinned (OpenSpec.ofChange lotTwiceWrong)

/-- 'meterworkslaw06.LotWithin': WHATEVER THE INPUT: true; the input reads as it did. -/
def lotWithinSpec : ChangeSpec := { name := "lotWithin", fn := fun _ => fun
  | [d1, d2, d3, d4, d5, d6] => { results := [.lit (.bool true)], args := [d1, d2, d3, d4, d5, d6] }
  | _ => none }
def lotWithinRow : OpenClaim := { program := "ytclcconllkfjiaa", sum := "72a654f36dfedaf46c6e7aa003feee26739bcce9b318275e09c38986e448459d", func := "meterworks/meterworkslaw06.LotWithin", spec := "lotWithin", unfollowed := true, recurses := true, apart := false }
def LotWithinSaid : Prop := lotWithinRow.holds Try.pinned (OpenSpec.ofChange lotWithinSpec)

/-- ITS FALSE NEIGHBOUR: 'it returns false'. Refute it at one input. -/
def lotWithinWrong : ChangeSpec := { name := "lotWithin", fn := fun _ => fun
  | [d1, d2, d3, d4, d5, d6] => { results := [.lit (.bool false)], args := [d1, d2, d3, d4, d5, d6] }
  | _ => none }
def LotWithinWrongFalsely : Prop := lotWithinRow.holds Try.pinned (OpenSpec.ofChange lotWithinWrong)

/-- 'meterworkslaw06.LotOwns': WHATEVER THE INPUT: true; the input reads as it did. -/
def lotOwnsSpec : ChangeSpec := { name := "lotOwns", fn := fun _ => fun
  | [d] => { results := [.lit (.bool true)], args := [d] }
  | _ => none }
def lotOwnsRow : OpenClaim := { program := "ytclcconllkfjiaa", sum := "72a654f36dfedaf46c6e7aa003feee26739bcce9b318275e09c38986e448459d", func := "meterworks/meterworkslaw06.LotOwns", spec := "lotOwns", unfollowed := true, recurses := true, apart := false }
def LotOwnsSaid : Prop := lotOwnsRow.holds Try.pinned (OpenSpec.ofChange lotOwnsSpec)

/-- ITS FALSE NEIGHBOUR: 'it returns false'. Refute it at one input. -/
def lotOwnsWrong : ChangeSpec := { name := "lotOwns", fn := fun _ => fun
  | [d] => { results := [.lit (.bool false)], args := [d] }
  | _ => none }
def LotOwnsWrongFalsely : Prop := lotOwnsRow.holds Try.pinned (OpenSpec.ofChange lotOwnsWrong)

/- THE SECOND FORM. 'bulk': how many values and letters a reading holds, each counted each time it is reached (what is shared counts as often as it is met; a slice's spare places count too). A statement '..UptoSaid' is the law's where the arguments, and the package variables that the reading takes, are together of bulk at most 1048576: NARROWER than '..Said'. Prove '..Said' where nothing that the law and all that it calls make is longer than what came in: it says more and counts as full. Else prove '..UptoSaid'. A law counts once. -/
mutual
def uptoBulk {H : Type} : DataW H → Nat
  | .lit (.string bytes) => bytes.length + 1
  | .lit _ => 1
  | .nil => 1
  | .ptr d => uptoBulk d + 1
  | .slice elems spare => uptoBulkAll elems + uptoBulkAll spare + 1
  | .agg parts => uptoBulkAll parts + 1
  | .iface _ d => uptoBulk d + 1
  | .map entries => uptoBulkEntries entries + 1
  | .held _ => 1
def uptoBulkAll {H : Type} : List (DataW H) → Nat
  | [] => 0
  | d :: r => uptoBulk d + uptoBulkAll r
def uptoBulkEntries {H : Type} : List (Lit × DataW H) → Nat
  | [] => 0
  | x :: r => uptoBulkEntry x + uptoBulkEntries r
def uptoBulkEntry {H : Type} : Lit × DataW H → Nat
  | (.string bytes, d) => bytes.length + uptoBulk d + 1
  | (_, d) => uptoBulk d + 1
 end
def uptoSmall : (H : Type) → List (DataW H) → Bool := fun _ ds => decide (uptoBulkAll ds ≤ 1048576)
def OpenSpec.upto (s : _root_.Go.ChangeSpec) : _root_.Go.OpenSpec := { _root_.Go.OpenSpec.ofChange s with cond := some uptoSmall }

/-- 'meterworkslaw06.LotWays', WHERE WHAT IT READS IS OF BULK AT MOST 1048576: true; the input reads as it did. -/
def lotWaysUptoRow : OpenClaim := { program := "ytclcconllkfjiaa", sum := "72a654f36dfedaf46c6e7aa003feee26739bcce9b318275e09c38986e448459d", func := "meterworks/meterworkslaw06.LotWays", spec := "lotWays", unfollowed := true, recurses := true, apart := false, narrowed := true }
def LotWaysUptoSaid : Prop := lotWaysUptoRow.holds Try.pinned (OpenSpec.upto lotWaysSpec)

/-- 'meterworkslaw06.LotNames', WHERE WHAT IT READS IS OF BULK AT MOST 1048576: true; the input reads as it did. -/
def lotNamesUptoRow : OpenClaim := { program := "ytclcconllkfjiaa", sum := "72a654f36dfedaf46c6e7aa003feee26739bcce9b318275e09c38986e448459d", func := "meterworks/meterworkslaw06.LotNames", spec := "lotNames", unfollowed := true, recurses := true, apart := false, narrowed := true }
def LotNamesUptoSaid : Prop := lotNamesUptoRow.holds Try.pinned (OpenSpec.upto lotNamesSpec)

/-- 'meterworkslaw06.LotCounts', WHERE WHAT IT READS IS OF BULK AT MOST 1048576: true; the input reads as it did. -/
def lotCountsUptoRow : OpenClaim := { program := "ytclcconllkfjiaa", sum := "72a654f36dfedaf46c6e7aa003feee26739bcce9b318275e09c38986e448459d", func := "meterworks/meterworkslaw06.LotCounts", spec := "lotCounts", unfollowed := true, recurses := true, apart := false, narrowed := true }
def LotCountsUptoSaid : Prop := lotCountsUptoRow.holds Try.pinned (OpenSpec.upto lotCountsSpec)

/-- 'meterworkslaw06.LotTwice', WHERE WHAT IT READS IS OF BULK AT MOST 1048576: true; the input reads as it did. -/
def lotTwiceUptoRow : OpenClaim := { program := "ytclcconllkfjiaa", sum := "72a654f36dfedaf46c6e7aa003feee26739bcce9b318275e09c38986e448459d", func := "meterworks/meterworkslaw06.LotTwice", spec := "lotTwice", unfollowed := true, recurses := true, apart := false, narrowed := true }
def LotTwiceUptoSaid : Prop := lotTwiceUptoRow.holds Try.pinned (OpenSpec.upto lotTwiceSpec)

/-- 'meterworkslaw06.LotWithin', WHERE WHAT IT READS IS OF BULK AT MOST 1048576: true; the input reads as it did. -/
def lotWithinUptoRow : OpenClaim := { program := "ytclcconllkfjiaa", sum := "72a654f36dfedaf46c6e7aa003feee26739bcce9b318275e09c38986e448459d", func := "meterworks/meterworkslaw06.LotWithin", spec := "lotWithin", unfollowed := true, recurses := true, apart := false, narrowed := true }
def LotWithinUptoSaid : Prop := lotWithinUptoRow.holds Try.pinned (OpenSpec.upto lotWithinSpec)

/-- 'meterworkslaw06.LotOwns', WHERE WHAT IT READS IS OF BULK AT MOST 1048576: true; the input reads as it did. -/
def lotOwnsUptoRow : OpenClaim := { program := "ytclcconllkfjiaa", sum := "72a654f36dfedaf46c6e7aa003feee26739bcce9b318275e09c38986e448459d", func := "meterworks/meterworkslaw06.LotOwns", spec := "lotOwns", unfollowed := true, recurses := true, apart := false, narrowed := true }
def LotOwnsUptoSaid : Prop := lotOwnsUptoRow.holds Try.pinned (OpenSpec.upto lotOwnsSpec)

end Rows
end Go.Proofs.Ytclcconllkfjiaa
