/-
  No cell of these rows narrows 'for every input' (looked for: loops, veiled, ifaces, maps, wideKeys, modest, calm, conditions, laid).
  DERIVED. THE GIVEN ROWS OF THIS SEAT. 8 by the template 'for every input the law returns true; each argument reads behind the call as it read before'; 0 by the template 'total and deterministic' (their statements: YtoiapnokgpeipaaTotals.lean).
  GIVEN WITH THE SEED: the statements are not yours to turn. If you find one false, say at which input.
  Laid BY PROGRAM, IN A SANDBOX (cutbox-rows.mjs): the forced cells as the released guide's own fill.sh prints them over the translation 4db704e8315734da… (all of the seat's roots in one cut). By AI agents, Wed Nov 11 2026. No macro, syntax, notation, axiom, sorry.
-/
import Derived.Test.YtoiapnokgpeipaaChecked
import GoSem.Claim
import GoSem.ClaimJoined
import GoSem.ClaimMapViews
import Derived.JoinedTies
import Derived.KernelRfl
namespace Go.Proofs.Ytoiapnokgpeipaa
/- THE CELL 'sum', in the pinned program and in every row, IS THE sha256 OF THE DUMP (.gsa) THAT YtoiapnokgpeipaaProg.lean LOADS. Nothing in Lean hashes anything: it is a label: what it is worth is what the hold of that sum in a sandbox is worth. -/
noncomputable def Try.pinned : Pinned := { name := "ytoiapnokgpeipaa", sum := "4db704e8315734daeb9b91d42a0c784a70e1f09282e96bc7e27e18768a1485c5", checked := Try.checked }
namespace Rows
def none {H : Type} : Left H := { results := [], args := [] }

/-- 'meterworkslaw01.GearBuilds': WHATEVER THE INPUT: true; the input reads as it did. -/
def gearBuildsSpec : ChangeSpec := { name := "gearBuilds", fn := fun _ => fun
  | [d1, d2, d3, d4] => { results := [.lit (.bool true)], args := [d1, d2, d3, d4] }
  | _ => none }
def gearBuildsRow : OpenClaim := { program := "ytoiapnokgpeipaa", sum := "4db704e8315734daeb9b91d42a0c784a70e1f09282e96bc7e27e18768a1485c5", func := "meterworks/meterworkslaw01.GearBuilds", spec := "gearBuilds", unfollowed := true, recurses := true, apart := false }
def GearBuildsSaid : Prop := gearBuildsRow.holds Try.pinned (OpenSpec.ofChange gearBuildsSpec)

/-- ITS FALSE NEIGHBOUR: 'it returns false'. Refute it at one input. -/
def gearBuildsWrong : ChangeSpec := { name := "gearBuilds", fn := fun _ => fun
  | [d1, d2, d3, d4] => { results := [.lit (.bool false)], args := [d1, d2, d3, d4] }
  | _ => none }
def GearBuildsWrongFalsely : Prop := gearBuildsRow.holds Try.pinned (OpenSpec.ofChange gearBuildsWrong)

/-- 'meterworkslaw01.GearChooses': WHATEVER THE INPUT: true; the input reads as it did. -/
def gearChoosesSpec : ChangeSpec := { name := "gearChooses", fn := fun _ => fun
  | [d1, d2] => { results := [.lit (.bool true)], args := [d1, d2] }
  | _ => none }
def gearChoosesRow : OpenClaim := { program := "ytoiapnokgpeipaa", sum := "4db704e8315734daeb9b91d42a0c784a70e1f09282e96bc7e27e18768a1485c5", func := "meterworks/meterworkslaw01.GearChooses", spec := "gearChooses", unfollowed := true, recurses := true, apart := false }
def GearChoosesSaid : Prop := gearChoosesRow.holds Try.pinned (OpenSpec.ofChange gearChoosesSpec)

/-- ITS FALSE NEIGHBOUR: 'it returns false'. Refute it at one input. -/
def gearChoosesWrong : ChangeSpec := { name := "gearChooses", fn := fun _ => fun
  | [d1, d2] => { results := [.lit (.bool false)], args := [d1, d2] }
  | _ => none }
def GearChoosesWrongFalsely : Prop := gearChoosesRow.holds Try.pinned (OpenSpec.ofChange gearChoosesWrong)

/-- 'meterworkslaw01.GearNames': WHATEVER THE INPUT: true; the input reads as it did. -/
def gearNamesSpec : ChangeSpec := { name := "gearNames", fn := fun _ => fun
  | [] => { results := [.lit (.bool true)], args := [] }
  | _ => none }
def gearNamesRow : OpenClaim := { program := "ytoiapnokgpeipaa", sum := "4db704e8315734daeb9b91d42a0c784a70e1f09282e96bc7e27e18768a1485c5", func := "meterworks/meterworkslaw01.GearNames", spec := "gearNames", unfollowed := true, recurses := true, apart := false }
def GearNamesSaid : Prop := gearNamesRow.holds Try.pinned (OpenSpec.ofChange gearNamesSpec)

/-- ITS FALSE NEIGHBOUR: 'it returns false'. Refute it at one input. -/
def gearNamesWrong : ChangeSpec := { name := "gearNames", fn := fun _ => fun
  | [] => { results := [.lit (.bool false)], args := [] }
  | _ => none }
def GearNamesWrongFalsely : Prop := gearNamesRow.holds Try.pinned (OpenSpec.ofChange gearNamesWrong)

/-- 'meterworkslaw01.GearExact': WHATEVER THE INPUT: true; the input reads as it did. -/
def gearExactSpec : ChangeSpec := { name := "gearExact", fn := fun _ => fun
  | [d1, d2, d3, d4] => { results := [.lit (.bool true)], args := [d1, d2, d3, d4] }
  | _ => none }
def gearExactRow : OpenClaim := { program := "ytoiapnokgpeipaa", sum := "4db704e8315734daeb9b91d42a0c784a70e1f09282e96bc7e27e18768a1485c5", func := "meterworks/meterworkslaw01.GearExact", spec := "gearExact", unfollowed := true, recurses := true, apart := false }
def GearExactSaid : Prop := gearExactRow.holds Try.pinned (OpenSpec.ofChange gearExactSpec)

/-- ITS FALSE NEIGHBOUR: 'it returns false'. Refute it at one input. -/
def gearExactWrong : ChangeSpec := { name := "gearExact", fn := fun _ => fun
  | [d1, d2, d3, d4] => { results := [.lit (.bool false)], args := [d1, d2, d3, d4] }
  | _ => none }
def GearExactWrongFalsely : Prop := gearExactRow.holds Try.pinned (OpenSpec.ofChange gearExactWrong)

/-- 'meterworkslaw01.GearFewest': WHATEVER THE INPUT: true; the input reads as it did. -/
def gearFewestSpec : ChangeSpec := { name := "gearFewest", fn := fun _ => fun
  | [d1, d2, d3] => { results := [.lit (.bool true)], args := [d1, d2, d3] }
  | _ => none }
def gearFewestRow : OpenClaim := { program := "ytoiapnokgpeipaa", sum := "4db704e8315734daeb9b91d42a0c784a70e1f09282e96bc7e27e18768a1485c5", func := "meterworks/meterworkslaw01.GearFewest", spec := "gearFewest", unfollowed := true, recurses := true, apart := false }
def GearFewestSaid : Prop := gearFewestRow.holds Try.pinned (OpenSpec.ofChange gearFewestSpec)

/-- ITS FALSE NEIGHBOUR: 'it returns false'. Refute it at one input. -/
def gearFewestWrong : ChangeSpec := { name := "gearFewest", fn := fun _ => fun
  | [d1, d2, d3] => { results := [.lit (.bool false)], args := [d1, d2, d3] }
  | _ => none }
def GearFewestWrongFalsely : Prop := gearFewestRow.holds Try.pinned (OpenSpec.ofChange gearFewestWrong)

/-- 'meterworkslaw01.GearNearest': WHATEVER THE INPUT: true; the input reads as it did. -/
def gearNearestSpec : ChangeSpec := { name := "gearNearest", fn := fun _ => fun
  | [d1, d2, d3] => { results := [.lit (.bool true)], args := [d1, d2, d3] }
  | _ => none }
def gearNearestRow : OpenClaim := { program := "ytoiapnokgpeipaa", sum := "4db704e8315734daeb9b91d42a0c784a70e1f09282e96bc7e27e18768a1485c5", func := "meterworks/meterworkslaw01.GearNearest", spec := "gearNearest", unfollowed := true, recurses := true, apart := false }
def GearNearestSaid : Prop := gearNearestRow.holds Try.pinned (OpenSpec.ofChange gearNearestSpec)

/-- ITS FALSE NEIGHBOUR: 'it returns false'. Refute it at one input. -/
def gearNearestWrong : ChangeSpec := { name := "gearNearest", fn := fun _ => fun
  | [d1, d2, d3] => { results := [.lit (.bool false)], args := [d1, d2, d3] }
  | _ => none }
def GearNearestWrongFalsely : Prop := gearNearestRow.holds Try.pinned (OpenSpec.ofChange gearNearestWrong)

/-- 'meterworkslaw01.GearMore': WHATEVER THE INPUT: true; the input reads as it did. -/
def gearMoreSpec : ChangeSpec := { name := "gearMore", fn := fun _ => fun
  | [d1, d2, d3, d4] => { results := [.lit (.bool true)], args := [d1, d2, d3, d4] }
  | _ => none }
def gearMoreRow : OpenClaim := { program := "ytoiapnokgpeipaa", sum := "4db704e8315734daeb9b91d42a0c784a70e1f09282e96bc7e27e18768a1485c5", func := "meterworks/meterworkslaw01.GearMore", spec := "gearMore", unfollowed := true, recurses := true, apart := false }
def GearMoreSaid : Prop := gearMoreRow.holds Try.pinned (OpenSpec.ofChange gearMoreSpec)

/-- ITS FALSE NEIGHBOUR: 'it returns false'. Refute it at one input. -/
def gearMoreWrong : ChangeSpec := { name := "gearMore", fn := fun _ => fun
  | [d1, d2, d3, d4] => { results := [.lit (.bool false)], args := [d1, d2, d3, d4] }
  | _ => none }
def GearMoreWrongFalsely : Prop := gearMoreRow.holds Try.pinned (OpenSpec.ofChange gearMoreWrong)

/-- 'meterworkslaw01.GearOwns': WHATEVER THE INPUT: true; the input reads as it did. -/
def gearOwnsSpec : ChangeSpec := { name := "gearOwns", fn := fun _ => fun
  | [d1, d2, d3] => { results := [.lit (.bool true)], args := [d1, d2, d3] }
  | _ => none }
def gearOwnsRow : OpenClaim := { program := "ytoiapnokgpeipaa", sum := "4db704e8315734daeb9b91d42a0c784a70e1f09282e96bc7e27e18768a1485c5", func := "meterworks/meterworkslaw01.GearOwns", spec := "gearOwns", unfollowed := true, recurses := true, apart := false }
def GearOwnsSaid : Prop := gearOwnsRow.holds Try.pinned (OpenSpec.ofChange gearOwnsSpec)

/-- ITS FALSE NEIGHBOUR: 'it returns false'. Refute it at one input. -/
def gearOwnsWrong : ChangeSpec := { name := "gearOwns", fn := fun _ => fun
  | [d1, d2, d3] => { results := [.lit (.bool false)], args := [d1, d2, d3] }
  | _ => none }
def GearOwnsWrongFalsely : Prop := gearOwnsRow.holds Try.pinned (OpenSpec.ofChange gearOwnsWrong)

/- THE SECOND FORM. 'bulk': how many values and letters a reading holds, each counted each time it is reached (what is shared counts as often as it is met; a slice's spare places count too). A statement '..UptoSaid' is the law's where the arguments, and the package variables that the reading takes, are together of bulk at most 1048576: NARROWER than '..Said'. Prove '..Said' where nothing that the law and all that it calls make is longer than what came in: it says more and counts as full. Else prove '..UptoSaid'. A law counts once. -/
mutual
def uptoBulk {H : Type} : DataW H → Nat
  | .lit (.string bytes) => bytes.length + 1
  | .lit _ => 1
  | .nil => 1
  | .ptr d => uptoBulk d + 1
  | .slice elems spare => uptoBulkAll elems + uptoBulkAll spare + 1
  | .agg parts => uptoBulkAll parts + 1
  | .iface _ d => uptoBulk d + 1
  | .map entries => uptoBulkEntries entries + 1
  | .held _ => 1
def uptoBulkAll {H : Type} : List (DataW H) → Nat
  | [] => 0
  | d :: r => uptoBulk d + uptoBulkAll r
def uptoBulkEntries {H : Type} : List (Lit × DataW H) → Nat
  | [] => 0
  | x :: r => uptoBulkEntry x + uptoBulkEntries r
def uptoBulkEntry {H : Type} : Lit × DataW H → Nat
  | (.string bytes, d) => bytes.length + uptoBulk d + 1
  | (_, d) => uptoBulk d + 1
 end
def uptoSmall : (H : Type) → List (DataW H) → Bool := fun _ ds => decide (uptoBulkAll ds ≤ 1048576)
def OpenSpec.upto (s : _root_.Go.ChangeSpec) : _root_.Go.OpenSpec := { _root_.Go.OpenSpec.ofChange s with cond := some uptoSmall }

/-- 'meterworkslaw01.GearBuilds', WHERE WHAT IT READS IS OF BULK AT MOST 1048576: true; the input reads as it did. -/
def gearBuildsUptoRow : OpenClaim := { program := "ytoiapnokgpeipaa", sum := "4db704e8315734daeb9b91d42a0c784a70e1f09282e96bc7e27e18768a1485c5", func := "meterworks/meterworkslaw01.GearBuilds", spec := "gearBuilds", unfollowed := true, recurses := true, apart := false, narrowed := true }
def GearBuildsUptoSaid : Prop := gearBuildsUptoRow.holds Try.pinned (OpenSpec.upto gearBuildsSpec)

/-- 'meterworkslaw01.GearChooses', WHERE WHAT IT READS IS OF BULK AT MOST 1048576: true; the input reads as it did. -/
def gearChoosesUptoRow : OpenClaim := { program := "ytoiapnokgpeipaa", sum := "4db704e8315734daeb9b91d42a0c784a70e1f09282e96bc7e27e18768a1485c5", func := "meterworks/meterworkslaw01.GearChooses", spec := "gearChooses", unfollowed := true, recurses := true, apart := false, narrowed := true }
def GearChoosesUptoSaid : Prop := gearChoosesUptoRow.holds Try.pinned (OpenSpec.upto gearChoosesSpec)

/-- 'meterworkslaw01.GearNames', WHERE WHAT IT READS IS OF BULK AT MOST 1048576: true; the input reads as it did. -/
def gearNamesUptoRow : OpenClaim := { program := "ytoiapnokgpeipaa", sum := "4db704e8315734daeb9b91d42a0c784a70e1f09282e96bc7e27e18768a1485c5", func := "meterworks/meterworkslaw01.GearNames", spec := "gearNames", unfollowed := true, recurses := true, apart := false, narrowed := true }
def GearNamesUptoSaid : Prop := gearNamesUptoRow.holds Try.pinned (OpenSpec.upto gearNamesSpec)

/-- 'meterworkslaw01.GearExact', WHERE WHAT IT READS IS OF BULK AT MOST 1048576: true; the input reads as it did. -/
def gearExactUptoRow : OpenClaim := { program := "ytoiapnokgpeipaa", sum := "4db704e8315734daeb9b91d42a0c784a70e1f09282e96bc7e27e18768a1485c5", func := "meterworks/meterworkslaw01.GearExact", spec := "gearExact", unfollowed := true, recurses := true, apart := false, narrowed := true }
def GearExactUptoSaid : Prop := gearExactUptoRow.holds Try.pinned (OpenSpec.upto gearExactSpec)

/-- 'meterworkslaw01.GearFewest', WHERE WHAT IT READS IS OF BULK AT MOST 1048576: true; the input reads as it did. -/
def gearFewestUptoRow : OpenClaim := { program := "ytoiapnokgpeipaa", sum := "4db704e8315734daeb9b91d42a0c784a70e1f09282e96bc7e27e18768a1485c5", func := "meterworks/meterworkslaw01.GearFewest", spec := "gearFewest", unfollowed := true, recurses := true, apart := false, narrowed := true }
def GearFewestUptoSaid : Prop := gearFewestUptoRow.holds Try.pinned (OpenSpec.upto gearFewestSpec)

/-- 'meterworkslaw01.GearNearest', WHERE WHAT IT READS IS OF BULK AT MOST 1048576: true; the input reads as it did. -/
def gearNearestUptoRow : OpenClaim := { program := "ytoiapnokgpeipaa", sum := "4db704e8315734daeb9b91d42a0c784a70e1f09282e96bc7e27e18768a1485c5", func := "meterworks/meterworkslaw01.GearNearest", spec := "gearNearest", unfollowed := true, recurses := true, apart := false, narrowed := true }
def GearNearestUptoSaid : Prop := gearNearestUptoRow.holds Try.pinned (OpenSpec.upto gearNearestSpec)

/-- 'meterworkslaw01.GearMore', WHERE WHAT IT READS IS OF BULK AT MOST 1048576: true; the input reads as it did. -/
def gearMoreUptoRow : OpenClaim := { program := "ytoiapnokgpeipaa", sum := "4db704e8315734daeb9b91d42a0c784a70e1f09282e96bc7e27e18768a1485c5", func := "meterworks/meterworkslaw01.GearMore", spec := "gearMore", unfollowed := true, recurses := true, apart := false, narrowed := true }
def GearMoreUptoSaid : Prop := gearMoreUptoRow.holds Try.pinned (OpenSpec.upto gearMoreSpec)

/-- 'meterworkslaw01.GearOwns', WHERE WHAT IT READS IS OF BULK AT MOST 1048576: true; the input reads as it did. -/
def gearOwnsUptoRow : OpenClaim := { program := "ytoiapnokgpeipaa", sum := "4db704e8315734daeb9b91d42a0c784a70e1f09282e96bc7e27e18768a1485c5", func := "meterworks/meterworkslaw01.GearOwns", spec := "gearOwns", unfollowed := true, recurses := true, apart := false, narrowed := true }
def GearOwnsUptoSaid : Prop := gearOwnsUptoRow.holds Try.pinned (OpenSpec.upto gearOwnsSpec)

end Rows
end Go.Proofs.Ytoiapnokgpeipaa
