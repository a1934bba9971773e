/-
  No cell of these rows narrows 'for every input' (looked for: loops, veiled, ifaces, maps, wideKeys, modest, calm, conditions, laid).
  DERIVED. THE GIVEN ROWS OF THIS SEAT. 8 by the template 'for every input the law returns true; each argument reads behind the call as it read before'; 0 by the template 'total and deterministic' (their statements: YtdbjifpnbghbaaaTotals.lean).
  GIVEN WITH THE SEED: the statements are not yours to turn. If you find one false, say at which input.
  Laid BY PROGRAM, IN A SANDBOX (cutbox-rows.mjs): the forced cells as the released guide's own fill.sh prints them over the translation fc3a6a297ab142ca… (all of the seat's roots in one cut). By AI agents, Wed Nov 11 2026. No macro, syntax, notation, axiom, sorry.
-/
import Derived.Test.YtdbjifpnbghbaaaChecked
import GoSem.Claim
import GoSem.ClaimJoined
import GoSem.ClaimMapViews
import Derived.JoinedTies
import Derived.KernelRfl
namespace Go.Proofs.Ytdbjifpnbghbaaa
/- THE CELL 'sum', in the pinned program and in every row, IS THE sha256 OF THE DUMP (.gsa) THAT YtdbjifpnbghbaaaProg.lean LOADS. Nothing in Lean hashes anything: it is a label: what it is worth is what the hold of that sum in a sandbox is worth. -/
noncomputable def Try.pinned : Pinned := { name := "ytdbjifpnbghbaaa", sum := "fc3a6a297ab142ca7ef819a2f76143f478c0400f95d2e642b0c19605ea6d0e64", checked := Try.checked }
namespace Rows
def none {H : Type} : Left H := { results := [], args := [] }

/-- 'meterworkslaw11.SoundLags': WHATEVER THE INPUT: true; the input reads as it did. -/
def soundLagsSpec : ChangeSpec := { name := "soundLags", fn := fun _ => fun
  | [d1, d2, d3, d4, d5] => { results := [.lit (.bool true)], args := [d1, d2, d3, d4, d5] }
  | _ => none }
def soundLagsRow : OpenClaim := { program := "ytdbjifpnbghbaaa", sum := "fc3a6a297ab142ca7ef819a2f76143f478c0400f95d2e642b0c19605ea6d0e64", func := "meterworks/meterworkslaw11.SoundLags", spec := "soundLags", unfollowed := true, recurses := true, apart := false }
def SoundLagsSaid : Prop := soundLagsRow.holds Try.pinned (OpenSpec.ofChange soundLagsSpec)

/-- ITS FALSE NEIGHBOUR: 'it returns false'. Refute it at one input. -/
def soundLagsWrong : ChangeSpec := { name := "soundLags", fn := fun _ => fun
  | [d1, d2, d3, d4, d5] => { results := [.lit (.bool false)], args := [d1, d2, d3, d4, d5] }
  | _ => none }
def SoundLagsWrongFalsely : Prop := soundLagsRow.holds Try.pinned (OpenSpec.ofChange soundLagsWrong)

/-- 'meterworkslaw11.SoundWheres': WHATEVER THE INPUT: true; the input reads as it did. -/
def soundWheresSpec : ChangeSpec := { name := "soundWheres", fn := fun _ => fun
  | [d1, d2] => { results := [.lit (.bool true)], args := [d1, d2] }
  | _ => none }
def soundWheresRow : OpenClaim := { program := "ytdbjifpnbghbaaa", sum := "fc3a6a297ab142ca7ef819a2f76143f478c0400f95d2e642b0c19605ea6d0e64", func := "meterworks/meterworkslaw11.SoundWheres", spec := "soundWheres", unfollowed := true, recurses := true, apart := false }
def SoundWheresSaid : Prop := soundWheresRow.holds Try.pinned (OpenSpec.ofChange soundWheresSpec)

/-- ITS FALSE NEIGHBOUR: 'it returns false'. Refute it at one input. -/
def soundWheresWrong : ChangeSpec := { name := "soundWheres", fn := fun _ => fun
  | [d1, d2] => { results := [.lit (.bool false)], args := [d1, d2] }
  | _ => none }
def SoundWheresWrongFalsely : Prop := soundWheresRow.holds Try.pinned (OpenSpec.ofChange soundWheresWrong)

/-- 'meterworkslaw11.SoundNames': WHATEVER THE INPUT: true; the input reads as it did. -/
def soundNamesSpec : ChangeSpec := { name := "soundNames", fn := fun _ => fun
  | [] => { results := [.lit (.bool true)], args := [] }
  | _ => none }
def soundNamesRow : OpenClaim := { program := "ytdbjifpnbghbaaa", sum := "fc3a6a297ab142ca7ef819a2f76143f478c0400f95d2e642b0c19605ea6d0e64", func := "meterworks/meterworkslaw11.SoundNames", spec := "soundNames", unfollowed := true, recurses := true, apart := false }
def SoundNamesSaid : Prop := soundNamesRow.holds Try.pinned (OpenSpec.ofChange soundNamesSpec)

/-- ITS FALSE NEIGHBOUR: 'it returns false'. Refute it at one input. -/
def soundNamesWrong : ChangeSpec := { name := "soundNames", fn := fun _ => fun
  | [] => { results := [.lit (.bool false)], args := [] }
  | _ => none }
def SoundNamesWrongFalsely : Prop := soundNamesRow.holds Try.pinned (OpenSpec.ofChange soundNamesWrong)

/-- 'meterworkslaw11.SoundTrue': WHATEVER THE INPUT: true; the input reads as it did. -/
def soundTrueSpec : ChangeSpec := { name := "soundTrue", fn := fun _ => fun
  | [d1, d2, d3] => { results := [.lit (.bool true)], args := [d1, d2, d3] }
  | _ => none }
def soundTrueRow : OpenClaim := { program := "ytdbjifpnbghbaaa", sum := "fc3a6a297ab142ca7ef819a2f76143f478c0400f95d2e642b0c19605ea6d0e64", func := "meterworks/meterworkslaw11.SoundTrue", spec := "soundTrue", unfollowed := true, recurses := true, apart := false }
def SoundTrueSaid : Prop := soundTrueRow.holds Try.pinned (OpenSpec.ofChange soundTrueSpec)

/-- ITS FALSE NEIGHBOUR: 'it returns false'. Refute it at one input. -/
def soundTrueWrong : ChangeSpec := { name := "soundTrue", fn := fun _ => fun
  | [d1, d2, d3] => { results := [.lit (.bool false)], args := [d1, d2, d3] }
  | _ => none }
def SoundTrueWrongFalsely : Prop := soundTrueRow.holds Try.pinned (OpenSpec.ofChange soundTrueWrong)

/-- 'meterworkslaw11.SoundEnds': WHATEVER THE INPUT: true; the input reads as it did. -/
def soundEndsSpec : ChangeSpec := { name := "soundEnds", fn := fun _ => fun
  | [d1, d2] => { results := [.lit (.bool true)], args := [d1, d2] }
  | _ => none }
def soundEndsRow : OpenClaim := { program := "ytdbjifpnbghbaaa", sum := "fc3a6a297ab142ca7ef819a2f76143f478c0400f95d2e642b0c19605ea6d0e64", func := "meterworks/meterworkslaw11.SoundEnds", spec := "soundEnds", unfollowed := true, recurses := true, apart := false }
def SoundEndsSaid : Prop := soundEndsRow.holds Try.pinned (OpenSpec.ofChange soundEndsSpec)

/-- ITS FALSE NEIGHBOUR: 'it returns false'. Refute it at one input. -/
def soundEndsWrong : ChangeSpec := { name := "soundEnds", fn := fun _ => fun
  | [d1, d2] => { results := [.lit (.bool false)], args := [d1, d2] }
  | _ => none }
def SoundEndsWrongFalsely : Prop := soundEndsRow.holds Try.pinned (OpenSpec.ofChange soundEndsWrong)

/-- 'meterworkslaw11.SoundMore': WHATEVER THE INPUT: true; the input reads as it did. -/
def soundMoreSpec : ChangeSpec := { name := "soundMore", fn := fun _ => fun
  | [d1, d2, d3, d4, d5, d6] => { results := [.lit (.bool true)], args := [d1, d2, d3, d4, d5, d6] }
  | _ => none }
def soundMoreRow : OpenClaim := { program := "ytdbjifpnbghbaaa", sum := "fc3a6a297ab142ca7ef819a2f76143f478c0400f95d2e642b0c19605ea6d0e64", func := "meterworks/meterworkslaw11.SoundMore", spec := "soundMore", unfollowed := true, recurses := true, apart := false }
def SoundMoreSaid : Prop := soundMoreRow.holds Try.pinned (OpenSpec.ofChange soundMoreSpec)

/-- ITS FALSE NEIGHBOUR: 'it returns false'. Refute it at one input. -/
def soundMoreWrong : ChangeSpec := { name := "soundMore", fn := fun _ => fun
  | [d1, d2, d3, d4, d5, d6] => { results := [.lit (.bool false)], args := [d1, d2, d3, d4, d5, d6] }
  | _ => none }
def SoundMoreWrongFalsely : Prop := soundMoreRow.holds Try.pinned (OpenSpec.ofChange soundMoreWrong)

/-- 'meterworkslaw11.SoundBack': WHATEVER THE INPUT: true; the input reads as it did. -/
def soundBackSpec : ChangeSpec := { name := "soundBack", fn := fun _ => fun
  | [d1, d2, d3, d4, d5] => { results := [.lit (.bool true)], args := [d1, d2, d3, d4, d5] }
  | _ => none }
def soundBackRow : OpenClaim := { program := "ytdbjifpnbghbaaa", sum := "fc3a6a297ab142ca7ef819a2f76143f478c0400f95d2e642b0c19605ea6d0e64", func := "meterworks/meterworkslaw11.SoundBack", spec := "soundBack", unfollowed := true, recurses := true, apart := false }
def SoundBackSaid : Prop := soundBackRow.holds Try.pinned (OpenSpec.ofChange soundBackSpec)

/-- ITS FALSE NEIGHBOUR: 'it returns false'. Refute it at one input. -/
def soundBackWrong : ChangeSpec := { name := "soundBack", fn := fun _ => fun
  | [d1, d2, d3, d4, d5] => { results := [.lit (.bool false)], args := [d1, d2, d3, d4, d5] }
  | _ => none }
def SoundBackWrongFalsely : Prop := soundBackRow.holds Try.pinned (OpenSpec.ofChange soundBackWrong)

/-- 'meterworkslaw11.SoundOwns': WHATEVER THE INPUT: true; the input reads as it did. -/
def soundOwnsSpec : ChangeSpec := { name := "soundOwns", fn := fun _ => fun
  | [d1, d2, d3] => { results := [.lit (.bool true)], args := [d1, d2, d3] }
  | _ => none }
def soundOwnsRow : OpenClaim := { program := "ytdbjifpnbghbaaa", sum := "fc3a6a297ab142ca7ef819a2f76143f478c0400f95d2e642b0c19605ea6d0e64", func := "meterworks/meterworkslaw11.SoundOwns", spec := "soundOwns", unfollowed := true, recurses := true, apart := false }
def SoundOwnsSaid : Prop := soundOwnsRow.holds Try.pinned (OpenSpec.ofChange soundOwnsSpec)

/-- ITS FALSE NEIGHBOUR: 'it returns false'. Refute it at one input. -/
def soundOwnsWrong : ChangeSpec := { name := "soundOwns", fn := fun _ => fun
  | [d1, d2, d3] => { results := [.lit (.bool false)], args := [d1, d2, d3] }
  | _ => none }
def SoundOwnsWrongFalsely : Prop := soundOwnsRow.holds Try.pinned (OpenSpec.ofChange soundOwnsWrong)

/- THE SECOND FORM. 'bulk': how many values and letters a reading holds, each counted each time it is reached (what is shared counts as often as it is met; a slice's spare places count too). A statement '..UptoSaid' is the law's where the arguments, and the package variables that the reading takes, are together of bulk at most 1048576: NARROWER than '..Said'. Prove '..Said' where nothing that the law and all that it calls make is longer than what came in: it says more and counts as full. Else prove '..UptoSaid'. A law counts once. -/
mutual
def uptoBulk {H : Type} : DataW H → Nat
  | .lit (.string bytes) => bytes.length + 1
  | .lit _ => 1
  | .nil => 1
  | .ptr d => uptoBulk d + 1
  | .slice elems spare => uptoBulkAll elems + uptoBulkAll spare + 1
  | .agg parts => uptoBulkAll parts + 1
  | .iface _ d => uptoBulk d + 1
  | .map entries => uptoBulkEntries entries + 1
  | .held _ => 1
def uptoBulkAll {H : Type} : List (DataW H) → Nat
  | [] => 0
  | d :: r => uptoBulk d + uptoBulkAll r
def uptoBulkEntries {H : Type} : List (Lit × DataW H) → Nat
  | [] => 0
  | x :: r => uptoBulkEntry x + uptoBulkEntries r
def uptoBulkEntry {H : Type} : Lit × DataW H → Nat
  | (.string bytes, d) => bytes.length + uptoBulk d + 1
  | (_, d) => uptoBulk d + 1
 end
def uptoSmall : (H : Type) → List (DataW H) → Bool := fun _ ds => decide (uptoBulkAll ds ≤ 1048576)
def OpenSpec.upto (s : _root_.Go.ChangeSpec) : _root_.Go.OpenSpec := { _root_.Go.OpenSpec.ofChange s with cond := some uptoSmall }

/-- 'meterworkslaw11.SoundLags', WHERE WHAT IT READS IS OF BULK AT MOST 1048576: true; the input reads as it did. -/
def soundLagsUptoRow : OpenClaim := { program := "ytdbjifpnbghbaaa", sum := "fc3a6a297ab142ca7ef819a2f76143f478c0400f95d2e642b0c19605ea6d0e64", func := "meterworks/meterworkslaw11.SoundLags", spec := "soundLags", unfollowed := true, recurses := true, apart := false, narrowed := true }
def SoundLagsUptoSaid : Prop := soundLagsUptoRow.holds Try.pinned (OpenSpec.upto soundLagsSpec)

/-- 'meterworkslaw11.SoundWheres', WHERE WHAT IT READS IS OF BULK AT MOST 1048576: true; the input reads as it did. -/
def soundWheresUptoRow : OpenClaim := { program := "ytdbjifpnbghbaaa", sum := "fc3a6a297ab142ca7ef819a2f76143f478c0400f95d2e642b0c19605ea6d0e64", func := "meterworks/meterworkslaw11.SoundWheres", spec := "soundWheres", unfollowed := true, recurses := true, apart := false, narrowed := true }
def SoundWheresUptoSaid : Prop := soundWheresUptoRow.holds Try.pinned (OpenSpec.upto soundWheresSpec)

/-- 'meterworkslaw11.SoundNames', WHERE WHAT IT READS IS OF BULK AT MOST 1048576: true; the input reads as it did. -/
def soundNamesUptoRow : OpenClaim := { program := "ytdbjifpnbghbaaa", sum := "fc3a6a297ab142ca7ef819a2f76143f478c0400f95d2e642b0c19605ea6d0e64", func := "meterworks/meterworkslaw11.SoundNames", spec := "soundNames", unfollowed := true, recurses := true, apart := false, narrowed := true }
def SoundNamesUptoSaid : Prop := soundNamesUptoRow.holds Try.pinned (OpenSpec.upto soundNamesSpec)

/-- 'meterworkslaw11.SoundTrue', WHERE WHAT IT READS IS OF BULK AT MOST 1048576: true; the input reads as it did. -/
def soundTrueUptoRow : OpenClaim := { program := "ytdbjifpnbghbaaa", sum := "fc3a6a297ab142ca7ef819a2f76143f478c0400f95d2e642b0c19605ea6d0e64", func := "meterworks/meterworkslaw11.SoundTrue", spec := "soundTrue", unfollowed := true, recurses := true, apart := false, narrowed := true }
def SoundTrueUptoSaid : Prop := soundTrueUptoRow.holds Try.pinned (OpenSpec.upto soundTrueSpec)

/-- 'meterworkslaw11.SoundEnds', WHERE WHAT IT READS IS OF BULK AT MOST 1048576: true; the input reads as it did. -/
def soundEndsUptoRow : OpenClaim := { program := "ytdbjifpnbghbaaa", sum := "fc3a6a297ab142ca7ef819a2f76143f478c0400f95d2e642b0c19605ea6d0e64", func := "meterworks/meterworkslaw11.SoundEnds", spec := "soundEnds", unfollowed := true, recurses := true, apart := false, narrowed := true }
def SoundEndsUptoSaid : Prop := soundEndsUptoRow.holds Try.pinned (OpenSpec.upto soundEndsSpec)

/-- 'meterworkslaw11.SoundMore', WHERE WHAT IT READS IS OF BULK AT MOST 1048576: true; the input reads as it did. -/
def soundMoreUptoRow : OpenClaim := { program := "ytdbjifpnbghbaaa", sum := "fc3a6a297ab142ca7ef819a2f76143f478c0400f95d2e642b0c19605ea6d0e64", func := "meterworks/meterworkslaw11.SoundMore", spec := "soundMore", unfollowed := true, recurses := true, apart := false, narrowed := true }
def SoundMoreUptoSaid : Prop := soundMoreUptoRow.holds Try.pinned (OpenSpec.upto soundMoreSpec)

/-- 'meterworkslaw11.SoundBack', WHERE WHAT IT READS IS OF BULK AT MOST 1048576: true; the input reads as it did. -/
def soundBackUptoRow : OpenClaim := { program := "ytdbjifpnbghbaaa", sum := "fc3a6a297ab142ca7ef819a2f76143f478c0400f95d2e642b0c19605ea6d0e64", func := "meterworks/meterworkslaw11.SoundBack", spec := "soundBack", unfollowed := true, recurses := true, apart := false, narrowed := true }
def SoundBackUptoSaid : Prop := soundBackUptoRow.holds Try.pinned (OpenSpec.upto soundBackSpec)

/-- 'meterworkslaw11.SoundOwns', WHERE WHAT IT READS IS OF BULK AT MOST 1048576: true; the input reads as it did. -/
def soundOwnsUptoRow : OpenClaim := { program := "ytdbjifpnbghbaaa", sum := "fc3a6a297ab142ca7ef819a2f76143f478c0400f95d2e642b0c19605ea6d0e64", func := "meterworks/meterworkslaw11.SoundOwns", spec := "soundOwns", unfollowed := true, recurses := true, apart := false, narrowed := true }
def SoundOwnsUptoSaid : Prop := soundOwnsUptoRow.holds Try.pinned (OpenSpec.upto soundOwnsSpec)

end Rows
end Go.Proofs.Ytdbjifpnbghbaaa
