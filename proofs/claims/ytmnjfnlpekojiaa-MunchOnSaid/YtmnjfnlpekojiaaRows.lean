/-
  No cell of these rows narrows 'for every input' (looked for: loops, veiled, ifaces, maps, wideKeys, modest, calm, conditions, laid).
  DERIVED. THE GIVEN ROWS OF THIS SEAT. 4 by the template 'for every input the law returns true; each argument reads behind the call as it read before'; 0 by the template 'total and deterministic' (their statements: YtmnjfnlpekojiaaTotals.lean).
  GIVEN WITH THE SEED: the statements are not yours to turn. If you find one false, say at which input.
  Laid BY PROGRAM, IN A SANDBOX (cutbox-rows.mjs): the forced cells as the released guide's own fill.sh prints them over the translation 07807b6d93c375a4… (all of the seat's roots in one cut). By AI agents, Wed Nov 11 2026. No macro, syntax, notation, axiom, sorry.
-/
import Derived.Test.YtmnjfnlpekojiaaChecked
import GoSem.Claim
import GoSem.ClaimJoined
import GoSem.ClaimMapViews
import Derived.JoinedTies
import Derived.KernelRfl
namespace Go.Proofs.Ytmnjfnlpekojiaa
/- THE CELL 'sum', in the pinned program and in every row, IS THE sha256 OF THE DUMP (.gsa) THAT YtmnjfnlpekojiaaProg.lean LOADS. Nothing in Lean hashes anything: it is a label: what it is worth is what the hold of that sum in a sandbox is worth. -/
noncomputable def Try.pinned : Pinned := { name := "ytmnjfnlpekojiaa", sum := "07807b6d93c375a4591b1a8ef85eee05dbb0e046dac3cf814be4c54a278121e2", checked := Try.checked }
namespace Rows
def none {H : Type} : Left H := { results := [], args := [] }

/-- 'viewportlaw06.MunchLongest': WHATEVER THE INPUT: true; the input reads as it did. -/
def munchLongestSpec : ChangeSpec := { name := "munchLongest", fn := fun _ => fun
  | [d1, d2, d3] => { results := [.lit (.bool true)], args := [d1, d2, d3] }
  | _ => none }
def munchLongestRow : OpenClaim := { program := "ytmnjfnlpekojiaa", sum := "07807b6d93c375a4591b1a8ef85eee05dbb0e046dac3cf814be4c54a278121e2", func := "viewport/viewportlaw06.MunchLongest", spec := "munchLongest", recurses := true, apart := false }
def MunchLongestSaid : Prop := munchLongestRow.holds Try.pinned (OpenSpec.ofChange munchLongestSpec)

/-- ITS FALSE NEIGHBOUR: 'it returns false'. Refute it at one input. -/
def munchLongestWrong : ChangeSpec := { name := "munchLongest", fn := fun _ => fun
  | [d1, d2, d3] => { results := [.lit (.bool false)], args := [d1, d2, d3] }
  | _ => none }
def MunchLongestWrongFalsely : Prop := munchLongestRow.holds Try.pinned (OpenSpec.ofChange munchLongestWrong)

/-- 'viewportlaw06.MunchStepped': WHATEVER THE INPUT: true; the input reads as it did. -/
def munchSteppedSpec : ChangeSpec := { name := "munchStepped", fn := fun _ => fun
  | [d1, d2, d3] => { results := [.lit (.bool true)], args := [d1, d2, d3] }
  | _ => none }
def munchSteppedRow : OpenClaim := { program := "ytmnjfnlpekojiaa", sum := "07807b6d93c375a4591b1a8ef85eee05dbb0e046dac3cf814be4c54a278121e2", func := "viewport/viewportlaw06.MunchStepped", spec := "munchStepped", recurses := true, apart := false }
def MunchSteppedSaid : Prop := munchSteppedRow.holds Try.pinned (OpenSpec.ofChange munchSteppedSpec)

/-- ITS FALSE NEIGHBOUR: 'it returns false'. Refute it at one input. -/
def munchSteppedWrong : ChangeSpec := { name := "munchStepped", fn := fun _ => fun
  | [d1, d2, d3] => { results := [.lit (.bool false)], args := [d1, d2, d3] }
  | _ => none }
def MunchSteppedWrongFalsely : Prop := munchSteppedRow.holds Try.pinned (OpenSpec.ofChange munchSteppedWrong)

/-- 'viewportlaw06.MunchParts': WHATEVER THE INPUT: true; the input reads as it did. -/
def munchPartsSpec : ChangeSpec := { name := "munchParts", fn := fun _ => fun
  | [d1, d2, d3, d4] => { results := [.lit (.bool true)], args := [d1, d2, d3, d4] }
  | _ => none }
def munchPartsRow : OpenClaim := { program := "ytmnjfnlpekojiaa", sum := "07807b6d93c375a4591b1a8ef85eee05dbb0e046dac3cf814be4c54a278121e2", func := "viewport/viewportlaw06.MunchParts", spec := "munchParts", recurses := true, apart := false }
def MunchPartsSaid : Prop := munchPartsRow.holds Try.pinned (OpenSpec.ofChange munchPartsSpec)

/-- ITS FALSE NEIGHBOUR: 'it returns false'. Refute it at one input. -/
def munchPartsWrong : ChangeSpec := { name := "munchParts", fn := fun _ => fun
  | [d1, d2, d3, d4] => { results := [.lit (.bool false)], args := [d1, d2, d3, d4] }
  | _ => none }
def MunchPartsWrongFalsely : Prop := munchPartsRow.holds Try.pinned (OpenSpec.ofChange munchPartsWrong)

/-- 'viewportlaw06.MunchOn': WHATEVER THE INPUT: true; the input reads as it did. -/
def munchOnSpec : ChangeSpec := { name := "munchOn", fn := fun _ => fun
  | [d1, d2, d3] => { results := [.lit (.bool true)], args := [d1, d2, d3] }
  | _ => none }
def munchOnRow : OpenClaim := { program := "ytmnjfnlpekojiaa", sum := "07807b6d93c375a4591b1a8ef85eee05dbb0e046dac3cf814be4c54a278121e2", func := "viewport/viewportlaw06.MunchOn", spec := "munchOn", recurses := true, apart := false }
def MunchOnSaid : Prop := munchOnRow.holds Try.pinned (OpenSpec.ofChange munchOnSpec)

/-- ITS FALSE NEIGHBOUR: 'it returns false'. Refute it at one input. -/
def munchOnWrong : ChangeSpec := { name := "munchOn", fn := fun _ => fun
  | [d1, d2, d3] => { results := [.lit (.bool false)], args := [d1, d2, d3] }
  | _ => none }
def MunchOnWrongFalsely : Prop := munchOnRow.holds Try.pinned (OpenSpec.ofChange munchOnWrong)

/- THE SECOND FORM. 'bulk': how many values and letters a reading holds, each counted each time it is reached (what is shared counts as often as it is met; a slice's spare places count too). A statement '..UptoSaid' is the law's where the arguments, and the package variables that the reading takes, are together of bulk at most 1048576: NARROWER than '..Said'. Prove '..Said' where nothing that the law and all that it calls make is longer than what came in: it says more and counts as full. Else prove '..UptoSaid'. A law counts once. -/
mutual
def uptoBulk {H : Type} : DataW H → Nat
  | .lit (.string bytes) => bytes.length + 1
  | .lit _ => 1
  | .nil => 1
  | .ptr d => uptoBulk d + 1
  | .slice elems spare => uptoBulkAll elems + uptoBulkAll spare + 1
  | .agg parts => uptoBulkAll parts + 1
  | .iface _ d => uptoBulk d + 1
  | .map entries => uptoBulkEntries entries + 1
  | .held _ => 1
def uptoBulkAll {H : Type} : List (DataW H) → Nat
  | [] => 0
  | d :: r => uptoBulk d + uptoBulkAll r
def uptoBulkEntries {H : Type} : List (Lit × DataW H) → Nat
  | [] => 0
  | x :: r => uptoBulkEntry x + uptoBulkEntries r
def uptoBulkEntry {H : Type} : Lit × DataW H → Nat
  | (.string bytes, d) => bytes.length + uptoBulk d + 1
  | (_, d) => uptoBulk d + 1
 end
def uptoSmall : (H : Type) → List (DataW H) → Bool := fun _ ds => decide (uptoBulkAll ds ≤ 1048576)
def OpenSpec.upto (s : _root_.Go.ChangeSpec) : _root_.Go.OpenSpec := { _root_.Go.OpenSpec.ofChange s with cond := some uptoSmall }

/-- 'viewportlaw06.MunchLongest', WHERE WHAT IT READS IS OF BULK AT MOST 1048576: true; the input reads as it did. -/
def munchLongestUptoRow : OpenClaim := { program := "ytmnjfnlpekojiaa", sum := "07807b6d93c375a4591b1a8ef85eee05dbb0e046dac3cf814be4c54a278121e2", func := "viewport/viewportlaw06.MunchLongest", spec := "munchLongest", recurses := true, apart := false, narrowed := true }
def MunchLongestUptoSaid : Prop := munchLongestUptoRow.holds Try.pinned (OpenSpec.upto munchLongestSpec)

/-- 'viewportlaw06.MunchStepped', WHERE WHAT IT READS IS OF BULK AT MOST 1048576: true; the input reads as it did. -/
def munchSteppedUptoRow : OpenClaim := { program := "ytmnjfnlpekojiaa", sum := "07807b6d93c375a4591b1a8ef85eee05dbb0e046dac3cf814be4c54a278121e2", func := "viewport/viewportlaw06.MunchStepped", spec := "munchStepped", recurses := true, apart := false, narrowed := true }
def MunchSteppedUptoSaid : Prop := munchSteppedUptoRow.holds Try.pinned (OpenSpec.upto munchSteppedSpec)

/-- 'viewportlaw06.MunchParts', WHERE WHAT IT READS IS OF BULK AT MOST 1048576: true; the input reads as it did. -/
def munchPartsUptoRow : OpenClaim := { program := "ytmnjfnlpekojiaa", sum := "07807b6d93c375a4591b1a8ef85eee05dbb0e046dac3cf814be4c54a278121e2", func := "viewport/viewportlaw06.MunchParts", spec := "munchParts", recurses := true, apart := false, narrowed := true }
def MunchPartsUptoSaid : Prop := munchPartsUptoRow.holds Try.pinned (OpenSpec.upto munchPartsSpec)

/-- 'viewportlaw06.MunchOn', WHERE WHAT IT READS IS OF BULK AT MOST 1048576: true; the input reads as it did. -/
def munchOnUptoRow : OpenClaim := { program := "ytmnjfnlpekojiaa", sum := "07807b6d93c375a4591b1a8ef85eee05dbb0e046dac3cf814be4c54a278121e2", func := "viewport/viewportlaw06.MunchOn", spec := "munchOn", recurses := true, apart := false, narrowed := true }
def MunchOnUptoSaid : Prop := munchOnUptoRow.holds Try.pinned (OpenSpec.upto munchOnSpec)

end Rows
end Go.Proofs.Ytmnjfnlpekojiaa
