/-
  No cell of these rows narrows 'for every input' (looked for: loops, veiled, ifaces, maps, wideKeys, modest, calm, conditions, laid).
  DERIVED. THE GIVEN ROWS OF THIS SEAT. 10 by the template 'for every input the law returns true; each argument reads behind the call as it read before'; 0 by the template 'total and deterministic' (their statements: YtfanjbjnjkejiaaTotals.lean).
  GIVEN WITH THE SEED: the statements are not yours to turn. If you find one false, say at which input.
  Laid BY PROGRAM, IN A SANDBOX (cutbox-rows.mjs): the forced cells as the released guide's own fill.sh prints them over the translation 234452b4ea04be7d… (all of the seat's roots in one cut). By AI agents, Wed Nov 11 2026. No macro, syntax, notation, axiom, sorry.
-/
import Derived.Test.YtfanjbjnjkejiaaChecked
import GoSem.Claim
import GoSem.ClaimJoined
import GoSem.ClaimMapViews
import Derived.JoinedTies
import Derived.KernelRfl
namespace Go.Proofs.Ytfanjbjnjkejiaa
/- THE CELL 'sum', in the pinned program and in every row, IS THE sha256 OF THE DUMP (.gsa) THAT YtfanjbjnjkejiaaProg.lean LOADS. Nothing in Lean hashes anything: it is a label: what it is worth is what the hold of that sum in a sandbox is worth. -/
noncomputable def Try.pinned : Pinned := { name := "ytfanjbjnjkejiaa", sum := "234452b4ea04be7d9f127a95fe226acd9dfa1cdbbbbff826fb7267716501d95e", checked := Try.checked }
namespace Rows
def none {H : Type} : Left H := { results := [], args := [] }

/-- 'viewportlaw08.PieceNames': WHATEVER THE INPUT: true; the input reads as it did. -/
def pieceNamesSpec : ChangeSpec := { name := "pieceNames", fn := fun _ => fun
  | [] => { results := [.lit (.bool true)], args := [] }
  | _ => none }
def pieceNamesRow : OpenClaim := { program := "ytfanjbjnjkejiaa", sum := "234452b4ea04be7d9f127a95fe226acd9dfa1cdbbbbff826fb7267716501d95e", func := "viewport/viewportlaw08.PieceNames", spec := "pieceNames", inPlace := ["internal/abi.NoEscape"], unfollowed := true, recurses := true, apart := false }
def PieceNamesSaid : Prop := pieceNamesRow.holds Try.pinned (OpenSpec.ofChange pieceNamesSpec)

/-- ITS FALSE NEIGHBOUR: 'it returns false'. Refute it at one input. -/
def pieceNamesWrong : ChangeSpec := { name := "pieceNames", fn := fun _ => fun
  | [] => { results := [.lit (.bool false)], args := [] }
  | _ => none }
def PieceNamesWrongFalsely : Prop := pieceNamesRow.holds Try.pinned (OpenSpec.ofChange pieceNamesWrong)

/-- 'viewportlaw09.LinesNames': WHATEVER THE INPUT: true; the input reads as it did. -/
def linesNamesSpec : ChangeSpec := { name := "linesNames", fn := fun _ => fun
  | [] => { results := [.lit (.bool true)], args := [] }
  | _ => none }
def linesNamesRow : OpenClaim := { program := "ytfanjbjnjkejiaa", sum := "234452b4ea04be7d9f127a95fe226acd9dfa1cdbbbbff826fb7267716501d95e", func := "viewport/viewportlaw09.LinesNames", spec := "linesNames", inPlace := ["slices.overlaps[int]"], apart := false }
def LinesNamesSaid : Prop := linesNamesRow.holds Try.pinned (OpenSpec.ofChange linesNamesSpec)

/-- ITS FALSE NEIGHBOUR: 'it returns false'. Refute it at one input. -/
def linesNamesWrong : ChangeSpec := { name := "linesNames", fn := fun _ => fun
  | [] => { results := [.lit (.bool false)], args := [] }
  | _ => none }
def LinesNamesWrongFalsely : Prop := linesNamesRow.holds Try.pinned (OpenSpec.ofChange linesNamesWrong)

/-- 'viewportlaw09.LinesNil': WHATEVER THE INPUT: true; the input reads as it did. -/
def linesNilSpec : ChangeSpec := { name := "linesNil", fn := fun _ => fun
  | [d1, d2, d3] => { results := [.lit (.bool true)], args := [d1, d2, d3] }
  | _ => none }
def linesNilRow : OpenClaim := { program := "ytfanjbjnjkejiaa", sum := "234452b4ea04be7d9f127a95fe226acd9dfa1cdbbbbff826fb7267716501d95e", func := "viewport/viewportlaw09.LinesNil", spec := "linesNil", inPlace := ["slices.overlaps[int]"], apart := false }
def LinesNilSaid : Prop := linesNilRow.holds Try.pinned (OpenSpec.ofChange linesNilSpec)

/-- ITS FALSE NEIGHBOUR: 'it returns false'. Refute it at one input. -/
def linesNilWrong : ChangeSpec := { name := "linesNil", fn := fun _ => fun
  | [d1, d2, d3] => { results := [.lit (.bool false)], args := [d1, d2, d3] }
  | _ => none }
def LinesNilWrongFalsely : Prop := linesNilRow.holds Try.pinned (OpenSpec.ofChange linesNilWrong)

/-- 'viewportlaw10.ShiftNames': WHATEVER THE INPUT: true; the input reads as it did. -/
def shiftNamesSpec : ChangeSpec := { name := "shiftNames", fn := fun _ => fun
  | [] => { results := [.lit (.bool true)], args := [] }
  | _ => none }
def shiftNamesRow : OpenClaim := { program := "ytfanjbjnjkejiaa", sum := "234452b4ea04be7d9f127a95fe226acd9dfa1cdbbbbff826fb7267716501d95e", func := "viewport/viewportlaw10.ShiftNames", spec := "shiftNames", unfollowed := true, recurses := true, apart := false }
def ShiftNamesSaid : Prop := shiftNamesRow.holds Try.pinned (OpenSpec.ofChange shiftNamesSpec)

/-- ITS FALSE NEIGHBOUR: 'it returns false'. Refute it at one input. -/
def shiftNamesWrong : ChangeSpec := { name := "shiftNames", fn := fun _ => fun
  | [] => { results := [.lit (.bool false)], args := [] }
  | _ => none }
def ShiftNamesWrongFalsely : Prop := shiftNamesRow.holds Try.pinned (OpenSpec.ofChange shiftNamesWrong)

/-- 'viewportlaw12.FirstNames': WHATEVER THE INPUT: true; the input reads as it did. -/
def firstNamesSpec : ChangeSpec := { name := "firstNames", fn := fun _ => fun
  | [] => { results := [.lit (.bool true)], args := [] }
  | _ => none }
def firstNamesRow : OpenClaim := { program := "ytfanjbjnjkejiaa", sum := "234452b4ea04be7d9f127a95fe226acd9dfa1cdbbbbff826fb7267716501d95e", func := "viewport/viewportlaw12.FirstNames", spec := "firstNames", unfollowed := true, recurses := true, apart := false }
def FirstNamesSaid : Prop := firstNamesRow.holds Try.pinned (OpenSpec.ofChange firstNamesSpec)

/-- ITS FALSE NEIGHBOUR: 'it returns false'. Refute it at one input. -/
def firstNamesWrong : ChangeSpec := { name := "firstNames", fn := fun _ => fun
  | [] => { results := [.lit (.bool false)], args := [] }
  | _ => none }
def FirstNamesWrongFalsely : Prop := firstNamesRow.holds Try.pinned (OpenSpec.ofChange firstNamesWrong)

/-- 'viewportlaw13.FollowNames': WHATEVER THE INPUT: true; the input reads as it did. -/
def followNamesSpec : ChangeSpec := { name := "followNames", fn := fun _ => fun
  | [] => { results := [.lit (.bool true)], args := [] }
  | _ => none }
def followNamesRow : OpenClaim := { program := "ytfanjbjnjkejiaa", sum := "234452b4ea04be7d9f127a95fe226acd9dfa1cdbbbbff826fb7267716501d95e", func := "viewport/viewportlaw13.FollowNames", spec := "followNames", unfollowed := true, recurses := true, apart := false }
def FollowNamesSaid : Prop := followNamesRow.holds Try.pinned (OpenSpec.ofChange followNamesSpec)

/-- ITS FALSE NEIGHBOUR: 'it returns false'. Refute it at one input. -/
def followNamesWrong : ChangeSpec := { name := "followNames", fn := fun _ => fun
  | [] => { results := [.lit (.bool false)], args := [] }
  | _ => none }
def FollowNamesWrongFalsely : Prop := followNamesRow.holds Try.pinned (OpenSpec.ofChange followNamesWrong)

/-- 'viewportlaw24.JobsNames': WHATEVER THE INPUT: true; the input reads as it did. -/
def jobsNamesSpec : ChangeSpec := { name := "jobsNames", fn := fun _ => fun
  | [] => { results := [.lit (.bool true)], args := [] }
  | _ => none }
def jobsNamesRow : OpenClaim := { program := "ytfanjbjnjkejiaa", sum := "234452b4ea04be7d9f127a95fe226acd9dfa1cdbbbbff826fb7267716501d95e", func := "viewport/viewportlaw24.JobsNames", spec := "jobsNames", unfollowed := true, recurses := true, apart := false }
def JobsNamesSaid : Prop := jobsNamesRow.holds Try.pinned (OpenSpec.ofChange jobsNamesSpec)

/-- ITS FALSE NEIGHBOUR: 'it returns false'. Refute it at one input. -/
def jobsNamesWrong : ChangeSpec := { name := "jobsNames", fn := fun _ => fun
  | [] => { results := [.lit (.bool false)], args := [] }
  | _ => none }
def JobsNamesWrongFalsely : Prop := jobsNamesRow.holds Try.pinned (OpenSpec.ofChange jobsNamesWrong)

/-- 'viewportlaw21.ReuseNames': WHATEVER THE INPUT: true; the input reads as it did. -/
def reuseNamesSpec : ChangeSpec := { name := "reuseNames", fn := fun _ => fun
  | [] => { results := [.lit (.bool true)], args := [] }
  | _ => none }
def reuseNamesRow : OpenClaim := { program := "ytfanjbjnjkejiaa", sum := "234452b4ea04be7d9f127a95fe226acd9dfa1cdbbbbff826fb7267716501d95e", func := "viewport/viewportlaw21.ReuseNames", spec := "reuseNames", unfollowed := true, recurses := true, apart := false }
def ReuseNamesSaid : Prop := reuseNamesRow.holds Try.pinned (OpenSpec.ofChange reuseNamesSpec)

/-- ITS FALSE NEIGHBOUR: 'it returns false'. Refute it at one input. -/
def reuseNamesWrong : ChangeSpec := { name := "reuseNames", fn := fun _ => fun
  | [] => { results := [.lit (.bool false)], args := [] }
  | _ => none }
def ReuseNamesWrongFalsely : Prop := reuseNamesRow.holds Try.pinned (OpenSpec.ofChange reuseNamesWrong)

/-- 'viewportlaw20.SpliceNames': WHATEVER THE INPUT: true; the input reads as it did. -/
def spliceNamesSpec : ChangeSpec := { name := "spliceNames", fn := fun _ => fun
  | [] => { results := [.lit (.bool true)], args := [] }
  | _ => none }
def spliceNamesRow : OpenClaim := { program := "ytfanjbjnjkejiaa", sum := "234452b4ea04be7d9f127a95fe226acd9dfa1cdbbbbff826fb7267716501d95e", func := "viewport/viewportlaw20.SpliceNames", spec := "spliceNames", unfollowed := true, recurses := true, apart := false }
def SpliceNamesSaid : Prop := spliceNamesRow.holds Try.pinned (OpenSpec.ofChange spliceNamesSpec)

/-- ITS FALSE NEIGHBOUR: 'it returns false'. Refute it at one input. -/
def spliceNamesWrong : ChangeSpec := { name := "spliceNames", fn := fun _ => fun
  | [] => { results := [.lit (.bool false)], args := [] }
  | _ => none }
def SpliceNamesWrongFalsely : Prop := spliceNamesRow.holds Try.pinned (OpenSpec.ofChange spliceNamesWrong)

/-- 'viewportlaw16.TreeNames': WHATEVER THE INPUT: true; the input reads as it did. -/
def treeNamesSpec : ChangeSpec := { name := "treeNames", fn := fun _ => fun
  | [] => { results := [.lit (.bool true)], args := [] }
  | _ => none }
def treeNamesRow : OpenClaim := { program := "ytfanjbjnjkejiaa", sum := "234452b4ea04be7d9f127a95fe226acd9dfa1cdbbbbff826fb7267716501d95e", func := "viewport/viewportlaw16.TreeNames", spec := "treeNames", unfollowed := true, recurses := true, apart := false }
def TreeNamesSaid : Prop := treeNamesRow.holds Try.pinned (OpenSpec.ofChange treeNamesSpec)

/-- ITS FALSE NEIGHBOUR: 'it returns false'. Refute it at one input. -/
def treeNamesWrong : ChangeSpec := { name := "treeNames", fn := fun _ => fun
  | [] => { results := [.lit (.bool false)], args := [] }
  | _ => none }
def TreeNamesWrongFalsely : Prop := treeNamesRow.holds Try.pinned (OpenSpec.ofChange treeNamesWrong)

/- THE SECOND FORM. 'bulk': how many values and letters a reading holds, each counted each time it is reached (what is shared counts as often as it is met; a slice's spare places count too). A statement '..UptoSaid' is the law's where the arguments, and the package variables that the reading takes, are together of bulk at most 1048576: NARROWER than '..Said'. Prove '..Said' where nothing that the law and all that it calls make is longer than what came in: it says more and counts as full. Else prove '..UptoSaid'. A law counts once. -/
mutual
def uptoBulk {H : Type} : DataW H → Nat
  | .lit (.string bytes) => bytes.length + 1
  | .lit _ => 1
  | .nil => 1
  | .ptr d => uptoBulk d + 1
  | .slice elems spare => uptoBulkAll elems + uptoBulkAll spare + 1
  | .agg parts => uptoBulkAll parts + 1
  | .iface _ d => uptoBulk d + 1
  | .map entries => uptoBulkEntries entries + 1
  | .held _ => 1
def uptoBulkAll {H : Type} : List (DataW H) → Nat
  | [] => 0
  | d :: r => uptoBulk d + uptoBulkAll r
def uptoBulkEntries {H : Type} : List (Lit × DataW H) → Nat
  | [] => 0
  | x :: r => uptoBulkEntry x + uptoBulkEntries r
def uptoBulkEntry {H : Type} : Lit × DataW H → Nat
  | (.string bytes, d) => bytes.length + uptoBulk d + 1
  | (_, d) => uptoBulk d + 1
 end
def uptoSmall : (H : Type) → List (DataW H) → Bool := fun _ ds => decide (uptoBulkAll ds ≤ 1048576)
def OpenSpec.upto (s : _root_.Go.ChangeSpec) : _root_.Go.OpenSpec := { _root_.Go.OpenSpec.ofChange s with cond := some uptoSmall }

/-- 'viewportlaw08.PieceNames', WHERE WHAT IT READS IS OF BULK AT MOST 1048576: true; the input reads as it did. -/
def pieceNamesUptoRow : OpenClaim := { program := "ytfanjbjnjkejiaa", sum := "234452b4ea04be7d9f127a95fe226acd9dfa1cdbbbbff826fb7267716501d95e", func := "viewport/viewportlaw08.PieceNames", spec := "pieceNames", inPlace := ["internal/abi.NoEscape"], unfollowed := true, recurses := true, apart := false, narrowed := true }
def PieceNamesUptoSaid : Prop := pieceNamesUptoRow.holds Try.pinned (OpenSpec.upto pieceNamesSpec)

/-- 'viewportlaw09.LinesNames', WHERE WHAT IT READS IS OF BULK AT MOST 1048576: true; the input reads as it did. -/
def linesNamesUptoRow : OpenClaim := { program := "ytfanjbjnjkejiaa", sum := "234452b4ea04be7d9f127a95fe226acd9dfa1cdbbbbff826fb7267716501d95e", func := "viewport/viewportlaw09.LinesNames", spec := "linesNames", inPlace := ["slices.overlaps[int]"], apart := false, narrowed := true }
def LinesNamesUptoSaid : Prop := linesNamesUptoRow.holds Try.pinned (OpenSpec.upto linesNamesSpec)

/-- 'viewportlaw09.LinesNil', WHERE WHAT IT READS IS OF BULK AT MOST 1048576: true; the input reads as it did. -/
def linesNilUptoRow : OpenClaim := { program := "ytfanjbjnjkejiaa", sum := "234452b4ea04be7d9f127a95fe226acd9dfa1cdbbbbff826fb7267716501d95e", func := "viewport/viewportlaw09.LinesNil", spec := "linesNil", inPlace := ["slices.overlaps[int]"], apart := false, narrowed := true }
def LinesNilUptoSaid : Prop := linesNilUptoRow.holds Try.pinned (OpenSpec.upto linesNilSpec)

/-- 'viewportlaw10.ShiftNames', WHERE WHAT IT READS IS OF BULK AT MOST 1048576: true; the input reads as it did. -/
def shiftNamesUptoRow : OpenClaim := { program := "ytfanjbjnjkejiaa", sum := "234452b4ea04be7d9f127a95fe226acd9dfa1cdbbbbff826fb7267716501d95e", func := "viewport/viewportlaw10.ShiftNames", spec := "shiftNames", unfollowed := true, recurses := true, apart := false, narrowed := true }
def ShiftNamesUptoSaid : Prop := shiftNamesUptoRow.holds Try.pinned (OpenSpec.upto shiftNamesSpec)

/-- 'viewportlaw12.FirstNames', WHERE WHAT IT READS IS OF BULK AT MOST 1048576: true; the input reads as it did. -/
def firstNamesUptoRow : OpenClaim := { program := "ytfanjbjnjkejiaa", sum := "234452b4ea04be7d9f127a95fe226acd9dfa1cdbbbbff826fb7267716501d95e", func := "viewport/viewportlaw12.FirstNames", spec := "firstNames", unfollowed := true, recurses := true, apart := false, narrowed := true }
def FirstNamesUptoSaid : Prop := firstNamesUptoRow.holds Try.pinned (OpenSpec.upto firstNamesSpec)

/-- 'viewportlaw13.FollowNames', WHERE WHAT IT READS IS OF BULK AT MOST 1048576: true; the input reads as it did. -/
def followNamesUptoRow : OpenClaim := { program := "ytfanjbjnjkejiaa", sum := "234452b4ea04be7d9f127a95fe226acd9dfa1cdbbbbff826fb7267716501d95e", func := "viewport/viewportlaw13.FollowNames", spec := "followNames", unfollowed := true, recurses := true, apart := false, narrowed := true }
def FollowNamesUptoSaid : Prop := followNamesUptoRow.holds Try.pinned (OpenSpec.upto followNamesSpec)

/-- 'viewportlaw24.JobsNames', WHERE WHAT IT READS IS OF BULK AT MOST 1048576: true; the input reads as it did. -/
def jobsNamesUptoRow : OpenClaim := { program := "ytfanjbjnjkejiaa", sum := "234452b4ea04be7d9f127a95fe226acd9dfa1cdbbbbff826fb7267716501d95e", func := "viewport/viewportlaw24.JobsNames", spec := "jobsNames", unfollowed := true, recurses := true, apart := false, narrowed := true }
def JobsNamesUptoSaid : Prop := jobsNamesUptoRow.holds Try.pinned (OpenSpec.upto jobsNamesSpec)

/-- 'viewportlaw21.ReuseNames', WHERE WHAT IT READS IS OF BULK AT MOST 1048576: true; the input reads as it did. -/
def reuseNamesUptoRow : OpenClaim := { program := "ytfanjbjnjkejiaa", sum := "234452b4ea04be7d9f127a95fe226acd9dfa1cdbbbbff826fb7267716501d95e", func := "viewport/viewportlaw21.ReuseNames", spec := "reuseNames", unfollowed := true, recurses := true, apart := false, narrowed := true }
def ReuseNamesUptoSaid : Prop := reuseNamesUptoRow.holds Try.pinned (OpenSpec.upto reuseNamesSpec)

/-- 'viewportlaw20.SpliceNames', WHERE WHAT IT READS IS OF BULK AT MOST 1048576: true; the input reads as it did. -/
def spliceNamesUptoRow : OpenClaim := { program := "ytfanjbjnjkejiaa", sum := "234452b4ea04be7d9f127a95fe226acd9dfa1cdbbbbff826fb7267716501d95e", func := "viewport/viewportlaw20.SpliceNames", spec := "spliceNames", unfollowed := true, recurses := true, apart := false, narrowed := true }
def SpliceNamesUptoSaid : Prop := spliceNamesUptoRow.holds Try.pinned (OpenSpec.upto spliceNamesSpec)

/-- 'viewportlaw16.TreeNames', WHERE WHAT IT READS IS OF BULK AT MOST 1048576: true; the input reads as it did. -/
def treeNamesUptoRow : OpenClaim := { program := "ytfanjbjnjkejiaa", sum := "234452b4ea04be7d9f127a95fe226acd9dfa1cdbbbbff826fb7267716501d95e", func := "viewport/viewportlaw16.TreeNames", spec := "treeNames", unfollowed := true, recurses := true, apart := false, narrowed := true }
def TreeNamesUptoSaid : Prop := treeNamesUptoRow.holds Try.pinned (OpenSpec.upto treeNamesSpec)

end Rows
end Go.Proofs.Ytfanjbjnjkejiaa
