/-
  No cell of these rows narrows 'for every input' (looked for: loops, veiled, ifaces, maps, wideKeys, modest, calm, conditions, laid).
  DERIVED. THE GIVEN ROWS OF THIS SEAT. 7 by the template 'for every input the law returns true; each argument reads behind the call as it read before'; 0 by the template 'total and deterministic' (their statements: YthomkiindjhdmaaTotals.lean).
  GIVEN WITH THE SEED: the statements are not yours to turn. If you find one false, say at which input.
  Laid BY PROGRAM, IN A SANDBOX (cutbox-rows.mjs): the forced cells as the released guide's own fill.sh prints them over the translation b5b5b9937550a4d1… (all of the seat's roots in one cut). By AI agents, Wed Nov 11 2026. No macro, syntax, notation, axiom, sorry.
-/
import Derived.Test.YthomkiindjhdmaaChecked
import GoSem.Claim
import GoSem.ClaimJoined
import GoSem.ClaimMapViews
import Derived.JoinedTies
import Derived.KernelRfl
namespace Go.Proofs.Ythomkiindjhdmaa
/- THE CELL 'sum', in the pinned program and in every row, IS THE sha256 OF THE DUMP (.gsa) THAT YthomkiindjhdmaaProg.lean LOADS. Nothing in Lean hashes anything: it is a label: what it is worth is what the hold of that sum in a sandbox is worth. -/
noncomputable def Try.pinned : Pinned := { name := "ythomkiindjhdmaa", sum := "b5b5b9937550a4d14852baab3807d8265cc1e049461e8c350db4931d9208bc7f", checked := Try.checked }
namespace Rows
def none {H : Type} : Left H := { results := [], args := [] }

/-- 'viewportlaw09.LinesBack': WHATEVER THE INPUT: true; the input reads as it did. -/
def linesBackSpec : ChangeSpec := { name := "linesBack", fn := fun _ => fun
  | [d] => { results := [.lit (.bool true)], args := [d] }
  | _ => none }
def linesBackRow : OpenClaim := { program := "ythomkiindjhdmaa", sum := "b5b5b9937550a4d14852baab3807d8265cc1e049461e8c350db4931d9208bc7f", func := "viewport/viewportlaw09.LinesBack", spec := "linesBack", inPlace := ["slices.overlaps[int]"], plainKeys := false, apart := false }
def LinesBackSaid : Prop := linesBackRow.holds Try.pinned (OpenSpec.ofChange linesBackSpec)

/-- ITS FALSE NEIGHBOUR: 'it returns false'. Refute it at one input. -/
def linesBackWrong : ChangeSpec := { name := "linesBack", fn := fun _ => fun
  | [d] => { results := [.lit (.bool false)], args := [d] }
  | _ => none }
def LinesBackWrongFalsely : Prop := linesBackRow.holds Try.pinned (OpenSpec.ofChange linesBackWrong)

/-- 'viewportlaw09.LinesCut': WHATEVER THE INPUT: true; the input reads as it did. -/
def linesCutSpec : ChangeSpec := { name := "linesCut", fn := fun _ => fun
  | [d] => { results := [.lit (.bool true)], args := [d] }
  | _ => none }
def linesCutRow : OpenClaim := { program := "ythomkiindjhdmaa", sum := "b5b5b9937550a4d14852baab3807d8265cc1e049461e8c350db4931d9208bc7f", func := "viewport/viewportlaw09.LinesCut", spec := "linesCut", inPlace := ["slices.overlaps[int]"], plainKeys := false, apart := false }
def LinesCutSaid : Prop := linesCutRow.holds Try.pinned (OpenSpec.ofChange linesCutSpec)

/-- ITS FALSE NEIGHBOUR: 'it returns false'. Refute it at one input. -/
def linesCutWrong : ChangeSpec := { name := "linesCut", fn := fun _ => fun
  | [d] => { results := [.lit (.bool false)], args := [d] }
  | _ => none }
def LinesCutWrongFalsely : Prop := linesCutRow.holds Try.pinned (OpenSpec.ofChange linesCutWrong)

/-- 'viewportlaw08.PieceNames': WHATEVER THE INPUT: true; the input reads as it did. -/
def pieceNamesSpec : ChangeSpec := { name := "pieceNames", fn := fun _ => fun
  | [] => { results := [.lit (.bool true)], args := [] }
  | _ => none }
def pieceNamesRow : OpenClaim := { program := "ythomkiindjhdmaa", sum := "b5b5b9937550a4d14852baab3807d8265cc1e049461e8c350db4931d9208bc7f", func := "viewport/viewportlaw08.PieceNames", spec := "pieceNames", inPlace := ["internal/abi.NoEscape"], unfollowed := true, recurses := true, plainKeys := false, apart := false }
def PieceNamesSaid : Prop := pieceNamesRow.holds Try.pinned (OpenSpec.ofChange pieceNamesSpec)

/-- ITS FALSE NEIGHBOUR: 'it returns false'. Refute it at one input. -/
def pieceNamesWrong : ChangeSpec := { name := "pieceNames", fn := fun _ => fun
  | [] => { results := [.lit (.bool false)], args := [] }
  | _ => none }
def PieceNamesWrongFalsely : Prop := pieceNamesRow.holds Try.pinned (OpenSpec.ofChange pieceNamesWrong)

/-- 'viewportlaw03.NfaNames': WHATEVER THE INPUT: true; the input reads as it did. -/
def nfaNamesSpec : ChangeSpec := { name := "nfaNames", fn := fun _ => fun
  | [] => { results := [.lit (.bool true)], args := [] }
  | _ => none }
def nfaNamesRow : OpenClaim := { program := "ythomkiindjhdmaa", sum := "b5b5b9937550a4d14852baab3807d8265cc1e049461e8c350db4931d9208bc7f", func := "viewport/viewportlaw03.NfaNames", spec := "nfaNames", unfollowed := true, recurses := true, plainKeys := false, apart := false }
def NfaNamesSaid : Prop := nfaNamesRow.holds Try.pinned (OpenSpec.ofChange nfaNamesSpec)

/-- ITS FALSE NEIGHBOUR: 'it returns false'. Refute it at one input. -/
def nfaNamesWrong : ChangeSpec := { name := "nfaNames", fn := fun _ => fun
  | [] => { results := [.lit (.bool false)], args := [] }
  | _ => none }
def NfaNamesWrongFalsely : Prop := nfaNamesRow.holds Try.pinned (OpenSpec.ofChange nfaNamesWrong)

/-- 'viewportlaw05.LeastNames': WHATEVER THE INPUT: true; the input reads as it did. -/
def leastNamesSpec : ChangeSpec := { name := "leastNames", fn := fun _ => fun
  | [] => { results := [.lit (.bool true)], args := [] }
  | _ => none }
def leastNamesRow : OpenClaim := { program := "ythomkiindjhdmaa", sum := "b5b5b9937550a4d14852baab3807d8265cc1e049461e8c350db4931d9208bc7f", func := "viewport/viewportlaw05.LeastNames", spec := "leastNames", unfollowed := true, recurses := true, plainKeys := false, apart := false }
def LeastNamesSaid : Prop := leastNamesRow.holds Try.pinned (OpenSpec.ofChange leastNamesSpec)

/-- ITS FALSE NEIGHBOUR: 'it returns false'. Refute it at one input. -/
def leastNamesWrong : ChangeSpec := { name := "leastNames", fn := fun _ => fun
  | [] => { results := [.lit (.bool false)], args := [] }
  | _ => none }
def LeastNamesWrongFalsely : Prop := leastNamesRow.holds Try.pinned (OpenSpec.ofChange leastNamesWrong)

/-- 'viewportlaw14.PredictNames': WHATEVER THE INPUT: true; the input reads as it did. -/
def predictNamesSpec : ChangeSpec := { name := "predictNames", fn := fun _ => fun
  | [] => { results := [.lit (.bool true)], args := [] }
  | _ => none }
def predictNamesRow : OpenClaim := { program := "ythomkiindjhdmaa", sum := "b5b5b9937550a4d14852baab3807d8265cc1e049461e8c350db4931d9208bc7f", func := "viewport/viewportlaw14.PredictNames", spec := "predictNames", unfollowed := true, recurses := true, plainKeys := false, apart := false }
def PredictNamesSaid : Prop := predictNamesRow.holds Try.pinned (OpenSpec.ofChange predictNamesSpec)

/-- ITS FALSE NEIGHBOUR: 'it returns false'. Refute it at one input. -/
def predictNamesWrong : ChangeSpec := { name := "predictNames", fn := fun _ => fun
  | [] => { results := [.lit (.bool false)], args := [] }
  | _ => none }
def PredictNamesWrongFalsely : Prop := predictNamesRow.holds Try.pinned (OpenSpec.ofChange predictNamesWrong)

/-- 'viewportlaw09.LinesNames': WHATEVER THE INPUT: true; the input reads as it did. -/
def linesNamesSpec : ChangeSpec := { name := "linesNames", fn := fun _ => fun
  | [] => { results := [.lit (.bool true)], args := [] }
  | _ => none }
def linesNamesRow : OpenClaim := { program := "ythomkiindjhdmaa", sum := "b5b5b9937550a4d14852baab3807d8265cc1e049461e8c350db4931d9208bc7f", func := "viewport/viewportlaw09.LinesNames", spec := "linesNames", inPlace := ["slices.overlaps[int]"], plainKeys := false, apart := false }
def LinesNamesSaid : Prop := linesNamesRow.holds Try.pinned (OpenSpec.ofChange linesNamesSpec)

/-- ITS FALSE NEIGHBOUR: 'it returns false'. Refute it at one input. -/
def linesNamesWrong : ChangeSpec := { name := "linesNames", fn := fun _ => fun
  | [] => { results := [.lit (.bool false)], args := [] }
  | _ => none }
def LinesNamesWrongFalsely : Prop := linesNamesRow.holds Try.pinned (OpenSpec.ofChange linesNamesWrong)

/- THE SECOND FORM. 'bulk': how many values and letters a reading holds, each counted each time it is reached (what is shared counts as often as it is met; a slice's spare places count too). A statement '..UptoSaid' is the law's where the arguments, and the package variables that the reading takes, are together of bulk at most 1048576: NARROWER than '..Said'. Prove '..Said' where nothing that the law and all that it calls make is longer than what came in: it says more and counts as full. Else prove '..UptoSaid'. A law counts once. -/
mutual
def uptoBulk {H : Type} : DataW H → Nat
  | .lit (.string bytes) => bytes.length + 1
  | .lit _ => 1
  | .nil => 1
  | .ptr d => uptoBulk d + 1
  | .slice elems spare => uptoBulkAll elems + uptoBulkAll spare + 1
  | .agg parts => uptoBulkAll parts + 1
  | .iface _ d => uptoBulk d + 1
  | .map entries => uptoBulkEntries entries + 1
  | .held _ => 1
def uptoBulkAll {H : Type} : List (DataW H) → Nat
  | [] => 0
  | d :: r => uptoBulk d + uptoBulkAll r
def uptoBulkEntries {H : Type} : List (Lit × DataW H) → Nat
  | [] => 0
  | x :: r => uptoBulkEntry x + uptoBulkEntries r
def uptoBulkEntry {H : Type} : Lit × DataW H → Nat
  | (.string bytes, d) => bytes.length + uptoBulk d + 1
  | (_, d) => uptoBulk d + 1
 end
def uptoSmall : (H : Type) → List (DataW H) → Bool := fun _ ds => decide (uptoBulkAll ds ≤ 1048576)
def OpenSpec.upto (s : _root_.Go.ChangeSpec) : _root_.Go.OpenSpec := { _root_.Go.OpenSpec.ofChange s with cond := some uptoSmall }

/-- 'viewportlaw09.LinesBack', WHERE WHAT IT READS IS OF BULK AT MOST 1048576: true; the input reads as it did. -/
def linesBackUptoRow : OpenClaim := { program := "ythomkiindjhdmaa", sum := "b5b5b9937550a4d14852baab3807d8265cc1e049461e8c350db4931d9208bc7f", func := "viewport/viewportlaw09.LinesBack", spec := "linesBack", inPlace := ["slices.overlaps[int]"], plainKeys := false, apart := false, narrowed := true }
def LinesBackUptoSaid : Prop := linesBackUptoRow.holds Try.pinned (OpenSpec.upto linesBackSpec)

/-- 'viewportlaw09.LinesCut', WHERE WHAT IT READS IS OF BULK AT MOST 1048576: true; the input reads as it did. -/
def linesCutUptoRow : OpenClaim := { program := "ythomkiindjhdmaa", sum := "b5b5b9937550a4d14852baab3807d8265cc1e049461e8c350db4931d9208bc7f", func := "viewport/viewportlaw09.LinesCut", spec := "linesCut", inPlace := ["slices.overlaps[int]"], plainKeys := false, apart := false, narrowed := true }
def LinesCutUptoSaid : Prop := linesCutUptoRow.holds Try.pinned (OpenSpec.upto linesCutSpec)

/-- 'viewportlaw08.PieceNames', WHERE WHAT IT READS IS OF BULK AT MOST 1048576: true; the input reads as it did. -/
def pieceNamesUptoRow : OpenClaim := { program := "ythomkiindjhdmaa", sum := "b5b5b9937550a4d14852baab3807d8265cc1e049461e8c350db4931d9208bc7f", func := "viewport/viewportlaw08.PieceNames", spec := "pieceNames", inPlace := ["internal/abi.NoEscape"], unfollowed := true, recurses := true, plainKeys := false, apart := false, narrowed := true }
def PieceNamesUptoSaid : Prop := pieceNamesUptoRow.holds Try.pinned (OpenSpec.upto pieceNamesSpec)

/-- 'viewportlaw03.NfaNames', WHERE WHAT IT READS IS OF BULK AT MOST 1048576: true; the input reads as it did. -/
def nfaNamesUptoRow : OpenClaim := { program := "ythomkiindjhdmaa", sum := "b5b5b9937550a4d14852baab3807d8265cc1e049461e8c350db4931d9208bc7f", func := "viewport/viewportlaw03.NfaNames", spec := "nfaNames", unfollowed := true, recurses := true, plainKeys := false, apart := false, narrowed := true }
def NfaNamesUptoSaid : Prop := nfaNamesUptoRow.holds Try.pinned (OpenSpec.upto nfaNamesSpec)

/-- 'viewportlaw05.LeastNames', WHERE WHAT IT READS IS OF BULK AT MOST 1048576: true; the input reads as it did. -/
def leastNamesUptoRow : OpenClaim := { program := "ythomkiindjhdmaa", sum := "b5b5b9937550a4d14852baab3807d8265cc1e049461e8c350db4931d9208bc7f", func := "viewport/viewportlaw05.LeastNames", spec := "leastNames", unfollowed := true, recurses := true, plainKeys := false, apart := false, narrowed := true }
def LeastNamesUptoSaid : Prop := leastNamesUptoRow.holds Try.pinned (OpenSpec.upto leastNamesSpec)

/-- 'viewportlaw14.PredictNames', WHERE WHAT IT READS IS OF BULK AT MOST 1048576: true; the input reads as it did. -/
def predictNamesUptoRow : OpenClaim := { program := "ythomkiindjhdmaa", sum := "b5b5b9937550a4d14852baab3807d8265cc1e049461e8c350db4931d9208bc7f", func := "viewport/viewportlaw14.PredictNames", spec := "predictNames", unfollowed := true, recurses := true, plainKeys := false, apart := false, narrowed := true }
def PredictNamesUptoSaid : Prop := predictNamesUptoRow.holds Try.pinned (OpenSpec.upto predictNamesSpec)

/-- 'viewportlaw09.LinesNames', WHERE WHAT IT READS IS OF BULK AT MOST 1048576: true; the input reads as it did. -/
def linesNamesUptoRow : OpenClaim := { program := "ythomkiindjhdmaa", sum := "b5b5b9937550a4d14852baab3807d8265cc1e049461e8c350db4931d9208bc7f", func := "viewport/viewportlaw09.LinesNames", spec := "linesNames", inPlace := ["slices.overlaps[int]"], plainKeys := false, apart := false, narrowed := true }
def LinesNamesUptoSaid : Prop := linesNamesUptoRow.holds Try.pinned (OpenSpec.upto linesNamesSpec)

end Rows
end Go.Proofs.Ythomkiindjhdmaa
