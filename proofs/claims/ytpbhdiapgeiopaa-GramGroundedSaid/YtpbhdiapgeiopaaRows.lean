/-
  No cell of these rows narrows 'for every input' (looked for: loops, veiled, ifaces, maps, wideKeys, modest, calm, conditions, laid).
  DERIVED. THE GIVEN ROWS OF THIS SEAT. 5 by the template 'for every input the law returns true; each argument reads behind the call as it read before'; 0 by the template 'total and deterministic' (their statements: YtpbhdiapgeiopaaTotals.lean).
  GIVEN WITH THE SEED: the statements are not yours to turn. If you find one false, say at which input.
  Laid BY PROGRAM, IN A SANDBOX (cutbox-rows.mjs): the forced cells as the released guide's own fill.sh prints them over the translation 1cd4e48bbbd6299e… (all of the seat's roots in one cut). By AI agents, Wed Nov 11 2026. No macro, syntax, notation, axiom, sorry.
-/
import Derived.Test.YtpbhdiapgeiopaaChecked
import GoSem.Claim
import GoSem.ClaimJoined
import GoSem.ClaimMapViews
import Derived.JoinedTies
import Derived.KernelRfl
namespace Go.Proofs.Ytpbhdiapgeiopaa
/- THE CELL 'sum', in the pinned program and in every row, IS THE sha256 OF THE DUMP (.gsa) THAT YtpbhdiapgeiopaaProg.lean LOADS. Nothing in Lean hashes anything: it is a label: what it is worth is what the hold of that sum in a sandbox is worth. -/
noncomputable def Try.pinned : Pinned := { name := "ytpbhdiapgeiopaa", sum := "1cd4e48bbbd6299e0b7be4a2cdb0931be8162be256e6f0c53d008e08a58408b5", checked := Try.checked }
namespace Rows
def none {H : Type} : Left H := { results := [], args := [] }

/-- 'viewportlaw11.GramCalls': WHATEVER THE INPUT: true; the input reads as it did. -/
def gramCallsSpec : ChangeSpec := { name := "gramCalls", fn := fun _ => fun
  | [d1, d2, d3] => { results := [.lit (.bool true)], args := [d1, d2, d3] }
  | _ => none }
def gramCallsRow : OpenClaim := { program := "ytpbhdiapgeiopaa", sum := "1cd4e48bbbd6299e0b7be4a2cdb0931be8162be256e6f0c53d008e08a58408b5", func := "viewport/viewportlaw11.GramCalls", spec := "gramCalls", unfollowed := true, recurses := true, apart := false }
def GramCallsSaid : Prop := gramCallsRow.holds Try.pinned (OpenSpec.ofChange gramCallsSpec)

/-- ITS FALSE NEIGHBOUR: 'it returns false'. Refute it at one input. -/
def gramCallsWrong : ChangeSpec := { name := "gramCalls", fn := fun _ => fun
  | [d1, d2, d3] => { results := [.lit (.bool false)], args := [d1, d2, d3] }
  | _ => none }
def GramCallsWrongFalsely : Prop := gramCallsRow.holds Try.pinned (OpenSpec.ofChange gramCallsWrong)

/-- 'viewportlaw11.GramClosed': WHATEVER THE INPUT: true; the input reads as it did. -/
def gramClosedSpec : ChangeSpec := { name := "gramClosed", fn := fun _ => fun
  | [d] => { results := [.lit (.bool true)], args := [d] }
  | _ => none }
def gramClosedRow : OpenClaim := { program := "ytpbhdiapgeiopaa", sum := "1cd4e48bbbd6299e0b7be4a2cdb0931be8162be256e6f0c53d008e08a58408b5", func := "viewport/viewportlaw11.GramClosed", spec := "gramClosed", unfollowed := true, recurses := true, apart := false }
def GramClosedSaid : Prop := gramClosedRow.holds Try.pinned (OpenSpec.ofChange gramClosedSpec)

/-- ITS FALSE NEIGHBOUR: 'it returns false'. Refute it at one input. -/
def gramClosedWrong : ChangeSpec := { name := "gramClosed", fn := fun _ => fun
  | [d] => { results := [.lit (.bool false)], args := [d] }
  | _ => none }
def GramClosedWrongFalsely : Prop := gramClosedRow.holds Try.pinned (OpenSpec.ofChange gramClosedWrong)

/-- 'viewportlaw11.GramGrounded': WHATEVER THE INPUT: true; the input reads as it did. -/
def gramGroundedSpec : ChangeSpec := { name := "gramGrounded", fn := fun _ => fun
  | [d] => { results := [.lit (.bool true)], args := [d] }
  | _ => none }
def gramGroundedRow : OpenClaim := { program := "ytpbhdiapgeiopaa", sum := "1cd4e48bbbd6299e0b7be4a2cdb0931be8162be256e6f0c53d008e08a58408b5", func := "viewport/viewportlaw11.GramGrounded", spec := "gramGrounded", unfollowed := true, recurses := true, apart := false }
def GramGroundedSaid : Prop := gramGroundedRow.holds Try.pinned (OpenSpec.ofChange gramGroundedSpec)

/-- ITS FALSE NEIGHBOUR: 'it returns false'. Refute it at one input. -/
def gramGroundedWrong : ChangeSpec := { name := "gramGrounded", fn := fun _ => fun
  | [d] => { results := [.lit (.bool false)], args := [d] }
  | _ => none }
def GramGroundedWrongFalsely : Prop := gramGroundedRow.holds Try.pinned (OpenSpec.ofChange gramGroundedWrong)

/-- 'viewportlaw11.GramLeft': WHATEVER THE INPUT: true; the input reads as it did. -/
def gramLeftSpec : ChangeSpec := { name := "gramLeft", fn := fun _ => fun
  | [d] => { results := [.lit (.bool true)], args := [d] }
  | _ => none }
def gramLeftRow : OpenClaim := { program := "ytpbhdiapgeiopaa", sum := "1cd4e48bbbd6299e0b7be4a2cdb0931be8162be256e6f0c53d008e08a58408b5", func := "viewport/viewportlaw11.GramLeft", spec := "gramLeft", unfollowed := true, recurses := true, apart := false }
def GramLeftSaid : Prop := gramLeftRow.holds Try.pinned (OpenSpec.ofChange gramLeftSpec)

/-- ITS FALSE NEIGHBOUR: 'it returns false'. Refute it at one input. -/
def gramLeftWrong : ChangeSpec := { name := "gramLeft", fn := fun _ => fun
  | [d] => { results := [.lit (.bool false)], args := [d] }
  | _ => none }
def GramLeftWrongFalsely : Prop := gramLeftRow.holds Try.pinned (OpenSpec.ofChange gramLeftWrong)

/-- 'viewportlaw11.GramParts': WHATEVER THE INPUT: true; the input reads as it did. -/
def gramPartsSpec : ChangeSpec := { name := "gramParts", fn := fun _ => fun
  | [d] => { results := [.lit (.bool true)], args := [d] }
  | _ => none }
def gramPartsRow : OpenClaim := { program := "ytpbhdiapgeiopaa", sum := "1cd4e48bbbd6299e0b7be4a2cdb0931be8162be256e6f0c53d008e08a58408b5", func := "viewport/viewportlaw11.GramParts", spec := "gramParts", unfollowed := true, recurses := true, apart := false }
def GramPartsSaid : Prop := gramPartsRow.holds Try.pinned (OpenSpec.ofChange gramPartsSpec)

/-- ITS FALSE NEIGHBOUR: 'it returns false'. Refute it at one input. -/
def gramPartsWrong : ChangeSpec := { name := "gramParts", fn := fun _ => fun
  | [d] => { results := [.lit (.bool false)], args := [d] }
  | _ => none }
def GramPartsWrongFalsely : Prop := gramPartsRow.holds Try.pinned (OpenSpec.ofChange gramPartsWrong)

/- THE SECOND FORM. 'bulk': how many values and letters a reading holds, each counted each time it is reached (what is shared counts as often as it is met; a slice's spare places count too). A statement '..UptoSaid' is the law's where the arguments, and the package variables that the reading takes, are together of bulk at most 1048576: NARROWER than '..Said'. Prove '..Said' where nothing that the law and all that it calls make is longer than what came in: it says more and counts as full. Else prove '..UptoSaid'. A law counts once. -/
mutual
def uptoBulk {H : Type} : DataW H → Nat
  | .lit (.string bytes) => bytes.length + 1
  | .lit _ => 1
  | .nil => 1
  | .ptr d => uptoBulk d + 1
  | .slice elems spare => uptoBulkAll elems + uptoBulkAll spare + 1
  | .agg parts => uptoBulkAll parts + 1
  | .iface _ d => uptoBulk d + 1
  | .map entries => uptoBulkEntries entries + 1
  | .held _ => 1
def uptoBulkAll {H : Type} : List (DataW H) → Nat
  | [] => 0
  | d :: r => uptoBulk d + uptoBulkAll r
def uptoBulkEntries {H : Type} : List (Lit × DataW H) → Nat
  | [] => 0
  | x :: r => uptoBulkEntry x + uptoBulkEntries r
def uptoBulkEntry {H : Type} : Lit × DataW H → Nat
  | (.string bytes, d) => bytes.length + uptoBulk d + 1
  | (_, d) => uptoBulk d + 1
 end
def uptoSmall : (H : Type) → List (DataW H) → Bool := fun _ ds => decide (uptoBulkAll ds ≤ 1048576)
def OpenSpec.upto (s : _root_.Go.ChangeSpec) : _root_.Go.OpenSpec := { _root_.Go.OpenSpec.ofChange s with cond := some uptoSmall }

/-- 'viewportlaw11.GramCalls', WHERE WHAT IT READS IS OF BULK AT MOST 1048576: true; the input reads as it did. -/
def gramCallsUptoRow : OpenClaim := { program := "ytpbhdiapgeiopaa", sum := "1cd4e48bbbd6299e0b7be4a2cdb0931be8162be256e6f0c53d008e08a58408b5", func := "viewport/viewportlaw11.GramCalls", spec := "gramCalls", unfollowed := true, recurses := true, apart := false, narrowed := true }
def GramCallsUptoSaid : Prop := gramCallsUptoRow.holds Try.pinned (OpenSpec.upto gramCallsSpec)

/-- 'viewportlaw11.GramClosed', WHERE WHAT IT READS IS OF BULK AT MOST 1048576: true; the input reads as it did. -/
def gramClosedUptoRow : OpenClaim := { program := "ytpbhdiapgeiopaa", sum := "1cd4e48bbbd6299e0b7be4a2cdb0931be8162be256e6f0c53d008e08a58408b5", func := "viewport/viewportlaw11.GramClosed", spec := "gramClosed", unfollowed := true, recurses := true, apart := false, narrowed := true }
def GramClosedUptoSaid : Prop := gramClosedUptoRow.holds Try.pinned (OpenSpec.upto gramClosedSpec)

/-- 'viewportlaw11.GramGrounded', WHERE WHAT IT READS IS OF BULK AT MOST 1048576: true; the input reads as it did. -/
def gramGroundedUptoRow : OpenClaim := { program := "ytpbhdiapgeiopaa", sum := "1cd4e48bbbd6299e0b7be4a2cdb0931be8162be256e6f0c53d008e08a58408b5", func := "viewport/viewportlaw11.GramGrounded", spec := "gramGrounded", unfollowed := true, recurses := true, apart := false, narrowed := true }
def GramGroundedUptoSaid : Prop := gramGroundedUptoRow.holds Try.pinned (OpenSpec.upto gramGroundedSpec)

/-- 'viewportlaw11.GramLeft', WHERE WHAT IT READS IS OF BULK AT MOST 1048576: true; the input reads as it did. -/
def gramLeftUptoRow : OpenClaim := { program := "ytpbhdiapgeiopaa", sum := "1cd4e48bbbd6299e0b7be4a2cdb0931be8162be256e6f0c53d008e08a58408b5", func := "viewport/viewportlaw11.GramLeft", spec := "gramLeft", unfollowed := true, recurses := true, apart := false, narrowed := true }
def GramLeftUptoSaid : Prop := gramLeftUptoRow.holds Try.pinned (OpenSpec.upto gramLeftSpec)

/-- 'viewportlaw11.GramParts', WHERE WHAT IT READS IS OF BULK AT MOST 1048576: true; the input reads as it did. -/
def gramPartsUptoRow : OpenClaim := { program := "ytpbhdiapgeiopaa", sum := "1cd4e48bbbd6299e0b7be4a2cdb0931be8162be256e6f0c53d008e08a58408b5", func := "viewport/viewportlaw11.GramParts", spec := "gramParts", unfollowed := true, recurses := true, apart := false, narrowed := true }
def GramPartsUptoSaid : Prop := gramPartsUptoRow.holds Try.pinned (OpenSpec.upto gramPartsSpec)

end Rows
end Go.Proofs.Ytpbhdiapgeiopaa
