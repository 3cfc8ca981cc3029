/-
  No cell of these rows narrows 'for every input' (looked for: loops, veiled, ifaces, maps, wideKeys, modest, calm, conditions, laid).
  DERIVED. THE GIVEN ROWS OF THIS SEAT. 2 by the template 'for every input the law returns true; each argument reads behind the call as it read before'; 0 by the template 'total and deterministic' (their statements: YtkmebhpbfgffbaaGreatTotals.lean).
  GIVEN WITH THE SEED: the statements are not yours to turn. If you find one false, say at which input.
  Laid BY PROGRAM, IN A SANDBOX (cutbox-rows.mjs): the forced cells as the released guide's own fill.sh prints them over the translation b7c3189266fe9a13… (all of the seat's roots in one cut). By AI agents, Wed Nov 11 2026. No macro, syntax, notation, axiom, sorry.
-/
import Derived.Test.YtkmebhpbfgffbaaGreatChecked
import GoSem.Claim
import GoSem.ClaimJoined
import GoSem.ClaimMapViews
import Derived.JoinedTies
import Derived.KernelRfl
namespace Go.Proofs.YtkmebhpbfgffbaaGreat
/- THE CELL 'sum', in the pinned program and in every row, IS THE sha256 OF THE DUMP (.gsa) THAT YtkmebhpbfgffbaaGreatProg.lean LOADS. Nothing in Lean hashes anything: it is a label: what it is worth is what the hold of that sum in a sandbox is worth. -/
noncomputable def Tryz.pinned : Pinned := { name := "ytkmebhpbfgffbaagreat", sum := "b7c3189266fe9a131c6d0e36b96c7cd995c1a816bea092272efb50155b0da930", checked := Tryz.checked }
namespace Rows
def none {H : Type} : Left H := { results := [], args := [] }

/-- 'viewportlaw25.TargetHolds': WHATEVER THE INPUT: true; the input reads as it did. -/
def targetHoldsSpec : ChangeSpec := { name := "targetHolds", fn := fun _ => fun
  | [d1, d2, d3, d4, d5] => { results := [.lit (.bool true)], args := [d1, d2, d3, d4, d5] }
  | _ => none }
def targetHoldsRow : OpenClaim := { program := "ytkmebhpbfgffbaagreat", sum := "b7c3189266fe9a131c6d0e36b96c7cd995c1a816bea092272efb50155b0da930", func := "viewport/viewportlaw25.TargetHolds", spec := "targetHolds", unfollowed := true, recurses := true, apart := false }
def TargetHoldsSaid : Prop := targetHoldsRow.holds Tryz.pinned (OpenSpec.ofChange targetHoldsSpec)

/-- ITS FALSE NEIGHBOUR: 'it returns false'. Refute it at one input. -/
def targetHoldsWrong : ChangeSpec := { name := "targetHolds", fn := fun _ => fun
  | [d1, d2, d3, d4, d5] => { results := [.lit (.bool false)], args := [d1, d2, d3, d4, d5] }
  | _ => none }
def TargetHoldsWrongFalsely : Prop := targetHoldsRow.holds Tryz.pinned (OpenSpec.ofChange targetHoldsWrong)

/-- 'viewportlaw25.TargetUp': WHATEVER THE INPUT: true; the input reads as it did. -/
def targetUpSpec : ChangeSpec := { name := "targetUp", fn := fun _ => fun
  | [d1, d2] => { results := [.lit (.bool true)], args := [d1, d2] }
  | _ => none }
def targetUpRow : OpenClaim := { program := "ytkmebhpbfgffbaagreat", sum := "b7c3189266fe9a131c6d0e36b96c7cd995c1a816bea092272efb50155b0da930", func := "viewport/viewportlaw25.TargetUp", spec := "targetUp", unfollowed := true, recurses := true, apart := false }
def TargetUpSaid : Prop := targetUpRow.holds Tryz.pinned (OpenSpec.ofChange targetUpSpec)

/-- ITS FALSE NEIGHBOUR: 'it returns false'. Refute it at one input. -/
def targetUpWrong : ChangeSpec := { name := "targetUp", fn := fun _ => fun
  | [d1, d2] => { results := [.lit (.bool false)], args := [d1, d2] }
  | _ => none }
def TargetUpWrongFalsely : Prop := targetUpRow.holds Tryz.pinned (OpenSpec.ofChange targetUpWrong)

/- THE SECOND FORM. 'bulk': how many values and letters a reading holds, each counted each time it is reached (what is shared counts as often as it is met; a slice's spare places count too). A statement '..UptoSaid' is the law's where the arguments, and the package variables that the reading takes, are together of bulk at most 1048576: NARROWER than '..Said'. Prove '..Said' where nothing that the law and all that it calls make is longer than what came in: it says more and counts as full. Else prove '..UptoSaid'. A law counts once. -/
mutual
def uptoBulk {H : Type} : DataW H → Nat
  | .lit (.string bytes) => bytes.length + 1
  | .lit _ => 1
  | .nil => 1
  | .ptr d => uptoBulk d + 1
  | .slice elems spare => uptoBulkAll elems + uptoBulkAll spare + 1
  | .agg parts => uptoBulkAll parts + 1
  | .iface _ d => uptoBulk d + 1
  | .map entries => uptoBulkEntries entries + 1
  | .held _ => 1
def uptoBulkAll {H : Type} : List (DataW H) → Nat
  | [] => 0
  | d :: r => uptoBulk d + uptoBulkAll r
def uptoBulkEntries {H : Type} : List (Lit × DataW H) → Nat
  | [] => 0
  | x :: r => uptoBulkEntry x + uptoBulkEntries r
def uptoBulkEntry {H : Type} : Lit × DataW H → Nat
  | (.string bytes, d) => bytes.length + uptoBulk d + 1
  | (_, d) => uptoBulk d + 1
 end
def uptoSmall : (H : Type) → List (DataW H) → Bool := fun _ ds => decide (uptoBulkAll ds ≤ 1048576)
def OpenSpec.upto (s : _root_.Go.ChangeSpec) : _root_.Go.OpenSpec := { _root_.Go.OpenSpec.ofChange s with cond := some uptoSmall }

/-- 'viewportlaw25.TargetHolds', WHERE WHAT IT READS IS OF BULK AT MOST 1048576: true; the input reads as it did. -/
def targetHoldsUptoRow : OpenClaim := { program := "ytkmebhpbfgffbaagreat", sum := "b7c3189266fe9a131c6d0e36b96c7cd995c1a816bea092272efb50155b0da930", func := "viewport/viewportlaw25.TargetHolds", spec := "targetHolds", unfollowed := true, recurses := true, apart := false, narrowed := true }
def TargetHoldsUptoSaid : Prop := targetHoldsUptoRow.holds Tryz.pinned (OpenSpec.upto targetHoldsSpec)

/-- 'viewportlaw25.TargetUp', WHERE WHAT IT READS IS OF BULK AT MOST 1048576: true; the input reads as it did. -/
def targetUpUptoRow : OpenClaim := { program := "ytkmebhpbfgffbaagreat", sum := "b7c3189266fe9a131c6d0e36b96c7cd995c1a816bea092272efb50155b0da930", func := "viewport/viewportlaw25.TargetUp", spec := "targetUp", unfollowed := true, recurses := true, apart := false, narrowed := true }
def TargetUpUptoSaid : Prop := targetUpUptoRow.holds Tryz.pinned (OpenSpec.upto targetUpSpec)

end Rows
end Go.Proofs.YtkmebhpbfgffbaaGreat
