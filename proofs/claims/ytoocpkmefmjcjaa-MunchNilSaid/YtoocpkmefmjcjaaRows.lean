/-
  No cell of these rows narrows 'for every input' (looked for: loops, veiled, ifaces, maps, wideKeys, modest, calm, conditions, laid).
  DERIVED. THE GIVEN ROWS OF THIS SEAT. 4 by the template 'for every input the law returns true; each argument reads behind the call as it read before'; 0 by the template 'total and deterministic' (their statements: YtoocpkmefmjcjaaTotals.lean).
  GIVEN WITH THE SEED: the statements are not yours to turn. If you find one false, say at which input.
  Laid BY PROGRAM, IN A SANDBOX (cutbox-rows.mjs): the forced cells as the released guide's own fill.sh prints them over the translation 3a646e0d7aeb675b… (all of the seat's roots in one cut). By AI agents, Wed Nov 11 2026. No macro, syntax, notation, axiom, sorry.
-/
import Derived.Test.YtoocpkmefmjcjaaChecked
import GoSem.Claim
import GoSem.ClaimJoined
import GoSem.ClaimMapViews
import Derived.JoinedTies
import Derived.KernelRfl
namespace Go.Proofs.Ytoocpkmefmjcjaa
/- THE CELL 'sum', in the pinned program and in every row, IS THE sha256 OF THE DUMP (.gsa) THAT YtoocpkmefmjcjaaProg.lean LOADS. Nothing in Lean hashes anything: it is a label: what it is worth is what the hold of that sum in a sandbox is worth. -/
noncomputable def Try.pinned : Pinned := { name := "ytoocpkmefmjcjaa", sum := "3a646e0d7aeb675bc93b6df846b16ecdd67a6834f6110167378bf527e9a71fef", checked := Try.checked }
namespace Rows
def none {H : Type} : Left H := { results := [], args := [] }

/-- 'viewportlaw06.MunchNil': WHATEVER THE INPUT: true; the input reads as it did. -/
def munchNilSpec : ChangeSpec := { name := "munchNil", fn := fun _ => fun
  | [d1, d2] => { results := [.lit (.bool true)], args := [d1, d2] }
  | _ => none }
def munchNilRow : OpenClaim := { program := "ytoocpkmefmjcjaa", sum := "3a646e0d7aeb675bc93b6df846b16ecdd67a6834f6110167378bf527e9a71fef", func := "viewport/viewportlaw06.MunchNil", spec := "munchNil", recurses := true, apart := false }
def MunchNilSaid : Prop := munchNilRow.holds Try.pinned (OpenSpec.ofChange munchNilSpec)

/-- ITS FALSE NEIGHBOUR: 'it returns false'. Refute it at one input. -/
def munchNilWrong : ChangeSpec := { name := "munchNil", fn := fun _ => fun
  | [d1, d2] => { results := [.lit (.bool false)], args := [d1, d2] }
  | _ => none }
def MunchNilWrongFalsely : Prop := munchNilRow.holds Try.pinned (OpenSpec.ofChange munchNilWrong)

/-- 'viewportlaw12.FirstNames': WHATEVER THE INPUT: true; the input reads as it did. -/
def firstNamesSpec : ChangeSpec := { name := "firstNames", fn := fun _ => fun
  | [] => { results := [.lit (.bool true)], args := [] }
  | _ => none }
def firstNamesRow : OpenClaim := { program := "ytoocpkmefmjcjaa", sum := "3a646e0d7aeb675bc93b6df846b16ecdd67a6834f6110167378bf527e9a71fef", func := "viewport/viewportlaw12.FirstNames", spec := "firstNames", unfollowed := true, recurses := true, apart := false }
def FirstNamesSaid : Prop := firstNamesRow.holds Try.pinned (OpenSpec.ofChange firstNamesSpec)

/-- ITS FALSE NEIGHBOUR: 'it returns false'. Refute it at one input. -/
def firstNamesWrong : ChangeSpec := { name := "firstNames", fn := fun _ => fun
  | [] => { results := [.lit (.bool false)], args := [] }
  | _ => none }
def FirstNamesWrongFalsely : Prop := firstNamesRow.holds Try.pinned (OpenSpec.ofChange firstNamesWrong)

/-- 'viewportlaw13.FollowNames': WHATEVER THE INPUT: true; the input reads as it did. -/
def followNamesSpec : ChangeSpec := { name := "followNames", fn := fun _ => fun
  | [] => { results := [.lit (.bool true)], args := [] }
  | _ => none }
def followNamesRow : OpenClaim := { program := "ytoocpkmefmjcjaa", sum := "3a646e0d7aeb675bc93b6df846b16ecdd67a6834f6110167378bf527e9a71fef", func := "viewport/viewportlaw13.FollowNames", spec := "followNames", unfollowed := true, recurses := true, apart := false }
def FollowNamesSaid : Prop := followNamesRow.holds Try.pinned (OpenSpec.ofChange followNamesSpec)

/-- ITS FALSE NEIGHBOUR: 'it returns false'. Refute it at one input. -/
def followNamesWrong : ChangeSpec := { name := "followNames", fn := fun _ => fun
  | [] => { results := [.lit (.bool false)], args := [] }
  | _ => none }
def FollowNamesWrongFalsely : Prop := followNamesRow.holds Try.pinned (OpenSpec.ofChange followNamesWrong)

/-- 'viewportlaw14.PredictNames': WHATEVER THE INPUT: true; the input reads as it did. -/
def predictNamesSpec : ChangeSpec := { name := "predictNames", fn := fun _ => fun
  | [] => { results := [.lit (.bool true)], args := [] }
  | _ => none }
def predictNamesRow : OpenClaim := { program := "ytoocpkmefmjcjaa", sum := "3a646e0d7aeb675bc93b6df846b16ecdd67a6834f6110167378bf527e9a71fef", func := "viewport/viewportlaw14.PredictNames", spec := "predictNames", unfollowed := true, recurses := true, apart := false }
def PredictNamesSaid : Prop := predictNamesRow.holds Try.pinned (OpenSpec.ofChange predictNamesSpec)

/-- ITS FALSE NEIGHBOUR: 'it returns false'. Refute it at one input. -/
def predictNamesWrong : ChangeSpec := { name := "predictNames", fn := fun _ => fun
  | [] => { results := [.lit (.bool false)], args := [] }
  | _ => none }
def PredictNamesWrongFalsely : Prop := predictNamesRow.holds Try.pinned (OpenSpec.ofChange predictNamesWrong)

/- THE SECOND FORM. 'bulk': how many values and letters a reading holds, each counted each time it is reached (what is shared counts as often as it is met; a slice's spare places count too). A statement '..UptoSaid' is the law's where the arguments, and the package variables that the reading takes, are together of bulk at most 1048576: NARROWER than '..Said'. Prove '..Said' where nothing that the law and all that it calls make is longer than what came in: it says more and counts as full. Else prove '..UptoSaid'. A law counts once. -/
mutual
def uptoBulk {H : Type} : DataW H → Nat
  | .lit (.string bytes) => bytes.length + 1
  | .lit _ => 1
  | .nil => 1
  | .ptr d => uptoBulk d + 1
  | .slice elems spare => uptoBulkAll elems + uptoBulkAll spare + 1
  | .agg parts => uptoBulkAll parts + 1
  | .iface _ d => uptoBulk d + 1
  | .map entries => uptoBulkEntries entries + 1
  | .held _ => 1
def uptoBulkAll {H : Type} : List (DataW H) → Nat
  | [] => 0
  | d :: r => uptoBulk d + uptoBulkAll r
def uptoBulkEntries {H : Type} : List (Lit × DataW H) → Nat
  | [] => 0
  | x :: r => uptoBulkEntry x + uptoBulkEntries r
def uptoBulkEntry {H : Type} : Lit × DataW H → Nat
  | (.string bytes, d) => bytes.length + uptoBulk d + 1
  | (_, d) => uptoBulk d + 1
 end
def uptoSmall : (H : Type) → List (DataW H) → Bool := fun _ ds => decide (uptoBulkAll ds ≤ 1048576)
def OpenSpec.upto (s : _root_.Go.ChangeSpec) : _root_.Go.OpenSpec := { _root_.Go.OpenSpec.ofChange s with cond := some uptoSmall }

/-- 'viewportlaw06.MunchNil', WHERE WHAT IT READS IS OF BULK AT MOST 1048576: true; the input reads as it did. -/
def munchNilUptoRow : OpenClaim := { program := "ytoocpkmefmjcjaa", sum := "3a646e0d7aeb675bc93b6df846b16ecdd67a6834f6110167378bf527e9a71fef", func := "viewport/viewportlaw06.MunchNil", spec := "munchNil", recurses := true, apart := false, narrowed := true }
def MunchNilUptoSaid : Prop := munchNilUptoRow.holds Try.pinned (OpenSpec.upto munchNilSpec)

/-- 'viewportlaw12.FirstNames', WHERE WHAT IT READS IS OF BULK AT MOST 1048576: true; the input reads as it did. -/
def firstNamesUptoRow : OpenClaim := { program := "ytoocpkmefmjcjaa", sum := "3a646e0d7aeb675bc93b6df846b16ecdd67a6834f6110167378bf527e9a71fef", func := "viewport/viewportlaw12.FirstNames", spec := "firstNames", unfollowed := true, recurses := true, apart := false, narrowed := true }
def FirstNamesUptoSaid : Prop := firstNamesUptoRow.holds Try.pinned (OpenSpec.upto firstNamesSpec)

/-- 'viewportlaw13.FollowNames', WHERE WHAT IT READS IS OF BULK AT MOST 1048576: true; the input reads as it did. -/
def followNamesUptoRow : OpenClaim := { program := "ytoocpkmefmjcjaa", sum := "3a646e0d7aeb675bc93b6df846b16ecdd67a6834f6110167378bf527e9a71fef", func := "viewport/viewportlaw13.FollowNames", spec := "followNames", unfollowed := true, recurses := true, apart := false, narrowed := true }
def FollowNamesUptoSaid : Prop := followNamesUptoRow.holds Try.pinned (OpenSpec.upto followNamesSpec)

/-- 'viewportlaw14.PredictNames', WHERE WHAT IT READS IS OF BULK AT MOST 1048576: true; the input reads as it did. -/
def predictNamesUptoRow : OpenClaim := { program := "ytoocpkmefmjcjaa", sum := "3a646e0d7aeb675bc93b6df846b16ecdd67a6834f6110167378bf527e9a71fef", func := "viewport/viewportlaw14.PredictNames", spec := "predictNames", unfollowed := true, recurses := true, apart := false, narrowed := true }
def PredictNamesUptoSaid : Prop := predictNamesUptoRow.holds Try.pinned (OpenSpec.upto predictNamesSpec)

end Rows
end Go.Proofs.Ytoocpkmefmjcjaa
