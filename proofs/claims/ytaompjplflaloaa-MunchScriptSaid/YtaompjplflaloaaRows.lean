/-
  No cell of these rows narrows 'for every input' (looked for: loops, veiled, ifaces, maps, wideKeys, modest, calm, conditions, laid).
  DERIVED. THE GIVEN ROWS OF THIS SEAT. 2 by the template 'for every input the law returns true; each argument reads behind the call as it read before'; 0 by the template 'total and deterministic' (their statements: YtaompjplflaloaaTotals.lean).
  GIVEN WITH THE SEED: the statements are not yours to turn. If you find one false, say at which input.
  Laid BY PROGRAM, IN A SANDBOX (cutbox-rows.mjs): the forced cells as the released guide's own fill.sh prints them over the translation fe22ca617258ae11… (all of the seat's roots in one cut). By AI agents, Wed Nov 11 2026. No macro, syntax, notation, axiom, sorry.
-/
import Derived.Test.YtaompjplflaloaaChecked
import GoSem.Claim
import GoSem.ClaimJoined
import GoSem.ClaimMapViews
import Derived.JoinedTies
import Derived.KernelRfl
namespace Go.Proofs.Ytaompjplflaloaa
/- THE CELL 'sum', in the pinned program and in every row, IS THE sha256 OF THE DUMP (.gsa) THAT YtaompjplflaloaaProg.lean LOADS. Nothing in Lean hashes anything: it is a label: what it is worth is what the hold of that sum in a sandbox is worth. -/
noncomputable def Try.pinned : Pinned := { name := "ytaompjplflaloaa", sum := "fe22ca617258ae11762ec6fe7ffda871abdf77db64ae6c93668f8e8ef132d836", checked := Try.checked }
namespace Rows
def none {H : Type} : Left H := { results := [], args := [] }

/-- 'viewportlaw06.MunchCalls': WHATEVER THE INPUT: true; the input reads as it did. -/
def munchCallsSpec : ChangeSpec := { name := "munchCalls", fn := fun _ => fun
  | [d1, d2, d3] => { results := [.lit (.bool true)], args := [d1, d2, d3] }
  | _ => none }
def munchCallsRow : OpenClaim := { program := "ytaompjplflaloaa", sum := "fe22ca617258ae11762ec6fe7ffda871abdf77db64ae6c93668f8e8ef132d836", func := "viewport/viewportlaw06.MunchCalls", spec := "munchCalls", recurses := true, apart := false }
def MunchCallsSaid : Prop := munchCallsRow.holds Try.pinned (OpenSpec.ofChange munchCallsSpec)

/-- ITS FALSE NEIGHBOUR: 'it returns false'. Refute it at one input. -/
def munchCallsWrong : ChangeSpec := { name := "munchCalls", fn := fun _ => fun
  | [d1, d2, d3] => { results := [.lit (.bool false)], args := [d1, d2, d3] }
  | _ => none }
def MunchCallsWrongFalsely : Prop := munchCallsRow.holds Try.pinned (OpenSpec.ofChange munchCallsWrong)

/-- 'viewportlaw06.MunchScript': WHATEVER THE INPUT: true; the input reads as it did. -/
def munchScriptSpec : ChangeSpec := { name := "munchScript", fn := fun _ => fun
  | [d1, d2] => { results := [.lit (.bool true)], args := [d1, d2] }
  | _ => none }
def munchScriptRow : OpenClaim := { program := "ytaompjplflaloaa", sum := "fe22ca617258ae11762ec6fe7ffda871abdf77db64ae6c93668f8e8ef132d836", func := "viewport/viewportlaw06.MunchScript", spec := "munchScript", recurses := true, apart := false }
def MunchScriptSaid : Prop := munchScriptRow.holds Try.pinned (OpenSpec.ofChange munchScriptSpec)

/-- ITS FALSE NEIGHBOUR: 'it returns false'. Refute it at one input. -/
def munchScriptWrong : ChangeSpec := { name := "munchScript", fn := fun _ => fun
  | [d1, d2] => { results := [.lit (.bool false)], args := [d1, d2] }
  | _ => none }
def MunchScriptWrongFalsely : Prop := munchScriptRow.holds Try.pinned (OpenSpec.ofChange munchScriptWrong)

/- THE SECOND FORM. 'bulk': how many values and letters a reading holds, each counted each time it is reached (what is shared counts as often as it is met; a slice's spare places count too). A statement '..UptoSaid' is the law's where the arguments, and the package variables that the reading takes, are together of bulk at most 1048576: NARROWER than '..Said'. Prove '..Said' where nothing that the law and all that it calls make is longer than what came in: it says more and counts as full. Else prove '..UptoSaid'. A law counts once. -/
mutual
def uptoBulk {H : Type} : DataW H → Nat
  | .lit (.string bytes) => bytes.length + 1
  | .lit _ => 1
  | .nil => 1
  | .ptr d => uptoBulk d + 1
  | .slice elems spare => uptoBulkAll elems + uptoBulkAll spare + 1
  | .agg parts => uptoBulkAll parts + 1
  | .iface _ d => uptoBulk d + 1
  | .map entries => uptoBulkEntries entries + 1
  | .held _ => 1
def uptoBulkAll {H : Type} : List (DataW H) → Nat
  | [] => 0
  | d :: r => uptoBulk d + uptoBulkAll r
def uptoBulkEntries {H : Type} : List (Lit × DataW H) → Nat
  | [] => 0
  | x :: r => uptoBulkEntry x + uptoBulkEntries r
def uptoBulkEntry {H : Type} : Lit × DataW H → Nat
  | (.string bytes, d) => bytes.length + uptoBulk d + 1
  | (_, d) => uptoBulk d + 1
 end
def uptoSmall : (H : Type) → List (DataW H) → Bool := fun _ ds => decide (uptoBulkAll ds ≤ 1048576)
def OpenSpec.upto (s : _root_.Go.ChangeSpec) : _root_.Go.OpenSpec := { _root_.Go.OpenSpec.ofChange s with cond := some uptoSmall }

/-- 'viewportlaw06.MunchCalls', WHERE WHAT IT READS IS OF BULK AT MOST 1048576: true; the input reads as it did. -/
def munchCallsUptoRow : OpenClaim := { program := "ytaompjplflaloaa", sum := "fe22ca617258ae11762ec6fe7ffda871abdf77db64ae6c93668f8e8ef132d836", func := "viewport/viewportlaw06.MunchCalls", spec := "munchCalls", recurses := true, apart := false, narrowed := true }
def MunchCallsUptoSaid : Prop := munchCallsUptoRow.holds Try.pinned (OpenSpec.upto munchCallsSpec)

/-- 'viewportlaw06.MunchScript', WHERE WHAT IT READS IS OF BULK AT MOST 1048576: true; the input reads as it did. -/
def munchScriptUptoRow : OpenClaim := { program := "ytaompjplflaloaa", sum := "fe22ca617258ae11762ec6fe7ffda871abdf77db64ae6c93668f8e8ef132d836", func := "viewport/viewportlaw06.MunchScript", spec := "munchScript", recurses := true, apart := false, narrowed := true }
def MunchScriptUptoSaid : Prop := munchScriptUptoRow.holds Try.pinned (OpenSpec.upto munchScriptSpec)

end Rows
end Go.Proofs.Ytaompjplflaloaa
