/-
  No cell of these rows narrows 'for every input' (looked for: loops, veiled, ifaces, maps, wideKeys, modest, calm, conditions, laid).
  DERIVED. THE GIVEN ROWS OF THIS SEAT. 9 by the template 'for every input the law returns true; each argument reads behind the call as it read before'; 0 by the template 'total and deterministic' (their statements: YtlondbckhlfibaaTotals.lean).
  GIVEN WITH THE SEED: the statements are not yours to turn. If you find one false, say at which input.
  Laid BY PROGRAM, IN A SANDBOX (cutbox-rows.mjs): the forced cells as the released guide's own fill.sh prints them over the translation 49a3cfe1dd4765e9… (all of the seat's roots in one cut). By AI agents, Wed Nov 11 2026. No macro, syntax, notation, axiom, sorry.
-/
import Derived.Test.YtlondbckhlfibaaChecked
import GoSem.Claim
import GoSem.ClaimJoined
import GoSem.ClaimMapViews
import Derived.JoinedTies
import Derived.KernelRfl
namespace Go.Proofs.Ytlondbckhlfibaa
/- THE CELL 'sum', in the pinned program and in every row, IS THE sha256 OF THE DUMP (.gsa) THAT YtlondbckhlfibaaProg.lean LOADS. Nothing in Lean hashes anything: it is a label: what it is worth is what the hold of that sum in a sandbox is worth. -/
noncomputable def Try.pinned : Pinned := { name := "ytlondbckhlfibaa", sum := "49a3cfe1dd4765e9a138050b25ecdb192c18cef507bf55a9d0d4bd704b103866", checked := Try.checked }
namespace Rows
def none {H : Type} : Left H := { results := [], args := [] }

/-- 'viewportlaw10.ShiftNames': WHATEVER THE INPUT: true; the input reads as it did. -/
def shiftNamesSpec : ChangeSpec := { name := "shiftNames", fn := fun _ => fun
  | [] => { results := [.lit (.bool true)], args := [] }
  | _ => none }
def shiftNamesRow : OpenClaim := { program := "ytlondbckhlfibaa", sum := "49a3cfe1dd4765e9a138050b25ecdb192c18cef507bf55a9d0d4bd704b103866", func := "viewport/viewportlaw10.ShiftNames", spec := "shiftNames", unfollowed := true, recurses := true, apart := false }
def ShiftNamesSaid : Prop := shiftNamesRow.holds Try.pinned (OpenSpec.ofChange shiftNamesSpec)

/-- ITS FALSE NEIGHBOUR: 'it returns false'. Refute it at one input. -/
def shiftNamesWrong : ChangeSpec := { name := "shiftNames", fn := fun _ => fun
  | [] => { results := [.lit (.bool false)], args := [] }
  | _ => none }
def ShiftNamesWrongFalsely : Prop := shiftNamesRow.holds Try.pinned (OpenSpec.ofChange shiftNamesWrong)

/-- 'viewportlaw10.ShiftBytes': WHATEVER THE INPUT: true; the input reads as it did. -/
def shiftBytesSpec : ChangeSpec := { name := "shiftBytes", fn := fun _ => fun
  | [d1, d2, d3, d4, d5] => { results := [.lit (.bool true)], args := [d1, d2, d3, d4, d5] }
  | _ => none }
def shiftBytesRow : OpenClaim := { program := "ytlondbckhlfibaa", sum := "49a3cfe1dd4765e9a138050b25ecdb192c18cef507bf55a9d0d4bd704b103866", func := "viewport/viewportlaw10.ShiftBytes", spec := "shiftBytes", apart := false }
def ShiftBytesSaid : Prop := shiftBytesRow.holds Try.pinned (OpenSpec.ofChange shiftBytesSpec)

/-- ITS FALSE NEIGHBOUR: 'it returns false'. Refute it at one input. -/
def shiftBytesWrong : ChangeSpec := { name := "shiftBytes", fn := fun _ => fun
  | [d1, d2, d3, d4, d5] => { results := [.lit (.bool false)], args := [d1, d2, d3, d4, d5] }
  | _ => none }
def ShiftBytesWrongFalsely : Prop := shiftBytesRow.holds Try.pinned (OpenSpec.ofChange shiftBytesWrong)

/-- 'viewportlaw10.ShiftOrder': WHATEVER THE INPUT: true; the input reads as it did. -/
def shiftOrderSpec : ChangeSpec := { name := "shiftOrder", fn := fun _ => fun
  | [d1, d2, d3, d4] => { results := [.lit (.bool true)], args := [d1, d2, d3, d4] }
  | _ => none }
def shiftOrderRow : OpenClaim := { program := "ytlondbckhlfibaa", sum := "49a3cfe1dd4765e9a138050b25ecdb192c18cef507bf55a9d0d4bd704b103866", func := "viewport/viewportlaw10.ShiftOrder", spec := "shiftOrder", apart := false }
def ShiftOrderSaid : Prop := shiftOrderRow.holds Try.pinned (OpenSpec.ofChange shiftOrderSpec)

/-- ITS FALSE NEIGHBOUR: 'it returns false'. Refute it at one input. -/
def shiftOrderWrong : ChangeSpec := { name := "shiftOrder", fn := fun _ => fun
  | [d1, d2, d3, d4] => { results := [.lit (.bool false)], args := [d1, d2, d3, d4] }
  | _ => none }
def ShiftOrderWrongFalsely : Prop := shiftOrderRow.holds Try.pinned (OpenSpec.ofChange shiftOrderWrong)

/-- 'viewportlaw10.ShiftMeets': WHATEVER THE INPUT: true; the input reads as it did. -/
def shiftMeetsSpec : ChangeSpec := { name := "shiftMeets", fn := fun _ => fun
  | [d1, d2, d3, d4, d5] => { results := [.lit (.bool true)], args := [d1, d2, d3, d4, d5] }
  | _ => none }
def shiftMeetsRow : OpenClaim := { program := "ytlondbckhlfibaa", sum := "49a3cfe1dd4765e9a138050b25ecdb192c18cef507bf55a9d0d4bd704b103866", func := "viewport/viewportlaw10.ShiftMeets", spec := "shiftMeets", apart := false }
def ShiftMeetsSaid : Prop := shiftMeetsRow.holds Try.pinned (OpenSpec.ofChange shiftMeetsSpec)

/-- ITS FALSE NEIGHBOUR: 'it returns false'. Refute it at one input. -/
def shiftMeetsWrong : ChangeSpec := { name := "shiftMeets", fn := fun _ => fun
  | [d1, d2, d3, d4, d5] => { results := [.lit (.bool false)], args := [d1, d2, d3, d4, d5] }
  | _ => none }
def ShiftMeetsWrongFalsely : Prop := shiftMeetsRow.holds Try.pinned (OpenSpec.ofChange shiftMeetsWrong)

/-- 'viewportlaw10.ShiftMerged': WHATEVER THE INPUT: true; the input reads as it did. -/
def shiftMergedSpec : ChangeSpec := { name := "shiftMerged", fn := fun _ => fun
  | [d1, d2] => { results := [.lit (.bool true)], args := [d1, d2] }
  | _ => none }
def shiftMergedRow : OpenClaim := { program := "ytlondbckhlfibaa", sum := "49a3cfe1dd4765e9a138050b25ecdb192c18cef507bf55a9d0d4bd704b103866", func := "viewport/viewportlaw10.ShiftMerged", spec := "shiftMerged", unfollowed := true, recurses := true, apart := false }
def ShiftMergedSaid : Prop := shiftMergedRow.holds Try.pinned (OpenSpec.ofChange shiftMergedSpec)

/-- ITS FALSE NEIGHBOUR: 'it returns false'. Refute it at one input. -/
def shiftMergedWrong : ChangeSpec := { name := "shiftMerged", fn := fun _ => fun
  | [d1, d2] => { results := [.lit (.bool false)], args := [d1, d2] }
  | _ => none }
def ShiftMergedWrongFalsely : Prop := shiftMergedRow.holds Try.pinned (OpenSpec.ofChange shiftMergedWrong)

/-- 'viewportlaw10.ShiftFar': WHATEVER THE INPUT: true; the input reads as it did. -/
def shiftFarSpec : ChangeSpec := { name := "shiftFar", fn := fun _ => fun
  | [d1, d2, d3] => { results := [.lit (.bool true)], args := [d1, d2, d3] }
  | _ => none }
def shiftFarRow : OpenClaim := { program := "ytlondbckhlfibaa", sum := "49a3cfe1dd4765e9a138050b25ecdb192c18cef507bf55a9d0d4bd704b103866", func := "viewport/viewportlaw10.ShiftFar", spec := "shiftFar", apart := false }
def ShiftFarSaid : Prop := shiftFarRow.holds Try.pinned (OpenSpec.ofChange shiftFarSpec)

/-- ITS FALSE NEIGHBOUR: 'it returns false'. Refute it at one input. -/
def shiftFarWrong : ChangeSpec := { name := "shiftFar", fn := fun _ => fun
  | [d1, d2, d3] => { results := [.lit (.bool false)], args := [d1, d2, d3] }
  | _ => none }
def ShiftFarWrongFalsely : Prop := shiftFarRow.holds Try.pinned (OpenSpec.ofChange shiftFarWrong)

/-- 'viewportlaw10.ShiftBack': WHATEVER THE INPUT: true; the input reads as it did. -/
def shiftBackSpec : ChangeSpec := { name := "shiftBack", fn := fun _ => fun
  | [d1, d2, d3] => { results := [.lit (.bool true)], args := [d1, d2, d3] }
  | _ => none }
def shiftBackRow : OpenClaim := { program := "ytlondbckhlfibaa", sum := "49a3cfe1dd4765e9a138050b25ecdb192c18cef507bf55a9d0d4bd704b103866", func := "viewport/viewportlaw10.ShiftBack", spec := "shiftBack", apart := false }
def ShiftBackSaid : Prop := shiftBackRow.holds Try.pinned (OpenSpec.ofChange shiftBackSpec)

/-- ITS FALSE NEIGHBOUR: 'it returns false'. Refute it at one input. -/
def shiftBackWrong : ChangeSpec := { name := "shiftBack", fn := fun _ => fun
  | [d1, d2, d3] => { results := [.lit (.bool false)], args := [d1, d2, d3] }
  | _ => none }
def ShiftBackWrongFalsely : Prop := shiftBackRow.holds Try.pinned (OpenSpec.ofChange shiftBackWrong)

/-- 'viewportlaw26.StylesBest': WHATEVER THE INPUT: true; the input reads as it did. -/
def stylesBestSpec : ChangeSpec := { name := "stylesBest", fn := fun _ => fun
  | [d1, d2, d3] => { results := [.lit (.bool true)], args := [d1, d2, d3] }
  | _ => none }
def stylesBestRow : OpenClaim := { program := "ytlondbckhlfibaa", sum := "49a3cfe1dd4765e9a138050b25ecdb192c18cef507bf55a9d0d4bd704b103866", func := "viewport/viewportlaw26.StylesBest", spec := "stylesBest", unfollowed := true, recurses := true, apart := false }
def StylesBestSaid : Prop := stylesBestRow.holds Try.pinned (OpenSpec.ofChange stylesBestSpec)

/-- ITS FALSE NEIGHBOUR: 'it returns false'. Refute it at one input. -/
def stylesBestWrong : ChangeSpec := { name := "stylesBest", fn := fun _ => fun
  | [d1, d2, d3] => { results := [.lit (.bool false)], args := [d1, d2, d3] }
  | _ => none }
def StylesBestWrongFalsely : Prop := stylesBestRow.holds Try.pinned (OpenSpec.ofChange stylesBestWrong)

/-- 'viewportlaw26.StylesOthers': WHATEVER THE INPUT: true; the input reads as it did. -/
def stylesOthersSpec : ChangeSpec := { name := "stylesOthers", fn := fun _ => fun
  | [d1, d2, d3, d4, d5] => { results := [.lit (.bool true)], args := [d1, d2, d3, d4, d5] }
  | _ => none }
def stylesOthersRow : OpenClaim := { program := "ytlondbckhlfibaa", sum := "49a3cfe1dd4765e9a138050b25ecdb192c18cef507bf55a9d0d4bd704b103866", func := "viewport/viewportlaw26.StylesOthers", spec := "stylesOthers", unfollowed := true, recurses := true, apart := false }
def StylesOthersSaid : Prop := stylesOthersRow.holds Try.pinned (OpenSpec.ofChange stylesOthersSpec)

/-- ITS FALSE NEIGHBOUR: 'it returns false'. Refute it at one input. -/
def stylesOthersWrong : ChangeSpec := { name := "stylesOthers", fn := fun _ => fun
  | [d1, d2, d3, d4, d5] => { results := [.lit (.bool false)], args := [d1, d2, d3, d4, d5] }
  | _ => none }
def StylesOthersWrongFalsely : Prop := stylesOthersRow.holds Try.pinned (OpenSpec.ofChange stylesOthersWrong)

/- THE SECOND FORM. 'bulk': how many values and letters a reading holds, each counted each time it is reached (what is shared counts as often as it is met; a slice's spare places count too). A statement '..UptoSaid' is the law's where the arguments, and the package variables that the reading takes, are together of bulk at most 1048576: NARROWER than '..Said'. Prove '..Said' where nothing that the law and all that it calls make is longer than what came in: it says more and counts as full. Else prove '..UptoSaid'. A law counts once. -/
mutual
def uptoBulk {H : Type} : DataW H → Nat
  | .lit (.string bytes) => bytes.length + 1
  | .lit _ => 1
  | .nil => 1
  | .ptr d => uptoBulk d + 1
  | .slice elems spare => uptoBulkAll elems + uptoBulkAll spare + 1
  | .agg parts => uptoBulkAll parts + 1
  | .iface _ d => uptoBulk d + 1
  | .map entries => uptoBulkEntries entries + 1
  | .held _ => 1
def uptoBulkAll {H : Type} : List (DataW H) → Nat
  | [] => 0
  | d :: r => uptoBulk d + uptoBulkAll r
def uptoBulkEntries {H : Type} : List (Lit × DataW H) → Nat
  | [] => 0
  | x :: r => uptoBulkEntry x + uptoBulkEntries r
def uptoBulkEntry {H : Type} : Lit × DataW H → Nat
  | (.string bytes, d) => bytes.length + uptoBulk d + 1
  | (_, d) => uptoBulk d + 1
 end
def uptoSmall : (H : Type) → List (DataW H) → Bool := fun _ ds => decide (uptoBulkAll ds ≤ 1048576)
def OpenSpec.upto (s : _root_.Go.ChangeSpec) : _root_.Go.OpenSpec := { _root_.Go.OpenSpec.ofChange s with cond := some uptoSmall }

/-- 'viewportlaw10.ShiftNames', WHERE WHAT IT READS IS OF BULK AT MOST 1048576: true; the input reads as it did. -/
def shiftNamesUptoRow : OpenClaim := { program := "ytlondbckhlfibaa", sum := "49a3cfe1dd4765e9a138050b25ecdb192c18cef507bf55a9d0d4bd704b103866", func := "viewport/viewportlaw10.ShiftNames", spec := "shiftNames", unfollowed := true, recurses := true, apart := false, narrowed := true }
def ShiftNamesUptoSaid : Prop := shiftNamesUptoRow.holds Try.pinned (OpenSpec.upto shiftNamesSpec)

/-- 'viewportlaw10.ShiftBytes', WHERE WHAT IT READS IS OF BULK AT MOST 1048576: true; the input reads as it did. -/
def shiftBytesUptoRow : OpenClaim := { program := "ytlondbckhlfibaa", sum := "49a3cfe1dd4765e9a138050b25ecdb192c18cef507bf55a9d0d4bd704b103866", func := "viewport/viewportlaw10.ShiftBytes", spec := "shiftBytes", apart := false, narrowed := true }
def ShiftBytesUptoSaid : Prop := shiftBytesUptoRow.holds Try.pinned (OpenSpec.upto shiftBytesSpec)

/-- 'viewportlaw10.ShiftOrder', WHERE WHAT IT READS IS OF BULK AT MOST 1048576: true; the input reads as it did. -/
def shiftOrderUptoRow : OpenClaim := { program := "ytlondbckhlfibaa", sum := "49a3cfe1dd4765e9a138050b25ecdb192c18cef507bf55a9d0d4bd704b103866", func := "viewport/viewportlaw10.ShiftOrder", spec := "shiftOrder", apart := false, narrowed := true }
def ShiftOrderUptoSaid : Prop := shiftOrderUptoRow.holds Try.pinned (OpenSpec.upto shiftOrderSpec)

/-- 'viewportlaw10.ShiftMeets', WHERE WHAT IT READS IS OF BULK AT MOST 1048576: true; the input reads as it did. -/
def shiftMeetsUptoRow : OpenClaim := { program := "ytlondbckhlfibaa", sum := "49a3cfe1dd4765e9a138050b25ecdb192c18cef507bf55a9d0d4bd704b103866", func := "viewport/viewportlaw10.ShiftMeets", spec := "shiftMeets", apart := false, narrowed := true }
def ShiftMeetsUptoSaid : Prop := shiftMeetsUptoRow.holds Try.pinned (OpenSpec.upto shiftMeetsSpec)

/-- 'viewportlaw10.ShiftMerged', WHERE WHAT IT READS IS OF BULK AT MOST 1048576: true; the input reads as it did. -/
def shiftMergedUptoRow : OpenClaim := { program := "ytlondbckhlfibaa", sum := "49a3cfe1dd4765e9a138050b25ecdb192c18cef507bf55a9d0d4bd704b103866", func := "viewport/viewportlaw10.ShiftMerged", spec := "shiftMerged", unfollowed := true, recurses := true, apart := false, narrowed := true }
def ShiftMergedUptoSaid : Prop := shiftMergedUptoRow.holds Try.pinned (OpenSpec.upto shiftMergedSpec)

/-- 'viewportlaw10.ShiftFar', WHERE WHAT IT READS IS OF BULK AT MOST 1048576: true; the input reads as it did. -/
def shiftFarUptoRow : OpenClaim := { program := "ytlondbckhlfibaa", sum := "49a3cfe1dd4765e9a138050b25ecdb192c18cef507bf55a9d0d4bd704b103866", func := "viewport/viewportlaw10.ShiftFar", spec := "shiftFar", apart := false, narrowed := true }
def ShiftFarUptoSaid : Prop := shiftFarUptoRow.holds Try.pinned (OpenSpec.upto shiftFarSpec)

/-- 'viewportlaw10.ShiftBack', WHERE WHAT IT READS IS OF BULK AT MOST 1048576: true; the input reads as it did. -/
def shiftBackUptoRow : OpenClaim := { program := "ytlondbckhlfibaa", sum := "49a3cfe1dd4765e9a138050b25ecdb192c18cef507bf55a9d0d4bd704b103866", func := "viewport/viewportlaw10.ShiftBack", spec := "shiftBack", apart := false, narrowed := true }
def ShiftBackUptoSaid : Prop := shiftBackUptoRow.holds Try.pinned (OpenSpec.upto shiftBackSpec)

/-- 'viewportlaw26.StylesBest', WHERE WHAT IT READS IS OF BULK AT MOST 1048576: true; the input reads as it did. -/
def stylesBestUptoRow : OpenClaim := { program := "ytlondbckhlfibaa", sum := "49a3cfe1dd4765e9a138050b25ecdb192c18cef507bf55a9d0d4bd704b103866", func := "viewport/viewportlaw26.StylesBest", spec := "stylesBest", unfollowed := true, recurses := true, apart := false, narrowed := true }
def StylesBestUptoSaid : Prop := stylesBestUptoRow.holds Try.pinned (OpenSpec.upto stylesBestSpec)

/-- 'viewportlaw26.StylesOthers', WHERE WHAT IT READS IS OF BULK AT MOST 1048576: true; the input reads as it did. -/
def stylesOthersUptoRow : OpenClaim := { program := "ytlondbckhlfibaa", sum := "49a3cfe1dd4765e9a138050b25ecdb192c18cef507bf55a9d0d4bd704b103866", func := "viewport/viewportlaw26.StylesOthers", spec := "stylesOthers", unfollowed := true, recurses := true, apart := false, narrowed := true }
def StylesOthersUptoSaid : Prop := stylesOthersUptoRow.holds Try.pinned (OpenSpec.upto stylesOthersSpec)

end Rows
end Go.Proofs.Ytlondbckhlfibaa
