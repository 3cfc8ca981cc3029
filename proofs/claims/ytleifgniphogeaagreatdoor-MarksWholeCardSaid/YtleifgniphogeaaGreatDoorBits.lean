/-
 Bits, shifts, quotients: what is told of them. Own work, plain lemmas. No condition.
-/
import Derived.Test.YtleifgniphogeaaGreatDoorSxG
set_option linter.unusedSimpArgs false
set_option linter.unusedVariables false
set_option linter.unnecessarySimpa false
set_option linter.deprecated false
set_option linter.unusedSectionVars false
/-! Bits, shifts, quotients: what is told of them. Own work, plain lemmas. -/
noncomputable section
namespace Go.Proofs.YtleifgniphogeaaGreatDoor.Ax
open Go.RowKit
variable [Tabs]
def bOr (k:IntKind)(x y:Int):Int:=k.wrap ((BitVec.ofInt k.bits x ||| BitVec.ofInt k.bits y).toNat:Int)
theorem arr_rd4 {L:List Int}(h:L.length=4):rdT (layT (iv L)) 4 0=some [Value.int .i64 (L.getD 0 0),Value.int .i64 (L.getD 1 0),Value.int .i64 (L.getD 2 0),Value.int .i64 (L.getD 3 0)]:=by
 match L,h with
 | [a,b,c,e],_=>rfl
end Go.Proofs.YtleifgniphogeaaGreatDoor.Ax
