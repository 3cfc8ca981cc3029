/-
 Bits, shifts, quotients: what is told of them. Own work, plain lemmas. No condition.
-/
import Derived.Test.YtoebdapeikdmjaaSxG
set_option linter.unusedSimpArgs false
set_option linter.unusedVariables false
set_option linter.unnecessarySimpa false
set_option linter.deprecated false
set_option linter.unusedSectionVars false
/-! Bits, shifts, quotients: what is told of them. Own work, plain lemmas. -/
namespace Go.Proofs.Ytoebdapeikdmjaa.Ax
open Go.RowKit
variable [Tabs]
/-! bits -/
def bOr (k : IntKind) (x y : Int) : Int := k.wrap ((BitVec.ofInt k.bits x ||| BitVec.ofInt k.bits y).toNat : Int)
end Go.Proofs.Ytoebdapeikdmjaa.Ax
