/-
 Bits, shifts, quotients: what is told of them. Own work, plain lemmas. No condition.
-/
import Derived.Test.YthlikofobjhcoaaGreatSxG
set_option linter.unusedSimpArgs false
set_option linter.unusedVariables false
set_option linter.unnecessarySimpa false
set_option linter.deprecated false
set_option linter.unusedSectionVars false
/-! Bits, shifts, quotients: what is told of them. Own work, plain lemmas. -/
noncomputable section
namespace Go.Proofs.YthlikofobjhcoaaGreat.Ax
open Go.RowKit
variable [Tabs]
end Go.Proofs.YthlikofobjhcoaaGreat.Ax
