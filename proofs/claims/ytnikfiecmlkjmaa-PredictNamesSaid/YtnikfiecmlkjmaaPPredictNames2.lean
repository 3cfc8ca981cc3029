/-
  Parts of the run of viewportlaw14.PredictNames, in order: each, for itself, gives what is said of it. No condition.
-/
import Derived.Test.YtnikfiecmlkjmaaAx9
import Derived.Test.YtnikfiecmlkjmaaKeys
import Derived.Test.YtnikfiecmlkjmaaTabs0
import Derived.Test.YtnikfiecmlkjmaaProg
import Derived.KernelRfl
import Derived.Test.YtnikfiecmlkjmaaDPredictNames1
set_option linter.unusedSimpArgs false
set_option linter.unusedVariables false
namespace Go.Proofs.Ytnikfiecmlkjmaa.predictNames
open Go.Proofs Go.Proofs.Ytnikfiecmlkjmaa Ax

set_option maxRecDepth 1000000 in
theorem c3787 : Ax.chkC Try.prog quiets sks [e4160] [] e3787 = true := by kernel_rfl
set_option maxRecDepth 1000000 in
theorem c5084 : Ax.chkC Try.prog quiets sks [] [] e5084 = true := by kernel_rfl
set_option maxRecDepth 1000000 in
theorem c4804 : Ax.chkC Try.prog quiets sks [e5084] [] e4804 = true := by kernel_rfl
set_option maxRecDepth 1000000 in
theorem c5624 : Ax.upOk e4804 0 = true := by kernel_rfl
set_option maxRecDepth 1000000 in
theorem c4782 : Ax.chkP Try.prog quiets sks [e4804, e5624] [] e4782 = true := by kernel_rfl
set_option maxRecDepth 1000000 in
theorem c6741 : Ax.chkC Try.prog quiets sks [] [] e6741 = true := by kernel_rfl
set_option maxRecDepth 1000000 in
theorem c7451 : Ax.chkC Try.prog quiets sks [] [] e7451 = true := by kernel_rfl

end Go.Proofs.Ytnikfiecmlkjmaa.predictNames
