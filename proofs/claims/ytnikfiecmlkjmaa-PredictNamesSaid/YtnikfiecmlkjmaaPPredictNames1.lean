/-
  Parts of the run of viewportlaw14.PredictNames, in order: each, for itself, gives what is said of it. No condition.
-/
import Derived.Test.YtnikfiecmlkjmaaAx9
import Derived.Test.YtnikfiecmlkjmaaKeys
import Derived.Test.YtnikfiecmlkjmaaTabs0
import Derived.Test.YtnikfiecmlkjmaaProg
import Derived.KernelRfl
import Derived.Test.YtnikfiecmlkjmaaDPredictNames1
set_option linter.unusedSimpArgs false
set_option linter.unusedVariables false
namespace Go.Proofs.Ytnikfiecmlkjmaa.predictNames
open Go.Proofs Go.Proofs.Ytnikfiecmlkjmaa Ax

set_option maxRecDepth 1000000 in
theorem c306 : Ax.chkC Try.prog quiets sks [] [] e306 = true := by kernel_rfl
set_option maxRecDepth 1000000 in
theorem c26 : Ax.chkC Try.prog quiets sks [e306] [] e26 = true := by kernel_rfl
set_option maxRecDepth 1000000 in
theorem c846 : Ax.upOk e26 0 = true := by kernel_rfl
set_option maxRecDepth 1000000 in
theorem c4 : Ax.chkP Try.prog quiets sks [e26, e846] [] e4 = true := by kernel_rfl
set_option maxRecDepth 1000000 in
theorem c2141 : Ax.chkC Try.prog quiets sks [] [] e2141 = true := by kernel_rfl
set_option maxRecDepth 1000000 in
theorem c1769 : Ax.chkC Try.prog quiets sks [e2141] [] e1769 = true := by kernel_rfl
set_option maxRecDepth 1000000 in
theorem c2794 : Ax.upOk e1769 424 = true := by kernel_rfl
set_option maxRecDepth 1000000 in
theorem c4160 : Ax.chkC Try.prog quiets sks [] [] e4160 = true := by kernel_rfl

end Go.Proofs.Ytnikfiecmlkjmaa.predictNames
