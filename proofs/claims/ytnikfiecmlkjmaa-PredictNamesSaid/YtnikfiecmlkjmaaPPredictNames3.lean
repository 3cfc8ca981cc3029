/-
  Parts of the run of viewportlaw14.PredictNames, in order: each, for itself, gives what is said of it. No condition.
-/
import Derived.Test.YtnikfiecmlkjmaaAx9
import Derived.Test.YtnikfiecmlkjmaaKeys
import Derived.Test.YtnikfiecmlkjmaaTabs0
import Derived.Test.YtnikfiecmlkjmaaProg
import Derived.KernelRfl
import Derived.Test.YtnikfiecmlkjmaaDPredictNames1
set_option linter.unusedSimpArgs false
set_option linter.unusedVariables false
namespace Go.Proofs.Ytnikfiecmlkjmaa.predictNames
open Go.Proofs Go.Proofs.Ytnikfiecmlkjmaa Ax

set_option maxRecDepth 1000000 in
theorem c7171 : Ax.chkC Try.prog quiets sks [e7451] [] e7171 = true := by kernel_rfl
set_option maxRecDepth 1000000 in
theorem c7991 : Ax.upOk e7171 0 = true := by kernel_rfl
set_option maxRecDepth 1000000 in
theorem c7149 : Ax.chkP Try.prog quiets sks [e7171, e7991] [] e7149 = true := by kernel_rfl
set_option maxRecDepth 1000000 in
theorem c6954 : Ax.chkC Try.prog quiets sks [e7149] [] e6954 = true := by kernel_rfl
set_option maxRecDepth 1000000 in
theorem c9481 : Ax.chkC Try.prog quiets sks [] [] e9481 = true := by kernel_rfl
set_option maxRecDepth 1000000 in
theorem c9108 : Ax.chkC Try.prog quiets sks [e9481] [] e9108 = true := by kernel_rfl

end Go.Proofs.Ytnikfiecmlkjmaa.predictNames
