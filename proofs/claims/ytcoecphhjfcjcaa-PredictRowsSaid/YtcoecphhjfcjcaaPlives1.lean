/-
  Parts of the run of viewportlaw14.lives, in order: each, for itself, gives what is said of it. No condition.
-/
import Derived.Test.YtcoecphhjfcjcaaAx9
import Derived.Test.YtcoecphhjfcjcaaKeys
import Derived.Test.YtcoecphhjfcjcaaTabs0
import Derived.Test.YtcoecphhjfcjcaaProg
import Derived.KernelRfl
import Derived.Test.YtcoecphhjfcjcaaDlives1
set_option linter.unusedSimpArgs false
set_option linter.unusedVariables false
namespace Go.Proofs.Ytcoecphhjfcjcaa.lives
open Go.Proofs Go.Proofs.Ytcoecphhjfcjcaa Ax

set_option maxRecDepth 1000000 in
theorem c305 : Ax.chkC Try.prog quiets sks [] [] e305 = true := by kernel_rfl
set_option maxRecDepth 1000000 in
theorem c25 : Ax.chkC Try.prog quiets sks [e305] [] e25 = true := by kernel_rfl
set_option maxRecDepth 1000000 in
theorem c845 : Ax.upOk e25 0 = true := by kernel_rfl
set_option maxRecDepth 1000000 in
theorem c3 : Ax.chkP Try.prog quiets sks [e25, e845] [] e3 = true := by kernel_rfl
set_option maxRecDepth 1000000 in
theorem c2140 : Ax.chkC Try.prog quiets sks [] [] e2140 = true := by kernel_rfl
set_option maxRecDepth 1000000 in
theorem c1790 : Ax.chkC Try.prog quiets sks [e2140] [] e1790 = true := by kernel_rfl

end Go.Proofs.Ytcoecphhjfcjcaa.lives
