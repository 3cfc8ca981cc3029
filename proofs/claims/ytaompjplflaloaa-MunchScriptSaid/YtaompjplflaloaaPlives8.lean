/-
  Parts of the run of viewportlaw06.lives, in order: each, for itself, gives what is said of it. No condition.
-/
import Derived.Test.YtaompjplflaloaaAx9
import Derived.Test.YtaompjplflaloaaKeys
import Derived.Test.YtaompjplflaloaaTabs0
import Derived.Test.YtaompjplflaloaaProg
import Derived.KernelRfl
import Derived.Test.YtaompjplflaloaaDlives1
set_option linter.unusedSimpArgs false
set_option linter.unusedVariables false
namespace Go.Proofs.Ytaompjplflaloaa.lives
open Go.Proofs Go.Proofs.Ytaompjplflaloaa Ax

set_option maxRecDepth 1000000 in
theorem c11983 : Ax.chkL Try.prog quiets sks [] [g12355] g11983 = true := by kernel_rfl
set_option maxRecDepth 1000000 in
theorem c11611 : Ax.chkL Try.prog quiets sks [] [g11983] g11611 = true := by kernel_rfl
set_option maxRecDepth 1000000 in
theorem c11239 : Ax.chkL Try.prog quiets sks [] [g11611] g11239 = true := by kernel_rfl
set_option maxRecDepth 1000000 in
theorem c10864 : Ax.chkL Try.prog quiets sks [] [g11239] g10864 = true := by kernel_rfl

end Go.Proofs.Ytaompjplflaloaa.lives
