/-
  Parts of the run of viewportlaw06.lives, in order: each, for itself, gives what is said of it. No condition.
-/
import Derived.Test.YtaompjplflaloaaAx9
import Derived.Test.YtaompjplflaloaaKeys
import Derived.Test.YtaompjplflaloaaTabs0
import Derived.Test.YtaompjplflaloaaProg
import Derived.KernelRfl
import Derived.Test.YtaompjplflaloaaDlives1
set_option linter.unusedSimpArgs false
set_option linter.unusedVariables false
namespace Go.Proofs.Ytaompjplflaloaa.lives
open Go.Proofs Go.Proofs.Ytaompjplflaloaa Ax

set_option maxRecDepth 1000000 in
theorem c7421 : Ax.chkL Try.prog quiets sks [] [g7793] g7421 = true := by kernel_rfl
set_option maxRecDepth 1000000 in
theorem c7049 : Ax.chkL Try.prog quiets sks [] [g7421] g7049 = true := by kernel_rfl
set_option maxRecDepth 1000000 in
theorem c12727 : Ax.chkL Try.prog quiets sks [] [] g12727 = true := by kernel_rfl
set_option maxRecDepth 1000000 in
theorem c12355 : Ax.chkL Try.prog quiets sks [] [g12727] g12355 = true := by kernel_rfl

end Go.Proofs.Ytaompjplflaloaa.lives
