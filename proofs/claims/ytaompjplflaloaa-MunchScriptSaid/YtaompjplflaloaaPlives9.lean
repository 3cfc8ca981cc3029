/-
  Parts of the run of viewportlaw06.lives, in order: each, for itself, gives what is said of it. No condition.
-/
import Derived.Test.YtaompjplflaloaaAx9
import Derived.Test.YtaompjplflaloaaKeys
import Derived.Test.YtaompjplflaloaaTabs0
import Derived.Test.YtaompjplflaloaaProg
import Derived.KernelRfl
import Derived.Test.YtaompjplflaloaaDlives1
set_option linter.unusedSimpArgs false
set_option linter.unusedVariables false
namespace Go.Proofs.Ytaompjplflaloaa.lives
open Go.Proofs Go.Proofs.Ytaompjplflaloaa Ax

set_option maxRecDepth 1000000 in
theorem c10492 : Ax.chkL Try.prog quiets sks [] [g10864] g10492 = true := by kernel_rfl
set_option maxRecDepth 1000000 in
theorem c10120 : Ax.chkL Try.prog quiets sks [] [g10492] g10120 = true := by kernel_rfl
set_option maxRecDepth 1000000 in
theorem c195 : Ax.chkC Try.prog quiets sks [] [g218, g3966, g7049, g10120] e195 = true := by kernel_rfl
set_option maxRecDepth 1000000 in
theorem c13783 : Ax.chkL Try.prog quiets sks [] [] g13783 = true := by kernel_rfl

end Go.Proofs.Ytaompjplflaloaa.lives
