/-
  Parts of the run of viewportlaw06.lives, in order: each, for itself, gives what is said of it. No condition.
-/
import Derived.Test.YtaompjplflaloaaAx9
import Derived.Test.YtaompjplflaloaaKeys
import Derived.Test.YtaompjplflaloaaTabs0
import Derived.Test.YtaompjplflaloaaProg
import Derived.KernelRfl
import Derived.Test.YtaompjplflaloaaDlives1
set_option linter.unusedSimpArgs false
set_option linter.unusedVariables false
namespace Go.Proofs.Ytaompjplflaloaa.lives
open Go.Proofs Go.Proofs.Ytaompjplflaloaa Ax

set_option maxRecDepth 1000000 in
theorem c2007 : Ax.chkL Try.prog quiets sks [] [g2371] g2007 = true := by kernel_rfl
set_option maxRecDepth 1000000 in
theorem c1643 : Ax.chkL Try.prog quiets sks [] [g2007] g1643 = true := by kernel_rfl
set_option maxRecDepth 1000000 in
theorem c1273 : Ax.chkL Try.prog quiets sks [] [g1643] g1273 = true := by kernel_rfl
set_option maxRecDepth 1000000 in
theorem c927 : Ax.chkL Try.prog quiets sks [] [g1273] g927 = true := by kernel_rfl

end Go.Proofs.Ytaompjplflaloaa.lives
