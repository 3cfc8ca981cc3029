/-
  Parts of the run of viewportlaw06.lives, in order: each, for itself, gives what is said of it. No condition.
-/
import Derived.Test.YtaompjplflaloaaAx9
import Derived.Test.YtaompjplflaloaaKeys
import Derived.Test.YtaompjplflaloaaTabs0
import Derived.Test.YtaompjplflaloaaProg
import Derived.KernelRfl
import Derived.Test.YtaompjplflaloaaDlives1
set_option linter.unusedSimpArgs false
set_option linter.unusedVariables false
namespace Go.Proofs.Ytaompjplflaloaa.lives
open Go.Proofs Go.Proofs.Ytaompjplflaloaa Ax

set_option maxRecDepth 1000000 in
theorem c568 : Ax.chkL Try.prog quiets sks [] [g927] g568 = true := by kernel_rfl
set_option maxRecDepth 1000000 in
theorem c218 : Ax.chkL Try.prog quiets sks [] [g568] g218 = true := by kernel_rfl
set_option maxRecDepth 1000000 in
theorem c6564 : Ax.chkL Try.prog quiets sks [] [] g6564 = true := by kernel_rfl
set_option maxRecDepth 1000000 in
theorem c6192 : Ax.chkL Try.prog quiets sks [] [g6564] g6192 = true := by kernel_rfl

end Go.Proofs.Ytaompjplflaloaa.lives
