/-
  Parts of the run of viewportlaw06.lives, in order: each, for itself, gives what is said of it. No condition.
-/
import Derived.Test.YtaompjplflaloaaAx9
import Derived.Test.YtaompjplflaloaaKeys
import Derived.Test.YtaompjplflaloaaTabs0
import Derived.Test.YtaompjplflaloaaProg
import Derived.KernelRfl
import Derived.Test.YtaompjplflaloaaDlives1
set_option linter.unusedSimpArgs false
set_option linter.unusedVariables false
namespace Go.Proofs.Ytaompjplflaloaa.lives
open Go.Proofs Go.Proofs.Ytaompjplflaloaa Ax

set_option maxRecDepth 1000000 in
theorem c8903 : Ax.chkL Try.prog quiets sks [] [g9275] g8903 = true := by kernel_rfl
set_option maxRecDepth 1000000 in
theorem c8531 : Ax.chkL Try.prog quiets sks [] [g8903] g8531 = true := by kernel_rfl
set_option maxRecDepth 1000000 in
theorem c8159 : Ax.chkL Try.prog quiets sks [] [g8531] g8159 = true := by kernel_rfl
set_option maxRecDepth 1000000 in
theorem c7793 : Ax.chkL Try.prog quiets sks [] [g8159] g7793 = true := by kernel_rfl

end Go.Proofs.Ytaompjplflaloaa.lives
