/-
  Parts of the run of viewportlaw06.lives, in order: each, for itself, gives what is said of it. No condition.
-/
import Derived.Test.YtaompjplflaloaaAx9
import Derived.Test.YtaompjplflaloaaKeys
import Derived.Test.YtaompjplflaloaaTabs0
import Derived.Test.YtaompjplflaloaaProg
import Derived.KernelRfl
import Derived.Test.YtaompjplflaloaaDlives1
set_option linter.unusedSimpArgs false
set_option linter.unusedVariables false
namespace Go.Proofs.Ytaompjplflaloaa.lives
open Go.Proofs Go.Proofs.Ytaompjplflaloaa Ax

set_option maxRecDepth 1000000 in
theorem c5820 : Ax.chkL Try.prog quiets sks [] [g6192] g5820 = true := by kernel_rfl
set_option maxRecDepth 1000000 in
theorem c5448 : Ax.chkL Try.prog quiets sks [] [g5820] g5448 = true := by kernel_rfl
set_option maxRecDepth 1000000 in
theorem c5076 : Ax.chkL Try.prog quiets sks [] [g5448] g5076 = true := by kernel_rfl
set_option maxRecDepth 1000000 in
theorem c4704 : Ax.chkL Try.prog quiets sks [] [g5076] g4704 = true := by kernel_rfl

end Go.Proofs.Ytaompjplflaloaa.lives
