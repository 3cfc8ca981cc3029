/-
  Parts of the run of viewportlaw05.LeastNames, in order: each, for itself, gives what is said of it. No condition.
-/
import Derived.Test.YtljepknbeaopjaaAx9
import Derived.Test.YtljepknbeaopjaaKeys
import Derived.Test.YtljepknbeaopjaaTabs0
import Derived.Test.YtljepknbeaopjaaProg
import Derived.KernelRfl
import Derived.Test.YtljepknbeaopjaaDLeastNames2
set_option linter.unusedSimpArgs false
set_option linter.unusedVariables false
namespace Go.Proofs.Ytljepknbeaopjaa.leastNames
open Go.Proofs Go.Proofs.Ytljepknbeaopjaa Ax

set_option maxRecDepth 1000000 in
theorem c105767 : Ax.chkL Try.prog quiets sks [] [g106273] g105767 = true := by kernel_rfl
set_option maxRecDepth 1000000 in
theorem c105488 : Ax.chkL Try.prog quiets sks [] [g105767] g105488 = true := by kernel_rfl
set_option maxRecDepth 1000000 in
theorem c98297 : Ax.chkL Try.prog quiets sks [] [g98523, g102902, g105488] g98297 = true := by kernel_rfl
set_option maxRecDepth 1000000 in
theorem c94444 : Ax.chkL Try.prog quiets sks [] [g94913, g98297] g94444 = true := by kernel_rfl
set_option maxRecDepth 1000000 in
theorem c94244 : Ax.chkC Try.prog quiets sks [] [g94444] e94244 = true := by kernel_rfl
set_option maxRecDepth 1000000 in
theorem c108310 : Ax.upOk e68261 36258 = true := by kernel_rfl
set_option maxRecDepth 1000000 in
theorem c120863 : Ax.chkL Try.prog quiets sks [] [] g120863 = true := by kernel_rfl
set_option maxRecDepth 1000000 in
theorem c120407 : Ax.chkL Try.prog quiets sks [] [g120863] g120407 = true := by kernel_rfl
set_option maxRecDepth 1000000 in
theorem c120301 : Ax.chkC Try.prog quiets sks [] [g120407] e120301 = true := by kernel_rfl
set_option maxRecDepth 1000000 in
theorem c121896 : Ax.chkL Try.prog quiets sks [] [] g121896 = true := by kernel_rfl

end Go.Proofs.Ytljepknbeaopjaa.leastNames
