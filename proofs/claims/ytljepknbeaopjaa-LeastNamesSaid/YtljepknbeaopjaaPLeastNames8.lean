/-
  Parts of the run of viewportlaw05.LeastNames, in order: each, for itself, gives what is said of it. No condition.
-/
import Derived.Test.YtljepknbeaopjaaAx9
import Derived.Test.YtljepknbeaopjaaKeys
import Derived.Test.YtljepknbeaopjaaTabs0
import Derived.Test.YtljepknbeaopjaaProg
import Derived.KernelRfl
import Derived.Test.YtljepknbeaopjaaDLeastNames2
set_option linter.unusedSimpArgs false
set_option linter.unusedVariables false
namespace Go.Proofs.Ytljepknbeaopjaa.leastNames
open Go.Proofs Go.Proofs.Ytljepknbeaopjaa Ax

set_option maxRecDepth 1000000 in
theorem c21429 : Ax.chkL Try.prog quiets sks [] [g21909] g21429 = true := by kernel_rfl
set_option maxRecDepth 1000000 in
theorem c25913 : Ax.chkL Try.prog quiets sks [] [] g25913 = true := by kernel_rfl
set_option maxRecDepth 1000000 in
theorem c25433 : Ax.chkL Try.prog quiets sks [] [g25913] g25433 = true := by kernel_rfl
set_option maxRecDepth 1000000 in
theorem c24953 : Ax.chkL Try.prog quiets sks [] [g25433] g24953 = true := by kernel_rfl
set_option maxRecDepth 1000000 in
theorem c24480 : Ax.chkL Try.prog quiets sks [] [g24953] g24480 = true := by kernel_rfl
set_option maxRecDepth 1000000 in
theorem c24000 : Ax.chkL Try.prog quiets sks [] [g24480] g24000 = true := by kernel_rfl
set_option maxRecDepth 1000000 in
theorem c21184 : Ax.chkC Try.prog quiets sks [] [g21429, g24000] e21184 = true := by kernel_rfl

end Go.Proofs.Ytljepknbeaopjaa.leastNames
