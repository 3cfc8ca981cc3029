/-
  Parts of the run of viewportlaw05.LeastNames, in order: each, for itself, gives what is said of it. No condition.
-/
import Derived.Test.YtljepknbeaopjaaAx9
import Derived.Test.YtljepknbeaopjaaKeys
import Derived.Test.YtljepknbeaopjaaTabs0
import Derived.Test.YtljepknbeaopjaaProg
import Derived.KernelRfl
import Derived.Test.YtljepknbeaopjaaDLeastNames2
set_option linter.unusedSimpArgs false
set_option linter.unusedVariables false
namespace Go.Proofs.Ytljepknbeaopjaa.leastNames
open Go.Proofs Go.Proofs.Ytljepknbeaopjaa Ax

set_option maxRecDepth 1000000 in
theorem c121440 : Ax.chkL Try.prog quiets sks [] [g121896] g121440 = true := by kernel_rfl
set_option maxRecDepth 1000000 in
theorem c121334 : Ax.chkC Try.prog quiets sks [] [g121440] e121334 = true := by kernel_rfl
set_option maxRecDepth 1000000 in
theorem c123077 : Ax.chkL Try.prog quiets sks [] [] g123077 = true := by kernel_rfl
set_option maxRecDepth 1000000 in
theorem c122769 : Ax.chkL Try.prog quiets sks [] [g123077] g122769 = true := by kernel_rfl
set_option maxRecDepth 1000000 in
theorem c122461 : Ax.chkL Try.prog quiets sks [] [g122769] g122461 = true := by kernel_rfl
set_option maxRecDepth 1000000 in
theorem c124030 : Ax.chkL Try.prog quiets sks [] [] g124030 = true := by kernel_rfl
set_option maxRecDepth 1000000 in
theorem c123646 : Ax.chkL Try.prog quiets sks [] [g124030] g123646 = true := by kernel_rfl
set_option maxRecDepth 1000000 in
theorem c125135 : Ax.chkL Try.prog quiets sks [] [] g125135 = true := by kernel_rfl

end Go.Proofs.Ytljepknbeaopjaa.leastNames
