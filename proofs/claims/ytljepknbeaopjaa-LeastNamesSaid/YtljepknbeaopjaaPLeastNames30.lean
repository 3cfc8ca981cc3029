/-
  Parts of the run of viewportlaw05.LeastNames, in order: each, for itself, gives what is said of it. No condition.
-/
import Derived.Test.YtljepknbeaopjaaAx9
import Derived.Test.YtljepknbeaopjaaKeys
import Derived.Test.YtljepknbeaopjaaTabs0
import Derived.Test.YtljepknbeaopjaaProg
import Derived.KernelRfl
import Derived.Test.YtljepknbeaopjaaDLeastNames2
set_option linter.unusedSimpArgs false
set_option linter.unusedVariables false
namespace Go.Proofs.Ytljepknbeaopjaa.leastNames
open Go.Proofs Go.Proofs.Ytljepknbeaopjaa Ax

set_option maxRecDepth 1000000 in
theorem c92175 : Ax.chkL Try.prog quiets sks [] [g92267, g93296] g92175 = true := by kernel_rfl
set_option maxRecDepth 1000000 in
theorem c90117 : Ax.chkL Try.prog quiets sks [] [g90209, g91394, g92175] g90117 = true := by kernel_rfl
set_option maxRecDepth 1000000 in
theorem c88305 : Ax.chkC Try.prog quiets sks [] [g88412, g89645, g90117] e88305 = true := by kernel_rfl
set_option maxRecDepth 1000000 in
theorem c97801 : Ax.chkL Try.prog quiets sks [] [] g97801 = true := by kernel_rfl
set_option maxRecDepth 1000000 in
theorem c97321 : Ax.chkL Try.prog quiets sks [] [g97801] g97321 = true := by kernel_rfl
set_option maxRecDepth 1000000 in
theorem c96841 : Ax.chkL Try.prog quiets sks [] [g97321] g96841 = true := by kernel_rfl
set_option maxRecDepth 1000000 in
theorem c96361 : Ax.chkL Try.prog quiets sks [] [g96841] g96361 = true := by kernel_rfl

end Go.Proofs.Ytljepknbeaopjaa.leastNames
