/-
  Parts of the run of viewportlaw05.LeastNames, in order: each, for itself, gives what is said of it. No condition.
-/
import Derived.Test.YtljepknbeaopjaaAx9
import Derived.Test.YtljepknbeaopjaaKeys
import Derived.Test.YtljepknbeaopjaaTabs0
import Derived.Test.YtljepknbeaopjaaProg
import Derived.KernelRfl
import Derived.Test.YtljepknbeaopjaaDLeastNames2
set_option linter.unusedSimpArgs false
set_option linter.unusedVariables false
namespace Go.Proofs.Ytljepknbeaopjaa.leastNames
open Go.Proofs Go.Proofs.Ytljepknbeaopjaa Ax

set_option maxRecDepth 1000000 in
theorem c95873 : Ax.chkL Try.prog quiets sks [] [g96361] g95873 = true := by kernel_rfl
set_option maxRecDepth 1000000 in
theorem c95393 : Ax.chkL Try.prog quiets sks [] [g95873] g95393 = true := by kernel_rfl
set_option maxRecDepth 1000000 in
theorem c94913 : Ax.chkL Try.prog quiets sks [] [g95393] g94913 = true := by kernel_rfl
set_option maxRecDepth 1000000 in
theorem c102190 : Ax.chkL Try.prog quiets sks [] [] g102190 = true := by kernel_rfl
set_option maxRecDepth 1000000 in
theorem c101731 : Ax.chkL Try.prog quiets sks [] [g102190] g101731 = true := by kernel_rfl
set_option maxRecDepth 1000000 in
theorem c101272 : Ax.chkL Try.prog quiets sks [] [g101731] g101272 = true := by kernel_rfl
set_option maxRecDepth 1000000 in
theorem c100813 : Ax.chkL Try.prog quiets sks [] [g101272] g100813 = true := by kernel_rfl

end Go.Proofs.Ytljepknbeaopjaa.leastNames
