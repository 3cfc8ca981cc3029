/-
  Parts of the run of viewportlaw05.LeastNames, in order: each, for itself, gives what is said of it. No condition.
-/
import Derived.Test.YtljepknbeaopjaaAx9
import Derived.Test.YtljepknbeaopjaaKeys
import Derived.Test.YtljepknbeaopjaaTabs0
import Derived.Test.YtljepknbeaopjaaProg
import Derived.KernelRfl
import Derived.Test.YtljepknbeaopjaaDLeastNames2
set_option linter.unusedSimpArgs false
set_option linter.unusedVariables false
namespace Go.Proofs.Ytljepknbeaopjaa.leastNames
open Go.Proofs Go.Proofs.Ytljepknbeaopjaa Ax

set_option maxRecDepth 1000000 in
theorem c81214 : Ax.chkL Try.prog quiets sks [] [g81704] g81214 = true := by kernel_rfl
set_option maxRecDepth 1000000 in
theorem c80730 : Ax.chkL Try.prog quiets sks [] [g81214] g80730 = true := by kernel_rfl
set_option maxRecDepth 1000000 in
theorem c80345 : Ax.chkL Try.prog quiets sks [] [g80730] g80345 = true := by kernel_rfl
set_option maxRecDepth 1000000 in
theorem c85499 : Ax.chkL Try.prog quiets sks [] [] g85499 = true := by kernel_rfl
set_option maxRecDepth 1000000 in
theorem c85015 : Ax.chkL Try.prog quiets sks [] [g85499] g85015 = true := by kernel_rfl
set_option maxRecDepth 1000000 in
theorem c84531 : Ax.chkL Try.prog quiets sks [] [g85015] g84531 = true := by kernel_rfl
set_option maxRecDepth 1000000 in
theorem c84052 : Ax.chkL Try.prog quiets sks [] [g84531] g84052 = true := by kernel_rfl

end Go.Proofs.Ytljepknbeaopjaa.leastNames
