/-
  Parts of the run of viewportlaw05.LeastNames, in order: each, for itself, gives what is said of it. No condition.
-/
import Derived.Test.YtljepknbeaopjaaAx9
import Derived.Test.YtljepknbeaopjaaKeys
import Derived.Test.YtljepknbeaopjaaTabs0
import Derived.Test.YtljepknbeaopjaaProg
import Derived.KernelRfl
import Derived.Test.YtljepknbeaopjaaDLeastNames2
set_option linter.unusedSimpArgs false
set_option linter.unusedVariables false
namespace Go.Proofs.Ytljepknbeaopjaa.leastNames
open Go.Proofs Go.Proofs.Ytljepknbeaopjaa Ax

set_option maxRecDepth 1000000 in
theorem c83568 : Ax.chkL Try.prog quiets sks [] [g84052] g83568 = true := by kernel_rfl
set_option maxRecDepth 1000000 in
theorem c83172 : Ax.chkL Try.prog quiets sks [] [g83568] g83172 = true := by kernel_rfl
set_option maxRecDepth 1000000 in
theorem c87790 : Ax.chkL Try.prog quiets sks [] [] g87790 = true := by kernel_rfl
set_option maxRecDepth 1000000 in
theorem c87286 : Ax.chkL Try.prog quiets sks [] [g87790] g87286 = true := by kernel_rfl
set_option maxRecDepth 1000000 in
theorem c86782 : Ax.chkL Try.prog quiets sks [] [g87286] g86782 = true := by kernel_rfl
set_option maxRecDepth 1000000 in
theorem c86278 : Ax.chkL Try.prog quiets sks [] [g86782] g86278 = true := by kernel_rfl
set_option maxRecDepth 1000000 in
theorem c80251 : Ax.chkC Try.prog quiets sks [] [g80345, g83172, g86278] e80251 = true := by kernel_rfl

end Go.Proofs.Ytljepknbeaopjaa.leastNames
