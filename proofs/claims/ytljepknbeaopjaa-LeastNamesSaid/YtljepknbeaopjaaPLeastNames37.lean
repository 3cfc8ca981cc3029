/-
  Parts of the run of viewportlaw05.LeastNames, in order: each, for itself, gives what is said of it. No condition.
-/
import Derived.Test.YtljepknbeaopjaaAx9
import Derived.Test.YtljepknbeaopjaaKeys
import Derived.Test.YtljepknbeaopjaaTabs0
import Derived.Test.YtljepknbeaopjaaProg
import Derived.KernelRfl
import Derived.Test.YtljepknbeaopjaaDLeastNames2
set_option linter.unusedSimpArgs false
set_option linter.unusedVariables false
namespace Go.Proofs.Ytljepknbeaopjaa.leastNames
open Go.Proofs Go.Proofs.Ytljepknbeaopjaa Ax

set_option maxRecDepth 1000000 in
theorem c126577 : Ax.chkL Try.prog quiets sks [] [g126885] g126577 = true := by kernel_rfl
set_option maxRecDepth 1000000 in
theorem c124427 : Ax.chkL Try.prog quiets sks [] [g124519, g125548, g126577] g124427 = true := by kernel_rfl
set_option maxRecDepth 1000000 in
theorem c123398 : Ax.chkL Try.prog quiets sks [] [g123646, g124427] g123398 = true := by kernel_rfl
set_option maxRecDepth 1000000 in
theorem c120300 : Ax.chkC Try.prog quiets sks [e120301, e121334] [g122461, g123398] e120300 = true := by kernel_rfl
set_option maxRecDepth 1000000 in
theorem c130788 : Ax.chkL Try.prog quiets sks [] [] g130788 = true := by kernel_rfl
set_option maxRecDepth 1000000 in
theorem c130312 : Ax.chkL Try.prog quiets sks [] [g130788] g130312 = true := by kernel_rfl
set_option maxRecDepth 1000000 in
theorem c129836 : Ax.chkL Try.prog quiets sks [] [g130312] g129836 = true := by kernel_rfl
set_option maxRecDepth 1000000 in
theorem c129360 : Ax.chkL Try.prog quiets sks [] [g129836] g129360 = true := by kernel_rfl

end Go.Proofs.Ytljepknbeaopjaa.leastNames
