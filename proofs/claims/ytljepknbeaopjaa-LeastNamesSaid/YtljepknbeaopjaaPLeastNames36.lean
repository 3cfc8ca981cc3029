/-
  Parts of the run of viewportlaw05.LeastNames, in order: each, for itself, gives what is said of it. No condition.
-/
import Derived.Test.YtljepknbeaopjaaAx9
import Derived.Test.YtljepknbeaopjaaKeys
import Derived.Test.YtljepknbeaopjaaTabs0
import Derived.Test.YtljepknbeaopjaaProg
import Derived.KernelRfl
import Derived.Test.YtljepknbeaopjaaDLeastNames2
set_option linter.unusedSimpArgs false
set_option linter.unusedVariables false
namespace Go.Proofs.Ytljepknbeaopjaa.leastNames
open Go.Proofs Go.Proofs.Ytljepknbeaopjaa Ax

set_option maxRecDepth 1000000 in
theorem c124827 : Ax.chkL Try.prog quiets sks [] [g125135] g124827 = true := by kernel_rfl
set_option maxRecDepth 1000000 in
theorem c124519 : Ax.chkL Try.prog quiets sks [] [g124827] g124519 = true := by kernel_rfl
set_option maxRecDepth 1000000 in
theorem c126164 : Ax.chkL Try.prog quiets sks [] [] g126164 = true := by kernel_rfl
set_option maxRecDepth 1000000 in
theorem c125856 : Ax.chkL Try.prog quiets sks [] [g126164] g125856 = true := by kernel_rfl
set_option maxRecDepth 1000000 in
theorem c125548 : Ax.chkL Try.prog quiets sks [] [g125856] g125548 = true := by kernel_rfl
set_option maxRecDepth 1000000 in
theorem c127193 : Ax.chkL Try.prog quiets sks [] [] g127193 = true := by kernel_rfl
set_option maxRecDepth 1000000 in
theorem c126885 : Ax.chkL Try.prog quiets sks [] [g127193] g126885 = true := by kernel_rfl

end Go.Proofs.Ytljepknbeaopjaa.leastNames
