/-
  Parts of the run of viewportlaw05.LeastNames, in order: each, for itself, gives what is said of it. No condition.
-/
import Derived.Test.YtljepknbeaopjaaAx9
import Derived.Test.YtljepknbeaopjaaKeys
import Derived.Test.YtljepknbeaopjaaTabs0
import Derived.Test.YtljepknbeaopjaaProg
import Derived.KernelRfl
import Derived.Test.YtljepknbeaopjaaDLeastNames2
set_option linter.unusedSimpArgs false
set_option linter.unusedVariables false
namespace Go.Proofs.Ytljepknbeaopjaa.leastNames
open Go.Proofs Go.Proofs.Ytljepknbeaopjaa Ax

set_option maxRecDepth 1000000 in
theorem c66204 : Ax.chkL Try.prog quiets sks [] [g66443, g67307] g66204 = true := by kernel_rfl
set_option maxRecDepth 1000000 in
theorem c64654 : Ax.chkC Try.prog quiets sks [] [g64705, g65251, g66204] e64654 = true := by kernel_rfl
set_option maxRecDepth 1000000 in
theorem c71026 : Ax.chkL Try.prog quiets sks [] [] g71026 = true := by kernel_rfl
set_option maxRecDepth 1000000 in
theorem c70534 : Ax.chkL Try.prog quiets sks [] [g71026] g70534 = true := by kernel_rfl
set_option maxRecDepth 1000000 in
theorem c70042 : Ax.chkL Try.prog quiets sks [] [g70534] g70042 = true := by kernel_rfl
set_option maxRecDepth 1000000 in
theorem c69556 : Ax.chkL Try.prog quiets sks [] [g70042] g69556 = true := by kernel_rfl
set_option maxRecDepth 1000000 in
theorem c69064 : Ax.chkL Try.prog quiets sks [] [g69556] g69064 = true := by kernel_rfl
set_option maxRecDepth 1000000 in
theorem c68572 : Ax.chkL Try.prog quiets sks [] [g69064] g68572 = true := by kernel_rfl

end Go.Proofs.Ytljepknbeaopjaa.leastNames
