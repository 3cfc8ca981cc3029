/-
  Parts of the run of viewportlaw05.LeastNames, in order: each, for itself, gives what is said of it. No condition.
-/
import Derived.Test.YtljepknbeaopjaaAx9
import Derived.Test.YtljepknbeaopjaaKeys
import Derived.Test.YtljepknbeaopjaaTabs0
import Derived.Test.YtljepknbeaopjaaProg
import Derived.KernelRfl
import Derived.Test.YtljepknbeaopjaaDLeastNames2
set_option linter.unusedSimpArgs false
set_option linter.unusedVariables false
namespace Go.Proofs.Ytljepknbeaopjaa.leastNames
open Go.Proofs Go.Proofs.Ytljepknbeaopjaa Ax

set_option maxRecDepth 1000000 in
theorem c78729 : Ax.chkL Try.prog quiets sks [] [g79239] g78729 = true := by kernel_rfl
set_option maxRecDepth 1000000 in
theorem c78219 : Ax.chkL Try.prog quiets sks [] [g78729] g78219 = true := by kernel_rfl
set_option maxRecDepth 1000000 in
theorem c77709 : Ax.chkL Try.prog quiets sks [] [g78219] g77709 = true := by kernel_rfl
set_option maxRecDepth 1000000 in
theorem c68419 : Ax.chkC Try.prog quiets sks [] [g68572, g71775, g75134, g77709] e68419 = true := by kernel_rfl
set_option maxRecDepth 1000000 in
theorem c68261 : Ax.chkC Try.prog quiets sks [e68419] [] e68261 = true := by kernel_rfl
set_option maxRecDepth 1000000 in
theorem c82672 : Ax.chkL Try.prog quiets sks [] [] g82672 = true := by kernel_rfl
set_option maxRecDepth 1000000 in
theorem c82188 : Ax.chkL Try.prog quiets sks [] [g82672] g82188 = true := by kernel_rfl
set_option maxRecDepth 1000000 in
theorem c81704 : Ax.chkL Try.prog quiets sks [] [g82188] g81704 = true := by kernel_rfl

end Go.Proofs.Ytljepknbeaopjaa.leastNames
