/-
  Parts of the run of viewportlaw05.LeastNames, in order: each, for itself, gives what is said of it. No condition.
-/
import Derived.Test.YtljepknbeaopjaaAx9
import Derived.Test.YtljepknbeaopjaaKeys
import Derived.Test.YtljepknbeaopjaaTabs0
import Derived.Test.YtljepknbeaopjaaProg
import Derived.KernelRfl
import Derived.Test.YtljepknbeaopjaaDLeastNames2
set_option linter.unusedSimpArgs false
set_option linter.unusedVariables false
namespace Go.Proofs.Ytljepknbeaopjaa.leastNames
open Go.Proofs Go.Proofs.Ytljepknbeaopjaa Ax

set_option maxRecDepth 1000000 in
theorem c57592 : Ax.chkL Try.prog quiets sks [] [] g57592 = true := by kernel_rfl
set_option maxRecDepth 1000000 in
theorem c57280 : Ax.chkL Try.prog quiets sks [] [g57592] g57280 = true := by kernel_rfl
set_option maxRecDepth 1000000 in
theorem c56968 : Ax.chkL Try.prog quiets sks [] [g57280] g56968 = true := by kernel_rfl
set_option maxRecDepth 1000000 in
theorem c58544 : Ax.chkL Try.prog quiets sks [] [] g58544 = true := by kernel_rfl
set_option maxRecDepth 1000000 in
theorem c58156 : Ax.chkL Try.prog quiets sks [] [g58544] g58156 = true := by kernel_rfl
set_option maxRecDepth 1000000 in
theorem c59648 : Ax.chkL Try.prog quiets sks [] [] g59648 = true := by kernel_rfl
set_option maxRecDepth 1000000 in
theorem c59336 : Ax.chkL Try.prog quiets sks [] [g59648] g59336 = true := by kernel_rfl

end Go.Proofs.Ytljepknbeaopjaa.leastNames
