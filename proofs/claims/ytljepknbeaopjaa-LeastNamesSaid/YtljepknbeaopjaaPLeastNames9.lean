/-
  Parts of the run of viewportlaw05.LeastNames, in order: each, for itself, gives what is said of it. No condition.
-/
import Derived.Test.YtljepknbeaopjaaAx9
import Derived.Test.YtljepknbeaopjaaKeys
import Derived.Test.YtljepknbeaopjaaTabs0
import Derived.Test.YtljepknbeaopjaaProg
import Derived.KernelRfl
import Derived.Test.YtljepknbeaopjaaDLeastNames2
set_option linter.unusedSimpArgs false
set_option linter.unusedVariables false
namespace Go.Proofs.Ytljepknbeaopjaa.leastNames
open Go.Proofs Go.Proofs.Ytljepknbeaopjaa Ax

set_option maxRecDepth 1000000 in
theorem c28556 : Ax.chkL Try.prog quiets sks [] [] g28556 = true := by kernel_rfl
set_option maxRecDepth 1000000 in
theorem c28076 : Ax.chkL Try.prog quiets sks [] [g28556] g28076 = true := by kernel_rfl
set_option maxRecDepth 1000000 in
theorem c27596 : Ax.chkL Try.prog quiets sks [] [g28076] g27596 = true := by kernel_rfl
set_option maxRecDepth 1000000 in
theorem c27120 : Ax.chkL Try.prog quiets sks [] [g27596] g27120 = true := by kernel_rfl
set_option maxRecDepth 1000000 in
theorem c26640 : Ax.chkL Try.prog quiets sks [] [g27120] g26640 = true := by kernel_rfl
set_option maxRecDepth 1000000 in
theorem c31124 : Ax.chkL Try.prog quiets sks [] [] g31124 = true := by kernel_rfl
set_option maxRecDepth 1000000 in
theorem c30644 : Ax.chkL Try.prog quiets sks [] [g31124] g30644 = true := by kernel_rfl

end Go.Proofs.Ytljepknbeaopjaa.leastNames
