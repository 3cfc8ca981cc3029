/-
  Parts of the run of viewportlaw05.LeastNames, in order: each, for itself, gives what is said of it. No condition.
-/
import Derived.Test.YtljepknbeaopjaaAx9
import Derived.Test.YtljepknbeaopjaaKeys
import Derived.Test.YtljepknbeaopjaaTabs0
import Derived.Test.YtljepknbeaopjaaProg
import Derived.KernelRfl
import Derived.Test.YtljepknbeaopjaaDLeastNames2
set_option linter.unusedSimpArgs false
set_option linter.unusedVariables false
namespace Go.Proofs.Ytljepknbeaopjaa.leastNames
open Go.Proofs Go.Proofs.Ytljepknbeaopjaa Ax

set_option maxRecDepth 1000000 in
theorem c74629 : Ax.chkL Try.prog quiets sks [] [] g74629 = true := by kernel_rfl
set_option maxRecDepth 1000000 in
theorem c74153 : Ax.chkL Try.prog quiets sks [] [g74629] g74153 = true := by kernel_rfl
set_option maxRecDepth 1000000 in
theorem c73677 : Ax.chkL Try.prog quiets sks [] [g74153] g73677 = true := by kernel_rfl
set_option maxRecDepth 1000000 in
theorem c73201 : Ax.chkL Try.prog quiets sks [] [g73677] g73201 = true := by kernel_rfl
set_option maxRecDepth 1000000 in
theorem c72727 : Ax.chkL Try.prog quiets sks [] [g73201] g72727 = true := by kernel_rfl
set_option maxRecDepth 1000000 in
theorem c72251 : Ax.chkL Try.prog quiets sks [] [g72727] g72251 = true := by kernel_rfl
set_option maxRecDepth 1000000 in
theorem c71775 : Ax.chkL Try.prog quiets sks [] [g72251] g71775 = true := by kernel_rfl

end Go.Proofs.Ytljepknbeaopjaa.leastNames
