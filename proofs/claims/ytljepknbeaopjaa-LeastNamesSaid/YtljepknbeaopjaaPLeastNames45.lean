/-
  Parts of the run of viewportlaw05.LeastNames, in order: each, for itself, gives what is said of it. No condition.
-/
import Derived.Test.YtljepknbeaopjaaAx9
import Derived.Test.YtljepknbeaopjaaKeys
import Derived.Test.YtljepknbeaopjaaTabs0
import Derived.Test.YtljepknbeaopjaaProg
import Derived.KernelRfl
import Derived.Test.YtljepknbeaopjaaDLeastNames2
set_option linter.unusedSimpArgs false
set_option linter.unusedVariables false
namespace Go.Proofs.Ytljepknbeaopjaa.leastNames
open Go.Proofs Go.Proofs.Ytljepknbeaopjaa Ax

set_option maxRecDepth 1000000 in
theorem c182678 : Ax.chkL Try.prog quiets sks [] [g183174] g182678 = true := by kernel_rfl
set_option maxRecDepth 1000000 in
theorem c179995 : Ax.chkC Try.prog quiets sks [] [g180221, g182678] e179995 = true := by kernel_rfl
set_option maxRecDepth 1000000 in
theorem c184723 : Ax.chkL Try.prog quiets sks [] [] g184723 = true := by kernel_rfl
set_option maxRecDepth 1000000 in
theorem c185242 : Ax.chkL Try.prog quiets sks [] [] g185242 = true := by kernel_rfl
set_option maxRecDepth 1000000 in
theorem c185762 : Ax.chkL Try.prog quiets sks [] [] g185762 = true := by kernel_rfl
set_option maxRecDepth 1000000 in
theorem c186281 : Ax.chkL Try.prog quiets sks [] [] g186281 = true := by kernel_rfl
set_option maxRecDepth 1000000 in
theorem c187460 : Ax.chkL Try.prog quiets sks [] [] g187460 = true := by kernel_rfl

end Go.Proofs.Ytljepknbeaopjaa.leastNames
