/-
  Parts of the run of viewportlaw05.LeastNames, in order: each, for itself, gives what is said of it. No condition.
-/
import Derived.Test.YtljepknbeaopjaaAx9
import Derived.Test.YtljepknbeaopjaaKeys
import Derived.Test.YtljepknbeaopjaaTabs0
import Derived.Test.YtljepknbeaopjaaProg
import Derived.KernelRfl
import Derived.Test.YtljepknbeaopjaaDLeastNames2
set_option linter.unusedSimpArgs false
set_option linter.unusedVariables false
namespace Go.Proofs.Ytljepknbeaopjaa.leastNames
open Go.Proofs Go.Proofs.Ytljepknbeaopjaa Ax

set_option maxRecDepth 1000000 in
theorem c47876 : Ax.chkL Try.prog quiets sks [] [g48392] g47876 = true := by kernel_rfl
set_option maxRecDepth 1000000 in
theorem c47360 : Ax.chkL Try.prog quiets sks [] [g47876] g47360 = true := by kernel_rfl
set_option maxRecDepth 1000000 in
theorem c46844 : Ax.chkL Try.prog quiets sks [] [g47360] g46844 = true := by kernel_rfl
set_option maxRecDepth 1000000 in
theorem c51985 : Ax.chkL Try.prog quiets sks [] [] g51985 = true := by kernel_rfl
set_option maxRecDepth 1000000 in
theorem c51469 : Ax.chkL Try.prog quiets sks [] [g51985] g51469 = true := by kernel_rfl
set_option maxRecDepth 1000000 in
theorem c50953 : Ax.chkL Try.prog quiets sks [] [g51469] g50953 = true := by kernel_rfl
set_option maxRecDepth 1000000 in
theorem c50437 : Ax.chkL Try.prog quiets sks [] [g50953] g50437 = true := by kernel_rfl

end Go.Proofs.Ytljepknbeaopjaa.leastNames
