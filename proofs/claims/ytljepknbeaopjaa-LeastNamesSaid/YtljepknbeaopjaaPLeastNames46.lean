/-
  Parts of the run of viewportlaw05.LeastNames, in order: each, for itself, gives what is said of it. No condition.
-/
import Derived.Test.YtljepknbeaopjaaAx9
import Derived.Test.YtljepknbeaopjaaKeys
import Derived.Test.YtljepknbeaopjaaTabs0
import Derived.Test.YtljepknbeaopjaaProg
import Derived.KernelRfl
import Derived.Test.YtljepknbeaopjaaDLeastNames2
set_option linter.unusedSimpArgs false
set_option linter.unusedVariables false
namespace Go.Proofs.Ytljepknbeaopjaa.leastNames
open Go.Proofs Go.Proofs.Ytljepknbeaopjaa Ax

set_option maxRecDepth 1000000 in
theorem c187148 : Ax.chkL Try.prog quiets sks [] [g187460] g187148 = true := by kernel_rfl
set_option maxRecDepth 1000000 in
theorem c186836 : Ax.chkL Try.prog quiets sks [] [g187148] g186836 = true := by kernel_rfl
set_option maxRecDepth 1000000 in
theorem c188413 : Ax.chkL Try.prog quiets sks [] [] g188413 = true := by kernel_rfl
set_option maxRecDepth 1000000 in
theorem c188021 : Ax.chkL Try.prog quiets sks [] [g188413] g188021 = true := by kernel_rfl
set_option maxRecDepth 1000000 in
theorem c186750 : Ax.chkC Try.prog quiets sks [] [g186836, g188021] e186750 = true := by kernel_rfl
set_option maxRecDepth 1000000 in
theorem c184672 : Ax.chkC Try.prog quiets sks [e186750] [g184723, g185242, g185762, g186281] e184672 = true := by kernel_rfl

end Go.Proofs.Ytljepknbeaopjaa.leastNames
