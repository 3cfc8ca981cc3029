/-
  Parts of the run of viewportlaw05.LeastNames, in order: each, for itself, gives what is said of it. No condition.
-/
import Derived.Test.YtljepknbeaopjaaAx9
import Derived.Test.YtljepknbeaopjaaKeys
import Derived.Test.YtljepknbeaopjaaTabs0
import Derived.Test.YtljepknbeaopjaaProg
import Derived.KernelRfl
import Derived.Test.YtljepknbeaopjaaDLeastNames2
set_option linter.unusedSimpArgs false
set_option linter.unusedVariables false
namespace Go.Proofs.Ytljepknbeaopjaa.leastNames
open Go.Proofs Go.Proofs.Ytljepknbeaopjaa Ax

set_option maxRecDepth 1000000 in
theorem c100354 : Ax.chkL Try.prog quiets sks [] [g100813] g100354 = true := by kernel_rfl
set_option maxRecDepth 1000000 in
theorem c99900 : Ax.chkL Try.prog quiets sks [] [g100354] g99900 = true := by kernel_rfl
set_option maxRecDepth 1000000 in
theorem c99441 : Ax.chkL Try.prog quiets sks [] [g99900] g99441 = true := by kernel_rfl
set_option maxRecDepth 1000000 in
theorem c98982 : Ax.chkL Try.prog quiets sks [] [g99441] g98982 = true := by kernel_rfl
set_option maxRecDepth 1000000 in
theorem c98523 : Ax.chkL Try.prog quiets sks [] [g98982] g98523 = true := by kernel_rfl
set_option maxRecDepth 1000000 in
theorem c104970 : Ax.chkL Try.prog quiets sks [] [] g104970 = true := by kernel_rfl
set_option maxRecDepth 1000000 in
theorem c104453 : Ax.chkL Try.prog quiets sks [] [g104970] g104453 = true := by kernel_rfl

end Go.Proofs.Ytljepknbeaopjaa.leastNames
