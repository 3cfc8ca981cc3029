/-
  Parts of the run of viewportlaw05.LeastNames, in order: each, for itself, gives what is said of it. No condition.
-/
import Derived.Test.YtljepknbeaopjaaAx9
import Derived.Test.YtljepknbeaopjaaKeys
import Derived.Test.YtljepknbeaopjaaTabs0
import Derived.Test.YtljepknbeaopjaaProg
import Derived.KernelRfl
import Derived.Test.YtljepknbeaopjaaDLeastNames2
set_option linter.unusedSimpArgs false
set_option linter.unusedVariables false
namespace Go.Proofs.Ytljepknbeaopjaa.leastNames
open Go.Proofs Go.Proofs.Ytljepknbeaopjaa Ax

set_option maxRecDepth 1000000 in
theorem c171449 : Ax.chkL Try.prog quiets sks [] [g171833] g171449 = true := by kernel_rfl
set_option maxRecDepth 1000000 in
theorem c172938 : Ax.chkL Try.prog quiets sks [] [] g172938 = true := by kernel_rfl
set_option maxRecDepth 1000000 in
theorem c172630 : Ax.chkL Try.prog quiets sks [] [g172938] g172630 = true := by kernel_rfl
set_option maxRecDepth 1000000 in
theorem c172322 : Ax.chkL Try.prog quiets sks [] [g172630] g172322 = true := by kernel_rfl
set_option maxRecDepth 1000000 in
theorem c173967 : Ax.chkL Try.prog quiets sks [] [] g173967 = true := by kernel_rfl
set_option maxRecDepth 1000000 in
theorem c173659 : Ax.chkL Try.prog quiets sks [] [g173967] g173659 = true := by kernel_rfl
set_option maxRecDepth 1000000 in
theorem c173351 : Ax.chkL Try.prog quiets sks [] [g173659] g173351 = true := by kernel_rfl

end Go.Proofs.Ytljepknbeaopjaa.leastNames
