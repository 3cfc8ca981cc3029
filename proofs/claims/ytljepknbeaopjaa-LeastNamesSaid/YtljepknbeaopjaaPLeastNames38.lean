/-
  Parts of the run of viewportlaw05.LeastNames, in order: each, for itself, gives what is said of it. No condition.
-/
import Derived.Test.YtljepknbeaopjaaAx9
import Derived.Test.YtljepknbeaopjaaKeys
import Derived.Test.YtljepknbeaopjaaTabs0
import Derived.Test.YtljepknbeaopjaaProg
import Derived.KernelRfl
import Derived.Test.YtljepknbeaopjaaDLeastNames2
set_option linter.unusedSimpArgs false
set_option linter.unusedVariables false
namespace Go.Proofs.Ytljepknbeaopjaa.leastNames
open Go.Proofs Go.Proofs.Ytljepknbeaopjaa Ax

set_option maxRecDepth 1000000 in
theorem c128886 : Ax.chkL Try.prog quiets sks [] [g129360] g128886 = true := by kernel_rfl
set_option maxRecDepth 1000000 in
theorem c128410 : Ax.chkL Try.prog quiets sks [] [g128886] g128410 = true := by kernel_rfl
set_option maxRecDepth 1000000 in
theorem c127934 : Ax.chkL Try.prog quiets sks [] [g128410] g127934 = true := by kernel_rfl
set_option maxRecDepth 1000000 in
theorem c133863 : Ax.chkL Try.prog quiets sks [] [] g133863 = true := by kernel_rfl
set_option maxRecDepth 1000000 in
theorem c133371 : Ax.chkL Try.prog quiets sks [] [g133863] g133371 = true := by kernel_rfl
set_option maxRecDepth 1000000 in
theorem c132879 : Ax.chkL Try.prog quiets sks [] [g133371] g132879 = true := by kernel_rfl
set_option maxRecDepth 1000000 in
theorem c132387 : Ax.chkL Try.prog quiets sks [] [g132879] g132387 = true := by kernel_rfl

end Go.Proofs.Ytljepknbeaopjaa.leastNames
