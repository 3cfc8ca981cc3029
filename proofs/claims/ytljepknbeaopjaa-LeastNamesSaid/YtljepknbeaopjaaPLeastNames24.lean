/-
  Parts of the run of viewportlaw05.LeastNames, in order: each, for itself, gives what is said of it. No condition.
-/
import Derived.Test.YtljepknbeaopjaaAx9
import Derived.Test.YtljepknbeaopjaaKeys
import Derived.Test.YtljepknbeaopjaaTabs0
import Derived.Test.YtljepknbeaopjaaProg
import Derived.KernelRfl
import Derived.Test.YtljepknbeaopjaaDLeastNames2
set_option linter.unusedSimpArgs false
set_option linter.unusedVariables false
namespace Go.Proofs.Ytljepknbeaopjaa.leastNames
open Go.Proofs Go.Proofs.Ytljepknbeaopjaa Ax

set_option maxRecDepth 1000000 in
theorem c77174 : Ax.chkL Try.prog quiets sks [] [] g77174 = true := by kernel_rfl
set_option maxRecDepth 1000000 in
theorem c76664 : Ax.chkL Try.prog quiets sks [] [g77174] g76664 = true := by kernel_rfl
set_option maxRecDepth 1000000 in
theorem c76154 : Ax.chkL Try.prog quiets sks [] [g76664] g76154 = true := by kernel_rfl
set_option maxRecDepth 1000000 in
theorem c75644 : Ax.chkL Try.prog quiets sks [] [g76154] g75644 = true := by kernel_rfl
set_option maxRecDepth 1000000 in
theorem c75134 : Ax.chkL Try.prog quiets sks [] [g75644] g75134 = true := by kernel_rfl
set_option maxRecDepth 1000000 in
theorem c79739 : Ax.chkL Try.prog quiets sks [] [] g79739 = true := by kernel_rfl
set_option maxRecDepth 1000000 in
theorem c79239 : Ax.chkL Try.prog quiets sks [] [g79739] g79239 = true := by kernel_rfl

end Go.Proofs.Ytljepknbeaopjaa.leastNames
