/-
  Parts of the run of viewportlaw05.LeastNames, in order: each, for itself, gives what is said of it. No condition.
-/
import Derived.Test.YtljepknbeaopjaaAx9
import Derived.Test.YtljepknbeaopjaaKeys
import Derived.Test.YtljepknbeaopjaaTabs0
import Derived.Test.YtljepknbeaopjaaProg
import Derived.KernelRfl
import Derived.Test.YtljepknbeaopjaaDLeastNames2
set_option linter.unusedSimpArgs false
set_option linter.unusedVariables false
namespace Go.Proofs.Ytljepknbeaopjaa.leastNames
open Go.Proofs Go.Proofs.Ytljepknbeaopjaa Ax

set_option maxRecDepth 1000000 in
theorem c91394 : Ax.chkL Try.prog quiets sks [] [g91778] g91394 = true := by kernel_rfl
set_option maxRecDepth 1000000 in
theorem c92883 : Ax.chkL Try.prog quiets sks [] [] g92883 = true := by kernel_rfl
set_option maxRecDepth 1000000 in
theorem c92575 : Ax.chkL Try.prog quiets sks [] [g92883] g92575 = true := by kernel_rfl
set_option maxRecDepth 1000000 in
theorem c92267 : Ax.chkL Try.prog quiets sks [] [g92575] g92267 = true := by kernel_rfl
set_option maxRecDepth 1000000 in
theorem c93912 : Ax.chkL Try.prog quiets sks [] [] g93912 = true := by kernel_rfl
set_option maxRecDepth 1000000 in
theorem c93604 : Ax.chkL Try.prog quiets sks [] [g93912] g93604 = true := by kernel_rfl
set_option maxRecDepth 1000000 in
theorem c93296 : Ax.chkL Try.prog quiets sks [] [g93604] g93296 = true := by kernel_rfl

end Go.Proofs.Ytljepknbeaopjaa.leastNames
