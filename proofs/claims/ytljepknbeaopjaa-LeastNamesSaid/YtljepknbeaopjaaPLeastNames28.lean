/-
  Parts of the run of viewportlaw05.LeastNames, in order: each, for itself, gives what is said of it. No condition.
-/
import Derived.Test.YtljepknbeaopjaaAx9
import Derived.Test.YtljepknbeaopjaaKeys
import Derived.Test.YtljepknbeaopjaaTabs0
import Derived.Test.YtljepknbeaopjaaProg
import Derived.KernelRfl
import Derived.Test.YtljepknbeaopjaaDLeastNames2
set_option linter.unusedSimpArgs false
set_option linter.unusedVariables false
namespace Go.Proofs.Ytljepknbeaopjaa.leastNames
open Go.Proofs Go.Proofs.Ytljepknbeaopjaa Ax

set_option maxRecDepth 1000000 in
theorem c88868 : Ax.chkL Try.prog quiets sks [] [] g88868 = true := by kernel_rfl
set_option maxRecDepth 1000000 in
theorem c88412 : Ax.chkL Try.prog quiets sks [] [g88868] g88412 = true := by kernel_rfl
set_option maxRecDepth 1000000 in
theorem c89645 : Ax.chkL Try.prog quiets sks [] [] g89645 = true := by kernel_rfl
set_option maxRecDepth 1000000 in
theorem c90825 : Ax.chkL Try.prog quiets sks [] [] g90825 = true := by kernel_rfl
set_option maxRecDepth 1000000 in
theorem c90517 : Ax.chkL Try.prog quiets sks [] [g90825] g90517 = true := by kernel_rfl
set_option maxRecDepth 1000000 in
theorem c90209 : Ax.chkL Try.prog quiets sks [] [g90517] g90209 = true := by kernel_rfl
set_option maxRecDepth 1000000 in
theorem c91778 : Ax.chkL Try.prog quiets sks [] [] g91778 = true := by kernel_rfl

end Go.Proofs.Ytljepknbeaopjaa.leastNames
