/-
  Parts of the run of viewportlaw05.LeastNames, in order: each, for itself, gives what is said of it. No condition.
-/
import Derived.Test.YtljepknbeaopjaaAx9
import Derived.Test.YtljepknbeaopjaaKeys
import Derived.Test.YtljepknbeaopjaaTabs0
import Derived.Test.YtljepknbeaopjaaProg
import Derived.KernelRfl
import Derived.Test.YtljepknbeaopjaaDLeastNames2
set_option linter.unusedSimpArgs false
set_option linter.unusedVariables false
namespace Go.Proofs.Ytljepknbeaopjaa.leastNames
open Go.Proofs Go.Proofs.Ytljepknbeaopjaa Ax

set_option maxRecDepth 1000000 in
theorem c17867 : Ax.chkL Try.prog quiets sks [] [g18347] g17867 = true := by kernel_rfl
set_option maxRecDepth 1000000 in
theorem c17387 : Ax.chkL Try.prog quiets sks [] [g17867] g17387 = true := by kernel_rfl
set_option maxRecDepth 1000000 in
theorem c16911 : Ax.chkL Try.prog quiets sks [] [g17387] g16911 = true := by kernel_rfl
set_option maxRecDepth 1000000 in
theorem c16431 : Ax.chkL Try.prog quiets sks [] [g16911] g16431 = true := by kernel_rfl
set_option maxRecDepth 1000000 in
theorem c13595 : Ax.chkC Try.prog quiets sks [] [g13857, g16431] e13595 = true := by kernel_rfl
set_option maxRecDepth 1000000 in
theorem c18880 : Ax.chkL Try.prog quiets sks [] [] g18880 = true := by kernel_rfl
set_option maxRecDepth 1000000 in
theorem c19401 : Ax.chkL Try.prog quiets sks [] [] g19401 = true := by kernel_rfl

end Go.Proofs.Ytljepknbeaopjaa.leastNames
