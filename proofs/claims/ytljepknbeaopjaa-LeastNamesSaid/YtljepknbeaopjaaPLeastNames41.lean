/-
  Parts of the run of viewportlaw05.LeastNames, in order: each, for itself, gives what is said of it. No condition.
-/
import Derived.Test.YtljepknbeaopjaaAx9
import Derived.Test.YtljepknbeaopjaaKeys
import Derived.Test.YtljepknbeaopjaaTabs0
import Derived.Test.YtljepknbeaopjaaProg
import Derived.KernelRfl
import Derived.Test.YtljepknbeaopjaaDLeastNames2
set_option linter.unusedSimpArgs false
set_option linter.unusedVariables false
namespace Go.Proofs.Ytljepknbeaopjaa.leastNames
open Go.Proofs Go.Proofs.Ytljepknbeaopjaa Ax

set_option maxRecDepth 1000000 in
theorem c168210 : Ax.chkL Try.prog quiets sks [] [g168666] g168210 = true := by kernel_rfl
set_option maxRecDepth 1000000 in
theorem c169699 : Ax.chkL Try.prog quiets sks [] [] g169699 = true := by kernel_rfl
set_option maxRecDepth 1000000 in
theorem c169243 : Ax.chkL Try.prog quiets sks [] [g169699] g169243 = true := by kernel_rfl
set_option maxRecDepth 1000000 in
theorem c170880 : Ax.chkL Try.prog quiets sks [] [] g170880 = true := by kernel_rfl
set_option maxRecDepth 1000000 in
theorem c170572 : Ax.chkL Try.prog quiets sks [] [g170880] g170572 = true := by kernel_rfl
set_option maxRecDepth 1000000 in
theorem c170264 : Ax.chkL Try.prog quiets sks [] [g170572] g170264 = true := by kernel_rfl
set_option maxRecDepth 1000000 in
theorem c171833 : Ax.chkL Try.prog quiets sks [] [] g171833 = true := by kernel_rfl

end Go.Proofs.Ytljepknbeaopjaa.leastNames
