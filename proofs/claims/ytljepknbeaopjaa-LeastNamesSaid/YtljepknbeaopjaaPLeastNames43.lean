/-
  Parts of the run of viewportlaw05.LeastNames, in order: each, for itself, gives what is said of it. No condition.
-/
import Derived.Test.YtljepknbeaopjaaAx9
import Derived.Test.YtljepknbeaopjaaKeys
import Derived.Test.YtljepknbeaopjaaTabs0
import Derived.Test.YtljepknbeaopjaaProg
import Derived.KernelRfl
import Derived.Test.YtljepknbeaopjaaDLeastNames2
set_option linter.unusedSimpArgs false
set_option linter.unusedVariables false
namespace Go.Proofs.Ytljepknbeaopjaa.leastNames
open Go.Proofs Go.Proofs.Ytljepknbeaopjaa Ax

set_option maxRecDepth 1000000 in
theorem c174996 : Ax.chkL Try.prog quiets sks [] [] g174996 = true := by kernel_rfl
set_option maxRecDepth 1000000 in
theorem c174688 : Ax.chkL Try.prog quiets sks [] [g174996] g174688 = true := by kernel_rfl
set_option maxRecDepth 1000000 in
theorem c174380 : Ax.chkL Try.prog quiets sks [] [g174688] g174380 = true := by kernel_rfl
set_option maxRecDepth 1000000 in
theorem c172230 : Ax.chkL Try.prog quiets sks [] [g172322, g173351, g174380] g172230 = true := by kernel_rfl
set_option maxRecDepth 1000000 in
theorem c171201 : Ax.chkL Try.prog quiets sks [] [g171449, g172230] g171201 = true := by kernel_rfl
set_option maxRecDepth 1000000 in
theorem c166036 : Ax.chkC Try.prog quiets sks [e166037, e167070] [g168210, g169243, g170264, g171201] e166036 = true := by kernel_rfl
set_option maxRecDepth 1000000 in
theorem c175318 : Ax.upOk e59977 129009 = true := by kernel_rfl
set_option maxRecDepth 1000000 in
theorem c182137 : Ax.chkL Try.prog quiets sks [] [] g182137 = true := by kernel_rfl

end Go.Proofs.Ytljepknbeaopjaa.leastNames
