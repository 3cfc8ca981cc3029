/-
  Parts of the run of viewportlaw05.LeastNames, in order: each, for itself, gives what is said of it. No condition.
-/
import Derived.Test.YtljepknbeaopjaaAx9
import Derived.Test.YtljepknbeaopjaaKeys
import Derived.Test.YtljepknbeaopjaaTabs0
import Derived.Test.YtljepknbeaopjaaProg
import Derived.KernelRfl
import Derived.Test.YtljepknbeaopjaaDLeastNames2
set_option linter.unusedSimpArgs false
set_option linter.unusedVariables false
namespace Go.Proofs.Ytljepknbeaopjaa.leastNames
open Go.Proofs Go.Proofs.Ytljepknbeaopjaa Ax

set_option maxRecDepth 1000000 in
theorem c127661 : Ax.chkC Try.prog quiets sks [] [g127934, g131403, g134370] e127661 = true := by kernel_rfl
set_option maxRecDepth 1000000 in
theorem c127515 : Ax.chkC Try.prog quiets sks [e127661] [] e127515 = true := by kernel_rfl
set_option maxRecDepth 1000000 in
theorem c137229 : Ax.chkL Try.prog quiets sks [] [] g137229 = true := by kernel_rfl
set_option maxRecDepth 1000000 in
theorem c138217 : Ax.chkL Try.prog quiets sks [] [] g138217 = true := by kernel_rfl
set_option maxRecDepth 1000000 in
theorem c138737 : Ax.chkL Try.prog quiets sks [] [] g138737 = true := by kernel_rfl
set_option maxRecDepth 1000000 in
theorem c138736 : Ax.chkL Try.prog quiets sks [] [g138737] g138736 = true := by kernel_rfl
set_option maxRecDepth 1000000 in
theorem c137699 : Ax.chkL Try.prog quiets sks [] [g138217, g138736] g137699 = true := by kernel_rfl
set_option maxRecDepth 1000000 in
theorem c136922 : Ax.chkC Try.prog quiets sks [] [g137229, g137699] e136922 = true := by kernel_rfl
set_option maxRecDepth 1000000 in
theorem c139980 : Ax.upOk e94244 41976 = true := by kernel_rfl
set_option maxRecDepth 1000000 in
theorem c154046 : Ax.upOk e68261 78234 = true := by kernel_rfl
set_option maxRecDepth 1000000 in
theorem c166037 : Ax.upOk e120301 41976 = true := by kernel_rfl
set_option maxRecDepth 1000000 in
theorem c167070 : Ax.upOk e121334 41976 = true := by kernel_rfl
set_option maxRecDepth 1000000 in
theorem c168666 : Ax.chkL Try.prog quiets sks [] [] g168666 = true := by kernel_rfl

end Go.Proofs.Ytljepknbeaopjaa.leastNames
