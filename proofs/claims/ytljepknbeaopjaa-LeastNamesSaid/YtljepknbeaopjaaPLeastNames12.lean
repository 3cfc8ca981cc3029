/-
  Parts of the run of viewportlaw05.LeastNames, in order: each, for itself, gives what is said of it. No condition.
-/
import Derived.Test.YtljepknbeaopjaaAx9
import Derived.Test.YtljepknbeaopjaaKeys
import Derived.Test.YtljepknbeaopjaaTabs0
import Derived.Test.YtljepknbeaopjaaProg
import Derived.KernelRfl
import Derived.Test.YtljepknbeaopjaaDLeastNames2
set_option linter.unusedSimpArgs false
set_option linter.unusedVariables false
namespace Go.Proofs.Ytljepknbeaopjaa.leastNames
open Go.Proofs Go.Proofs.Ytljepknbeaopjaa Ax

set_option maxRecDepth 1000000 in
theorem c35536 : Ax.chkC Try.prog quiets sks [e35799] [g36589] e35536 = true := by kernel_rfl
set_option maxRecDepth 1000000 in
theorem c41247 : Ax.chkL Try.prog quiets sks [] [] g41247 = true := by kernel_rfl
set_option maxRecDepth 1000000 in
theorem c40761 : Ax.chkL Try.prog quiets sks [] [g41247] g40761 = true := by kernel_rfl
set_option maxRecDepth 1000000 in
theorem c40275 : Ax.chkL Try.prog quiets sks [] [g40761] g40275 = true := by kernel_rfl
set_option maxRecDepth 1000000 in
theorem c39789 : Ax.chkL Try.prog quiets sks [] [g40275] g39789 = true := by kernel_rfl
set_option maxRecDepth 1000000 in
theorem c39303 : Ax.chkL Try.prog quiets sks [] [g39789] g39303 = true := by kernel_rfl
set_option maxRecDepth 1000000 in
theorem c38821 : Ax.chkL Try.prog quiets sks [] [g39303] g38821 = true := by kernel_rfl

end Go.Proofs.Ytljepknbeaopjaa.leastNames
