/-
  Parts of the run of viewportlaw05.LeastNames, in order: each, for itself, gives what is said of it. No condition.
-/
import Derived.Test.YtljepknbeaopjaaAx9
import Derived.Test.YtljepknbeaopjaaKeys
import Derived.Test.YtljepknbeaopjaaTabs0
import Derived.Test.YtljepknbeaopjaaProg
import Derived.KernelRfl
import Derived.Test.YtljepknbeaopjaaDLeastNames2
set_option linter.unusedSimpArgs false
set_option linter.unusedVariables false
namespace Go.Proofs.Ytljepknbeaopjaa.leastNames
open Go.Proofs Go.Proofs.Ytljepknbeaopjaa Ax

set_option maxRecDepth 1000000 in
theorem c49921 : Ax.chkL Try.prog quiets sks [] [g50437] g49921 = true := by kernel_rfl
set_option maxRecDepth 1000000 in
theorem c55062 : Ax.chkL Try.prog quiets sks [] [] g55062 = true := by kernel_rfl
set_option maxRecDepth 1000000 in
theorem c54546 : Ax.chkL Try.prog quiets sks [] [g55062] g54546 = true := by kernel_rfl
set_option maxRecDepth 1000000 in
theorem c54030 : Ax.chkL Try.prog quiets sks [] [g54546] g54030 = true := by kernel_rfl
set_option maxRecDepth 1000000 in
theorem c53514 : Ax.chkL Try.prog quiets sks [] [g54030] g53514 = true := by kernel_rfl
set_option maxRecDepth 1000000 in
theorem c52998 : Ax.chkL Try.prog quiets sks [] [g53514] g52998 = true := by kernel_rfl
set_option maxRecDepth 1000000 in
theorem c52514 : Ax.chkL Try.prog quiets sks [] [g52998] g52514 = true := by kernel_rfl

end Go.Proofs.Ytljepknbeaopjaa.leastNames
