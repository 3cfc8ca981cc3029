/-
  Parts of the run of viewportlaw05.LeastNames, in order: each, for itself, gives what is said of it. No condition.
-/
import Derived.Test.YtljepknbeaopjaaAx9
import Derived.Test.YtljepknbeaopjaaKeys
import Derived.Test.YtljepknbeaopjaaTabs0
import Derived.Test.YtljepknbeaopjaaProg
import Derived.KernelRfl
import Derived.Test.YtljepknbeaopjaaDLeastNames2
set_option linter.unusedSimpArgs false
set_option linter.unusedVariables false
namespace Go.Proofs.Ytljepknbeaopjaa.leastNames
open Go.Proofs Go.Proofs.Ytljepknbeaopjaa Ax

set_option maxRecDepth 1000000 in
theorem c30164 : Ax.chkL Try.prog quiets sks [] [g30644] g30164 = true := by kernel_rfl
set_option maxRecDepth 1000000 in
theorem c29691 : Ax.chkL Try.prog quiets sks [] [g30164] g29691 = true := by kernel_rfl
set_option maxRecDepth 1000000 in
theorem c29211 : Ax.chkL Try.prog quiets sks [] [g29691] g29211 = true := by kernel_rfl
set_option maxRecDepth 1000000 in
theorem c26395 : Ax.chkC Try.prog quiets sks [] [g26640, g29211] e26395 = true := by kernel_rfl
set_option maxRecDepth 1000000 in
theorem c31657 : Ax.chkL Try.prog quiets sks [] [] g31657 = true := by kernel_rfl
set_option maxRecDepth 1000000 in
theorem c32176 : Ax.chkL Try.prog quiets sks [] [] g32176 = true := by kernel_rfl
set_option maxRecDepth 1000000 in
theorem c32655 : Ax.chkC Try.prog quiets sks [] [] e32655 = true := by kernel_rfl

end Go.Proofs.Ytljepknbeaopjaa.leastNames
