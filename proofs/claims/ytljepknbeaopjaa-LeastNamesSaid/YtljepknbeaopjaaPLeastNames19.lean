/-
  Parts of the run of viewportlaw05.LeastNames, in order: each, for itself, gives what is said of it. No condition.
-/
import Derived.Test.YtljepknbeaopjaaAx9
import Derived.Test.YtljepknbeaopjaaKeys
import Derived.Test.YtljepknbeaopjaaTabs0
import Derived.Test.YtljepknbeaopjaaProg
import Derived.KernelRfl
import Derived.Test.YtljepknbeaopjaaDLeastNames2
set_option linter.unusedSimpArgs false
set_option linter.unusedVariables false
namespace Go.Proofs.Ytljepknbeaopjaa.leastNames
open Go.Proofs Go.Proofs.Ytljepknbeaopjaa Ax

set_option maxRecDepth 1000000 in
theorem c59024 : Ax.chkL Try.prog quiets sks [] [g59336] g59024 = true := by kernel_rfl
set_option maxRecDepth 1000000 in
theorem c57913 : Ax.chkL Try.prog quiets sks [] [g58156, g59024] g57913 = true := by kernel_rfl
set_option maxRecDepth 1000000 in
theorem c62119 : Ax.chkL Try.prog quiets sks [] [] g62119 = true := by kernel_rfl
set_option maxRecDepth 1000000 in
theorem c61639 : Ax.chkL Try.prog quiets sks [] [g62119] g61639 = true := by kernel_rfl
set_option maxRecDepth 1000000 in
theorem c61159 : Ax.chkL Try.prog quiets sks [] [g61639] g61159 = true := by kernel_rfl
set_option maxRecDepth 1000000 in
theorem c60683 : Ax.chkL Try.prog quiets sks [] [g61159] g60683 = true := by kernel_rfl
set_option maxRecDepth 1000000 in
theorem c60203 : Ax.chkL Try.prog quiets sks [] [g60683] g60203 = true := by kernel_rfl

end Go.Proofs.Ytljepknbeaopjaa.leastNames
