/-
  Parts of the run of viewportlaw05.LeastNames, in order: each, for itself, gives what is said of it. No condition.
-/
import Derived.Test.YtljepknbeaopjaaAx9
import Derived.Test.YtljepknbeaopjaaKeys
import Derived.Test.YtljepknbeaopjaaTabs0
import Derived.Test.YtljepknbeaopjaaProg
import Derived.KernelRfl
import Derived.Test.YtljepknbeaopjaaDLeastNames2
set_option linter.unusedSimpArgs false
set_option linter.unusedVariables false
namespace Go.Proofs.Ytljepknbeaopjaa.leastNames
open Go.Proofs Go.Proofs.Ytljepknbeaopjaa Ax

set_option maxRecDepth 1000000 in
theorem c38335 : Ax.chkL Try.prog quiets sks [] [g38821] g38335 = true := by kernel_rfl
set_option maxRecDepth 1000000 in
theorem c37849 : Ax.chkL Try.prog quiets sks [] [g38335] g37849 = true := by kernel_rfl
set_option maxRecDepth 1000000 in
theorem c37363 : Ax.chkL Try.prog quiets sks [] [g37849] g37363 = true := by kernel_rfl
set_option maxRecDepth 1000000 in
theorem c45891 : Ax.chkL Try.prog quiets sks [] [] g45891 = true := by kernel_rfl
set_option maxRecDepth 1000000 in
theorem c45423 : Ax.chkL Try.prog quiets sks [] [g45891] g45423 = true := by kernel_rfl
set_option maxRecDepth 1000000 in
theorem c44955 : Ax.chkL Try.prog quiets sks [] [g45423] g44955 = true := by kernel_rfl
set_option maxRecDepth 1000000 in
theorem c44487 : Ax.chkL Try.prog quiets sks [] [g44955] g44487 = true := by kernel_rfl

end Go.Proofs.Ytljepknbeaopjaa.leastNames
