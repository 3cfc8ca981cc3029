/-
  Parts of the run of viewportlaw05.LeastNames, in order: each, for itself, gives what is said of it. No condition.
-/
import Derived.Test.YtljepknbeaopjaaAx9
import Derived.Test.YtljepknbeaopjaaKeys
import Derived.Test.YtljepknbeaopjaaTabs0
import Derived.Test.YtljepknbeaopjaaProg
import Derived.KernelRfl
import Derived.Test.YtljepknbeaopjaaDLeastNames2
set_option linter.unusedSimpArgs false
set_option linter.unusedVariables false
namespace Go.Proofs.Ytljepknbeaopjaa.leastNames
open Go.Proofs Go.Proofs.Ytljepknbeaopjaa Ax

set_option maxRecDepth 1000000 in
theorem c65567 : Ax.chkL Try.prog quiets sks [] [g65883] g65567 = true := by kernel_rfl
set_option maxRecDepth 1000000 in
theorem c65251 : Ax.chkL Try.prog quiets sks [] [g65567] g65251 = true := by kernel_rfl
set_option maxRecDepth 1000000 in
theorem c66835 : Ax.chkL Try.prog quiets sks [] [] g66835 = true := by kernel_rfl
set_option maxRecDepth 1000000 in
theorem c66443 : Ax.chkL Try.prog quiets sks [] [g66835] g66443 = true := by kernel_rfl
set_option maxRecDepth 1000000 in
theorem c67939 : Ax.chkL Try.prog quiets sks [] [] g67939 = true := by kernel_rfl
set_option maxRecDepth 1000000 in
theorem c67623 : Ax.chkL Try.prog quiets sks [] [g67939] g67623 = true := by kernel_rfl
set_option maxRecDepth 1000000 in
theorem c67307 : Ax.chkL Try.prog quiets sks [] [g67623] g67307 = true := by kernel_rfl

end Go.Proofs.Ytljepknbeaopjaa.leastNames
