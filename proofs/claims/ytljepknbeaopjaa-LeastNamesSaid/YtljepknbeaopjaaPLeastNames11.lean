/-
  Parts of the run of viewportlaw05.LeastNames, in order: each, for itself, gives what is said of it. No condition.
-/
import Derived.Test.YtljepknbeaopjaaAx9
import Derived.Test.YtljepknbeaopjaaKeys
import Derived.Test.YtljepknbeaopjaaTabs0
import Derived.Test.YtljepknbeaopjaaProg
import Derived.KernelRfl
import Derived.Test.YtljepknbeaopjaaDLeastNames2
set_option linter.unusedSimpArgs false
set_option linter.unusedVariables false
namespace Go.Proofs.Ytljepknbeaopjaa.leastNames
open Go.Proofs Go.Proofs.Ytljepknbeaopjaa Ax

set_option maxRecDepth 1000000 in
theorem c35054 : Ax.chkL Try.prog quiets sks [] [] g35054 = true := by kernel_rfl
set_option maxRecDepth 1000000 in
theorem c34574 : Ax.chkL Try.prog quiets sks [] [g35054] g34574 = true := by kernel_rfl
set_option maxRecDepth 1000000 in
theorem c34094 : Ax.chkL Try.prog quiets sks [] [g34574] g34094 = true := by kernel_rfl
set_option maxRecDepth 1000000 in
theorem c33614 : Ax.chkL Try.prog quiets sks [] [g34094] g33614 = true := by kernel_rfl
set_option maxRecDepth 1000000 in
theorem c33134 : Ax.chkL Try.prog quiets sks [] [g33614] g33134 = true := by kernel_rfl
set_option maxRecDepth 1000000 in
theorem c32917 : Ax.chkC Try.prog quiets sks [] [g33134] e32917 = true := by kernel_rfl
set_option maxRecDepth 1000000 in
theorem c36063 : Ax.chkL Try.prog quiets sks [] [] g36063 = true := by kernel_rfl
set_option maxRecDepth 1000000 in
theorem c35799 : Ax.chkC Try.prog quiets sks [] [g36063] e35799 = true := by kernel_rfl
set_option maxRecDepth 1000000 in
theorem c36589 : Ax.chkL Try.prog quiets sks [] [] g36589 = true := by kernel_rfl

end Go.Proofs.Ytljepknbeaopjaa.leastNames
