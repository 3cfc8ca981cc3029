/-
  Parts of the run of viewportlaw05.LeastNames, in order: each, for itself, gives what is said of it. No condition.
-/
import Derived.Test.YtljepknbeaopjaaAx9
import Derived.Test.YtljepknbeaopjaaKeys
import Derived.Test.YtljepknbeaopjaaTabs0
import Derived.Test.YtljepknbeaopjaaProg
import Derived.KernelRfl
import Derived.Test.YtljepknbeaopjaaDLeastNames2
set_option linter.unusedSimpArgs false
set_option linter.unusedVariables false
namespace Go.Proofs.Ytljepknbeaopjaa.leastNames
open Go.Proofs Go.Proofs.Ytljepknbeaopjaa Ax

set_option maxRecDepth 1000000 in
theorem c3 : Ax.chkC Try.prog quiets sks [] [g185, g3569, g6908] e3 = true := by kernel_rfl
set_option maxRecDepth 1000000 in
theorem c10512 : Ax.chkL Try.prog quiets sks [] [] g10512 = true := by kernel_rfl
set_option maxRecDepth 1000000 in
theorem c10206 : Ax.chkC Try.prog quiets sks [] [g10512] e10206 = true := by kernel_rfl
set_option maxRecDepth 1000000 in
theorem c11290 : Ax.chkL Try.prog quiets sks [] [] g11290 = true := by kernel_rfl
set_option maxRecDepth 1000000 in
theorem c10983 : Ax.chkC Try.prog quiets sks [] [g11290] e10983 = true := by kernel_rfl
set_option maxRecDepth 1000000 in
theorem c12295 : Ax.chkL Try.prog quiets sks [] [] g12295 = true := by kernel_rfl
set_option maxRecDepth 1000000 in
theorem c12036 : Ax.chkL Try.prog quiets sks [] [g12295] g12036 = true := by kernel_rfl
set_option maxRecDepth 1000000 in
theorem c13075 : Ax.chkL Try.prog quiets sks [] [] g13075 = true := by kernel_rfl
set_option maxRecDepth 1000000 in
theorem c12816 : Ax.chkL Try.prog quiets sks [] [g13075] g12816 = true := by kernel_rfl
set_option maxRecDepth 1000000 in
theorem c12555 : Ax.chkL Try.prog quiets sks [] [g12816] g12555 = true := by kernel_rfl

end Go.Proofs.Ytljepknbeaopjaa.leastNames
