/-
  Parts of the run of viewportlaw05.LeastNames, in order: each, for itself, gives what is said of it. No condition.
-/
import Derived.Test.YtljepknbeaopjaaAx9
import Derived.Test.YtljepknbeaopjaaKeys
import Derived.Test.YtljepknbeaopjaaTabs0
import Derived.Test.YtljepknbeaopjaaProg
import Derived.KernelRfl
import Derived.Test.YtljepknbeaopjaaDLeastNames2
set_option linter.unusedSimpArgs false
set_option linter.unusedVariables false
namespace Go.Proofs.Ytljepknbeaopjaa.leastNames
open Go.Proofs Go.Proofs.Ytljepknbeaopjaa Ax

set_option maxRecDepth 1000000 in
theorem c49437 : Ax.chkL Try.prog quiets sks [] [g49921, g52514] g49437 = true := by kernel_rfl
set_option maxRecDepth 1000000 in
theorem c46360 : Ax.chkL Try.prog quiets sks [] [g46844, g49437] g46360 = true := by kernel_rfl
set_option maxRecDepth 1000000 in
theorem c41734 : Ax.chkL Try.prog quiets sks [] [g42153, g46360] g41734 = true := by kernel_rfl
set_option maxRecDepth 1000000 in
theorem c37084 : Ax.chkC Try.prog quiets sks [] [g37363, g41734] e37084 = true := by kernel_rfl
set_option maxRecDepth 1000000 in
theorem c36849 : Ax.chkC Try.prog quiets sks [e37084] [] e36849 = true := by kernel_rfl
set_option maxRecDepth 1000000 in
theorem c56411 : Ax.chkL Try.prog quiets sks [] [] g56411 = true := by kernel_rfl
set_option maxRecDepth 1000000 in
theorem c55957 : Ax.chkL Try.prog quiets sks [] [g56411] g55957 = true := by kernel_rfl
set_option maxRecDepth 1000000 in
theorem c55593 : Ax.chkC Try.prog quiets sks [] [g55957] e55593 = true := by kernel_rfl

end Go.Proofs.Ytljepknbeaopjaa.leastNames
