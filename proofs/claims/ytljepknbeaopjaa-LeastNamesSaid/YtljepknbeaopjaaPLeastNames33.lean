/-
  Parts of the run of viewportlaw05.LeastNames, in order: each, for itself, gives what is said of it. No condition.
-/
import Derived.Test.YtljepknbeaopjaaAx9
import Derived.Test.YtljepknbeaopjaaKeys
import Derived.Test.YtljepknbeaopjaaTabs0
import Derived.Test.YtljepknbeaopjaaProg
import Derived.KernelRfl
import Derived.Test.YtljepknbeaopjaaDLeastNames2
set_option linter.unusedSimpArgs false
set_option linter.unusedVariables false
namespace Go.Proofs.Ytljepknbeaopjaa.leastNames
open Go.Proofs Go.Proofs.Ytljepknbeaopjaa Ax

set_option maxRecDepth 1000000 in
theorem c103936 : Ax.chkL Try.prog quiets sks [] [g104453] g103936 = true := by kernel_rfl
set_option maxRecDepth 1000000 in
theorem c103419 : Ax.chkL Try.prog quiets sks [] [g103936] g103419 = true := by kernel_rfl
set_option maxRecDepth 1000000 in
theorem c102902 : Ax.chkL Try.prog quiets sks [] [g103419] g102902 = true := by kernel_rfl
set_option maxRecDepth 1000000 in
theorem c107791 : Ax.chkL Try.prog quiets sks [] [] g107791 = true := by kernel_rfl
set_option maxRecDepth 1000000 in
theorem c107285 : Ax.chkL Try.prog quiets sks [] [g107791] g107285 = true := by kernel_rfl
set_option maxRecDepth 1000000 in
theorem c106779 : Ax.chkL Try.prog quiets sks [] [g107285] g106779 = true := by kernel_rfl
set_option maxRecDepth 1000000 in
theorem c106273 : Ax.chkL Try.prog quiets sks [] [g106779] g106273 = true := by kernel_rfl

end Go.Proofs.Ytljepknbeaopjaa.leastNames
