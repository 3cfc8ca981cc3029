/-
  Parts of the run of viewportlaw05.LeastNames, in order: each, for itself, gives what is said of it. No condition.
-/
import Derived.Test.YtljepknbeaopjaaAx9
import Derived.Test.YtljepknbeaopjaaKeys
import Derived.Test.YtljepknbeaopjaaTabs0
import Derived.Test.YtljepknbeaopjaaProg
import Derived.KernelRfl
import Derived.Test.YtljepknbeaopjaaDLeastNames2
set_option linter.unusedSimpArgs false
set_option linter.unusedVariables false
namespace Go.Proofs.Ytljepknbeaopjaa.leastNames
open Go.Proofs Go.Proofs.Ytljepknbeaopjaa Ax

set_option maxRecDepth 1000000 in
theorem c44019 : Ax.chkL Try.prog quiets sks [] [g44487] g44019 = true := by kernel_rfl
set_option maxRecDepth 1000000 in
theorem c43551 : Ax.chkL Try.prog quiets sks [] [g44019] g43551 = true := by kernel_rfl
set_option maxRecDepth 1000000 in
theorem c43089 : Ax.chkL Try.prog quiets sks [] [g43551] g43089 = true := by kernel_rfl
set_option maxRecDepth 1000000 in
theorem c42621 : Ax.chkL Try.prog quiets sks [] [g43089] g42621 = true := by kernel_rfl
set_option maxRecDepth 1000000 in
theorem c42153 : Ax.chkL Try.prog quiets sks [] [g42621] g42153 = true := by kernel_rfl
set_option maxRecDepth 1000000 in
theorem c48908 : Ax.chkL Try.prog quiets sks [] [] g48908 = true := by kernel_rfl
set_option maxRecDepth 1000000 in
theorem c48392 : Ax.chkL Try.prog quiets sks [] [g48908] g48392 = true := by kernel_rfl

end Go.Proofs.Ytljepknbeaopjaa.leastNames
