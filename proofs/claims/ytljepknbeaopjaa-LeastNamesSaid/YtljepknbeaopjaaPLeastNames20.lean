/-
  Parts of the run of viewportlaw05.LeastNames, in order: each, for itself, gives what is said of it. No condition.
-/
import Derived.Test.YtljepknbeaopjaaAx9
import Derived.Test.YtljepknbeaopjaaKeys
import Derived.Test.YtljepknbeaopjaaTabs0
import Derived.Test.YtljepknbeaopjaaProg
import Derived.KernelRfl
import Derived.Test.YtljepknbeaopjaaDLeastNames2
set_option linter.unusedSimpArgs false
set_option linter.unusedVariables false
namespace Go.Proofs.Ytljepknbeaopjaa.leastNames
open Go.Proofs Go.Proofs.Ytljepknbeaopjaa Ax

set_option maxRecDepth 1000000 in
theorem c64148 : Ax.chkL Try.prog quiets sks [] [] g64148 = true := by kernel_rfl
set_option maxRecDepth 1000000 in
theorem c63652 : Ax.chkL Try.prog quiets sks [] [g64148] g63652 = true := by kernel_rfl
set_option maxRecDepth 1000000 in
theorem c63156 : Ax.chkL Try.prog quiets sks [] [g63652] g63156 = true := by kernel_rfl
set_option maxRecDepth 1000000 in
theorem c62660 : Ax.chkL Try.prog quiets sks [] [g63156] g62660 = true := by kernel_rfl
set_option maxRecDepth 1000000 in
theorem c59977 : Ax.chkC Try.prog quiets sks [] [g60203, g62660] e59977 = true := by kernel_rfl
set_option maxRecDepth 1000000 in
theorem c64705 : Ax.chkL Try.prog quiets sks [] [] g64705 = true := by kernel_rfl
set_option maxRecDepth 1000000 in
theorem c65883 : Ax.chkL Try.prog quiets sks [] [] g65883 = true := by kernel_rfl

end Go.Proofs.Ytljepknbeaopjaa.leastNames
