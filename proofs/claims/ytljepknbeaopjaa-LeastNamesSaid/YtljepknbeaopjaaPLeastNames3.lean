/-
  Parts of the run of viewportlaw05.LeastNames, in order: each, for itself, gives what is said of it. No condition.
-/
import Derived.Test.YtljepknbeaopjaaAx9
import Derived.Test.YtljepknbeaopjaaKeys
import Derived.Test.YtljepknbeaopjaaTabs0
import Derived.Test.YtljepknbeaopjaaProg
import Derived.KernelRfl
import Derived.Test.YtljepknbeaopjaaDLeastNames2
set_option linter.unusedSimpArgs false
set_option linter.unusedVariables false
namespace Go.Proofs.Ytljepknbeaopjaa.leastNames
open Go.Proofs Go.Proofs.Ytljepknbeaopjaa Ax

set_option maxRecDepth 1000000 in
theorem c9722 : Ax.chkL Try.prog quiets sks [] [] g9722 = true := by kernel_rfl
set_option maxRecDepth 1000000 in
theorem c9254 : Ax.chkL Try.prog quiets sks [] [g9722] g9254 = true := by kernel_rfl
set_option maxRecDepth 1000000 in
theorem c8786 : Ax.chkL Try.prog quiets sks [] [g9254] g8786 = true := by kernel_rfl
set_option maxRecDepth 1000000 in
theorem c8318 : Ax.chkL Try.prog quiets sks [] [g8786] g8318 = true := by kernel_rfl
set_option maxRecDepth 1000000 in
theorem c7844 : Ax.chkL Try.prog quiets sks [] [g8318] g7844 = true := by kernel_rfl
set_option maxRecDepth 1000000 in
theorem c7376 : Ax.chkL Try.prog quiets sks [] [g7844] g7376 = true := by kernel_rfl
set_option maxRecDepth 1000000 in
theorem c6908 : Ax.chkL Try.prog quiets sks [] [g7376] g6908 = true := by kernel_rfl

end Go.Proofs.Ytljepknbeaopjaa.leastNames
