/-
  Parts of the run of viewportlaw05.LeastNames, in order: each, for itself, gives what is said of it. No condition.
-/
import Derived.Test.YtljepknbeaopjaaAx9
import Derived.Test.YtljepknbeaopjaaKeys
import Derived.Test.YtljepknbeaopjaaTabs0
import Derived.Test.YtljepknbeaopjaaProg
import Derived.KernelRfl
import Derived.Test.YtljepknbeaopjaaDLeastNames2
set_option linter.unusedSimpArgs false
set_option linter.unusedVariables false
namespace Go.Proofs.Ytljepknbeaopjaa.leastNames
open Go.Proofs Go.Proofs.Ytljepknbeaopjaa Ax

set_option maxRecDepth 1000000 in
theorem c6383 : Ax.chkL Try.prog quiets sks [] [] g6383 = true := by kernel_rfl
set_option maxRecDepth 1000000 in
theorem c5915 : Ax.chkL Try.prog quiets sks [] [g6383] g5915 = true := by kernel_rfl
set_option maxRecDepth 1000000 in
theorem c5447 : Ax.chkL Try.prog quiets sks [] [g5915] g5447 = true := by kernel_rfl
set_option maxRecDepth 1000000 in
theorem c4979 : Ax.chkL Try.prog quiets sks [] [g5447] g4979 = true := by kernel_rfl
set_option maxRecDepth 1000000 in
theorem c4505 : Ax.chkL Try.prog quiets sks [] [g4979] g4505 = true := by kernel_rfl
set_option maxRecDepth 1000000 in
theorem c4037 : Ax.chkL Try.prog quiets sks [] [g4505] g4037 = true := by kernel_rfl
set_option maxRecDepth 1000000 in
theorem c3569 : Ax.chkL Try.prog quiets sks [] [g4037] g3569 = true := by kernel_rfl

end Go.Proofs.Ytljepknbeaopjaa.leastNames
