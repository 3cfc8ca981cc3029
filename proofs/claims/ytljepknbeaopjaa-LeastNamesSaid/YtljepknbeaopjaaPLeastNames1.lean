/-
  Parts of the run of viewportlaw05.LeastNames, in order: each, for itself, gives what is said of it. No condition.
-/
import Derived.Test.YtljepknbeaopjaaAx9
import Derived.Test.YtljepknbeaopjaaKeys
import Derived.Test.YtljepknbeaopjaaTabs0
import Derived.Test.YtljepknbeaopjaaProg
import Derived.KernelRfl
import Derived.Test.YtljepknbeaopjaaDLeastNames2
set_option linter.unusedSimpArgs false
set_option linter.unusedVariables false
namespace Go.Proofs.Ytljepknbeaopjaa.leastNames
open Go.Proofs Go.Proofs.Ytljepknbeaopjaa Ax

set_option maxRecDepth 1000000 in
theorem c3044 : Ax.chkL Try.prog quiets sks [] [] g3044 = true := by kernel_rfl
set_option maxRecDepth 1000000 in
theorem c2563 : Ax.chkL Try.prog quiets sks [] [g3044] g2563 = true := by kernel_rfl
set_option maxRecDepth 1000000 in
theorem c2082 : Ax.chkL Try.prog quiets sks [] [g2563] g2082 = true := by kernel_rfl
set_option maxRecDepth 1000000 in
theorem c1601 : Ax.chkL Try.prog quiets sks [] [g2082] g1601 = true := by kernel_rfl
set_option maxRecDepth 1000000 in
theorem c1134 : Ax.chkL Try.prog quiets sks [] [g1601] g1134 = true := by kernel_rfl
set_option maxRecDepth 1000000 in
theorem c653 : Ax.chkL Try.prog quiets sks [] [g1134] g653 = true := by kernel_rfl
set_option maxRecDepth 1000000 in
theorem c185 : Ax.chkL Try.prog quiets sks [] [g653] g185 = true := by kernel_rfl

end Go.Proofs.Ytljepknbeaopjaa.leastNames
