/-
  Parts of the run of viewportlaw05.LeastNames, in order: each, for itself, gives what is said of it. No condition.
-/
import Derived.Test.YtljepknbeaopjaaAx9
import Derived.Test.YtljepknbeaopjaaKeys
import Derived.Test.YtljepknbeaopjaaTabs0
import Derived.Test.YtljepknbeaopjaaProg
import Derived.KernelRfl
import Derived.Test.YtljepknbeaopjaaDLeastNames2
set_option linter.unusedSimpArgs false
set_option linter.unusedVariables false
namespace Go.Proofs.Ytljepknbeaopjaa.leastNames
open Go.Proofs Go.Proofs.Ytljepknbeaopjaa Ax

set_option maxRecDepth 1000000 in
theorem c20143 : Ax.chkL Try.prog quiets sks [] [] g20143 = true := by kernel_rfl
set_option maxRecDepth 1000000 in
theorem c20664 : Ax.chkL Try.prog quiets sks [] [] g20664 = true := by kernel_rfl
set_option maxRecDepth 1000000 in
theorem c20403 : Ax.chkL Try.prog quiets sks [] [g20664] g20403 = true := by kernel_rfl
set_option maxRecDepth 1000000 in
theorem c19349 : Ax.chkC Try.prog quiets sks [] [g19401, g20143, g20403] e19349 = true := by kernel_rfl
set_option maxRecDepth 1000000 in
theorem c18829 : Ax.chkC Try.prog quiets sks [e19349] [g18880] e18829 = true := by kernel_rfl
set_option maxRecDepth 1000000 in
theorem c23345 : Ax.chkL Try.prog quiets sks [] [] g23345 = true := by kernel_rfl
set_option maxRecDepth 1000000 in
theorem c22865 : Ax.chkL Try.prog quiets sks [] [g23345] g22865 = true := by kernel_rfl
set_option maxRecDepth 1000000 in
theorem c22385 : Ax.chkL Try.prog quiets sks [] [g22865] g22385 = true := by kernel_rfl
set_option maxRecDepth 1000000 in
theorem c21909 : Ax.chkL Try.prog quiets sks [] [g22385] g21909 = true := by kernel_rfl

end Go.Proofs.Ytljepknbeaopjaa.leastNames
