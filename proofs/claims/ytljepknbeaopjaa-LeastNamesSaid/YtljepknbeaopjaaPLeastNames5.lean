/-
  Parts of the run of viewportlaw05.LeastNames, in order: each, for itself, gives what is said of it. No condition.
-/
import Derived.Test.YtljepknbeaopjaaAx9
import Derived.Test.YtljepknbeaopjaaKeys
import Derived.Test.YtljepknbeaopjaaTabs0
import Derived.Test.YtljepknbeaopjaaProg
import Derived.KernelRfl
import Derived.Test.YtljepknbeaopjaaDLeastNames2
set_option linter.unusedSimpArgs false
set_option linter.unusedVariables false
namespace Go.Proofs.Ytljepknbeaopjaa.leastNames
open Go.Proofs Go.Proofs.Ytljepknbeaopjaa Ax

set_option maxRecDepth 1000000 in
theorem c13335 : Ax.chkL Try.prog quiets sks [] [] g13335 = true := by kernel_rfl
set_option maxRecDepth 1000000 in
theorem c10205 : Ax.chkC Try.prog quiets sks [e10206, e10983] [g12036, g12555, g13335] e10205 = true := by kernel_rfl
set_option maxRecDepth 1000000 in
theorem c15776 : Ax.chkL Try.prog quiets sks [] [] g15776 = true := by kernel_rfl
set_option maxRecDepth 1000000 in
theorem c15296 : Ax.chkL Try.prog quiets sks [] [g15776] g15296 = true := by kernel_rfl
set_option maxRecDepth 1000000 in
theorem c14816 : Ax.chkL Try.prog quiets sks [] [g15296] g14816 = true := by kernel_rfl
set_option maxRecDepth 1000000 in
theorem c14337 : Ax.chkL Try.prog quiets sks [] [g14816] g14337 = true := by kernel_rfl
set_option maxRecDepth 1000000 in
theorem c13857 : Ax.chkL Try.prog quiets sks [] [g14337] g13857 = true := by kernel_rfl
set_option maxRecDepth 1000000 in
theorem c18347 : Ax.chkL Try.prog quiets sks [] [] g18347 = true := by kernel_rfl

end Go.Proofs.Ytljepknbeaopjaa.leastNames
