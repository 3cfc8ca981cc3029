/-
  Parts of the run of viewportlaw05.LeastNames, in order: each, for itself, gives what is said of it. No condition.
-/
import Derived.Test.YtljepknbeaopjaaAx9
import Derived.Test.YtljepknbeaopjaaKeys
import Derived.Test.YtljepknbeaopjaaTabs0
import Derived.Test.YtljepknbeaopjaaProg
import Derived.KernelRfl
import Derived.Test.YtljepknbeaopjaaDLeastNames2
set_option linter.unusedSimpArgs false
set_option linter.unusedVariables false
namespace Go.Proofs.Ytljepknbeaopjaa.leastNames
open Go.Proofs Go.Proofs.Ytljepknbeaopjaa Ax

set_option maxRecDepth 1000000 in
theorem c131895 : Ax.chkL Try.prog quiets sks [] [g132387] g131895 = true := by kernel_rfl
set_option maxRecDepth 1000000 in
theorem c131403 : Ax.chkL Try.prog quiets sks [] [g131895] g131403 = true := by kernel_rfl
set_option maxRecDepth 1000000 in
theorem c136410 : Ax.chkL Try.prog quiets sks [] [] g136410 = true := by kernel_rfl
set_option maxRecDepth 1000000 in
theorem c135900 : Ax.chkL Try.prog quiets sks [] [g136410] g135900 = true := by kernel_rfl
set_option maxRecDepth 1000000 in
theorem c135390 : Ax.chkL Try.prog quiets sks [] [g135900] g135390 = true := by kernel_rfl
set_option maxRecDepth 1000000 in
theorem c134880 : Ax.chkL Try.prog quiets sks [] [g135390] g134880 = true := by kernel_rfl
set_option maxRecDepth 1000000 in
theorem c134370 : Ax.chkL Try.prog quiets sks [] [g134880] g134370 = true := by kernel_rfl

end Go.Proofs.Ytljepknbeaopjaa.leastNames
