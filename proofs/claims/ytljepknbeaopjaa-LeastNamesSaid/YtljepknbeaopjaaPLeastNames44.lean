/-
  Parts of the run of viewportlaw05.LeastNames, in order: each, for itself, gives what is said of it. No condition.
-/
import Derived.Test.YtljepknbeaopjaaAx9
import Derived.Test.YtljepknbeaopjaaKeys
import Derived.Test.YtljepknbeaopjaaTabs0
import Derived.Test.YtljepknbeaopjaaProg
import Derived.KernelRfl
import Derived.Test.YtljepknbeaopjaaDLeastNames2
set_option linter.unusedSimpArgs false
set_option linter.unusedVariables false
namespace Go.Proofs.Ytljepknbeaopjaa.leastNames
open Go.Proofs Go.Proofs.Ytljepknbeaopjaa Ax

set_option maxRecDepth 1000000 in
theorem c181657 : Ax.chkL Try.prog quiets sks [] [g182137] g181657 = true := by kernel_rfl
set_option maxRecDepth 1000000 in
theorem c181177 : Ax.chkL Try.prog quiets sks [] [g181657] g181177 = true := by kernel_rfl
set_option maxRecDepth 1000000 in
theorem c180701 : Ax.chkL Try.prog quiets sks [] [g181177] g180701 = true := by kernel_rfl
set_option maxRecDepth 1000000 in
theorem c180221 : Ax.chkL Try.prog quiets sks [] [g180701] g180221 = true := by kernel_rfl
set_option maxRecDepth 1000000 in
theorem c184166 : Ax.chkL Try.prog quiets sks [] [] g184166 = true := by kernel_rfl
set_option maxRecDepth 1000000 in
theorem c183670 : Ax.chkL Try.prog quiets sks [] [g184166] g183670 = true := by kernel_rfl
set_option maxRecDepth 1000000 in
theorem c183174 : Ax.chkL Try.prog quiets sks [] [g183670] g183174 = true := by kernel_rfl

end Go.Proofs.Ytljepknbeaopjaa.leastNames
