/-
  Parts of the run of viewportlaw04.lives, in order: each, for itself, gives what is said of it. No condition.
-/
import Derived.Test.YtilppdkfnfdjnaaDoorAx9
import Derived.Test.YtilppdkfnfdjnaaDoorKeys
import Derived.Test.YtilppdkfnfdjnaaDoorTabs0
import Derived.Test.YtilppdkfnfdjnaaDoorProg
import Derived.KernelRfl
import Derived.Test.YtilppdkfnfdjnaaDoorDlives1
set_option linter.unusedSimpArgs false
set_option linter.unusedVariables false
namespace Go.Proofs.YtilppdkfnfdjnaaDoor.lives
open Go.Proofs Go.Proofs.YtilppdkfnfdjnaaDoor Ax

set_option maxRecDepth 1000000 in
theorem c965 : Ax.chkL Tryd.prog quiets sks [] [g1315] g965 = true := by kernel_rfl
set_option maxRecDepth 1000000 in
theorem c615 : Ax.chkL Tryd.prog quiets sks [] [g965] g615 = true := by kernel_rfl
set_option maxRecDepth 1000000 in
theorem c265 : Ax.chkL Tryd.prog quiets sks [] [g615] g265 = true := by kernel_rfl
set_option maxRecDepth 1000000 in
theorem c2846 : Ax.chkL Tryd.prog quiets sks [] [] g2846 = true := by kernel_rfl

end Go.Proofs.YtilppdkfnfdjnaaDoor.lives
