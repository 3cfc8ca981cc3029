/-
  Parts of the run of viewportlaw04.lives, in order: each, for itself, gives what is said of it. No condition.
-/
import Derived.Test.YtilppdkfnfdjnaaDoorAx9
import Derived.Test.YtilppdkfnfdjnaaDoorKeys
import Derived.Test.YtilppdkfnfdjnaaDoorTabs0
import Derived.Test.YtilppdkfnfdjnaaDoorProg
import Derived.KernelRfl
import Derived.Test.YtilppdkfnfdjnaaDoorDlives1
set_option linter.unusedSimpArgs false
set_option linter.unusedVariables false
namespace Go.Proofs.YtilppdkfnfdjnaaDoor.lives
open Go.Proofs Go.Proofs.YtilppdkfnfdjnaaDoor Ax

set_option maxRecDepth 1000000 in
theorem c3183 : Ax.chkL Tryd.prog quiets sks [] [] g3183 = true := by kernel_rfl
set_option maxRecDepth 1000000 in
theorem c3500 : Ax.chkL Tryd.prog quiets sks [] [] g3500 = true := by kernel_rfl
set_option maxRecDepth 1000000 in
theorem c3085 : Ax.chkL Tryd.prog quiets sks [] [g3183, g3500] g3085 = true := by kernel_rfl
set_option maxRecDepth 1000000 in
theorem c149 : Ax.chkC Tryd.prog quiets sks [] [g265, g2846, g3085] e149 = true := by kernel_rfl

end Go.Proofs.YtilppdkfnfdjnaaDoor.lives
