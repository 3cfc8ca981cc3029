/-
  Parts of the run of viewportlaw27.EngineNames, in order: each, for itself, gives what is said of it. No condition.
-/
import Derived.Test.YthapchfdablbeaaGreatDoorAx9
import Derived.Test.YthapchfdablbeaaGreatDoorKeys
import Derived.Test.YthapchfdablbeaaGreatDoorTabsEngineNames
import Derived.Test.YthapchfdablbeaaGreatDoorProg
import Derived.KernelRfl
import Derived.Test.YthapchfdablbeaaGreatDoorDEngineNames1
set_option linter.unusedSimpArgs false
set_option linter.unusedVariables false
namespace Go.Proofs.YthapchfdablbeaaGreatDoor.engineNames
open Go.Proofs Go.Proofs.YthapchfdablbeaaGreatDoor Ax

set_option maxRecDepth 1000000 in
theorem c61344 : Ax.chkC Tryz.prog quiets sks [e61491, e62080] [] e61344 = true := by kernel_rfl
set_option maxRecDepth 1000000 in
theorem c62571 : Ax.chkC Tryz.prog quiets sks [] [] e62571 = true := by kernel_rfl
set_option maxRecDepth 1000000 in
theorem c63357 : Ax.chkC Tryz.prog quiets sks [] [] e63357 = true := by kernel_rfl
set_option maxRecDepth 1000000 in
theorem c63946 : Ax.chkC Tryz.prog quiets sks [] [] e63946 = true := by kernel_rfl
set_option maxRecDepth 1000000 in
theorem c63210 : Ax.chkC Tryz.prog quiets sks [e63357, e63946] [] e63210 = true := by kernel_rfl

end Go.Proofs.YthapchfdablbeaaGreatDoor.engineNames
