/-
  Parts of the run of viewportlaw27.EngineNames, in order: each, for itself, gives what is said of it. No condition.
-/
import Derived.Test.YthapchfdablbeaaGreatDoorAx9
import Derived.Test.YthapchfdablbeaaGreatDoorKeys
import Derived.Test.YthapchfdablbeaaGreatDoorTabsEngineNames
import Derived.Test.YthapchfdablbeaaGreatDoorProg
import Derived.KernelRfl
import Derived.Test.YthapchfdablbeaaGreatDoorDEngineNames1
set_option linter.unusedSimpArgs false
set_option linter.unusedVariables false
namespace Go.Proofs.YthapchfdablbeaaGreatDoor.engineNames
open Go.Proofs Go.Proofs.YthapchfdablbeaaGreatDoor Ax

set_option maxRecDepth 1000000 in
theorem c60276 : Ax.chkC Tryz.prog quiets sks [] [] e60276 = true := by kernel_rfl
set_option maxRecDepth 1000000 in
theorem c60865 : Ax.chkC Tryz.prog quiets sks [] [] e60865 = true := by kernel_rfl
set_option maxRecDepth 1000000 in
theorem c60133 : Ax.chkC Tryz.prog quiets sks [e60276, e60865] [] e60133 = true := by kernel_rfl
set_option maxRecDepth 1000000 in
theorem c61491 : Ax.chkC Tryz.prog quiets sks [] [] e61491 = true := by kernel_rfl
set_option maxRecDepth 1000000 in
theorem c62080 : Ax.chkC Tryz.prog quiets sks [] [] e62080 = true := by kernel_rfl

end Go.Proofs.YthapchfdablbeaaGreatDoor.engineNames
