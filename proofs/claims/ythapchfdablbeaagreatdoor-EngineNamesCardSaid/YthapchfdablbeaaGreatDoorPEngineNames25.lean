/-
  Parts of the run of viewportlaw27.EngineNames, in order: each, for itself, gives what is said of it. No condition.
-/
import Derived.Test.YthapchfdablbeaaGreatDoorAx9
import Derived.Test.YthapchfdablbeaaGreatDoorKeys
import Derived.Test.YthapchfdablbeaaGreatDoorTabsEngineNames
import Derived.Test.YthapchfdablbeaaGreatDoorProg
import Derived.KernelRfl
import Derived.Test.YthapchfdablbeaaGreatDoorDEngineNames1
set_option linter.unusedSimpArgs false
set_option linter.unusedVariables false
namespace Go.Proofs.YthapchfdablbeaaGreatDoor.engineNames
open Go.Proofs Go.Proofs.YthapchfdablbeaaGreatDoor Ax

set_option maxRecDepth 1000000 in
theorem c69408 : Ax.chkL Tryz.prog quiets sks [] [g69664] g69408 = true := by kernel_rfl
set_option maxRecDepth 1000000 in
theorem c69151 : Ax.chkC Tryz.prog quiets sks [] [g69408] e69151 = true := by kernel_rfl
set_option maxRecDepth 1000000 in
theorem c70442 : Ax.chkL Tryz.prog quiets sks [] [] g70442 = true := by kernel_rfl
set_option maxRecDepth 1000000 in
theorem c70186 : Ax.chkL Tryz.prog quiets sks [] [g70442] g70186 = true := by kernel_rfl
set_option maxRecDepth 1000000 in
theorem c69929 : Ax.chkC Tryz.prog quiets sks [] [g70186] e69929 = true := by kernel_rfl

end Go.Proofs.YthapchfdablbeaaGreatDoor.engineNames
