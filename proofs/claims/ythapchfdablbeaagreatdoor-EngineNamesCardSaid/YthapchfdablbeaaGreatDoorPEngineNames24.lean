/-
  Parts of the run of viewportlaw27.EngineNames, in order: each, for itself, gives what is said of it. No condition.
-/
import Derived.Test.YthapchfdablbeaaGreatDoorAx9
import Derived.Test.YthapchfdablbeaaGreatDoorKeys
import Derived.Test.YthapchfdablbeaaGreatDoorTabsEngineNames
import Derived.Test.YthapchfdablbeaaGreatDoorProg
import Derived.KernelRfl
import Derived.Test.YthapchfdablbeaaGreatDoorDEngineNames1
set_option linter.unusedSimpArgs false
set_option linter.unusedVariables false
namespace Go.Proofs.YthapchfdablbeaaGreatDoor.engineNames
open Go.Proofs Go.Proofs.YthapchfdablbeaaGreatDoor Ax

set_option maxRecDepth 1000000 in
theorem c67578 : Ax.chkC Tryz.prog quiets sks [] [g67835] e67578 = true := by kernel_rfl
set_option maxRecDepth 1000000 in
theorem c68880 : Ax.chkL Tryz.prog quiets sks [] [] g68880 = true := by kernel_rfl
set_option maxRecDepth 1000000 in
theorem c68624 : Ax.chkL Tryz.prog quiets sks [] [g68880] g68624 = true := by kernel_rfl
set_option maxRecDepth 1000000 in
theorem c68367 : Ax.chkC Tryz.prog quiets sks [] [g68624] e68367 = true := by kernel_rfl
set_option maxRecDepth 1000000 in
theorem c69664 : Ax.chkL Tryz.prog quiets sks [] [] g69664 = true := by kernel_rfl

end Go.Proofs.YthapchfdablbeaaGreatDoor.engineNames
