/-
  Parts of the run of viewportlaw27.EngineNames, in order: each, for itself, gives what is said of it. No condition.
-/
import Derived.Test.YthapchfdablbeaaGreatDoorAx9
import Derived.Test.YthapchfdablbeaaGreatDoorKeys
import Derived.Test.YthapchfdablbeaaGreatDoorTabsEngineNames
import Derived.Test.YthapchfdablbeaaGreatDoorProg
import Derived.KernelRfl
import Derived.Test.YthapchfdablbeaaGreatDoorDEngineNames1
set_option linter.unusedSimpArgs false
set_option linter.unusedVariables false
namespace Go.Proofs.YthapchfdablbeaaGreatDoor.engineNames
open Go.Proofs Go.Proofs.YthapchfdablbeaaGreatDoor Ax

set_option maxRecDepth 1000000 in
theorem c71487 : Ax.chkC Tryz.prog quiets sks [] [g71744] e71487 = true := by kernel_rfl
set_option maxRecDepth 1000000 in
theorem c72797 : Ax.chkL Tryz.prog quiets sks [] [] g72797 = true := by kernel_rfl
set_option maxRecDepth 1000000 in
theorem c72541 : Ax.chkL Tryz.prog quiets sks [] [g72797] g72541 = true := by kernel_rfl
set_option maxRecDepth 1000000 in
theorem c72284 : Ax.chkC Tryz.prog quiets sks [] [g72541] e72284 = true := by kernel_rfl
set_option maxRecDepth 1000000 in
theorem c73581 : Ax.chkL Tryz.prog quiets sks [] [] g73581 = true := by kernel_rfl

end Go.Proofs.YthapchfdablbeaaGreatDoor.engineNames
