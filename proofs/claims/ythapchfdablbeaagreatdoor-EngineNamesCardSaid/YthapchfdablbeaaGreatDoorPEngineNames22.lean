/-
  Parts of the run of viewportlaw27.EngineNames, in order: each, for itself, gives what is said of it. No condition.
-/
import Derived.Test.YthapchfdablbeaaGreatDoorAx9
import Derived.Test.YthapchfdablbeaaGreatDoorKeys
import Derived.Test.YthapchfdablbeaaGreatDoorTabsEngineNames
import Derived.Test.YthapchfdablbeaaGreatDoorProg
import Derived.KernelRfl
import Derived.Test.YthapchfdablbeaaGreatDoorDEngineNames1
set_option linter.unusedSimpArgs false
set_option linter.unusedVariables false
namespace Go.Proofs.YthapchfdablbeaaGreatDoor.engineNames
open Go.Proofs Go.Proofs.YthapchfdablbeaaGreatDoor Ax

set_option maxRecDepth 1000000 in
theorem c65472 : Ax.chkL Tryz.prog quiets sks [] [g65728] g65472 = true := by kernel_rfl
set_option maxRecDepth 1000000 in
theorem c65215 : Ax.chkC Tryz.prog quiets sks [] [g65472] e65215 = true := by kernel_rfl
set_option maxRecDepth 1000000 in
theorem c66509 : Ax.chkL Tryz.prog quiets sks [] [] g66509 = true := by kernel_rfl
set_option maxRecDepth 1000000 in
theorem c66253 : Ax.chkL Tryz.prog quiets sks [] [g66509] g66253 = true := by kernel_rfl
set_option maxRecDepth 1000000 in
theorem c65996 : Ax.chkC Tryz.prog quiets sks [] [g66253] e65996 = true := by kernel_rfl

end Go.Proofs.YthapchfdablbeaaGreatDoor.engineNames
