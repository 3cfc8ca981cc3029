/-
  Parts of the run of viewportlaw27.EngineNames, in order: each, for itself, gives what is said of it. No condition.
-/
import Derived.Test.YthapchfdablbeaaGreatDoorAx9
import Derived.Test.YthapchfdablbeaaGreatDoorKeys
import Derived.Test.YthapchfdablbeaaGreatDoorTabsEngineNames
import Derived.Test.YthapchfdablbeaaGreatDoorProg
import Derived.KernelRfl
import Derived.Test.YthapchfdablbeaaGreatDoorDEngineNames1
set_option linter.unusedSimpArgs false
set_option linter.unusedVariables false
namespace Go.Proofs.YthapchfdablbeaaGreatDoor.engineNames
open Go.Proofs Go.Proofs.YthapchfdablbeaaGreatDoor Ax

set_option maxRecDepth 1000000 in
theorem c75417 : Ax.chkC Tryz.prog quiets sks [] [g75675] e75417 = true := by kernel_rfl
set_option maxRecDepth 1000000 in
theorem c76709 : Ax.chkL Tryz.prog quiets sks [] [] g76709 = true := by kernel_rfl
set_option maxRecDepth 1000000 in
theorem c76453 : Ax.chkL Tryz.prog quiets sks [] [g76709] g76453 = true := by kernel_rfl
set_option maxRecDepth 1000000 in
theorem c76195 : Ax.chkC Tryz.prog quiets sks [] [g76453] e76195 = true := by kernel_rfl
set_option maxRecDepth 1000000 in
theorem c77539 : Ax.chkL Tryz.prog quiets sks [] [] g77539 = true := by kernel_rfl

end Go.Proofs.YthapchfdablbeaaGreatDoor.engineNames
