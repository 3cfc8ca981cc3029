/-
  Parts of the run of viewportlaw27.EngineNames, in order: each, for itself, gives what is said of it. No condition.
-/
import Derived.Test.YthapchfdablbeaaGreatDoorAx9
import Derived.Test.YthapchfdablbeaaGreatDoorKeys
import Derived.Test.YthapchfdablbeaaGreatDoorTabsEngineNames
import Derived.Test.YthapchfdablbeaaGreatDoorProg
import Derived.KernelRfl
import Derived.Test.YthapchfdablbeaaGreatDoorDEngineNames1
set_option linter.unusedSimpArgs false
set_option linter.unusedVariables false
namespace Go.Proofs.YthapchfdablbeaaGreatDoor.engineNames
open Go.Proofs Go.Proofs.YthapchfdablbeaaGreatDoor Ax

set_option maxRecDepth 1000000 in
theorem c77283 : Ax.chkL Tryz.prog quiets sks [] [g77539] g77283 = true := by kernel_rfl
set_option maxRecDepth 1000000 in
theorem c77026 : Ax.chkC Tryz.prog quiets sks [] [g77283] e77026 = true := by kernel_rfl
set_option maxRecDepth 1000000 in
theorem c78323 : Ax.chkL Tryz.prog quiets sks [] [] g78323 = true := by kernel_rfl
set_option maxRecDepth 1000000 in
theorem c78067 : Ax.chkL Tryz.prog quiets sks [] [g78323] g78067 = true := by kernel_rfl
set_option maxRecDepth 1000000 in
theorem c77809 : Ax.chkC Tryz.prog quiets sks [] [g78067] e77809 = true := by kernel_rfl

end Go.Proofs.YthapchfdablbeaaGreatDoor.engineNames
