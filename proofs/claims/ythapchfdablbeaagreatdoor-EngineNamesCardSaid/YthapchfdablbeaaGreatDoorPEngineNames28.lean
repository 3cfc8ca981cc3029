/-
  Parts of the run of viewportlaw27.EngineNames, in order: each, for itself, gives what is said of it. No condition.
-/
import Derived.Test.YthapchfdablbeaaGreatDoorAx9
import Derived.Test.YthapchfdablbeaaGreatDoorKeys
import Derived.Test.YthapchfdablbeaaGreatDoorTabsEngineNames
import Derived.Test.YthapchfdablbeaaGreatDoorProg
import Derived.KernelRfl
import Derived.Test.YthapchfdablbeaaGreatDoorDEngineNames1
set_option linter.unusedSimpArgs false
set_option linter.unusedVariables false
namespace Go.Proofs.YthapchfdablbeaaGreatDoor.engineNames
open Go.Proofs Go.Proofs.YthapchfdablbeaaGreatDoor Ax

set_option maxRecDepth 1000000 in
theorem c73325 : Ax.chkL Tryz.prog quiets sks [] [g73581] g73325 = true := by kernel_rfl
set_option maxRecDepth 1000000 in
theorem c73068 : Ax.chkC Tryz.prog quiets sks [] [g73325] e73068 = true := by kernel_rfl
set_option maxRecDepth 1000000 in
theorem c74359 : Ax.chkL Tryz.prog quiets sks [] [] g74359 = true := by kernel_rfl
set_option maxRecDepth 1000000 in
theorem c74103 : Ax.chkL Tryz.prog quiets sks [] [g74359] g74103 = true := by kernel_rfl
set_option maxRecDepth 1000000 in
theorem c73846 : Ax.chkC Tryz.prog quiets sks [] [g74103] e73846 = true := by kernel_rfl

end Go.Proofs.YthapchfdablbeaaGreatDoor.engineNames
