/-
  Parts of the run of viewportlaw27.EngineNames, in order: each, for itself, gives what is said of it. No condition.
-/
import Derived.Test.YthapchfdablbeaaGreatDoorAx9
import Derived.Test.YthapchfdablbeaaGreatDoorKeys
import Derived.Test.YthapchfdablbeaaGreatDoorTabsEngineNames
import Derived.Test.YthapchfdablbeaaGreatDoorProg
import Derived.KernelRfl
import Derived.Test.YthapchfdablbeaaGreatDoorDEngineNames1
set_option linter.unusedSimpArgs false
set_option linter.unusedVariables false
namespace Go.Proofs.YthapchfdablbeaaGreatDoor.engineNames
open Go.Proofs Go.Proofs.YthapchfdablbeaaGreatDoor Ax

set_option maxRecDepth 1000000 in
theorem c67307 : Ax.chkL Tryz.prog quiets sks [] [] g67307 = true := by kernel_rfl
set_option maxRecDepth 1000000 in
theorem c67051 : Ax.chkL Tryz.prog quiets sks [] [g67307] g67051 = true := by kernel_rfl
set_option maxRecDepth 1000000 in
theorem c66794 : Ax.chkC Tryz.prog quiets sks [] [g67051] e66794 = true := by kernel_rfl
set_option maxRecDepth 1000000 in
theorem c68091 : Ax.chkL Tryz.prog quiets sks [] [] g68091 = true := by kernel_rfl
set_option maxRecDepth 1000000 in
theorem c67835 : Ax.chkL Tryz.prog quiets sks [] [g68091] g67835 = true := by kernel_rfl

end Go.Proofs.YthapchfdablbeaaGreatDoor.engineNames
