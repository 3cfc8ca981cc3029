/-
  Parts of the run of viewportlaw27.EngineNames, in order: each, for itself, gives what is said of it. No condition.
-/
import Derived.Test.YthapchfdablbeaaGreatDoorAx9
import Derived.Test.YthapchfdablbeaaGreatDoorKeys
import Derived.Test.YthapchfdablbeaaGreatDoorTabsEngineNames
import Derived.Test.YthapchfdablbeaaGreatDoorProg
import Derived.KernelRfl
import Derived.Test.YthapchfdablbeaaGreatDoorDEngineNames1
set_option linter.unusedSimpArgs false
set_option linter.unusedVariables false
namespace Go.Proofs.YthapchfdablbeaaGreatDoor.engineNames
open Go.Proofs Go.Proofs.YthapchfdablbeaaGreatDoor Ax

set_option maxRecDepth 1000000 in
theorem c99513 : Ax.chkC Tryz.prog quiets sks [e99688] [] e99513 = true := by kernel_rfl
set_option maxRecDepth 1000000 in
theorem c101113 : Ax.chkC Tryz.prog quiets sks [] [] e101113 = true := by kernel_rfl
set_option maxRecDepth 1000000 in
theorem c100763 : Ax.chkC Tryz.prog quiets sks [e101113] [] e100763 = true := by kernel_rfl
set_option maxRecDepth 1000000 in
theorem c101727 : Ax.chkC Tryz.prog quiets sks [] [] e101727 = true := by kernel_rfl
set_option maxRecDepth 1000000 in
theorem c90447 : Ax.chkC Tryz.prog quiets sks [e90456, e90680, e98554, e99513, e100763, e101727] [g90601, g90628] e90447 = true := by kernel_rfl

end Go.Proofs.YthapchfdablbeaaGreatDoor.engineNames
