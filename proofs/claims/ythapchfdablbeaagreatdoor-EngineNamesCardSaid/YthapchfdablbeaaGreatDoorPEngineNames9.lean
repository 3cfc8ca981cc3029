/-
  Parts of the run of viewportlaw27.EngineNames, in order: each, for itself, gives what is said of it. No condition.
-/
import Derived.Test.YthapchfdablbeaaGreatDoorAx9
import Derived.Test.YthapchfdablbeaaGreatDoorKeys
import Derived.Test.YthapchfdablbeaaGreatDoorTabsEngineNames
import Derived.Test.YthapchfdablbeaaGreatDoorProg
import Derived.KernelRfl
import Derived.Test.YthapchfdablbeaaGreatDoorDEngineNames1
set_option linter.unusedSimpArgs false
set_option linter.unusedVariables false
namespace Go.Proofs.YthapchfdablbeaaGreatDoor.engineNames
open Go.Proofs Go.Proofs.YthapchfdablbeaaGreatDoor Ax

set_option maxRecDepth 1000000 in
theorem c27533 : Ax.chkC Tryz.prog quiets sks [] [] e27533 = true := by kernel_rfl
set_option maxRecDepth 1000000 in
theorem c27519 : Ax.chkC Tryz.prog quiets sks [e27533] [] e27519 = true := by kernel_rfl
set_option maxRecDepth 1000000 in
theorem c27961 : Ax.chkC Tryz.prog quiets sks [] [] e27961 = true := by kernel_rfl
set_option maxRecDepth 1000000 in
theorem c28158 : Ax.chkC Tryz.prog quiets sks [] [] e28158 = true := by kernel_rfl
set_option maxRecDepth 1000000 in
theorem c28749 : Ax.chkL Tryz.prog quiets sks [] [] g28749 = true := by kernel_rfl
set_option maxRecDepth 1000000 in
theorem c29536 : Ax.chkL Tryz.prog quiets sks [] [] g29536 = true := by kernel_rfl

end Go.Proofs.YthapchfdablbeaaGreatDoor.engineNames
