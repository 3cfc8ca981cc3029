/-
  Parts of the run of viewportlaw27.EngineNames, in order: each, for itself, gives what is said of it. No condition.
-/
import Derived.Test.YthapchfdablbeaaGreatDoorAx9
import Derived.Test.YthapchfdablbeaaGreatDoorKeys
import Derived.Test.YthapchfdablbeaaGreatDoorTabsEngineNames
import Derived.Test.YthapchfdablbeaaGreatDoorProg
import Derived.KernelRfl
import Derived.Test.YthapchfdablbeaaGreatDoorDEngineNames1
set_option linter.unusedSimpArgs false
set_option linter.unusedVariables false
namespace Go.Proofs.YthapchfdablbeaaGreatDoor.engineNames
open Go.Proofs Go.Proofs.YthapchfdablbeaaGreatDoor Ax

set_option maxRecDepth 1000000 in
theorem c58544 : Ax.chkL Tryz.prog quiets sks [] [g58792] g58544 = true := by kernel_rfl
set_option maxRecDepth 1000000 in
theorem c59306 : Ax.chkL Tryz.prog quiets sks [] [] g59306 = true := by kernel_rfl
set_option maxRecDepth 1000000 in
theorem c59082 : Ax.chkL Tryz.prog quiets sks [] [g59306] g59082 = true := by kernel_rfl
set_option maxRecDepth 1000000 in
theorem c57096 : Ax.chkC Tryz.prog quiets sks [e57097] [g58054, g58544, g59082] e57096 = true := by kernel_rfl
set_option maxRecDepth 1000000 in
theorem c47642 : Ax.chkC Tryz.prog quiets sks [e47936, e57096] [] e47642 = true := by kernel_rfl
set_option maxRecDepth 1000000 in
theorem c59703 : Ax.chkC Tryz.prog quiets sks [] [] e59703 = true := by kernel_rfl

end Go.Proofs.YthapchfdablbeaaGreatDoor.engineNames
