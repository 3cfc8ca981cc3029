/-
  Parts of the run of viewportlaw27.EngineNames, in order: each, for itself, gives what is said of it. No condition.
-/
import Derived.Test.YthapchfdablbeaaGreatDoorAx9
import Derived.Test.YthapchfdablbeaaGreatDoorKeys
import Derived.Test.YthapchfdablbeaaGreatDoorTabsEngineNames
import Derived.Test.YthapchfdablbeaaGreatDoorProg
import Derived.KernelRfl
import Derived.Test.YthapchfdablbeaaGreatDoorDEngineNames1
set_option linter.unusedSimpArgs false
set_option linter.unusedVariables false
namespace Go.Proofs.YthapchfdablbeaaGreatDoor.engineNames
open Go.Proofs Go.Proofs.YthapchfdablbeaaGreatDoor Ax

set_option maxRecDepth 1000000 in
theorem c2576 : Ax.chkL Tryz.prog quiets sks [] [] g2576 = true := by kernel_rfl
set_option maxRecDepth 1000000 in
theorem c2875 : Ax.chkL Tryz.prog quiets sks [] [] g2875 = true := by kernel_rfl
set_option maxRecDepth 1000000 in
theorem c3182 : Ax.chkL Tryz.prog quiets sks [] [] g3182 = true := by kernel_rfl
set_option maxRecDepth 1000000 in
theorem c3788 : Ax.chkL Tryz.prog quiets sks [] [] g3788 = true := by kernel_rfl
set_option maxRecDepth 1000000 in
theorem c3446 : Ax.chkC Tryz.prog quiets sks [] [g3788] e3446 = true := by kernel_rfl

end Go.Proofs.YthapchfdablbeaaGreatDoor.engineNames
