/-
  Parts of the run of viewportlaw27.EngineNames, in order: each, for itself, gives what is said of it. No condition.
-/
import Derived.Test.YthapchfdablbeaaGreatDoorAx9
import Derived.Test.YthapchfdablbeaaGreatDoorKeys
import Derived.Test.YthapchfdablbeaaGreatDoorTabsEngineNames
import Derived.Test.YthapchfdablbeaaGreatDoorProg
import Derived.KernelRfl
import Derived.Test.YthapchfdablbeaaGreatDoorDEngineNames1
set_option linter.unusedSimpArgs false
set_option linter.unusedVariables false
namespace Go.Proofs.YthapchfdablbeaaGreatDoor.engineNames
open Go.Proofs Go.Proofs.YthapchfdablbeaaGreatDoor Ax

set_option maxRecDepth 1000000 in
theorem c71222 : Ax.chkL Tryz.prog quiets sks [] [] g71222 = true := by kernel_rfl
set_option maxRecDepth 1000000 in
theorem c70966 : Ax.chkL Tryz.prog quiets sks [] [g71222] g70966 = true := by kernel_rfl
set_option maxRecDepth 1000000 in
theorem c70709 : Ax.chkC Tryz.prog quiets sks [] [g70966] e70709 = true := by kernel_rfl
set_option maxRecDepth 1000000 in
theorem c72000 : Ax.chkL Tryz.prog quiets sks [] [] g72000 = true := by kernel_rfl
set_option maxRecDepth 1000000 in
theorem c71744 : Ax.chkL Tryz.prog quiets sks [] [g72000] g71744 = true := by kernel_rfl

end Go.Proofs.YthapchfdablbeaaGreatDoor.engineNames
