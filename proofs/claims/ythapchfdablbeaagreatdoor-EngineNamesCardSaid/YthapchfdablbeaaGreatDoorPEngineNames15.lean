/-
  Parts of the run of viewportlaw27.EngineNames, in order: each, for itself, gives what is said of it. No condition.
-/
import Derived.Test.YthapchfdablbeaaGreatDoorAx9
import Derived.Test.YthapchfdablbeaaGreatDoorKeys
import Derived.Test.YthapchfdablbeaaGreatDoorTabsEngineNames
import Derived.Test.YthapchfdablbeaaGreatDoorProg
import Derived.KernelRfl
import Derived.Test.YthapchfdablbeaaGreatDoorDEngineNames1
set_option linter.unusedSimpArgs false
set_option linter.unusedVariables false
namespace Go.Proofs.YthapchfdablbeaaGreatDoor.engineNames
open Go.Proofs Go.Proofs.YthapchfdablbeaaGreatDoor Ax

set_option maxRecDepth 1000000 in
theorem c51497 : Ax.chkL Tryz.prog quiets sks [] [g51940] g51497 = true := by kernel_rfl
set_option maxRecDepth 1000000 in
theorem c56643 : Ax.chkL Tryz.prog quiets sks [] [] g56643 = true := by kernel_rfl
set_option maxRecDepth 1000000 in
theorem c56203 : Ax.chkL Tryz.prog quiets sks [] [g56643] g56203 = true := by kernel_rfl
set_option maxRecDepth 1000000 in
theorem c55763 : Ax.chkL Tryz.prog quiets sks [] [g56203] g55763 = true := by kernel_rfl
set_option maxRecDepth 1000000 in
theorem c55351 : Ax.chkL Tryz.prog quiets sks [] [g55763] g55351 = true := by kernel_rfl

end Go.Proofs.YthapchfdablbeaaGreatDoor.engineNames
