/-
  Parts of the run of viewportlaw27.EngineNames, in order: each, for itself, gives what is said of it. No condition.
-/
import Derived.Test.YthapchfdablbeaaGreatDoorAx9
import Derived.Test.YthapchfdablbeaaGreatDoorKeys
import Derived.Test.YthapchfdablbeaaGreatDoorTabsEngineNames
import Derived.Test.YthapchfdablbeaaGreatDoorProg
import Derived.KernelRfl
import Derived.Test.YthapchfdablbeaaGreatDoorDEngineNames1
set_option linter.unusedSimpArgs false
set_option linter.unusedVariables false
namespace Go.Proofs.YthapchfdablbeaaGreatDoor.engineNames
open Go.Proofs Go.Proofs.YthapchfdablbeaaGreatDoor Ax

set_option maxRecDepth 1000000 in
theorem c75147 : Ax.chkL Tryz.prog quiets sks [] [] g75147 = true := by kernel_rfl
set_option maxRecDepth 1000000 in
theorem c74891 : Ax.chkL Tryz.prog quiets sks [] [g75147] g74891 = true := by kernel_rfl
set_option maxRecDepth 1000000 in
theorem c74634 : Ax.chkC Tryz.prog quiets sks [] [g74891] e74634 = true := by kernel_rfl
set_option maxRecDepth 1000000 in
theorem c75931 : Ax.chkL Tryz.prog quiets sks [] [] g75931 = true := by kernel_rfl
set_option maxRecDepth 1000000 in
theorem c75675 : Ax.chkL Tryz.prog quiets sks [] [g75931] g75675 = true := by kernel_rfl

end Go.Proofs.YthapchfdablbeaaGreatDoor.engineNames
