/-
  Parts of the run of viewportlaw27.EngineNames, in order: each, for itself, gives what is said of it. No condition.
-/
import Derived.Test.YthapchfdablbeaaGreatDoorAx9
import Derived.Test.YthapchfdablbeaaGreatDoorKeys
import Derived.Test.YthapchfdablbeaaGreatDoorTabsEngineNames
import Derived.Test.YthapchfdablbeaaGreatDoorProg
import Derived.KernelRfl
import Derived.Test.YthapchfdablbeaaGreatDoorDEngineNames1
set_option linter.unusedSimpArgs false
set_option linter.unusedVariables false
namespace Go.Proofs.YthapchfdablbeaaGreatDoor.engineNames
open Go.Proofs Go.Proofs.YthapchfdablbeaaGreatDoor Ax

set_option maxRecDepth 1000000 in
theorem c47641 : Ax.chkC Tryz.prog quiets sks [e47642, e59703, e60133, e61344, e62571, e63210] [] e47641 = true := by kernel_rfl
set_option maxRecDepth 1000000 in
theorem c64944 : Ax.chkL Tryz.prog quiets sks [] [] g64944 = true := by kernel_rfl
set_option maxRecDepth 1000000 in
theorem c64688 : Ax.chkL Tryz.prog quiets sks [] [g64944] g64688 = true := by kernel_rfl
set_option maxRecDepth 1000000 in
theorem c64431 : Ax.chkC Tryz.prog quiets sks [] [g64688] e64431 = true := by kernel_rfl
set_option maxRecDepth 1000000 in
theorem c65728 : Ax.chkL Tryz.prog quiets sks [] [] g65728 = true := by kernel_rfl

end Go.Proofs.YthapchfdablbeaaGreatDoor.engineNames
