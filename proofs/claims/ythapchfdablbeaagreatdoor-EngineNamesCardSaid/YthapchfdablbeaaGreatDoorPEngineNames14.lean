/-
  Parts of the run of viewportlaw27.EngineNames, in order: each, for itself, gives what is said of it. No condition.
-/
import Derived.Test.YthapchfdablbeaaGreatDoorAx9
import Derived.Test.YthapchfdablbeaaGreatDoorKeys
import Derived.Test.YthapchfdablbeaaGreatDoorTabsEngineNames
import Derived.Test.YthapchfdablbeaaGreatDoorProg
import Derived.KernelRfl
import Derived.Test.YthapchfdablbeaaGreatDoorDEngineNames1
set_option linter.unusedSimpArgs false
set_option linter.unusedVariables false
namespace Go.Proofs.YthapchfdablbeaaGreatDoor.engineNames
open Go.Proofs Go.Proofs.YthapchfdablbeaaGreatDoor Ax

set_option maxRecDepth 1000000 in
theorem c53744 : Ax.chkL Tryz.prog quiets sks [] [] g53744 = true := by kernel_rfl
set_option maxRecDepth 1000000 in
theorem c53293 : Ax.chkL Tryz.prog quiets sks [] [g53744] g53293 = true := by kernel_rfl
set_option maxRecDepth 1000000 in
theorem c52842 : Ax.chkL Tryz.prog quiets sks [] [g53293] g52842 = true := by kernel_rfl
set_option maxRecDepth 1000000 in
theorem c52391 : Ax.chkL Tryz.prog quiets sks [] [g52842] g52391 = true := by kernel_rfl
set_option maxRecDepth 1000000 in
theorem c51940 : Ax.chkL Tryz.prog quiets sks [] [g52391] g51940 = true := by kernel_rfl

end Go.Proofs.YthapchfdablbeaaGreatDoor.engineNames
