/-
  Parts of the run of viewportlaw27.EngineNames, in order: each, for itself, gives what is said of it. No condition.
-/
import Derived.Test.YthapchfdablbeaaGreatDoorAx9
import Derived.Test.YthapchfdablbeaaGreatDoorKeys
import Derived.Test.YthapchfdablbeaaGreatDoorTabsEngineNames
import Derived.Test.YthapchfdablbeaaGreatDoorProg
import Derived.KernelRfl
import Derived.Test.YthapchfdablbeaaGreatDoorDEngineNames1
set_option linter.unusedSimpArgs false
set_option linter.unusedVariables false
namespace Go.Proofs.YthapchfdablbeaaGreatDoor.engineNames
open Go.Proofs Go.Proofs.YthapchfdablbeaaGreatDoor Ax

set_option maxRecDepth 1000000 in
theorem c50045 : Ax.chkL Tryz.prog quiets sks [] [g50487] g50045 = true := by kernel_rfl
set_option maxRecDepth 1000000 in
theorem c49610 : Ax.chkL Tryz.prog quiets sks [] [g50045] g49610 = true := by kernel_rfl
set_option maxRecDepth 1000000 in
theorem c49210 : Ax.chkL Tryz.prog quiets sks [] [g49610] g49210 = true := by kernel_rfl
set_option maxRecDepth 1000000 in
theorem c48768 : Ax.chkL Tryz.prog quiets sks [] [g49210] g48768 = true := by kernel_rfl
set_option maxRecDepth 1000000 in
theorem c48333 : Ax.chkL Tryz.prog quiets sks [] [g48768] g48333 = true := by kernel_rfl

end Go.Proofs.YthapchfdablbeaaGreatDoor.engineNames
