/-
  Parts of the run of viewportlaw27.EngineNames, in order: each, for itself, gives what is said of it. No condition.
-/
import Derived.Test.YthapchfdablbeaaGreatDoorAx9
import Derived.Test.YthapchfdablbeaaGreatDoorKeys
import Derived.Test.YthapchfdablbeaaGreatDoorTabsEngineNames
import Derived.Test.YthapchfdablbeaaGreatDoorProg
import Derived.KernelRfl
import Derived.Test.YthapchfdablbeaaGreatDoorDEngineNames1
set_option linter.unusedSimpArgs false
set_option linter.unusedVariables false
namespace Go.Proofs.YthapchfdablbeaaGreatDoor.engineNames
open Go.Proofs Go.Proofs.YthapchfdablbeaaGreatDoor Ax

set_option maxRecDepth 1000000 in
theorem c45503 : Ax.chkC Tryz.prog quiets sks [e46293] [g45852] e45503 = true := by kernel_rfl
set_option maxRecDepth 1000000 in
theorem c45483 : Ax.chkL Tryz.prog quiets sks [e45503] [] g45483 = true := by kernel_rfl
set_option maxRecDepth 1000000 in
theorem c47376 : Ax.chkC Tryz.prog quiets sks [] [] e47376 = true := by kernel_rfl
set_option maxRecDepth 1000000 in
theorem c47329 : Ax.chkC Tryz.prog quiets sks [e47376] [] e47329 = true := by kernel_rfl
set_option maxRecDepth 1000000 in
theorem c45078 : Ax.chkL Tryz.prog quiets sks [e45105, e45229, e47329] [g45483] g45078 = true := by kernel_rfl
set_option maxRecDepth 1000000 in
theorem c50929 : Ax.chkL Tryz.prog quiets sks [] [] g50929 = true := by kernel_rfl
set_option maxRecDepth 1000000 in
theorem c50487 : Ax.chkL Tryz.prog quiets sks [] [g50929] g50487 = true := by kernel_rfl

end Go.Proofs.YthapchfdablbeaaGreatDoor.engineNames
