/-
  Parts of the run of viewportlaw27.EngineNames, in order: each, for itself, gives what is said of it. No condition.
-/
import Derived.Test.YthapchfdablbeaaGreatDoorAx9
import Derived.Test.YthapchfdablbeaaGreatDoorKeys
import Derived.Test.YthapchfdablbeaaGreatDoorTabsEngineNames
import Derived.Test.YthapchfdablbeaaGreatDoorProg
import Derived.KernelRfl
import Derived.Test.YthapchfdablbeaaGreatDoorDEngineNames1
set_option linter.unusedSimpArgs false
set_option linter.unusedVariables false
namespace Go.Proofs.YthapchfdablbeaaGreatDoor.engineNames
open Go.Proofs Go.Proofs.YthapchfdablbeaaGreatDoor Ax

set_option maxRecDepth 1000000 in
theorem c44604 : Ax.chkC Tryz.prog quiets sks [] [] e44604 = true := by kernel_rfl
set_option maxRecDepth 1000000 in
theorem c45105 : Ax.chkC Tryz.prog quiets sks [] [] e45105 = true := by kernel_rfl
set_option maxRecDepth 1000000 in
theorem c45229 : Ax.chkC Tryz.prog quiets sks [] [] e45229 = true := by kernel_rfl
set_option maxRecDepth 1000000 in
theorem c45852 : Ax.chkL Tryz.prog quiets sks [] [] g45852 = true := by kernel_rfl
set_option maxRecDepth 1000000 in
theorem c46639 : Ax.chkL Tryz.prog quiets sks [] [] g46639 = true := by kernel_rfl
set_option maxRecDepth 1000000 in
theorem c46293 : Ax.chkC Tryz.prog quiets sks [] [g46639] e46293 = true := by kernel_rfl

end Go.Proofs.YthapchfdablbeaaGreatDoor.engineNames
