/-
  Parts of the run of viewportlaw27.EngineNames, in order: each, for itself, gives what is said of it. No condition.
-/
import Derived.Test.YthapchfdablbeaaGreatDoorAx9
import Derived.Test.YthapchfdablbeaaGreatDoorKeys
import Derived.Test.YthapchfdablbeaaGreatDoorTabsEngineNames
import Derived.Test.YthapchfdablbeaaGreatDoorProg
import Derived.KernelRfl
import Derived.Test.YthapchfdablbeaaGreatDoorDEngineNames1
set_option linter.unusedSimpArgs false
set_option linter.unusedVariables false
namespace Go.Proofs.YthapchfdablbeaaGreatDoor.engineNames
open Go.Proofs Go.Proofs.YthapchfdablbeaaGreatDoor Ax

set_option maxRecDepth 1000000 in
theorem c8115 : Ax.chkC Tryz.prog quiets sks [e8466] [] e8115 = true := by kernel_rfl
set_option maxRecDepth 1000000 in
theorem c9600 : Ax.chkC Tryz.prog quiets sks [] [] e9600 = true := by kernel_rfl
set_option maxRecDepth 1000000 in
theorem c9249 : Ax.chkC Tryz.prog quiets sks [e9600] [] e9249 = true := by kernel_rfl
set_option maxRecDepth 1000000 in
theorem c9074 : Ax.chkC Tryz.prog quiets sks [e9249] [] e9074 = true := by kernel_rfl
set_option maxRecDepth 1000000 in
theorem c10674 : Ax.chkC Tryz.prog quiets sks [] [] e10674 = true := by kernel_rfl
set_option maxRecDepth 1000000 in
theorem c10324 : Ax.chkC Tryz.prog quiets sks [e10674] [] e10324 = true := by kernel_rfl
set_option maxRecDepth 1000000 in
theorem c11288 : Ax.chkC Tryz.prog quiets sks [] [] e11288 = true := by kernel_rfl

end Go.Proofs.YthapchfdablbeaaGreatDoor.engineNames
