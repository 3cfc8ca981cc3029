/-
  Parts of the run of viewportlaw27.EngineNames, in order: each, for itself, gives what is said of it. No condition.
-/
import Derived.Test.YthapchfdablbeaaGreatDoorAx9
import Derived.Test.YthapchfdablbeaaGreatDoorKeys
import Derived.Test.YthapchfdablbeaaGreatDoorTabsEngineNames
import Derived.Test.YthapchfdablbeaaGreatDoorProg
import Derived.KernelRfl
import Derived.Test.YthapchfdablbeaaGreatDoorDEngineNames1
set_option linter.unusedSimpArgs false
set_option linter.unusedVariables false
namespace Go.Proofs.YthapchfdablbeaaGreatDoor.engineNames
open Go.Proofs Go.Proofs.YthapchfdablbeaaGreatDoor Ax

set_option maxRecDepth 1000000 in
theorem c30324 : Ax.chkL Tryz.prog quiets sks [] [] g30324 = true := by kernel_rfl
set_option maxRecDepth 1000000 in
theorem c29979 : Ax.chkL Tryz.prog quiets sks [] [g30324] g29979 = true := by kernel_rfl
set_option maxRecDepth 1000000 in
theorem c29190 : Ax.chkC Tryz.prog quiets sks [] [g29536, g29979] e29190 = true := by kernel_rfl
set_option maxRecDepth 1000000 in
theorem c28380 : Ax.chkL Tryz.prog quiets sks [e29190] [g28749] g28380 = true := by kernel_rfl
set_option maxRecDepth 1000000 in
theorem c27859 : Ax.chkL Tryz.prog quiets sks [e27961, e28158] [g28380] g27859 = true := by kernel_rfl
set_option maxRecDepth 1000000 in
theorem c30797 : Ax.upOk e9 31768 = true := by kernel_rfl
set_option maxRecDepth 1000000 in
theorem c42619 : Ax.upOk e11831 31768 = true := by kernel_rfl
set_option maxRecDepth 1000000 in
theorem c43408 : Ax.upOk e12620 31768 = true := by kernel_rfl
set_option maxRecDepth 1000000 in
theorem c44218 : Ax.chkL Tryz.prog quiets sks [] [] g44218 = true := by kernel_rfl
set_option maxRecDepth 1000000 in
theorem c30796 : Ax.chkC Tryz.prog quiets sks [e30797, e42619, e43408] [g44218] e30796 = true := by kernel_rfl

end Go.Proofs.YthapchfdablbeaaGreatDoor.engineNames
