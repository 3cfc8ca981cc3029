/-
  Parts of the run of viewportlaw27.EngineNames, in order: each, for itself, gives what is said of it. No condition.
-/
import Derived.Test.YthapchfdablbeaaGreatDoorAx9
import Derived.Test.YthapchfdablbeaaGreatDoorKeys
import Derived.Test.YthapchfdablbeaaGreatDoorTabsEngineNames
import Derived.Test.YthapchfdablbeaaGreatDoorProg
import Derived.KernelRfl
import Derived.Test.YthapchfdablbeaaGreatDoorDEngineNames1
set_option linter.unusedSimpArgs false
set_option linter.unusedVariables false
namespace Go.Proofs.YthapchfdablbeaaGreatDoor.engineNames
open Go.Proofs Go.Proofs.YthapchfdablbeaaGreatDoor Ax

set_option maxRecDepth 1000000 in
theorem c9 : Ax.chkC Tryz.prog quiets sks [e17, e241, e8115, e9074, e10324, e11288] [g162, g189] e9 = true := by kernel_rfl
set_option maxRecDepth 1000000 in
theorem c12174 : Ax.chkL Tryz.prog quiets sks [] [] g12174 = true := by kernel_rfl
set_option maxRecDepth 1000000 in
theorem c11831 : Ax.chkC Tryz.prog quiets sks [] [g12174] e11831 = true := by kernel_rfl
set_option maxRecDepth 1000000 in
theorem c11829 : Ax.chkC Tryz.prog quiets sks [e11831] [] e11829 = true := by kernel_rfl
set_option maxRecDepth 1000000 in
theorem c12963 : Ax.chkL Tryz.prog quiets sks [] [] g12963 = true := by kernel_rfl
set_option maxRecDepth 1000000 in
theorem c12620 : Ax.chkC Tryz.prog quiets sks [] [g12963] e12620 = true := by kernel_rfl
set_option maxRecDepth 1000000 in
theorem c13401 : Ax.chkL Tryz.prog quiets sks [] [] g13401 = true := by kernel_rfl
set_option maxRecDepth 1000000 in
theorem c13430 : Ax.chkL Tryz.prog quiets sks [] [] g13430 = true := by kernel_rfl
set_option maxRecDepth 1000000 in
theorem c13485 : Ax.chkL Tryz.prog quiets sks [] [] g13485 = true := by kernel_rfl
set_option maxRecDepth 1000000 in
theorem c13540 : Ax.chkL Tryz.prog quiets sks [] [] g13540 = true := by kernel_rfl
set_option maxRecDepth 1000000 in
theorem c13613 : Ax.chkC Tryz.prog quiets sks [] [] e13613 = true := by kernel_rfl
set_option maxRecDepth 1000000 in
theorem c13694 : Ax.chkC Tryz.prog quiets sks [] [] e13694 = true := by kernel_rfl
set_option maxRecDepth 1000000 in
theorem c13775 : Ax.chkC Tryz.prog quiets sks [] [] e13775 = true := by kernel_rfl
set_option maxRecDepth 1000000 in
theorem c13856 : Ax.chkC Tryz.prog quiets sks [] [] e13856 = true := by kernel_rfl
set_option maxRecDepth 1000000 in
theorem c13936 : Ax.chkC Tryz.prog quiets sks [] [] e13936 = true := by kernel_rfl
set_option maxRecDepth 1000000 in
theorem c14021 : Ax.chkC Tryz.prog quiets sks [] [] e14021 = true := by kernel_rfl

end Go.Proofs.YthapchfdablbeaaGreatDoor.engineNames
