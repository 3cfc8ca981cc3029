/-
  Parts of the run of viewportlaw27.EngineNames, in order: each, for itself, gives what is said of it. No condition.
-/
import Derived.Test.YthapchfdablbeaaGreatDoorAx9
import Derived.Test.YthapchfdablbeaaGreatDoorKeys
import Derived.Test.YthapchfdablbeaaGreatDoorTabsEngineNames
import Derived.Test.YthapchfdablbeaaGreatDoorProg
import Derived.KernelRfl
import Derived.Test.YthapchfdablbeaaGreatDoorDEngineNames1
set_option linter.unusedSimpArgs false
set_option linter.unusedVariables false
namespace Go.Proofs.YthapchfdablbeaaGreatDoor.engineNames
open Go.Proofs Go.Proofs.YthapchfdablbeaaGreatDoor Ax

set_option maxRecDepth 1000000 in
theorem c11796 : Ax.chkC Tryz.prog quiets sks [e11829, e12620, e13613, e13694, e13775, e13856, e13936, e14021] [g13401, g13430, g13485, g13540] e11796 = true := by kernel_rfl
set_option maxRecDepth 1000000 in
theorem c14057 : Ax.upOk e17 15170 = true := by kernel_rfl
set_option maxRecDepth 1000000 in
theorem c14202 : Ax.chkU Tryz.prog quiets sks [] [] u14202 = true := by kernel_rfl
set_option maxRecDepth 1000000 in
theorem c14229 : Ax.chkU Tryz.prog quiets sks [] [] u14229 = true := by kernel_rfl
set_option maxRecDepth 1000000 in
theorem c14281 : Ax.upOk e241 15170 = true := by kernel_rfl
set_option maxRecDepth 1000000 in
theorem c22506 : Ax.chkC Tryz.prog quiets sks [] [] e22506 = true := by kernel_rfl
set_option maxRecDepth 1000000 in
theorem c22155 : Ax.chkC Tryz.prog quiets sks [e22506] [] e22155 = true := by kernel_rfl
set_option maxRecDepth 1000000 in
theorem c23640 : Ax.chkC Tryz.prog quiets sks [] [] e23640 = true := by kernel_rfl
set_option maxRecDepth 1000000 in
theorem c23289 : Ax.chkC Tryz.prog quiets sks [e23640] [] e23289 = true := by kernel_rfl
set_option maxRecDepth 1000000 in
theorem c23114 : Ax.chkC Tryz.prog quiets sks [e23289] [] e23114 = true := by kernel_rfl
set_option maxRecDepth 1000000 in
theorem c24714 : Ax.chkC Tryz.prog quiets sks [] [] e24714 = true := by kernel_rfl

end Go.Proofs.YthapchfdablbeaaGreatDoor.engineNames
