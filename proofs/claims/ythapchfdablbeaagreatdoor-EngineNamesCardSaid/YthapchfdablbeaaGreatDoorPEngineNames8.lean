/-
  Parts of the run of viewportlaw27.EngineNames, in order: each, for itself, gives what is said of it. No condition.
-/
import Derived.Test.YthapchfdablbeaaGreatDoorAx9
import Derived.Test.YthapchfdablbeaaGreatDoorKeys
import Derived.Test.YthapchfdablbeaaGreatDoorTabsEngineNames
import Derived.Test.YthapchfdablbeaaGreatDoorProg
import Derived.KernelRfl
import Derived.Test.YthapchfdablbeaaGreatDoorDEngineNames1
set_option linter.unusedSimpArgs false
set_option linter.unusedVariables false
namespace Go.Proofs.YthapchfdablbeaaGreatDoor.engineNames
open Go.Proofs Go.Proofs.YthapchfdablbeaaGreatDoor Ax

set_option maxRecDepth 1000000 in
theorem c24364 : Ax.chkC Tryz.prog quiets sks [e24714] [] e24364 = true := by kernel_rfl
set_option maxRecDepth 1000000 in
theorem c25328 : Ax.chkC Tryz.prog quiets sks [] [] e25328 = true := by kernel_rfl
set_option maxRecDepth 1000000 in
theorem c14048 : Ax.chkC Tryz.prog quiets sks [e14057, e14281, e22155, e23114, e24364, e25328] [g14202, g14229] e14048 = true := by kernel_rfl
set_option maxRecDepth 1000000 in
theorem c25966 : Ax.chkC Tryz.prog quiets sks [] [] e25966 = true := by kernel_rfl
set_option maxRecDepth 1000000 in
theorem c26177 : Ax.chkC Tryz.prog quiets sks [] [] e26177 = true := by kernel_rfl
set_option maxRecDepth 1000000 in
theorem c26286 : Ax.chkC Tryz.prog quiets sks [] [] e26286 = true := by kernel_rfl
set_option maxRecDepth 1000000 in
theorem c26395 : Ax.chkC Tryz.prog quiets sks [] [] e26395 = true := by kernel_rfl
set_option maxRecDepth 1000000 in
theorem c25965 : Ax.chkC Tryz.prog quiets sks [e25966, e26177, e26286, e26395] [] e25965 = true := by kernel_rfl
set_option maxRecDepth 1000000 in
theorem c26793 : Ax.chkC Tryz.prog quiets sks [] [] e26793 = true := by kernel_rfl
set_option maxRecDepth 1000000 in
theorem c26830 : Ax.chkC Tryz.prog quiets sks [] [] e26830 = true := by kernel_rfl
set_option maxRecDepth 1000000 in
theorem c27004 : Ax.chkC Tryz.prog quiets sks [] [] e27004 = true := by kernel_rfl
set_option maxRecDepth 1000000 in
theorem c27429 : Ax.chkC Tryz.prog quiets sks [] [] e27429 = true := by kernel_rfl
set_option maxRecDepth 1000000 in
theorem c26792 : Ax.chkC Tryz.prog quiets sks [e26793, e26830, e27004, e27429] [] e26792 = true := by kernel_rfl

end Go.Proofs.YthapchfdablbeaaGreatDoor.engineNames
