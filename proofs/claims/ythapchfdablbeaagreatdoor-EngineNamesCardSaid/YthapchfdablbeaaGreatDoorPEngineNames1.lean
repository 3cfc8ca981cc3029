/-
  Parts of the run of viewportlaw27.EngineNames, in order: each, for itself, gives what is said of it. No condition.
-/
import Derived.Test.YthapchfdablbeaaGreatDoorAx9
import Derived.Test.YthapchfdablbeaaGreatDoorKeys
import Derived.Test.YthapchfdablbeaaGreatDoorTabsEngineNames
import Derived.Test.YthapchfdablbeaaGreatDoorProg
import Derived.KernelRfl
import Derived.Test.YthapchfdablbeaaGreatDoorDEngineNames1
set_option linter.unusedSimpArgs false
set_option linter.unusedVariables false
namespace Go.Proofs.YthapchfdablbeaaGreatDoor.engineNames
open Go.Proofs Go.Proofs.YthapchfdablbeaaGreatDoor Ax

set_option maxRecDepth 1000000 in
theorem c21 : Ax.chkU Tryz.prog quiets sks [] [] u21 = true := by kernel_rfl
set_option maxRecDepth 1000000 in
theorem c100 : Ax.chkU Tryz.prog quiets sks [] [] u100 = true := by kernel_rfl
set_option maxRecDepth 1000000 in
theorem c17 : Ax.chkC Tryz.prog quiets sks [] [g21, g100] e17 = true := by kernel_rfl
set_option maxRecDepth 1000000 in
theorem c162 : Ax.chkU Tryz.prog quiets sks [] [] u162 = true := by kernel_rfl
set_option maxRecDepth 1000000 in
theorem c189 : Ax.chkU Tryz.prog quiets sks [] [] u189 = true := by kernel_rfl
set_option maxRecDepth 1000000 in
theorem c375 : Ax.chkU Tryz.prog quiets sks [] [] u375 = true := by kernel_rfl
set_option maxRecDepth 1000000 in
theorem c374 : Ax.chkU Tryz.prog quiets sks [] [g375] u374 = true := by kernel_rfl
set_option maxRecDepth 1000000 in
theorem c386 : Ax.chkU Tryz.prog quiets sks [] [] u386 = true := by kernel_rfl
set_option maxRecDepth 1000000 in
theorem c392 : Ax.chkU Tryz.prog quiets sks [] [] u392 = true := by kernel_rfl
set_option maxRecDepth 1000000 in
theorem c391 : Ax.chkU Tryz.prog quiets sks [] [g392] u391 = true := by kernel_rfl
set_option maxRecDepth 1000000 in
theorem c403 : Ax.chkU Tryz.prog quiets sks [] [] u403 = true := by kernel_rfl
set_option maxRecDepth 1000000 in
theorem c2027 : Ax.chkL Tryz.prog quiets sks [] [] g2027 = true := by kernel_rfl
set_option maxRecDepth 1000000 in
theorem c1595 : Ax.chkL Tryz.prog quiets sks [] [g2027] g1595 = true := by kernel_rfl
set_option maxRecDepth 1000000 in
theorem c1171 : Ax.chkL Tryz.prog quiets sks [] [g1595] g1171 = true := by kernel_rfl
set_option maxRecDepth 1000000 in
theorem c739 : Ax.chkL Tryz.prog quiets sks [] [g1171] g739 = true := by kernel_rfl
set_option maxRecDepth 1000000 in
theorem c418 : Ax.chkC Tryz.prog quiets sks [] [g739] e418 = true := by kernel_rfl

end Go.Proofs.YthapchfdablbeaaGreatDoor.engineNames
