/-
  Parts of the run of viewportlaw27.EngineNames, in order: each, for itself, gives what is said of it. No condition.
-/
import Derived.Test.YthapchfdablbeaaGreatDoorAx9
import Derived.Test.YthapchfdablbeaaGreatDoorKeys
import Derived.Test.YthapchfdablbeaaGreatDoorTabsEngineNames
import Derived.Test.YthapchfdablbeaaGreatDoorProg
import Derived.KernelRfl
import Derived.Test.YthapchfdablbeaaGreatDoorDEngineNames1
set_option linter.unusedSimpArgs false
set_option linter.unusedVariables false
namespace Go.Proofs.YthapchfdablbeaaGreatDoor.engineNames
open Go.Proofs Go.Proofs.YthapchfdablbeaaGreatDoor Ax

set_option maxRecDepth 1000000 in
theorem c6385 : Ax.chkL Tryz.prog quiets sks [] [g6646] g6385 = true := by kernel_rfl
set_option maxRecDepth 1000000 in
theorem c7167 : Ax.chkL Tryz.prog quiets sks [] [] g7167 = true := by kernel_rfl
set_option maxRecDepth 1000000 in
theorem c7683 : Ax.chkL Tryz.prog quiets sks [] [] g7683 = true := by kernel_rfl
set_option maxRecDepth 1000000 in
theorem c7165 : Ax.chkL Tryz.prog quiets sks [] [g7167, g7683] g7165 = true := by kernel_rfl
set_option maxRecDepth 1000000 in
theorem c3445 : Ax.chkC Tryz.prog quiets sks [e3446, e4223] [g5866, g6385, g7165] e3445 = true := by kernel_rfl
set_option maxRecDepth 1000000 in
theorem c241 : Ax.chkC Tryz.prog quiets sks [e418, e3445] [g374, g386, g391, g403, g2576, g2875, g3182] e241 = true := by kernel_rfl
set_option maxRecDepth 1000000 in
theorem c8466 : Ax.chkC Tryz.prog quiets sks [] [] e8466 = true := by kernel_rfl

end Go.Proofs.YthapchfdablbeaaGreatDoor.engineNames
