/-
  Parts of the run of viewportlaw27.EngineNames, in order: each, for itself, gives what is said of it. No condition.
-/
import Derived.Test.YthapchfdablbeaaGreatDoorAx9
import Derived.Test.YthapchfdablbeaaGreatDoorKeys
import Derived.Test.YthapchfdablbeaaGreatDoorTabsEngineNames
import Derived.Test.YthapchfdablbeaaGreatDoorProg
import Derived.KernelRfl
import Derived.Test.YthapchfdablbeaaGreatDoorDEngineNames1
set_option linter.unusedSimpArgs false
set_option linter.unusedVariables false
namespace Go.Proofs.YthapchfdablbeaaGreatDoor.engineNames
open Go.Proofs Go.Proofs.YthapchfdablbeaaGreatDoor Ax

set_option maxRecDepth 1000000 in
theorem c4566 : Ax.chkL Tryz.prog quiets sks [] [] g4566 = true := by kernel_rfl
set_option maxRecDepth 1000000 in
theorem c5000 : Ax.chkL Tryz.prog quiets sks [] [] g5000 = true := by kernel_rfl
set_option maxRecDepth 1000000 in
theorem c4223 : Ax.chkC Tryz.prog quiets sks [] [g4566, g5000] e4223 = true := by kernel_rfl
set_option maxRecDepth 1000000 in
theorem c6125 : Ax.chkL Tryz.prog quiets sks [] [] g6125 = true := by kernel_rfl
set_option maxRecDepth 1000000 in
theorem c5866 : Ax.chkL Tryz.prog quiets sks [] [g6125] g5866 = true := by kernel_rfl
set_option maxRecDepth 1000000 in
theorem c6905 : Ax.chkL Tryz.prog quiets sks [] [] g6905 = true := by kernel_rfl
set_option maxRecDepth 1000000 in
theorem c6646 : Ax.chkL Tryz.prog quiets sks [] [g6905] g6646 = true := by kernel_rfl

end Go.Proofs.YthapchfdablbeaaGreatDoor.engineNames
