/-
  Parts of the run of viewportlaw27.EngineNames, in order: each, for itself, gives what is said of it. No condition.
-/
import Derived.Test.YthapchfdablbeaaGreatDoorAx9
import Derived.Test.YthapchfdablbeaaGreatDoorKeys
import Derived.Test.YthapchfdablbeaaGreatDoorTabsEngineNames
import Derived.Test.YthapchfdablbeaaGreatDoorProg
import Derived.KernelRfl
import Derived.Test.YthapchfdablbeaaGreatDoorDEngineNames1
set_option linter.unusedSimpArgs false
set_option linter.unusedVariables false
namespace Go.Proofs.YthapchfdablbeaaGreatDoor.engineNames
open Go.Proofs Go.Proofs.YthapchfdablbeaaGreatDoor Ax

set_option maxRecDepth 1000000 in
theorem c54915 : Ax.chkL Tryz.prog quiets sks [] [g55351] g54915 = true := by kernel_rfl
set_option maxRecDepth 1000000 in
theorem c54464 : Ax.chkL Tryz.prog quiets sks [] [g54915] g54464 = true := by kernel_rfl
set_option maxRecDepth 1000000 in
theorem c51372 : Ax.chkL Tryz.prog quiets sks [] [g51497, g54464] g51372 = true := by kernel_rfl
set_option maxRecDepth 1000000 in
theorem c47936 : Ax.chkC Tryz.prog quiets sks [] [g48333, g51372] e47936 = true := by kernel_rfl
set_option maxRecDepth 1000000 in
theorem c57610 : Ax.chkL Tryz.prog quiets sks [] [] g57610 = true := by kernel_rfl

end Go.Proofs.YthapchfdablbeaaGreatDoor.engineNames
