/-
  Parts of the run of viewportlaw27.EngineNames, in order: each, for itself, gives what is said of it. No condition.
-/
import Derived.Test.YthapchfdablbeaaGreatDoorAx9
import Derived.Test.YthapchfdablbeaaGreatDoorKeys
import Derived.Test.YthapchfdablbeaaGreatDoorTabsEngineNames
import Derived.Test.YthapchfdablbeaaGreatDoorProg
import Derived.KernelRfl
import Derived.Test.YthapchfdablbeaaGreatDoorDEngineNames1
set_option linter.unusedSimpArgs false
set_option linter.unusedVariables false
namespace Go.Proofs.YthapchfdablbeaaGreatDoor.engineNames
open Go.Proofs Go.Proofs.YthapchfdablbeaaGreatDoor Ax

set_option maxRecDepth 1000000 in
theorem c57354 : Ax.chkL Tryz.prog quiets sks [] [g57610] g57354 = true := by kernel_rfl
set_option maxRecDepth 1000000 in
theorem c57097 : Ax.chkC Tryz.prog quiets sks [] [g57354] e57097 = true := by kernel_rfl
set_option maxRecDepth 1000000 in
theorem c58278 : Ax.chkL Tryz.prog quiets sks [] [] g58278 = true := by kernel_rfl
set_option maxRecDepth 1000000 in
theorem c58054 : Ax.chkL Tryz.prog quiets sks [] [g58278] g58054 = true := by kernel_rfl
set_option maxRecDepth 1000000 in
theorem c58792 : Ax.chkL Tryz.prog quiets sks [] [] g58792 = true := by kernel_rfl

end Go.Proofs.YthapchfdablbeaaGreatDoor.engineNames
