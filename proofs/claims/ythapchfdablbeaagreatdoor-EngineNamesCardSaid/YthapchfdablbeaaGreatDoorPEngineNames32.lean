/-
  Parts of the run of viewportlaw27.EngineNames, in order: each, for itself, gives what is said of it. No condition.
-/
import Derived.Test.YthapchfdablbeaaGreatDoorAx9
import Derived.Test.YthapchfdablbeaaGreatDoorKeys
import Derived.Test.YthapchfdablbeaaGreatDoorTabsEngineNames
import Derived.Test.YthapchfdablbeaaGreatDoorProg
import Derived.KernelRfl
import Derived.Test.YthapchfdablbeaaGreatDoorDEngineNames1
set_option linter.unusedSimpArgs false
set_option linter.unusedVariables false
namespace Go.Proofs.YthapchfdablbeaaGreatDoor.engineNames
open Go.Proofs Go.Proofs.YthapchfdablbeaaGreatDoor Ax

set_option maxRecDepth 1000000 in
theorem c64425 : Ax.chkC Tryz.prog quiets sks [e64431, e65215, e65996, e66794, e67578, e68367, e69151, e69929, e70709, e71487, e72284, e73068, e73846, e74634, e75417, e76195, e77026, e77809] [] e64425 = true := by kernel_rfl
set_option maxRecDepth 1000000 in
theorem c30793 : Ax.chkC Tryz.prog quiets sks [e30796, e44604, e47641, e64425] [g45078] e30793 = true := by kernel_rfl
set_option maxRecDepth 1000000 in
theorem c78671 : Ax.upOk e17 59663 = true := by kernel_rfl
set_option maxRecDepth 1000000 in
theorem c78816 : Ax.chkU Tryz.prog quiets sks [] [] u78816 = true := by kernel_rfl
set_option maxRecDepth 1000000 in
theorem c78843 : Ax.chkU Tryz.prog quiets sks [] [] u78843 = true := by kernel_rfl
set_option maxRecDepth 1000000 in
theorem c78895 : Ax.upOk e241 59663 = true := by kernel_rfl
set_option maxRecDepth 1000000 in
theorem c87120 : Ax.chkC Tryz.prog quiets sks [] [] e87120 = true := by kernel_rfl
set_option maxRecDepth 1000000 in
theorem c86769 : Ax.chkC Tryz.prog quiets sks [e87120] [] e86769 = true := by kernel_rfl
set_option maxRecDepth 1000000 in
theorem c88254 : Ax.chkC Tryz.prog quiets sks [] [] e88254 = true := by kernel_rfl
set_option maxRecDepth 1000000 in
theorem c87903 : Ax.chkC Tryz.prog quiets sks [e88254] [] e87903 = true := by kernel_rfl
set_option maxRecDepth 1000000 in
theorem c87728 : Ax.chkC Tryz.prog quiets sks [e87903] [] e87728 = true := by kernel_rfl
set_option maxRecDepth 1000000 in
theorem c89328 : Ax.chkC Tryz.prog quiets sks [] [] e89328 = true := by kernel_rfl

end Go.Proofs.YthapchfdablbeaaGreatDoor.engineNames
