/-
  Parts of the run of viewportlaw27.EngineNames, in order: each, for itself, gives what is said of it. No condition.
-/
import Derived.Test.YthapchfdablbeaaGreatDoorAx9
import Derived.Test.YthapchfdablbeaaGreatDoorKeys
import Derived.Test.YthapchfdablbeaaGreatDoorTabsEngineNames
import Derived.Test.YthapchfdablbeaaGreatDoorProg
import Derived.KernelRfl
import Derived.Test.YthapchfdablbeaaGreatDoorDEngineNames1
set_option linter.unusedSimpArgs false
set_option linter.unusedVariables false
namespace Go.Proofs.YthapchfdablbeaaGreatDoor.engineNames
open Go.Proofs Go.Proofs.YthapchfdablbeaaGreatDoor Ax

set_option maxRecDepth 1000000 in
theorem c88978 : Ax.chkC Tryz.prog quiets sks [e89328] [] e88978 = true := by kernel_rfl
set_option maxRecDepth 1000000 in
theorem c89942 : Ax.chkC Tryz.prog quiets sks [] [] e89942 = true := by kernel_rfl
set_option maxRecDepth 1000000 in
theorem c78662 : Ax.chkC Tryz.prog quiets sks [e78671, e78895, e86769, e87728, e88978, e89942] [g78816, g78843] e78662 = true := by kernel_rfl
set_option maxRecDepth 1000000 in
theorem c90456 : Ax.upOk e17 74028 = true := by kernel_rfl
set_option maxRecDepth 1000000 in
theorem c90601 : Ax.chkU Tryz.prog quiets sks [] [] u90601 = true := by kernel_rfl
set_option maxRecDepth 1000000 in
theorem c90628 : Ax.chkU Tryz.prog quiets sks [] [] u90628 = true := by kernel_rfl
set_option maxRecDepth 1000000 in
theorem c90680 : Ax.upOk e241 74028 = true := by kernel_rfl
set_option maxRecDepth 1000000 in
theorem c98905 : Ax.chkC Tryz.prog quiets sks [] [] e98905 = true := by kernel_rfl
set_option maxRecDepth 1000000 in
theorem c98554 : Ax.chkC Tryz.prog quiets sks [e98905] [] e98554 = true := by kernel_rfl
set_option maxRecDepth 1000000 in
theorem c100039 : Ax.chkC Tryz.prog quiets sks [] [] e100039 = true := by kernel_rfl
set_option maxRecDepth 1000000 in
theorem c99688 : Ax.chkC Tryz.prog quiets sks [e100039] [] e99688 = true := by kernel_rfl

end Go.Proofs.YthapchfdablbeaaGreatDoor.engineNames
