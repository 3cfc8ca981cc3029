/-
  Parts of the run of viewportlaw19.lives, in order: each, for itself, gives what is said of it. No condition.
-/
import Derived.Test.YtmjibnlojmdcgaaGreatDoorAx9
import Derived.Test.YtmjibnlojmdcgaaGreatDoorKeys
import Derived.Test.YtmjibnlojmdcgaaGreatDoorTabs0
import Derived.Test.YtmjibnlojmdcgaaGreatDoorProg
import Derived.KernelRfl
import Derived.Test.YtmjibnlojmdcgaaGreatDoorDlives1
set_option linter.unusedSimpArgs false
set_option linter.unusedVariables false
namespace Go.Proofs.YtmjibnlojmdcgaaGreatDoor.lives
open Go.Proofs Go.Proofs.YtmjibnlojmdcgaaGreatDoor Ax

set_option maxRecDepth 1000000 in
theorem c11937 : Ax.chkL Tryz.prog qk_ sks [] [] g11937 = true := by kernel_rfl
set_option maxRecDepth 1000000 in
theorem c11785 : Ax.chkC Tryz.prog qk_ sks [] [g11937] e11785 = true := by kernel_rfl
set_option maxRecDepth 1000000 in
theorem c12726 : Ax.chkL Tryz.prog qk_ sks [] [] g12726 = true := by kernel_rfl

end Go.Proofs.YtmjibnlojmdcgaaGreatDoor.lives
