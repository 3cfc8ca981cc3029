/-
  Parts of the run of viewportlaw19.lives, in order: each, for itself, gives what is said of it. No condition.
-/
import Derived.Test.YtmjibnlojmdcgaaGreatDoorAx9
import Derived.Test.YtmjibnlojmdcgaaGreatDoorKeys
import Derived.Test.YtmjibnlojmdcgaaGreatDoorTabs0
import Derived.Test.YtmjibnlojmdcgaaGreatDoorProg
import Derived.KernelRfl
import Derived.Test.YtmjibnlojmdcgaaGreatDoorDlives1
set_option linter.unusedSimpArgs false
set_option linter.unusedVariables false
namespace Go.Proofs.YtmjibnlojmdcgaaGreatDoor.lives
open Go.Proofs Go.Proofs.YtmjibnlojmdcgaaGreatDoor Ax

set_option maxRecDepth 1000000 in
theorem c6639 : Ax.chkL Tryz.prog qk_ sks [] [] g6639 = true := by kernel_rfl
set_option maxRecDepth 1000000 in
theorem c4215 : Ax.chkC Tryz.prog qk_ sks [e4216] [g5859, g6639] e4215 = true := by kernel_rfl
set_option maxRecDepth 1000000 in
theorem c7160 : Ax.chkL Tryz.prog qk_ sks [] [] g7160 = true := by kernel_rfl

end Go.Proofs.YtmjibnlojmdcgaaGreatDoor.lives
