/-
  Parts of the run of viewportlaw19.lives, in order: each, for itself, gives what is said of it. No condition.
-/
import Derived.Test.YtmjibnlojmdcgaaGreatDoorAx9
import Derived.Test.YtmjibnlojmdcgaaGreatDoorKeys
import Derived.Test.YtmjibnlojmdcgaaGreatDoorTabs0
import Derived.Test.YtmjibnlojmdcgaaGreatDoorProg
import Derived.KernelRfl
import Derived.Test.YtmjibnlojmdcgaaGreatDoorDlives1
set_option linter.unusedSimpArgs false
set_option linter.unusedVariables false
namespace Go.Proofs.YtmjibnlojmdcgaaGreatDoor.lives
open Go.Proofs Go.Proofs.YtmjibnlojmdcgaaGreatDoor Ax

set_option maxRecDepth 1000000 in
theorem c7676 : Ax.chkL Tryz.prog qk_ sks [] [] g7676 = true := by kernel_rfl
set_option maxRecDepth 1000000 in
theorem c3438 : Ax.chkC Tryz.prog qk_ sks [e4215] [g3588, g7160, g7676] e3438 = true := by kernel_rfl
set_option maxRecDepth 1000000 in
theorem c4 : Ax.chkC Tryz.prog qk_ sks [e3438] [g14, g93, g155, g182, g367, g379, g384, g396, g580, g2473] e4 = true := by kernel_rfl

end Go.Proofs.YtmjibnlojmdcgaaGreatDoor.lives
