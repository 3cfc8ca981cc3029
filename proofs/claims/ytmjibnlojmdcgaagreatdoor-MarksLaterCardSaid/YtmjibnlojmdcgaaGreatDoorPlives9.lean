/-
  Parts of the run of viewportlaw19.lives, in order: each, for itself, gives what is said of it. No condition.
-/
import Derived.Test.YtmjibnlojmdcgaaGreatDoorAx9
import Derived.Test.YtmjibnlojmdcgaaGreatDoorKeys
import Derived.Test.YtmjibnlojmdcgaaGreatDoorTabs0
import Derived.Test.YtmjibnlojmdcgaaGreatDoorProg
import Derived.KernelRfl
import Derived.Test.YtmjibnlojmdcgaaGreatDoorDlives1
set_option linter.unusedSimpArgs false
set_option linter.unusedVariables false
namespace Go.Proofs.YtmjibnlojmdcgaaGreatDoor.lives
open Go.Proofs Go.Proofs.YtmjibnlojmdcgaaGreatDoor Ax

set_option maxRecDepth 1000000 in
theorem c10335 : Ax.chkC Tryz.prog qk_ sks [] [] e10335 = true := by kernel_rfl
set_option maxRecDepth 1000000 in
theorem c11281 : Ax.chkC Tryz.prog qk_ sks [] [] e11281 = true := by kernel_rfl
set_option maxRecDepth 1000000 in
theorem c3 : Ax.chkC Tryz.prog qk_ sks [e4, e8127, e9261, e10335, e11281] [] e3 = true := by kernel_rfl

end Go.Proofs.YtmjibnlojmdcgaaGreatDoor.lives
