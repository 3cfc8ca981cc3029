/-
  Parts of the run of viewportlaw17.FreshNames, in order: each, for itself, gives what is said of it. No condition.
-/
import Derived.Test.YtpgmeagnklfiiaaGreatDoorAx9
import Derived.Test.YtpgmeagnklfiiaaGreatDoorKeys
import Derived.Test.YtpgmeagnklfiiaaGreatDoorTabsFreshNames
import Derived.Test.YtpgmeagnklfiiaaGreatDoorProg
import Derived.KernelRfl
import Derived.Test.YtpgmeagnklfiiaaGreatDoorDFreshNames2
set_option linter.unusedSimpArgs false
set_option linter.unusedVariables false
namespace Go.Proofs.YtpgmeagnklfiiaaGreatDoor.freshNames
open Go.Proofs Go.Proofs.YtpgmeagnklfiiaaGreatDoor Ax

set_option maxRecDepth 1000000 in
theorem c51863 : Ax.chkC Tryz.prog quiets sks [e52110] [] e51863 = true := by kernel_rfl
set_option maxRecDepth 1000000 in
theorem c53710 : Ax.chkC Tryz.prog quiets sks [] [] e53710 = true := by kernel_rfl
set_option maxRecDepth 1000000 in
theorem c53344 : Ax.chkC Tryz.prog quiets sks [e53710] [] e53344 = true := by kernel_rfl
set_option maxRecDepth 1000000 in
theorem c54410 : Ax.chkC Tryz.prog quiets sks [] [] e54410 = true := by kernel_rfl

end Go.Proofs.YtpgmeagnklfiiaaGreatDoor.freshNames
