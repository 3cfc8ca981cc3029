/-
  Parts of the run of viewportlaw17.FreshNames, in order: each, for itself, gives what is said of it. No condition.
-/
import Derived.Test.YtpgmeagnklfiiaaGreatDoorAx9
import Derived.Test.YtpgmeagnklfiiaaGreatDoorKeys
import Derived.Test.YtpgmeagnklfiiaaGreatDoorTabsFreshNames
import Derived.Test.YtpgmeagnklfiiaaGreatDoorProg
import Derived.KernelRfl
import Derived.Test.YtpgmeagnklfiiaaGreatDoorDFreshNames2
set_option linter.unusedSimpArgs false
set_option linter.unusedVariables false
namespace Go.Proofs.YtpgmeagnklfiiaaGreatDoor.freshNames
open Go.Proofs Go.Proofs.YtpgmeagnklfiiaaGreatDoor Ax

set_option maxRecDepth 1000000 in
theorem c51169 : Ax.chkC Tryz.prog quiets sks [] [] e51169 = true := by kernel_rfl
set_option maxRecDepth 1000000 in
theorem c50802 : Ax.chkC Tryz.prog quiets sks [e51169] [] e50802 = true := by kernel_rfl
set_option maxRecDepth 1000000 in
theorem c52477 : Ax.chkC Tryz.prog quiets sks [] [] e52477 = true := by kernel_rfl
set_option maxRecDepth 1000000 in
theorem c52110 : Ax.chkC Tryz.prog quiets sks [e52477] [] e52110 = true := by kernel_rfl

end Go.Proofs.YtpgmeagnklfiiaaGreatDoor.freshNames
