/-
  Parts of the run of viewportlaw17.FreshNames, in order: each, for itself, gives what is said of it. No condition.
-/
import Derived.Test.YtpgmeagnklfiiaaGreatDoorAx9
import Derived.Test.YtpgmeagnklfiiaaGreatDoorKeys
import Derived.Test.YtpgmeagnklfiiaaGreatDoorTabsFreshNames
import Derived.Test.YtpgmeagnklfiiaaGreatDoorProg
import Derived.KernelRfl
import Derived.Test.YtpgmeagnklfiiaaGreatDoorDFreshNames2
set_option linter.unusedSimpArgs false
set_option linter.unusedVariables false
namespace Go.Proofs.YtpgmeagnklfiiaaGreatDoor.freshNames
open Go.Proofs Go.Proofs.YtpgmeagnklfiiaaGreatDoor Ax

set_option maxRecDepth 1000000 in
theorem c9243 : Ax.chkC Tryz.prog quiets sks [e9594] [] e9243 = true := by kernel_rfl
set_option maxRecDepth 1000000 in
theorem c9068 : Ax.chkC Tryz.prog quiets sks [e9243] [] e9068 = true := by kernel_rfl
set_option maxRecDepth 1000000 in
theorem c10668 : Ax.chkC Tryz.prog quiets sks [] [] e10668 = true := by kernel_rfl
set_option maxRecDepth 1000000 in
theorem c10318 : Ax.chkC Tryz.prog quiets sks [e10668] [] e10318 = true := by kernel_rfl
set_option maxRecDepth 1000000 in
theorem c11282 : Ax.chkC Tryz.prog quiets sks [] [] e11282 = true := by kernel_rfl

end Go.Proofs.YtpgmeagnklfiiaaGreatDoor.freshNames
