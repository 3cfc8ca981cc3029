/-
  Parts of the run of viewportlaw17.FreshNames, in order: each, for itself, gives what is said of it. No condition.
-/
import Derived.Test.YtpgmeagnklfiiaaGreatDoorAx9
import Derived.Test.YtpgmeagnklfiiaaGreatDoorKeys
import Derived.Test.YtpgmeagnklfiiaaGreatDoorTabsFreshNames
import Derived.Test.YtpgmeagnklfiiaaGreatDoorProg
import Derived.KernelRfl
import Derived.Test.YtpgmeagnklfiiaaGreatDoorDFreshNames2
set_option linter.unusedSimpArgs false
set_option linter.unusedVariables false
namespace Go.Proofs.YtpgmeagnklfiiaaGreatDoor.freshNames
open Go.Proofs Go.Proofs.YtpgmeagnklfiiaaGreatDoor Ax

set_option maxRecDepth 1000000 in
theorem c3439 : Ax.chkC Tryz.prog quiets sks [e3440, e4217] [g5860, g6379, g7159] e3439 = true := by kernel_rfl
set_option maxRecDepth 1000000 in
theorem c235 : Ax.chkC Tryz.prog quiets sks [e412, e3439] [g368, g380, g385, g397, g2570, g2869, g3176] e235 = true := by kernel_rfl
set_option maxRecDepth 1000000 in
theorem c8460 : Ax.chkC Tryz.prog quiets sks [] [] e8460 = true := by kernel_rfl
set_option maxRecDepth 1000000 in
theorem c8109 : Ax.chkC Tryz.prog quiets sks [e8460] [] e8109 = true := by kernel_rfl
set_option maxRecDepth 1000000 in
theorem c9594 : Ax.chkC Tryz.prog quiets sks [] [] e9594 = true := by kernel_rfl

end Go.Proofs.YtpgmeagnklfiiaaGreatDoor.freshNames
