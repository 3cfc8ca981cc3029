/-
  Parts of the run of viewportlaw17.FreshNames, in order: each, for itself, gives what is said of it. No condition.
-/
import Derived.Test.YtpgmeagnklfiiaaGreatDoorAx9
import Derived.Test.YtpgmeagnklfiiaaGreatDoorKeys
import Derived.Test.YtpgmeagnklfiiaaGreatDoorTabsFreshNames
import Derived.Test.YtpgmeagnklfiiaaGreatDoorProg
import Derived.KernelRfl
import Derived.Test.YtpgmeagnklfiiaaGreatDoorDFreshNames2
set_option linter.unusedSimpArgs false
set_option linter.unusedVariables false
namespace Go.Proofs.YtpgmeagnklfiiaaGreatDoor.freshNames
open Go.Proofs Go.Proofs.YtpgmeagnklfiiaaGreatDoor Ax

set_option maxRecDepth 1000000 in
theorem c733 : Ax.chkL Tryz.prog quiets sks [] [g1165] g733 = true := by kernel_rfl
set_option maxRecDepth 1000000 in
theorem c412 : Ax.chkC Tryz.prog quiets sks [] [g733] e412 = true := by kernel_rfl
set_option maxRecDepth 1000000 in
theorem c2570 : Ax.chkL Tryz.prog quiets sks [] [] g2570 = true := by kernel_rfl
set_option maxRecDepth 1000000 in
theorem c2869 : Ax.chkL Tryz.prog quiets sks [] [] g2869 = true := by kernel_rfl

end Go.Proofs.YtpgmeagnklfiiaaGreatDoor.freshNames
