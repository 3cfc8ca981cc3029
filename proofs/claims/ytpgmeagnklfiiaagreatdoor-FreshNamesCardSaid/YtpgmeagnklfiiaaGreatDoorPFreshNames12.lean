/-
  Parts of the run of viewportlaw17.FreshNames, in order: each, for itself, gives what is said of it. No condition.
-/
import Derived.Test.YtpgmeagnklfiiaaGreatDoorAx9
import Derived.Test.YtpgmeagnklfiiaaGreatDoorKeys
import Derived.Test.YtpgmeagnklfiiaaGreatDoorTabsFreshNames
import Derived.Test.YtpgmeagnklfiiaaGreatDoorProg
import Derived.KernelRfl
import Derived.Test.YtpgmeagnklfiiaaGreatDoorDFreshNames2
set_option linter.unusedSimpArgs false
set_option linter.unusedVariables false
namespace Go.Proofs.YtpgmeagnklfiiaaGreatDoor.freshNames
open Go.Proofs Go.Proofs.YtpgmeagnklfiiaaGreatDoor Ax

set_option maxRecDepth 1000000 in
theorem c39526 : Ax.chkL Tryz.prog quiets sks [] [] g39526 = true := by kernel_rfl
set_option maxRecDepth 1000000 in
theorem c40314 : Ax.chkL Tryz.prog quiets sks [] [] g40314 = true := by kernel_rfl
set_option maxRecDepth 1000000 in
theorem c39969 : Ax.chkL Tryz.prog quiets sks [] [g40314] g39969 = true := by kernel_rfl
set_option maxRecDepth 1000000 in
theorem c39180 : Ax.chkC Tryz.prog quiets sks [] [g39526, g39969] e39180 = true := by kernel_rfl

end Go.Proofs.YtpgmeagnklfiiaaGreatDoor.freshNames
