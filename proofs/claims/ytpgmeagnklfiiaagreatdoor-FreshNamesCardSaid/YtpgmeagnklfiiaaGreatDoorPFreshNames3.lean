/-
  Parts of the run of viewportlaw17.FreshNames, in order: each, for itself, gives what is said of it. No condition.
-/
import Derived.Test.YtpgmeagnklfiiaaGreatDoorAx9
import Derived.Test.YtpgmeagnklfiiaaGreatDoorKeys
import Derived.Test.YtpgmeagnklfiiaaGreatDoorTabsFreshNames
import Derived.Test.YtpgmeagnklfiiaaGreatDoorProg
import Derived.KernelRfl
import Derived.Test.YtpgmeagnklfiiaaGreatDoorDFreshNames2
set_option linter.unusedSimpArgs false
set_option linter.unusedVariables false
namespace Go.Proofs.YtpgmeagnklfiiaaGreatDoor.freshNames
open Go.Proofs Go.Proofs.YtpgmeagnklfiiaaGreatDoor Ax

set_option maxRecDepth 1000000 in
theorem c3176 : Ax.chkL Tryz.prog quiets sks [] [] g3176 = true := by kernel_rfl
set_option maxRecDepth 1000000 in
theorem c3782 : Ax.chkL Tryz.prog quiets sks [] [] g3782 = true := by kernel_rfl
set_option maxRecDepth 1000000 in
theorem c3440 : Ax.chkC Tryz.prog quiets sks [] [g3782] e3440 = true := by kernel_rfl
set_option maxRecDepth 1000000 in
theorem c4560 : Ax.chkL Tryz.prog quiets sks [] [] g4560 = true := by kernel_rfl

end Go.Proofs.YtpgmeagnklfiiaaGreatDoor.freshNames
