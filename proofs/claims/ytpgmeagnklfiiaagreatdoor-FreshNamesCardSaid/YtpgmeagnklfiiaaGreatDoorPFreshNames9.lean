/-
  Parts of the run of viewportlaw17.FreshNames, in order: each, for itself, gives what is said of it. No condition.
-/
import Derived.Test.YtpgmeagnklfiiaaGreatDoorAx9
import Derived.Test.YtpgmeagnklfiiaaGreatDoorKeys
import Derived.Test.YtpgmeagnklfiiaaGreatDoorTabsFreshNames
import Derived.Test.YtpgmeagnklfiiaaGreatDoorProg
import Derived.KernelRfl
import Derived.Test.YtpgmeagnklfiiaaGreatDoorDFreshNames2
set_option linter.unusedSimpArgs false
set_option linter.unusedVariables false
namespace Go.Proofs.YtpgmeagnklfiiaaGreatDoor.freshNames
open Go.Proofs Go.Proofs.YtpgmeagnklfiiaaGreatDoor Ax

set_option maxRecDepth 1000000 in
theorem c24326 : Ax.chkC Tryz.prog quiets sks [] [g24669] e24326 = true := by kernel_rfl
set_option maxRecDepth 1000000 in
theorem c25136 : Ax.chkL Tryz.prog quiets sks [] [] g25136 = true := by kernel_rfl
set_option maxRecDepth 1000000 in
theorem c23499 : Ax.chkC Tryz.prog quiets sks [e23535, e24326] [g25136] e23499 = true := by kernel_rfl
set_option maxRecDepth 1000000 in
theorem c25842 : Ax.chkL Tryz.prog quiets sks [] [] g25842 = true := by kernel_rfl
set_option maxRecDepth 1000000 in
theorem c25497 : Ax.chkC Tryz.prog quiets sks [] [g25842] e25497 = true := by kernel_rfl
set_option maxRecDepth 1000000 in
theorem c26288 : Ax.upOk e24326 473 = true := by kernel_rfl

end Go.Proofs.YtpgmeagnklfiiaaGreatDoor.freshNames
