/-
  Parts of the run of viewportlaw17.FreshNames, in order: each, for itself, gives what is said of it. No condition.
-/
import Derived.Test.YtpgmeagnklfiiaaGreatDoorAx9
import Derived.Test.YtpgmeagnklfiiaaGreatDoorKeys
import Derived.Test.YtpgmeagnklfiiaaGreatDoorTabsFreshNames
import Derived.Test.YtpgmeagnklfiiaaGreatDoorProg
import Derived.KernelRfl
import Derived.Test.YtpgmeagnklfiiaaGreatDoorDFreshNames2
set_option linter.unusedSimpArgs false
set_option linter.unusedVariables false
namespace Go.Proofs.YtpgmeagnklfiiaaGreatDoor.freshNames
open Go.Proofs Go.Proofs.YtpgmeagnklfiiaaGreatDoor Ax

set_option maxRecDepth 1000000 in
theorem c36923 : Ax.chkL Tryz.prog quiets sks [] [] g36923 = true := by kernel_rfl
set_option maxRecDepth 1000000 in
theorem c36578 : Ax.chkC Tryz.prog quiets sks [] [g36923] e36578 = true := by kernel_rfl
set_option maxRecDepth 1000000 in
theorem c37369 : Ax.upOk e24326 14071 = true := by kernel_rfl
set_option maxRecDepth 1000000 in
theorem c36552 : Ax.chkC Tryz.prog quiets sks [e36578, e37369] [] e36552 = true := by kernel_rfl
set_option maxRecDepth 1000000 in
theorem c38739 : Ax.chkL Tryz.prog quiets sks [] [] g38739 = true := by kernel_rfl

end Go.Proofs.YtpgmeagnklfiiaaGreatDoor.freshNames
