/-
  Parts of the run of viewportlaw17.FreshNames, in order: each, for itself, gives what is said of it. No condition.
-/
import Derived.Test.YtpgmeagnklfiiaaGreatDoorAx9
import Derived.Test.YtpgmeagnklfiiaaGreatDoorKeys
import Derived.Test.YtpgmeagnklfiiaaGreatDoorTabsFreshNames
import Derived.Test.YtpgmeagnklfiiaaGreatDoorProg
import Derived.KernelRfl
import Derived.Test.YtpgmeagnklfiiaaGreatDoorDFreshNames2
set_option linter.unusedSimpArgs false
set_option linter.unusedVariables false
namespace Go.Proofs.YtpgmeagnklfiiaaGreatDoor.freshNames
open Go.Proofs Go.Proofs.YtpgmeagnklfiiaaGreatDoor Ax

set_option maxRecDepth 1000000 in
theorem c42625 : Ax.chkC Tryz.prog quiets sks [e42632, e42856, e50802, e51863, e53344, e54410] [g42777, g42804] e42625 = true := by kernel_rfl
set_option maxRecDepth 1000000 in
theorem c55314 : Ax.chkL Tryz.prog quiets sks [] [] g55314 = true := by kernel_rfl
set_option maxRecDepth 1000000 in
theorem c54969 : Ax.chkC Tryz.prog quiets sks [] [g55314] e54969 = true := by kernel_rfl
set_option maxRecDepth 1000000 in
theorem c55760 : Ax.upOk e24326 29427 = true := by kernel_rfl
set_option maxRecDepth 1000000 in
theorem c54933 : Ax.chkC Tryz.prog quiets sks [e54969, e55760] [] e54933 = true := by kernel_rfl

end Go.Proofs.YtpgmeagnklfiiaaGreatDoor.freshNames
