/-
  Parts of the run of viewportlaw17.FreshNames, in order: each, for itself, gives what is said of it. No condition.
-/
import Derived.Test.YtpgmeagnklfiiaaGreatDoorAx9
import Derived.Test.YtpgmeagnklfiiaaGreatDoorKeys
import Derived.Test.YtpgmeagnklfiiaaGreatDoorTabsFreshNames
import Derived.Test.YtpgmeagnklfiiaaGreatDoorProg
import Derived.KernelRfl
import Derived.Test.YtpgmeagnklfiiaaGreatDoorDFreshNames2
set_option linter.unusedSimpArgs false
set_option linter.unusedVariables false
namespace Go.Proofs.YtpgmeagnklfiiaaGreatDoor.freshNames
open Go.Proofs Go.Proofs.YtpgmeagnklfiiaaGreatDoor Ax

set_option maxRecDepth 1000000 in
theorem c2 : Ax.chkC Tryz.prog quiets sks [e11, e235, e8109, e9068, e10318, e11282] [g156, g183] e2 = true := by kernel_rfl
set_option maxRecDepth 1000000 in
theorem c11751 : Ax.upOk e2 14355 = true := by kernel_rfl
set_option maxRecDepth 1000000 in
theorem c23880 : Ax.chkL Tryz.prog quiets sks [] [] g23880 = true := by kernel_rfl
set_option maxRecDepth 1000000 in
theorem c23535 : Ax.chkC Tryz.prog quiets sks [] [g23880] e23535 = true := by kernel_rfl
set_option maxRecDepth 1000000 in
theorem c24669 : Ax.chkL Tryz.prog quiets sks [] [] g24669 = true := by kernel_rfl

end Go.Proofs.YtpgmeagnklfiiaaGreatDoor.freshNames
