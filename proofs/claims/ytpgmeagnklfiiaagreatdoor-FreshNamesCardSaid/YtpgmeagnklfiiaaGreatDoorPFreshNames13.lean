/-
  Parts of the run of viewportlaw17.FreshNames, in order: each, for itself, gives what is said of it. No condition.
-/
import Derived.Test.YtpgmeagnklfiiaaGreatDoorAx9
import Derived.Test.YtpgmeagnklfiiaaGreatDoorKeys
import Derived.Test.YtpgmeagnklfiiaaGreatDoorTabsFreshNames
import Derived.Test.YtpgmeagnklfiiaaGreatDoorProg
import Derived.KernelRfl
import Derived.Test.YtpgmeagnklfiiaaGreatDoorDFreshNames2
set_option linter.unusedSimpArgs false
set_option linter.unusedVariables false
namespace Go.Proofs.YtpgmeagnklfiiaaGreatDoor.freshNames
open Go.Proofs Go.Proofs.YtpgmeagnklfiiaaGreatDoor Ax

set_option maxRecDepth 1000000 in
theorem c38391 : Ax.chkC Tryz.prog quiets sks [e39180] [g38739] e38391 = true := by kernel_rfl
set_option maxRecDepth 1000000 in
theorem c41138 : Ax.chkL Tryz.prog quiets sks [] [] g41138 = true := by kernel_rfl
set_option maxRecDepth 1000000 in
theorem c40793 : Ax.chkC Tryz.prog quiets sks [] [g41138] e40793 = true := by kernel_rfl
set_option maxRecDepth 1000000 in
theorem c41584 : Ax.upOk e24326 14440 = true := by kernel_rfl
set_option maxRecDepth 1000000 in
theorem c40757 : Ax.chkC Tryz.prog quiets sks [e40793, e41584] [] e40757 = true := by kernel_rfl
set_option maxRecDepth 1000000 in
theorem c42632 : Ax.upOk e11 43517 = true := by kernel_rfl
set_option maxRecDepth 1000000 in
theorem c42777 : Ax.chkU Tryz.prog quiets sks [] [] u42777 = true := by kernel_rfl
set_option maxRecDepth 1000000 in
theorem c42804 : Ax.chkU Tryz.prog quiets sks [] [] u42804 = true := by kernel_rfl
set_option maxRecDepth 1000000 in
theorem c42856 : Ax.upOk e235 43517 = true := by kernel_rfl

end Go.Proofs.YtpgmeagnklfiiaaGreatDoor.freshNames
