/-
  Parts of the run of viewportlaw17.FreshNames, in order: each, for itself, gives what is said of it. No condition.
-/
import Derived.Test.YtpgmeagnklfiiaaGreatDoorAx9
import Derived.Test.YtpgmeagnklfiiaaGreatDoorKeys
import Derived.Test.YtpgmeagnklfiiaaGreatDoorTabsFreshNames
import Derived.Test.YtpgmeagnklfiiaaGreatDoorProg
import Derived.KernelRfl
import Derived.Test.YtpgmeagnklfiiaaGreatDoorDFreshNames2
set_option linter.unusedSimpArgs false
set_option linter.unusedVariables false
namespace Go.Proofs.YtpgmeagnklfiiaaGreatDoor.freshNames
open Go.Proofs Go.Proofs.YtpgmeagnklfiiaaGreatDoor Ax

set_option maxRecDepth 1000000 in
theorem c6640 : Ax.chkL Tryz.prog quiets sks [] [g6899] g6640 = true := by kernel_rfl
set_option maxRecDepth 1000000 in
theorem c6379 : Ax.chkL Tryz.prog quiets sks [] [g6640] g6379 = true := by kernel_rfl
set_option maxRecDepth 1000000 in
theorem c7161 : Ax.chkL Tryz.prog quiets sks [] [] g7161 = true := by kernel_rfl
set_option maxRecDepth 1000000 in
theorem c7677 : Ax.chkL Tryz.prog quiets sks [] [] g7677 = true := by kernel_rfl
set_option maxRecDepth 1000000 in
theorem c7159 : Ax.chkL Tryz.prog quiets sks [] [g7161, g7677] g7159 = true := by kernel_rfl

end Go.Proofs.YtpgmeagnklfiiaaGreatDoor.freshNames
