/-
  Parts of the run of viewportlaw17.FreshNames, in order: each, for itself, gives what is said of it. No condition.
-/
import Derived.Test.YtpgmeagnklfiiaaGreatDoorAx9
import Derived.Test.YtpgmeagnklfiiaaGreatDoorKeys
import Derived.Test.YtpgmeagnklfiiaaGreatDoorTabsFreshNames
import Derived.Test.YtpgmeagnklfiiaaGreatDoorProg
import Derived.KernelRfl
import Derived.Test.YtpgmeagnklfiiaaGreatDoorDFreshNames2
set_option linter.unusedSimpArgs false
set_option linter.unusedVariables false
namespace Go.Proofs.YtpgmeagnklfiiaaGreatDoor.freshNames
open Go.Proofs Go.Proofs.YtpgmeagnklfiiaaGreatDoor Ax

set_option maxRecDepth 1000000 in
theorem c4994 : Ax.chkL Tryz.prog quiets sks [] [] g4994 = true := by kernel_rfl
set_option maxRecDepth 1000000 in
theorem c4217 : Ax.chkC Tryz.prog quiets sks [] [g4560, g4994] e4217 = true := by kernel_rfl
set_option maxRecDepth 1000000 in
theorem c6119 : Ax.chkL Tryz.prog quiets sks [] [] g6119 = true := by kernel_rfl
set_option maxRecDepth 1000000 in
theorem c5860 : Ax.chkL Tryz.prog quiets sks [] [g6119] g5860 = true := by kernel_rfl
set_option maxRecDepth 1000000 in
theorem c6899 : Ax.chkL Tryz.prog quiets sks [] [] g6899 = true := by kernel_rfl

end Go.Proofs.YtpgmeagnklfiiaaGreatDoor.freshNames
