/-
  Parts of the run of viewportlaw17.FreshNames, in order: each, for itself, gives what is said of it. No condition.
-/
import Derived.Test.YtpgmeagnklfiiaaGreatDoorAx9
import Derived.Test.YtpgmeagnklfiiaaGreatDoorKeys
import Derived.Test.YtpgmeagnklfiiaaGreatDoorTabsFreshNames
import Derived.Test.YtpgmeagnklfiiaaGreatDoorProg
import Derived.KernelRfl
import Derived.Test.YtpgmeagnklfiiaaGreatDoorDFreshNames2
set_option linter.unusedSimpArgs false
set_option linter.unusedVariables false
namespace Go.Proofs.YtpgmeagnklfiiaaGreatDoor.freshNames
open Go.Proofs Go.Proofs.YtpgmeagnklfiiaaGreatDoor Ax

set_option maxRecDepth 1000000 in
theorem c25461 : Ax.chkC Tryz.prog quiets sks [e25497, e26288] [] e25461 = true := by kernel_rfl
set_option maxRecDepth 1000000 in
theorem c27252 : Ax.upOk e11 29448 = true := by kernel_rfl
set_option maxRecDepth 1000000 in
theorem c27397 : Ax.chkU Tryz.prog quiets sks [] [] u27397 = true := by kernel_rfl
set_option maxRecDepth 1000000 in
theorem c27424 : Ax.chkU Tryz.prog quiets sks [] [] u27424 = true := by kernel_rfl
set_option maxRecDepth 1000000 in
theorem c27476 : Ax.upOk e235 29448 = true := by kernel_rfl
set_option maxRecDepth 1000000 in
theorem c35832 : Ax.chkC Tryz.prog quiets sks [] [] e35832 = true := by kernel_rfl
set_option maxRecDepth 1000000 in
theorem c35434 : Ax.chkC Tryz.prog quiets sks [e35832] [] e35434 = true := by kernel_rfl
set_option maxRecDepth 1000000 in
theorem c27245 : Ax.chkC Tryz.prog quiets sks [e27252, e27476, e35434] [g27397, g27424] e27245 = true := by kernel_rfl

end Go.Proofs.YtpgmeagnklfiiaaGreatDoor.freshNames
