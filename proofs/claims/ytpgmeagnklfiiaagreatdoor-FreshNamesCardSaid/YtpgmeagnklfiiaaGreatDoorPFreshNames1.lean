/-
  Parts of the run of viewportlaw17.FreshNames, in order: each, for itself, gives what is said of it. No condition.
-/
import Derived.Test.YtpgmeagnklfiiaaGreatDoorAx9
import Derived.Test.YtpgmeagnklfiiaaGreatDoorKeys
import Derived.Test.YtpgmeagnklfiiaaGreatDoorTabsFreshNames
import Derived.Test.YtpgmeagnklfiiaaGreatDoorProg
import Derived.KernelRfl
import Derived.Test.YtpgmeagnklfiiaaGreatDoorDFreshNames2
set_option linter.unusedSimpArgs false
set_option linter.unusedVariables false
namespace Go.Proofs.YtpgmeagnklfiiaaGreatDoor.freshNames
open Go.Proofs Go.Proofs.YtpgmeagnklfiiaaGreatDoor Ax

set_option maxRecDepth 1000000 in
theorem c15 : Ax.chkU Tryz.prog quiets sks [] [] u15 = true := by kernel_rfl
set_option maxRecDepth 1000000 in
theorem c94 : Ax.chkU Tryz.prog quiets sks [] [] u94 = true := by kernel_rfl
set_option maxRecDepth 1000000 in
theorem c11 : Ax.chkC Tryz.prog quiets sks [] [g15, g94] e11 = true := by kernel_rfl
set_option maxRecDepth 1000000 in
theorem c156 : Ax.chkU Tryz.prog quiets sks [] [] u156 = true := by kernel_rfl
set_option maxRecDepth 1000000 in
theorem c183 : Ax.chkU Tryz.prog quiets sks [] [] u183 = true := by kernel_rfl
set_option maxRecDepth 1000000 in
theorem c369 : Ax.chkU Tryz.prog quiets sks [] [] u369 = true := by kernel_rfl
set_option maxRecDepth 1000000 in
theorem c368 : Ax.chkU Tryz.prog quiets sks [] [g369] u368 = true := by kernel_rfl
set_option maxRecDepth 1000000 in
theorem c380 : Ax.chkU Tryz.prog quiets sks [] [] u380 = true := by kernel_rfl
set_option maxRecDepth 1000000 in
theorem c386 : Ax.chkU Tryz.prog quiets sks [] [] u386 = true := by kernel_rfl
set_option maxRecDepth 1000000 in
theorem c385 : Ax.chkU Tryz.prog quiets sks [] [g386] u385 = true := by kernel_rfl
set_option maxRecDepth 1000000 in
theorem c397 : Ax.chkU Tryz.prog quiets sks [] [] u397 = true := by kernel_rfl
set_option maxRecDepth 1000000 in
theorem c2021 : Ax.chkL Tryz.prog quiets sks [] [] g2021 = true := by kernel_rfl
set_option maxRecDepth 1000000 in
theorem c1589 : Ax.chkL Tryz.prog quiets sks [] [g2021] g1589 = true := by kernel_rfl
set_option maxRecDepth 1000000 in
theorem c1165 : Ax.chkL Tryz.prog quiets sks [] [g1589] g1165 = true := by kernel_rfl

end Go.Proofs.YtpgmeagnklfiiaaGreatDoor.freshNames
