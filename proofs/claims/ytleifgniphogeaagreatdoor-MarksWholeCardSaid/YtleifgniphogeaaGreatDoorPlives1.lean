/-
  Parts of the run of viewportlaw19.lives, in order: each, for itself, gives what is said of it. No condition.
-/
import Derived.Test.YtleifgniphogeaaGreatDoorAx9
import Derived.Test.YtleifgniphogeaaGreatDoorKeys
import Derived.Test.YtleifgniphogeaaGreatDoorTabs0
import Derived.Test.YtleifgniphogeaaGreatDoorProg
import Derived.KernelRfl
import Derived.Test.YtleifgniphogeaaGreatDoorDlives1
set_option linter.unusedSimpArgs false
set_option linter.unusedVariables false
namespace Go.Proofs.YtleifgniphogeaaGreatDoor.lives
open Go.Proofs Go.Proofs.YtleifgniphogeaaGreatDoor Ax

set_option maxRecDepth 1000000 in
theorem c14:Ax.chkU Tryz.prog qbd_ sks [] [] u14=true:=by kernel_rfl
set_option maxRecDepth 1000000 in
theorem c93:Ax.chkU Tryz.prog qbd_ sks [] [] u93=true:=by kernel_rfl
set_option maxRecDepth 1000000 in
theorem c155:Ax.chkU Tryz.prog qbd_ sks [] [] u155=true:=by kernel_rfl
set_option maxRecDepth 1000000 in
theorem c182:Ax.chkU Tryz.prog qbd_ sks [] [] u182=true:=by kernel_rfl
set_option maxRecDepth 1000000 in
theorem c368:Ax.chkU Tryz.prog qbd_ sks [] [] u368=true:=by kernel_rfl
set_option maxRecDepth 1000000 in
theorem c367:Ax.chkU Tryz.prog qbd_ sks [] [g368] u367=true:=by kernel_rfl
set_option maxRecDepth 1000000 in
theorem c379:Ax.chkU Tryz.prog qbd_ sks [] [] u379=true:=by kernel_rfl
set_option maxRecDepth 1000000 in
theorem c385:Ax.chkU Tryz.prog qbd_ sks [] [] u385=true:=by kernel_rfl
set_option maxRecDepth 1000000 in
theorem c384:Ax.chkU Tryz.prog qbd_ sks [] [g385] u384=true:=by kernel_rfl
set_option maxRecDepth 1000000 in
theorem c396:Ax.chkU Tryz.prog qbd_ sks [] [] u396=true:=by kernel_rfl
set_option maxRecDepth 1000000 in
theorem c1828:Ax.chkL Tryz.prog qbd_ sks [] [] g1828=true:=by kernel_rfl
set_option maxRecDepth 1000000 in
theorem c1204:Ax.chkL Tryz.prog qbd_ sks [] [g1828] g1204=true:=by kernel_rfl

end Go.Proofs.YtleifgniphogeaaGreatDoor.lives
