/-
  Parts of the run of viewportlaw19.lives, in order: each, for itself, gives what is said of it. No condition.
-/
import Derived.Test.YtleifgniphogeaaGreatDoorAx9
import Derived.Test.YtleifgniphogeaaGreatDoorKeys
import Derived.Test.YtleifgniphogeaaGreatDoorTabs0
import Derived.Test.YtleifgniphogeaaGreatDoorProg
import Derived.KernelRfl
import Derived.Test.YtleifgniphogeaaGreatDoorDlives1
set_option linter.unusedSimpArgs false
set_option linter.unusedVariables false
namespace Go.Proofs.YtleifgniphogeaaGreatDoor.lives
open Go.Proofs Go.Proofs.YtleifgniphogeaaGreatDoor Ax

set_option maxRecDepth 1000000 in
theorem c3588:Ax.chkL Tryz.prog qbd_ sks [] [] g3588=true:=by kernel_rfl
set_option maxRecDepth 1000000 in
theorem c4366:Ax.chkL Tryz.prog qbd_ sks [] [] g4366=true:=by kernel_rfl

end Go.Proofs.YtleifgniphogeaaGreatDoor.lives
