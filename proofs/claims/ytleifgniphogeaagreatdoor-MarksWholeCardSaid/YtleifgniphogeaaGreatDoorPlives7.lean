/-
  Parts of the run of viewportlaw19.lives, in order: each, for itself, gives what is said of it. No condition.
-/
import Derived.Test.YtleifgniphogeaaGreatDoorAx9
import Derived.Test.YtleifgniphogeaaGreatDoorKeys
import Derived.Test.YtleifgniphogeaaGreatDoorTabs0
import Derived.Test.YtleifgniphogeaaGreatDoorProg
import Derived.KernelRfl
import Derived.Test.YtleifgniphogeaaGreatDoorDlives1
set_option linter.unusedSimpArgs false
set_option linter.unusedVariables false
namespace Go.Proofs.YtleifgniphogeaaGreatDoor.lives
open Go.Proofs Go.Proofs.YtleifgniphogeaaGreatDoor Ax

set_option maxRecDepth 1000000 in
theorem c7676:Ax.chkL Tryz.prog qbd_ sks [] [] g7676=true:=by kernel_rfl
set_option maxRecDepth 1000000 in
theorem c3438:Ax.chkC Tryz.prog qbd_ sks [e4215] [g3588,g7160,g7676] e3438=true:=by kernel_rfl
set_option maxRecDepth 1000000 in
theorem c4:Ax.chkC Tryz.prog qbd_ sks [e3438] [g14,g93,g155,g182,g367,g379,g384,g396,g580,g2473] e4=true:=by kernel_rfl

end Go.Proofs.YtleifgniphogeaaGreatDoor.lives
