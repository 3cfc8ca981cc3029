/-
  viewportlaw19.lives, run in order, in parts, gives true; so it gives true in whatever order, and leaves what was there. No condition.
-/
import Derived.Test.YtleifgniphogeaaGreatDoorAx5
import Derived.Test.YtleifgniphogeaaGreatDoorKeys
import Derived.Test.YtleifgniphogeaaGreatDoorTabs0
import Derived.Test.YtleifgniphogeaaGreatDoorChecked
import Derived.KernelRfl
import Derived.Test.YtleifgniphogeaaGreatDoorQlives
set_option linter.unusedSimpArgs false
set_option linter.unusedVariables false
namespace Go.Proofs.YtleifgniphogeaaGreatDoor.lives
open Go.Proofs Go.Proofs.YtleifgniphogeaaGreatDoor Ax

set_option maxRecDepth 1000000 in
theorem closed  : Ax.isTrue (Ax.callR Tryz.prog qbd_ sks [e3,e11749,e13942] [] (.func 4) [] Ax.h0)=true:=by kernel_rfl
theorem walk_lives  (w:World)  : Calls Tryz.prog 4 #[] w fun e w'=>e=.returned (.bool true)∧Go.RowKit.Below w.heap.size w w':=
  Ax.run_argsR (ql:=qbd_) (l:=[e3,e11749,e13942]) (m:=[]) mixed qr_ qey_ ⟨o3,o11749,o13942,trivial⟩ trivial .nil (closed ) w (tabs_ok w)

end Go.Proofs.YtleifgniphogeaaGreatDoor.lives
