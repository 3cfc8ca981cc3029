/-
  viewportlaw29.WorldNames, run in order, in parts, gives true; so it gives true in whatever order, and leaves what was there. No condition.
-/
import Derived.Test.YtlocganmbeghjaaGreatDoorAx5
import Derived.Test.YtlocganmbeghjaaGreatDoorKeys
import Derived.Test.YtlocganmbeghjaaGreatDoorTabsWorldNames
import Derived.Test.YtlocganmbeghjaaGreatDoorChecked
import Derived.KernelRfl
import Derived.Test.YtlocganmbeghjaaGreatDoorPWorldNames9
import Derived.Test.YtlocganmbeghjaaGreatDoorPWorldNames14
import Derived.Test.YtlocganmbeghjaaGreatDoorPWorldNames15
import Derived.Test.YtlocganmbeghjaaGreatDoorPWorldNames16
import Derived.Test.YtlocganmbeghjaaGreatDoorPWorldNames17
set_option linter.unusedSimpArgs false
set_option linter.unusedVariables false
namespace Go.Proofs.YtlocganmbeghjaaGreatDoor.worldNames
open Go.Proofs Go.Proofs.YtlocganmbeghjaaGreatDoor Ax

set_option maxRecDepth 1000000 in
theorem closed  : Ax.isTrue (Ax.callR Tryz.prog quiets sks [e4, e13765, e32070, e32313, e32983, e33291, e33819] [g34041, g36074] (.func 3) [] Ax.h0) = true := by kernel_rfl
theorem walk_WorldNames  (w : World) (ht : Ax.TabsOK w.heap.size w)  : Calls Tryz.prog 3 #[] w fun e w' => e = .returned (.bool true) ∧ Go.RowKit.Below w.heap.size w w' :=
  Ax.run_argsR (ql := quiets) (l := [e4, e13765, e32070, e32313, e32983, e33291, e33819]) (m := [g34041, g36074]) mixed quiets_ok sks_ok ⟨o4, o13765, o32070, o32313, o32983, o33291, o33819, trivial⟩ ⟨h34041, h36074, trivial⟩ .nil (closed ) w ht

end Go.Proofs.YtlocganmbeghjaaGreatDoor.worldNames
