/-
  viewportlaw19.lives, run in order, in parts, gives true; so it gives true in whatever order, and leaves what was there. No condition.
-/
import Derived.Test.YtmjibnlojmdcgaaGreatDoorAx5
import Derived.Test.YtmjibnlojmdcgaaGreatDoorKeys
import Derived.Test.YtmjibnlojmdcgaaGreatDoorTabs0
import Derived.Test.YtmjibnlojmdcgaaGreatDoorChecked
import Derived.KernelRfl
import Derived.Test.YtmjibnlojmdcgaaGreatDoorQlives
set_option linter.unusedSimpArgs false
set_option linter.unusedVariables false
namespace Go.Proofs.YtmjibnlojmdcgaaGreatDoor.lives
open Go.Proofs Go.Proofs.YtmjibnlojmdcgaaGreatDoor Ax

set_option maxRecDepth 1000000 in
theorem closed  : Ax.isTrue (Ax.callR Tryz.prog qk_ sks [e3, e11749, e13942] [] (.func 4) [] Ax.h0) = true := by kernel_rfl
theorem walk_lives  (w : World)  : Calls Tryz.prog 4 #[] w fun e w' => e = .returned (.bool true) ∧ Go.RowKit.Below w.heap.size w w' :=
  Ax.run_argsR (ql := qk_) (l := [e3, e11749, e13942]) (m := []) mixed qf_ qbg_ ⟨o3, o11749, o13942, trivial⟩ trivial .nil (closed ) w (tabs_ok w)

end Go.Proofs.YtmjibnlojmdcgaaGreatDoor.lives
