/-
  viewportlaw01.lives, run in order, in parts, gives true; so it gives true in whatever order, and leaves what was there. No condition.
-/
import Derived.Test.YtdjkjpmcmpihgaaDoorAx5
import Derived.Test.YtdjkjpmcmpihgaaDoorKeys
import Derived.Test.YtdjkjpmcmpihgaaDoorTabslives
import Derived.Test.YtdjkjpmcmpihgaaDoorChecked
import Derived.KernelRfl
import Derived.Test.YtdjkjpmcmpihgaaDoorQlives
set_option linter.unusedSimpArgs false
set_option linter.unusedVariables false
namespace Go.Proofs.YtdjkjpmcmpihgaaDoor.lives
open Go.Proofs Go.Proofs.YtdjkjpmcmpihgaaDoor Ax

set_option maxRecDepth 1000000 in
theorem closed  : Ax.isTrue (Ax.callR Tryd.prog quiets sks [] [] (.func 5) [] Ax.h0) = true := by kernel_rfl
theorem walk_lives  (w : World) (ht : Ax.TabsOK w.heap.size w)  : Calls Tryd.prog 5 #[] w fun e w' => e = .returned (.bool true) ∧ Go.RowKit.Below w.heap.size w w' :=
  Ax.run_argsR (ql := quiets) (l := []) (m := []) mixed quiets_ok sks_ok trivial trivial .nil (closed ) w ht

end Go.Proofs.YtdjkjpmcmpihgaaDoor.lives
