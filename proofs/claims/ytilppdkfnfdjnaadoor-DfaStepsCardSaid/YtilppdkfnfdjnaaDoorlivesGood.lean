/-
  viewportlaw04.lives, run in order, in parts, gives true; so it gives true in whatever order, and leaves what was there. No condition.
-/
import Derived.Test.YtilppdkfnfdjnaaDoorAx5
import Derived.Test.YtilppdkfnfdjnaaDoorKeys
import Derived.Test.YtilppdkfnfdjnaaDoorTabs0
import Derived.Test.YtilppdkfnfdjnaaDoorChecked
import Derived.KernelRfl
import Derived.Test.YtilppdkfnfdjnaaDoorQlives
set_option linter.unusedSimpArgs false
set_option linter.unusedVariables false
namespace Go.Proofs.YtilppdkfnfdjnaaDoor.lives
open Go.Proofs Go.Proofs.YtilppdkfnfdjnaaDoor Ax

set_option maxRecDepth 1000000 in
theorem closed  : Ax.isTrue (Ax.callR Tryd.prog quiets sks [e149] [] (.func 4) [] Ax.h0) = true := by kernel_rfl
theorem walk_lives  (w : World)  : Calls Tryd.prog 4 #[] w fun e w' => e = .returned (.bool true) ∧ Go.RowKit.Below w.heap.size w w' :=
  Ax.run_argsR (ql := quiets) (l := [e149]) (m := []) mixed quiets_ok sks_ok ⟨o149, trivial⟩ trivial .nil (closed ) w (tabs_ok w)

end Go.Proofs.YtilppdkfnfdjnaaDoor.lives
