/-
  viewportlaw01.ClassNames, run in order, in parts, gives true; so it gives true in whatever order, and leaves what was there. No condition.
-/
import Derived.Test.YtkkjpmalkoiklaaDoorAx5
import Derived.Test.YtkkjpmalkoiklaaDoorKeys
import Derived.Test.YtkkjpmalkoiklaaDoorTabsClassNames
import Derived.Test.YtkkjpmalkoiklaaDoorChecked
import Derived.KernelRfl
set_option linter.unusedSimpArgs false
set_option linter.unusedVariables false
namespace Go.Proofs.YtkkjpmalkoiklaaDoor.classNames
open Go.Proofs Go.Proofs.YtkkjpmalkoiklaaDoor Ax

set_option maxRecDepth 1000000 in
theorem closed  : Ax.isTrue (Ax.callR Tryd.prog quiets sks [] [] (.func 3) [] Ax.h0) = true := by kernel_rfl
theorem walk_ClassNames  (w : World) (ht : Ax.TabsOK w.heap.size w)  : Calls Tryd.prog 3 #[] w fun e w' => e = .returned (.bool true) ∧ Go.RowKit.Below w.heap.size w w' :=
  Ax.run_argsR (ql := quiets) (l := []) (m := []) mixed quiets_ok sks_ok trivial trivial .nil (closed ) w ht

end Go.Proofs.YtkkjpmalkoiklaaDoor.classNames
