/-
  viewportlaw28.lives, run in order, in parts, gives true; so it gives true in whatever order, and leaves what was there. No condition.
-/
import Derived.Test.YthlikofobjhcoaaGreatAx5
import Derived.Test.YthlikofobjhcoaaGreatKeys
import Derived.Test.YthlikofobjhcoaaGreatTabs0
import Derived.Test.YthlikofobjhcoaaGreatChecked
import Derived.KernelRfl
import Derived.Test.YthlikofobjhcoaaGreatQlives
set_option linter.unusedSimpArgs false
set_option linter.unusedVariables false
namespace Go.Proofs.YthlikofobjhcoaaGreat.lives
open Go.Proofs Go.Proofs.YthlikofobjhcoaaGreat Ax

set_option maxRecDepth 1000000 in
theorem closed  : Ax.isTrue (Ax.callR Tryz.prog qh_ sks [e3,e16787,e30948] [] (.func 4) [] Ax.h0)=true:=by kernel_rfl
theorem walk_lives  (w:World)  : Calls Tryz.prog 4 #[] w fun e w'=>e=.returned (.bool true)∧Go.RowKit.Below w.heap.size w w':=
  Ax.run_argsR (ql:=qh_) (l:=[e3,e16787,e30948]) (m:=[]) mixed qe_ qb5_ ⟨o3,o16787,o30948,trivial⟩ trivial .nil (closed ) w (tabs_ok w)

end Go.Proofs.YthlikofobjhcoaaGreat.lives
