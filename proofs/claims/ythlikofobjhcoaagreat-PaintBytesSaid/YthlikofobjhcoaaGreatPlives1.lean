/-
  Parts of the run of viewportlaw28.lives, in order: each, for itself, gives what is said of it. No condition.
-/
import Derived.Test.YthlikofobjhcoaaGreatAx9
import Derived.Test.YthlikofobjhcoaaGreatKeys
import Derived.Test.YthlikofobjhcoaaGreatTabs0
import Derived.Test.YthlikofobjhcoaaGreatProg
import Derived.KernelRfl
import Derived.Test.YthlikofobjhcoaaGreatDlives1
set_option linter.unusedSimpArgs false
set_option linter.unusedVariables false
namespace Go.Proofs.YthlikofobjhcoaaGreat.lives
open Go.Proofs Go.Proofs.YthlikofobjhcoaaGreat Ax

set_option maxRecDepth 1000000 in
theorem c3096:Ax.chkL Tryz.prog qh_ sks [] [] g3096=true:=by kernel_rfl
set_option maxRecDepth 1000000 in
theorem c2459:Ax.chkL Tryz.prog qh_ sks [] [g3096] g2459=true:=by kernel_rfl

end Go.Proofs.YthlikofobjhcoaaGreat.lives
