/-
  viewportlaw20.lives, run in order, in parts, gives true; so it gives true in whatever order, and leaves what was there. No condition.
-/
import Derived.Test.YtdcocjjkfodjeaaAx5
import Derived.Test.YtdcocjjkfodjeaaKeys
import Derived.Test.YtdcocjjkfodjeaaTabs0
import Derived.Test.YtdcocjjkfodjeaaChecked
import Derived.KernelRfl
import Derived.Test.YtdcocjjkfodjeaaQlives
set_option linter.unusedSimpArgs false
set_option linter.unusedVariables false
namespace Go.Proofs.Ytdcocjjkfodjeaa.lives
open Go.Proofs Go.Proofs.Ytdcocjjkfodjeaa Ax

set_option maxRecDepth 1000000 in
theorem closed  : Ax.isTrue (Ax.callR Try.prog quiets sks [] [] (.func 4) [] Ax.h0)=true:=by kernel_rfl
theorem walk_lives  (w:World)  : Calls Try.prog 4 #[] w fun e w'=>e=.returned (.bool true)∧Go.RowKit.Below w.heap.size w w':=
  Ax.run_argsR (ql:=quiets) (l:=[]) (m:=[]) mixed quiets_ok sks_ok trivial trivial .nil (closed ) w (tabs_ok w)

end Go.Proofs.Ytdcocjjkfodjeaa.lives
