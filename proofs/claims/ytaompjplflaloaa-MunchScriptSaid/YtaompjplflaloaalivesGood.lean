/-
  viewportlaw06.lives, run in order, in parts, gives true; so it gives true in whatever order, and leaves what was there. No condition.
-/
import Derived.Test.YtaompjplflaloaaAx5
import Derived.Test.YtaompjplflaloaaKeys
import Derived.Test.YtaompjplflaloaaTabs0
import Derived.Test.YtaompjplflaloaaChecked
import Derived.KernelRfl
import Derived.Test.YtaompjplflaloaaQlives
set_option linter.unusedSimpArgs false
set_option linter.unusedVariables false
namespace Go.Proofs.Ytaompjplflaloaa.lives
open Go.Proofs Go.Proofs.Ytaompjplflaloaa Ax

set_option maxRecDepth 1000000 in
theorem closed  : Ax.isTrue (Ax.callR Try.prog quiets sks [e195, e13114] [] (.func 5) [] Ax.h0) = true := by kernel_rfl
theorem walk_lives  (w : World)  : Calls Try.prog 5 #[] w fun e w' => e = .returned (.bool true) ∧ Go.RowKit.Below w.heap.size w w' :=
  Ax.run_argsR (ql := quiets) (l := [e195, e13114]) (m := []) mixed quiets_ok sks_ok ⟨o195, o13114, trivial⟩ trivial .nil (closed ) w (tabs_ok w)

end Go.Proofs.Ytaompjplflaloaa.lives
