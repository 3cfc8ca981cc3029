/-
  viewportlaw14.lives, run in order, in parts, gives true; so it gives true in whatever order, and leaves what was there. No condition.
-/
import Derived.Test.YtcoecphhjfcjcaaAx5
import Derived.Test.YtcoecphhjfcjcaaKeys
import Derived.Test.YtcoecphhjfcjcaaTabs0
import Derived.Test.YtcoecphhjfcjcaaChecked
import Derived.KernelRfl
import Derived.Test.YtcoecphhjfcjcaaQlives
set_option linter.unusedSimpArgs false
set_option linter.unusedVariables false
namespace Go.Proofs.Ytcoecphhjfcjcaa.lives
open Go.Proofs Go.Proofs.Ytcoecphhjfcjcaa Ax

set_option maxRecDepth 1000000 in
theorem closed  : Ax.isTrue (Ax.callR Try.prog quiets sks [e3, e1790] [] (.func 4) [] Ax.h0) = true := by kernel_rfl
theorem walk_lives  (w : World)  : Calls Try.prog 4 #[] w fun e w' => e = .returned (.bool true) ∧ Go.RowKit.Below w.heap.size w w' :=
  Ax.run_argsR (ql := quiets) (l := [e3, e1790]) (m := []) mixed quiets_ok sks_ok ⟨o3, o1790, trivial⟩ trivial .nil (closed ) w (tabs_ok w)

end Go.Proofs.Ytcoecphhjfcjcaa.lives
