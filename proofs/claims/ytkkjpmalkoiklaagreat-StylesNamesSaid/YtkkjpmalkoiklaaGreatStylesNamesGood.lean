/-
  viewportlaw26.StylesNames, run in order, in parts, gives true; so it gives true in whatever order, and leaves what was there. No condition.
-/
import Derived.Test.YtkkjpmalkoiklaaGreatAx5
import Derived.Test.YtkkjpmalkoiklaaGreatKeys
import Derived.Test.YtkkjpmalkoiklaaGreatChecked
import Derived.KernelRfl
import Derived.Test.YtkkjpmalkoiklaaGreatPStylesNames4
import Derived.Test.YtkkjpmalkoiklaaGreatPStylesNames5
import Derived.Test.YtkkjpmalkoiklaaGreatPStylesNames11
set_option linter.unusedSimpArgs false
set_option linter.unusedVariables false
namespace Go.Proofs.YtkkjpmalkoiklaaGreat.stylesNames
open Go.Proofs Go.Proofs.YtkkjpmalkoiklaaGreat Ax

set_option maxRecDepth 1000000 in
theorem closed  : Ax.isTrue (Ax.callR Tryz.prog sks [e5, e11925, e12496, e13707, e15573, e16788] [] (.func 4) [] Ax.h0) = true := by kernel_rfl
theorem walk_StylesNames  (w : World)  : Calls Tryz.prog 4 #[] w fun e w' => e = .returned (.bool true) ∧ Go.RowKit.Below w.heap.size w w' :=
  Ax.run_argsR (l := [e5, e11925, e12496, e13707, e15573, e16788]) (m := []) mixed sks_ok ⟨o5, o11925, o12496, o13707, o15573, o16788, trivial⟩ trivial .nil (closed ) w

end Go.Proofs.YtkkjpmalkoiklaaGreat.stylesNames
