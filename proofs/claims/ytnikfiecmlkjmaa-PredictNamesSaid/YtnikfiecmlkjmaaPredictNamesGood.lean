/-
  viewportlaw14.PredictNames, run in order, in parts, gives true; so it gives true in whatever order, and leaves what was there. No condition.
-/
import Derived.Test.YtnikfiecmlkjmaaAx5
import Derived.Test.YtnikfiecmlkjmaaKeys
import Derived.Test.YtnikfiecmlkjmaaTabs0
import Derived.Test.YtnikfiecmlkjmaaChecked
import Derived.KernelRfl
import Derived.Test.YtnikfiecmlkjmaaQPredictNames
set_option linter.unusedSimpArgs false
set_option linter.unusedVariables false
namespace Go.Proofs.Ytnikfiecmlkjmaa.predictNames
open Go.Proofs Go.Proofs.Ytnikfiecmlkjmaa Ax

set_option maxRecDepth 1000000 in
theorem closed  : Ax.isTrue (Ax.callR Try.prog quiets sks [e4, e1769, e2794, e3787, e4782, e6741, e6954, e9108] [] (.func 3) [] Ax.h0) = true := by kernel_rfl
theorem walk_PredictNames  (w : World)  : Calls Try.prog 3 #[] w fun e w' => e = .returned (.bool true) ∧ Go.RowKit.Below w.heap.size w w' :=
  Ax.run_argsR (ql := quiets) (l := [e4, e1769, e2794, e3787, e4782, e6741, e6954, e9108]) (m := []) mixed quiets_ok sks_ok ⟨o4, o1769, o2794, o3787, o4782, o6741, o6954, o9108, trivial⟩ trivial .nil (closed ) w (tabs_ok w)

end Go.Proofs.Ytnikfiecmlkjmaa.predictNames
