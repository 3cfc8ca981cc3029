/-
  viewportlaw02.lives, run in order, in parts, gives true; so it gives true in whatever order, and leaves what was there. No condition.
-/
import Derived.Test.YtgiceoflfmmlcaaDoorAx5
import Derived.Test.YtgiceoflfmmlcaaDoorKeys
import Derived.Test.YtgiceoflfmmlcaaDoorTabslives
import Derived.Test.YtgiceoflfmmlcaaDoorChecked
import Derived.KernelRfl
import Derived.Test.YtgiceoflfmmlcaaDoorQlives
set_option linter.unusedSimpArgs false
set_option linter.unusedVariables false
namespace Go.Proofs.YtgiceoflfmmlcaaDoor.lives
open Go.Proofs Go.Proofs.YtgiceoflfmmlcaaDoor Ax

set_option maxRecDepth 1000000 in
theorem closed  : Ax.isTrue (Ax.callR Tryd.prog qgg_ sks [] [g6, g10, g23, g29, g42, g53, g69, g336, g349, g353, g368, g381] (.func 5) [] Ax.h0) = true := by kernel_rfl
theorem walk_lives  (w : World) (ht : Ax.TabsOK w.heap.size w)  : Calls Tryd.prog 5 #[] w fun e w' => e = .returned (.bool true) ∧ Go.RowKit.Below w.heap.size w w' :=
  Ax.run_argsR (ql := qgg_) (l := []) (m := [g6, g10, g23, g29, g42, g53, g69, g336, g349, g353, g368, g381]) mixed qel_ qnb_ trivial ⟨h6, h10, h23, h29, h42, h53, h69, h336, h349, h353, h368, h381, trivial⟩ .nil (closed ) w ht

end Go.Proofs.YtgiceoflfmmlcaaDoor.lives
