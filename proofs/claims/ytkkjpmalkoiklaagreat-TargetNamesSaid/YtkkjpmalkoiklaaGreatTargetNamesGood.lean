/-
  viewportlaw25.TargetNames, run in order, in parts, gives true; so it gives true in whatever order, and leaves what was there. No condition.
-/
import Derived.Test.YtkkjpmalkoiklaaGreatAx5
import Derived.Test.YtkkjpmalkoiklaaGreatKeys
import Derived.Test.YtkkjpmalkoiklaaGreatChecked
import Derived.KernelRfl
import Derived.Test.YtkkjpmalkoiklaaGreatPTargetNames11
import Derived.Test.YtkkjpmalkoiklaaGreatPTargetNames22
set_option linter.unusedSimpArgs false
set_option linter.unusedVariables false
namespace Go.Proofs.YtkkjpmalkoiklaaGreat.targetNames
open Go.Proofs Go.Proofs.YtkkjpmalkoiklaaGreat Ax

set_option maxRecDepth 1000000 in
theorem closed  : Ax.isTrue (Ax.callR Tryz.prog sks [e2, e31131, e62265, e62398] [] (.func 3) [] Ax.h0) = true := by kernel_rfl
theorem walk_TargetNames  (w : World)  : Calls Tryz.prog 3 #[] w fun e w' => e = .returned (.bool true) ∧ Go.RowKit.Below w.heap.size w w' :=
  Ax.run_argsR (l := [e2, e31131, e62265, e62398]) (m := []) mixed sks_ok ⟨o2, o31131, o62265, o62398, trivial⟩ trivial .nil (closed ) w

end Go.Proofs.YtkkjpmalkoiklaaGreat.targetNames
