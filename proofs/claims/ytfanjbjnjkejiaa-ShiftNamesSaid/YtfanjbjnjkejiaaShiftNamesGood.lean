/-
  viewportlaw10.ShiftNames, run in order, gives true; so it gives true in whatever order, and leaves what was there. No condition.
-/
import Derived.Test.YtfanjbjnjkejiaaAxX
import Derived.Test.YtfanjbjnjkejiaaChecked
import Derived.KernelRfl
set_option linter.unusedSimpArgs false
set_option linter.unusedVariables false
namespace Go.Proofs.Ytfanjbjnjkejiaa.shiftNames
open Go.Proofs.Ytfanjbjnjkejiaa

set_option maxRecDepth 1000000 in
theorem closed : Ax.isTrue (Ax.callP Try.prog (.func 6) [] Ax.h0) = true := by kernel_rfl
theorem walk_ShiftNames (w : World) : Calls Try.prog 6 #[] w fun e w' => e = .returned (.bool true) ∧ Go.RowKit.Below w.heap.size w w' := Ax.run_true (by kernel_rfl) closed w

end Go.Proofs.Ytfanjbjnjkejiaa.shiftNames
