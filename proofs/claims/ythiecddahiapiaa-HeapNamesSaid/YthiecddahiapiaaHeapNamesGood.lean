/-
  viewportlaw23.HeapNames, run in order, gives true; so it gives true in whatever order, and leaves what was there. No condition.
-/
import Derived.Test.YthiecddahiapiaaAxX
import Derived.Test.YthiecddahiapiaaChecked
import Derived.KernelRfl
set_option linter.unusedSimpArgs false
set_option linter.unusedVariables false
namespace Go.Proofs.Ythiecddahiapiaa.heapNames
open Go.Proofs.Ythiecddahiapiaa

set_option maxRecDepth 1000000 in
theorem closed : Ax.isTrue (Ax.callP Try.prog (.func 11) [] Ax.h0) = true := by kernel_rfl
theorem walk_HeapNames (w : World) : Calls Try.prog 11 #[] w fun e w' => e = .returned (.bool true) ∧ Go.RowKit.Below w.heap.size w w' := Ax.run_true (by kernel_rfl) closed w

end Go.Proofs.Ythiecddahiapiaa.heapNames
