/-
  No map's keys are sorted here; the program follows the order of mixed operations. No condition.
-/
import Derived.Test.YtkkjpmalkoiklaaAx3
import Derived.Test.YtkkjpmalkoiklaaProg
import Derived.KernelRfl
set_option linter.unusedSimpArgs false
set_option linter.unusedVariables false
namespace Go.Proofs.Ytkkjpmalkoiklaa
open Go.Proofs

def sks : List Ax.SK := []
theorem mixed : Try.prog.follows .mixedOrders = true := by kernel_rfl
theorem sks_ok : Ax.SKsOK Try.prog sks := trivial
end Go.Proofs.Ytkkjpmalkoiklaa
