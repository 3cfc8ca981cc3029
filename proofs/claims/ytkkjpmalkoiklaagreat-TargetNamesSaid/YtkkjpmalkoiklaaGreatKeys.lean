/-
  No map's keys are sorted here; the program follows the order of mixed operations. No condition.
-/
import Derived.Test.YtkkjpmalkoiklaaGreatAx3
import Derived.Test.YtkkjpmalkoiklaaGreatProg
import Derived.KernelRfl
set_option linter.unusedSimpArgs false
set_option linter.unusedVariables false
namespace Go.Proofs.YtkkjpmalkoiklaaGreat
open Go.Proofs

def sks : List Ax.SK := []
theorem mixed : Tryz.prog.follows .mixedOrders = true := by kernel_rfl
theorem sks_ok : Ax.SKsOK Tryz.prog sks := trivial
end Go.Proofs.YtkkjpmalkoiklaaGreat
