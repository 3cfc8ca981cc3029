/-
  No map's keys are sorted here; the program follows the order of mixed operations. No condition.
-/
import Derived.Test.YtgiceoflfmmlcaaDoorAx5
import Derived.Test.YtgiceoflfmmlcaaDoorProg
import Derived.KernelRfl
set_option linter.unusedSimpArgs false
set_option linter.unusedVariables false
namespace Go.Proofs.YtgiceoflfmmlcaaDoor
open Go.Proofs

/-- -1 as a value -/
def Ax.O : Value := .int .i64 (.negSucc 0)
def sks : List Ax.SK := []
theorem mixed : Tryd.prog.follows .mixedOrders = true := by kernel_rfl
theorem qnb_ : Ax.SKsOK Tryd.prog sks := trivial

def qgg_ : List (Nat × Nat) := []
theorem qel_ : Ax.QuietsOK Tryd.prog qgg_ := trivial

end Go.Proofs.YtgiceoflfmmlcaaDoor
