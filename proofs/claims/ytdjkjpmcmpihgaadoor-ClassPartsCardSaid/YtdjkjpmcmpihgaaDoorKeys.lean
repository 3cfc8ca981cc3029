/-
  No map's keys are sorted here; the program follows the order of mixed operations. No condition.
-/
import Derived.Test.YtdjkjpmcmpihgaaDoorAx5
import Derived.Test.YtdjkjpmcmpihgaaDoorProg
import Derived.KernelRfl
set_option linter.unusedSimpArgs false
set_option linter.unusedVariables false
namespace Go.Proofs.YtdjkjpmcmpihgaaDoor
open Go.Proofs

/-- -1 as a value -/
def Ax.O : Value := .int .i64 (.negSucc 0)
def sks : List Ax.SK := []
theorem mixed : Tryd.prog.follows .mixedOrders = true := by kernel_rfl
theorem sks_ok : Ax.SKsOK Tryd.prog sks := trivial

def quiets : List (Nat × Nat) := []
theorem quiets_ok : Ax.QuietsOK Tryd.prog quiets := trivial

end Go.Proofs.YtdjkjpmcmpihgaaDoor
