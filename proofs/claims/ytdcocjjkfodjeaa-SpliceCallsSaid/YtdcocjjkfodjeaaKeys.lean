/-
  No map's keys are sorted here; the program follows the order of mixed operations. No condition.
-/
import Derived.Test.YtdcocjjkfodjeaaAx5
import Derived.Test.YtdcocjjkfodjeaaProg
import Derived.KernelRfl
set_option linter.unusedSimpArgs false
set_option linter.unusedVariables false
namespace Go.Proofs.Ytdcocjjkfodjeaa
open Go.Proofs

/-- -1 as a value -/
def Ax.O:Value:=.int .i64 (.negSucc 0)
def sks:List Ax.SK:=[]
theorem mixed:Try.prog.follows .mixedOrders=true:=by kernel_rfl
theorem sks_ok:Ax.SKsOK Try.prog sks:=trivial

def quiets:List (Nat×Nat):=[]
theorem quiets_ok:Ax.QuietsOK Try.prog quiets:=trivial

end Go.Proofs.Ytdcocjjkfodjeaa
