/-
  No map's keys are sorted here; the program follows the order of mixed operations. No condition.
-/
import Derived.Test.YthlikofobjhcoaaGreatAx5
import Derived.Test.YthlikofobjhcoaaGreatProg
import Derived.KernelRfl
set_option linter.unusedSimpArgs false
set_option linter.unusedVariables false
namespace Go.Proofs.YthlikofobjhcoaaGreat
open Go.Proofs

/-- -1 as a value -/
def Ax.O:Value:=.int .i64 (.negSucc 0)
def sks:List Ax.SK:=[]
theorem mixed:Tryz.prog.follows .mixedOrders=true:=by kernel_rfl
theorem qb5_:Ax.SKsOK Tryz.prog sks:=trivial

def qh_:List (Nat×Nat):=[]
theorem qe_:Ax.QuietsOK Tryz.prog qh_:=trivial

end Go.Proofs.YthlikofobjhcoaaGreat
