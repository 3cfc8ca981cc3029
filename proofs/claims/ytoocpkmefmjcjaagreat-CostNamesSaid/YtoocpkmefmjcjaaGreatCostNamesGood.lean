/-
  viewportlaw15.CostNames, run in order, in parts, gives true; so it gives true in whatever order, and leaves what was there. No condition.
-/
import Derived.Test.YtoocpkmefmjcjaaGreatAx5
import Derived.Test.YtoocpkmefmjcjaaGreatKeys
import Derived.Test.YtoocpkmefmjcjaaGreatChecked
import Derived.KernelRfl
import Derived.Test.YtoocpkmefmjcjaaGreatPCostNames2
import Derived.Test.YtoocpkmefmjcjaaGreatPCostNames3
import Derived.Test.YtoocpkmefmjcjaaGreatPCostNames4
set_option linter.unusedSimpArgs false
set_option linter.unusedVariables false
namespace Go.Proofs.YtoocpkmefmjcjaaGreat.costNames
open Go.Proofs Go.Proofs.YtoocpkmefmjcjaaGreat Ax

set_option maxRecDepth 1000000 in
theorem closed  : Ax.isTrue (Ax.callR Tryz.prog quiets sks [e2, e6750, e7193, e9886, e12135, e14347, e15558, e17403, e18907, e20403] [] (.func 3) [] Ax.h0) = true := by kernel_rfl
theorem walk_CostNames  (w : World)  : Calls Tryz.prog 3 #[] w fun e w' => e = .returned (.bool true) ∧ Go.RowKit.Below w.heap.size w w' :=
  Ax.run_argsR (ql := quiets) (l := [e2, e6750, e7193, e9886, e12135, e14347, e15558, e17403, e18907, e20403]) (m := []) mixed quiets_ok sks_ok ⟨o2, o6750, o7193, o9886, o12135, o14347, o15558, o17403, o18907, o20403, trivial⟩ trivial .nil (closed ) w

end Go.Proofs.YtoocpkmefmjcjaaGreat.costNames
