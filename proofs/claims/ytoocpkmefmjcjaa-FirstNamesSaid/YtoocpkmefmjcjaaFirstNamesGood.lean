/-
  viewportlaw12.FirstNames, run in order, in parts, gives true; so it gives true in whatever order, and leaves what was there. No condition.
-/
import Derived.Test.YtoocpkmefmjcjaaAx1
import Derived.Test.YtoocpkmefmjcjaaKeys
import Derived.Test.YtoocpkmefmjcjaaChecked
import Derived.KernelRfl
import Derived.Test.YtoocpkmefmjcjaaPFirstNames1
set_option linter.unusedSimpArgs false
set_option linter.unusedVariables false
namespace Go.Proofs.Ytoocpkmefmjcjaa.firstNames
open Go.Proofs Go.Proofs.Ytoocpkmefmjcjaa Ax

set_option maxRecDepth 1000000 in
theorem closed  : Ax.isTrue (Ax.callQ Try.prog sks [e2, e397] (.func 4) [] Ax.h0) = true := by kernel_rfl
theorem walk_FirstNames  (w : World)  : Calls Try.prog 4 #[] w fun e w' => e = .returned (.bool true) ∧ Go.RowKit.Below w.heap.size w w' :=
  Ax.run_argsQ (l := [e2, e397]) (by kernel_rfl) sks_ok ⟨o2, o397, trivial⟩ .nil (closed ) w

end Go.Proofs.Ytoocpkmefmjcjaa.firstNames
