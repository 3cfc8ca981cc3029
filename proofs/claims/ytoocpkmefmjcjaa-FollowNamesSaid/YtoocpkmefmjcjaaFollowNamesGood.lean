/-
  viewportlaw13.FollowNames, run in order, in parts, gives true; so it gives true in whatever order, and leaves what was there. No condition.
-/
import Derived.Test.YtoocpkmefmjcjaaAx1
import Derived.Test.YtoocpkmefmjcjaaKeys
import Derived.Test.YtoocpkmefmjcjaaChecked
import Derived.KernelRfl
import Derived.Test.YtoocpkmefmjcjaaPFollowNames1
import Derived.Test.YtoocpkmefmjcjaaPFollowNames2
import Derived.Test.YtoocpkmefmjcjaaPFollowNames3
import Derived.Test.YtoocpkmefmjcjaaPFollowNames4
import Derived.Test.YtoocpkmefmjcjaaPFollowNames5
import Derived.Test.YtoocpkmefmjcjaaPFollowNames6
set_option linter.unusedSimpArgs false
set_option linter.unusedVariables false
namespace Go.Proofs.Ytoocpkmefmjcjaa.followNames
open Go.Proofs Go.Proofs.Ytoocpkmefmjcjaa Ax

set_option maxRecDepth 1000000 in
theorem closed  : Ax.isTrue (Ax.callQ Try.prog sks [e4, e396, e808, e1291, e1715, e2163] (.func 5) [] Ax.h0) = true := by kernel_rfl
theorem walk_FollowNames  (w : World)  : Calls Try.prog 5 #[] w fun e w' => e = .returned (.bool true) ∧ Go.RowKit.Below w.heap.size w w' :=
  Ax.run_argsQ (l := [e4, e396, e808, e1291, e1715, e2163]) (by kernel_rfl) sks_ok ⟨o4, o396, o808, o1291, o1715, o2163, trivial⟩ .nil (closed ) w

end Go.Proofs.Ytoocpkmefmjcjaa.followNames
