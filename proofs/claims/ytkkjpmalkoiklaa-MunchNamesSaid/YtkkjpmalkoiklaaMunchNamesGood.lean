/-
  viewportlaw06.MunchNames, run in order, in parts, gives true; so it gives true in whatever order, and leaves what was there. No condition.
-/
import Derived.Test.YtkkjpmalkoiklaaAx5
import Derived.Test.YtkkjpmalkoiklaaKeys
import Derived.Test.YtkkjpmalkoiklaaChecked
import Derived.KernelRfl
import Derived.Test.YtkkjpmalkoiklaaPMunchNames6
import Derived.Test.YtkkjpmalkoiklaaPMunchNames8
import Derived.Test.YtkkjpmalkoiklaaPMunchNames9
import Derived.Test.YtkkjpmalkoiklaaPMunchNames10
import Derived.Test.YtkkjpmalkoiklaaPMunchNames11
import Derived.Test.YtkkjpmalkoiklaaPMunchNames12
import Derived.Test.YtkkjpmalkoiklaaPMunchNames13
set_option linter.unusedSimpArgs false
set_option linter.unusedVariables false
namespace Go.Proofs.Ytkkjpmalkoiklaa.munchNames
open Go.Proofs Go.Proofs.Ytkkjpmalkoiklaa Ax

set_option maxRecDepth 1000000 in
theorem closed  : Ax.isTrue (Ax.callR Try.prog sks [e2, e26688, e27737, e28773, e29851] [g14386, g17469, g20576, g23671] (.func 5) [] Ax.h0) = true := by kernel_rfl
theorem walk_MunchNames  (w : World)  : Calls Try.prog 5 #[] w fun e w' => e = .returned (.bool true) ∧ Go.RowKit.Below w.heap.size w w' :=
  Ax.run_argsR (l := [e2, e26688, e27737, e28773, e29851]) (m := [g14386, g17469, g20576, g23671]) mixed sks_ok ⟨o2, o26688, o27737, o28773, o29851, trivial⟩ ⟨h14386, h17469, h20576, h23671, trivial⟩ .nil (closed ) w

end Go.Proofs.Ytkkjpmalkoiklaa.munchNames
