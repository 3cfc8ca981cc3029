/-
  viewportlaw25.lives, run in order, in parts, gives true; so it gives true in whatever order, and leaves what was there. No condition.
-/
import Derived.Test.YtkmebhpbfgffbaaGreatAx5
import Derived.Test.YtkmebhpbfgffbaaGreatKeys
import Derived.Test.YtkmebhpbfgffbaaGreatTabs0
import Derived.Test.YtkmebhpbfgffbaaGreatChecked
import Derived.KernelRfl
import Derived.Test.YtkmebhpbfgffbaaGreatQlives
set_option linter.unusedSimpArgs false
set_option linter.unusedVariables false
namespace Go.Proofs.YtkmebhpbfgffbaaGreat.lives
open Go.Proofs Go.Proofs.YtkmebhpbfgffbaaGreat Ax

set_option maxRecDepth 1000000 in
theorem closed  : Ax.isTrue (Ax.callR Tryz.prog quiets sks [e4, e16792, e29384] [g18610, g19151] (.func 5) [] Ax.h0) = true := by kernel_rfl
theorem walk_lives  (w : World)  : Calls Tryz.prog 5 #[] w fun e w' => e = .returned (.bool true) ∧ Go.RowKit.Below w.heap.size w w' :=
  Ax.run_argsR (ql := quiets) (l := [e4, e16792, e29384]) (m := [g18610, g19151]) mixed quiets_ok sks_ok ⟨o4, o16792, o29384, trivial⟩ ⟨h18610, h19151, trivial⟩ .nil (closed ) w (tabs_ok w)

end Go.Proofs.YtkmebhpbfgffbaaGreat.lives
