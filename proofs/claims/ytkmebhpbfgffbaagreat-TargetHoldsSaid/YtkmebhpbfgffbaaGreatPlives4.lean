/-
  Parts of the run of viewportlaw25.lives, in order: each, for itself, gives what is said of it. No condition.
-/
import Derived.Test.YtkmebhpbfgffbaaGreatAx9
import Derived.Test.YtkmebhpbfgffbaaGreatKeys
import Derived.Test.YtkmebhpbfgffbaaGreatTabs0
import Derived.Test.YtkmebhpbfgffbaaGreatProg
import Derived.KernelRfl
import Derived.Test.YtkmebhpbfgffbaaGreatDlives1
set_option linter.unusedSimpArgs false
set_option linter.unusedVariables false
namespace Go.Proofs.YtkmebhpbfgffbaaGreat.lives
open Go.Proofs Go.Proofs.YtkmebhpbfgffbaaGreat Ax

set_option maxRecDepth 1000000 in
theorem c3838 : Ax.chkL Tryz.prog quiets sks [] [g4743] g3838 = true := by kernel_rfl
set_option maxRecDepth 1000000 in
theorem c8544 : Ax.chkL Tryz.prog quiets sks [] [] g8544 = true := by kernel_rfl

end Go.Proofs.YtkmebhpbfgffbaaGreat.lives
