/-
  Parts of the run of viewportlaw25.lives, in order: each, for itself, gives what is said of it. No condition.
-/
import Derived.Test.YtkmebhpbfgffbaaGreatAx9
import Derived.Test.YtkmebhpbfgffbaaGreatKeys
import Derived.Test.YtkmebhpbfgffbaaGreatTabs0
import Derived.Test.YtkmebhpbfgffbaaGreatProg
import Derived.KernelRfl
import Derived.Test.YtkmebhpbfgffbaaGreatDlives1
set_option linter.unusedSimpArgs false
set_option linter.unusedVariables false
namespace Go.Proofs.YtkmebhpbfgffbaaGreat.lives
open Go.Proofs Go.Proofs.YtkmebhpbfgffbaaGreat Ax

set_option maxRecDepth 1000000 in
theorem c9459 : Ax.chkC Tryz.prog quiets sks [] [g9712, g10411, g10901, g11437] e9459 = true := by kernel_rfl
set_option maxRecDepth 1000000 in
theorem c5 : Ax.chkC Tryz.prog quiets sks [e9459] [g319, g3838, g6772] e5 = true := by kernel_rfl

end Go.Proofs.YtkmebhpbfgffbaaGreat.lives
