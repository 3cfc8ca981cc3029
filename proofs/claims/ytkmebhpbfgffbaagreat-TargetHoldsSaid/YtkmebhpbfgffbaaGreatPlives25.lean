/-
  Parts of the run of viewportlaw25.lives, in order: each, for itself, gives what is said of it. No condition.
-/
import Derived.Test.YtkmebhpbfgffbaaGreatAx9
import Derived.Test.YtkmebhpbfgffbaaGreatKeys
import Derived.Test.YtkmebhpbfgffbaaGreatTabs0
import Derived.Test.YtkmebhpbfgffbaaGreatProg
import Derived.KernelRfl
import Derived.Test.YtkmebhpbfgffbaaGreatDlives1
set_option linter.unusedSimpArgs false
set_option linter.unusedVariables false
namespace Go.Proofs.YtkmebhpbfgffbaaGreat.lives
open Go.Proofs Go.Proofs.YtkmebhpbfgffbaaGreat Ax

set_option maxRecDepth 1000000 in
theorem c24640 : Ax.chkL Tryz.prog quiets sks [e25425] [g24896, g26987] g24640 = true := by kernel_rfl
set_option maxRecDepth 1000000 in
theorem c20720 : Ax.chkL Tryz.prog quiets sks [e21508, e23066] [g20979, g24640] g20720 = true := by kernel_rfl
set_option maxRecDepth 1000000 in
theorem c19151 : Ax.chkL Tryz.prog quiets sks [e19936] [g19407, g20720] g19151 = true := by kernel_rfl

end Go.Proofs.YtkmebhpbfgffbaaGreat.lives
