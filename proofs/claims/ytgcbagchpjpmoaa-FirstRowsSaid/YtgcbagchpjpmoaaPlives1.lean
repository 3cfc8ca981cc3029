/-
  Parts of the run of viewportlaw12.lives, in order: each, for itself, gives what is said of it. No condition.
-/
import Derived.Test.YtgcbagchpjpmoaaAx9
import Derived.Test.YtgcbagchpjpmoaaKeys
import Derived.Test.YtgcbagchpjpmoaaTabs0
import Derived.Test.YtgcbagchpjpmoaaProg
import Derived.KernelRfl
import Derived.Test.YtgcbagchpjpmoaaDlives1
set_option linter.unusedSimpArgs false
set_option linter.unusedVariables false
namespace Go.Proofs.Ytgcbagchpjpmoaa.lives
open Go.Proofs Go.Proofs.Ytgcbagchpjpmoaa Ax

set_option maxRecDepth 1000000 in
theorem c100 : Ax.chkL Try.prog quiets sks [] [] g100 = true := by kernel_rfl

end Go.Proofs.Ytgcbagchpjpmoaa.lives
