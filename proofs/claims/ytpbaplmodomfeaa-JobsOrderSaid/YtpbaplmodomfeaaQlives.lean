/-
  The parts of the run of viewportlaw24.lives: what each call, and each loop from a state on, gives, for each memory that holds what it looks at. No condition.
-/
import Derived.Test.YtpbaplmodomfeaaAx9
import Derived.Test.YtpbaplmodomfeaaKeys
import Derived.Test.YtpbaplmodomfeaaTabs0
import Derived.Test.YtpbaplmodomfeaaProg
import Derived.KernelRfl
set_option linter.unusedSimpArgs false
set_option linter.unusedVariables false
namespace Go.Proofs.Ytpbaplmodomfeaa.lives
open Go.Proofs Go.Proofs.Ytpbaplmodomfeaa Ax


end Go.Proofs.Ytpbaplmodomfeaa.lives
