/-
  The parts of the run of viewportlaw26.lives: what each call, and each loop from a state on, gives, for each memory that holds what it looks at. No condition.
-/
import Derived.Test.YtiiionooieoniaaAx9
import Derived.Test.YtiiionooieoniaaKeys
import Derived.Test.YtiiionooieoniaaTabs0
import Derived.Test.YtiiionooieoniaaProg
import Derived.KernelRfl
set_option linter.unusedSimpArgs false
set_option linter.unusedVariables false
namespace Go.Proofs.Ytiiionooieoniaa.lives
open Go.Proofs Go.Proofs.Ytiiionooieoniaa Ax


end Go.Proofs.Ytiiionooieoniaa.lives
