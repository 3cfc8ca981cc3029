/-
  The parts of the run of viewportlaw26.lives: what each call, and each loop from a state on, gives, for each memory that holds what it looks at. No condition.
-/
import Derived.Test.YtlfcfopohlhlfaaAx9
import Derived.Test.YtlfcfopohlhlfaaKeys
import Derived.Test.YtlfcfopohlhlfaaTabs0
import Derived.Test.YtlfcfopohlhlfaaProg
import Derived.KernelRfl
set_option linter.unusedSimpArgs false
set_option linter.unusedVariables false
namespace Go.Proofs.Ytlfcfopohlhlfaa.lives
open Go.Proofs Go.Proofs.Ytlfcfopohlhlfaa Ax


end Go.Proofs.Ytlfcfopohlhlfaa.lives
