/-
  The parts of the run of viewportlaw21.lives: what each call, and each loop from a state on, gives, for each memory that holds what it looks at. No condition.
-/
import Derived.Test.YtbligeacgkhljaaAx9
import Derived.Test.YtbligeacgkhljaaKeys
import Derived.Test.YtbligeacgkhljaaTabs0
import Derived.Test.YtbligeacgkhljaaProg
import Derived.KernelRfl
set_option linter.unusedSimpArgs false
set_option linter.unusedVariables false
namespace Go.Proofs.Ytbligeacgkhljaa.lives
open Go.Proofs Go.Proofs.Ytbligeacgkhljaa Ax


end Go.Proofs.Ytbligeacgkhljaa.lives
