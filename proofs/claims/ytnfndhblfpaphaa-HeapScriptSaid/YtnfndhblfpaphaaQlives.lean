/-
  The parts of the run of viewportlaw23.lives: what each call, and each loop from a state on, gives, for each memory that holds what it looks at. No condition.
-/
import Derived.Test.YtnfndhblfpaphaaAx9
import Derived.Test.YtnfndhblfpaphaaKeys
import Derived.Test.YtnfndhblfpaphaaTabs0
import Derived.Test.YtnfndhblfpaphaaProg
import Derived.KernelRfl
set_option linter.unusedSimpArgs false
set_option linter.unusedVariables false
namespace Go.Proofs.Ytnfndhblfpaphaa.lives
open Go.Proofs Go.Proofs.Ytnfndhblfpaphaa Ax


end Go.Proofs.Ytnfndhblfpaphaa.lives
