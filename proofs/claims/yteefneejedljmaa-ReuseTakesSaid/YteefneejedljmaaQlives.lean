/-
  The parts of the run of viewportlaw21.lives: what each call, and each loop from a state on, gives, for each memory that holds what it looks at. No condition.
-/
import Derived.Test.YteefneejedljmaaAx9
import Derived.Test.YteefneejedljmaaKeys
import Derived.Test.YteefneejedljmaaTabs0
import Derived.Test.YteefneejedljmaaProg
import Derived.KernelRfl
set_option linter.unusedSimpArgs false
set_option linter.unusedVariables false
namespace Go.Proofs.Yteefneejedljmaa.lives
open Go.Proofs Go.Proofs.Yteefneejedljmaa Ax


end Go.Proofs.Yteefneejedljmaa.lives
