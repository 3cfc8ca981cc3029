/-
  The parts of the run of viewportlaw16.lives: what each call, and each loop from a state on, gives, for each memory that holds what it looks at. No condition.
-/
import Derived.Test.YtalepmolclldlaaAx9
import Derived.Test.YtalepmolclldlaaKeys
import Derived.Test.YtalepmolclldlaaTabs0
import Derived.Test.YtalepmolclldlaaProg
import Derived.KernelRfl
set_option linter.unusedSimpArgs false
set_option linter.unusedVariables false
namespace Go.Proofs.Ytalepmolclldlaa.lives
open Go.Proofs Go.Proofs.Ytalepmolclldlaa Ax


end Go.Proofs.Ytalepmolclldlaa.lives
