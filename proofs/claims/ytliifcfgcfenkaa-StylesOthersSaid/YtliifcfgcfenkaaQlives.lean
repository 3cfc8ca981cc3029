/-
  The parts of the run of viewportlaw26.lives: what each call, and each loop from a state on, gives, for each memory that holds what it looks at. No condition.
-/
import Derived.Test.YtliifcfgcfenkaaAx9
import Derived.Test.YtliifcfgcfenkaaKeys
import Derived.Test.YtliifcfgcfenkaaTabs0
import Derived.Test.YtliifcfgcfenkaaProg
import Derived.KernelRfl
set_option linter.unusedSimpArgs false
set_option linter.unusedVariables false
namespace Go.Proofs.Ytliifcfgcfenkaa.lives
open Go.Proofs Go.Proofs.Ytliifcfgcfenkaa Ax


end Go.Proofs.Ytliifcfgcfenkaa.lives
