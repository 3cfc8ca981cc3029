/-
  The parts of the run of viewportlaw16.lives: what each call, and each loop from a state on, gives, for each memory that holds what it looks at. No condition.
-/
import Derived.Test.YtdoidamfhkbgdaaAx9
import Derived.Test.YtdoidamfhkbgdaaKeys
import Derived.Test.YtdoidamfhkbgdaaTabs0
import Derived.Test.YtdoidamfhkbgdaaProg
import Derived.KernelRfl
set_option linter.unusedSimpArgs false
set_option linter.unusedVariables false
namespace Go.Proofs.Ytdoidamfhkbgdaa.lives
open Go.Proofs Go.Proofs.Ytdoidamfhkbgdaa Ax


end Go.Proofs.Ytdoidamfhkbgdaa.lives
