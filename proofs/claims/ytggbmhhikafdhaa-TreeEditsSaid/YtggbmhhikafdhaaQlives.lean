/-
  The parts of the run of viewportlaw16.lives: what each call, and each loop from a state on, gives, for each memory that holds what it looks at. No condition.
-/
import Derived.Test.YtggbmhhikafdhaaAx9
import Derived.Test.YtggbmhhikafdhaaKeys
import Derived.Test.YtggbmhhikafdhaaTabs0
import Derived.Test.YtggbmhhikafdhaaProg
import Derived.KernelRfl
set_option linter.unusedSimpArgs false
set_option linter.unusedVariables false
namespace Go.Proofs.Ytggbmhhikafdhaa.lives
open Go.Proofs Go.Proofs.Ytggbmhhikafdhaa Ax


end Go.Proofs.Ytggbmhhikafdhaa.lives
