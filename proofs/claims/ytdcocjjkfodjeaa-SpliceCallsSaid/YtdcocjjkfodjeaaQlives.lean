/-
  The parts of the run of viewportlaw20.lives: what each call, and each loop from a state on, gives, for each memory that holds what it looks at. No condition.
-/
import Derived.Test.YtdcocjjkfodjeaaAx9
import Derived.Test.YtdcocjjkfodjeaaKeys
import Derived.Test.YtdcocjjkfodjeaaTabs0
import Derived.Test.YtdcocjjkfodjeaaProg
import Derived.KernelRfl
set_option linter.unusedSimpArgs false
set_option linter.unusedVariables false
namespace Go.Proofs.Ytdcocjjkfodjeaa.lives
open Go.Proofs Go.Proofs.Ytdcocjjkfodjeaa Ax


end Go.Proofs.Ytdcocjjkfodjeaa.lives
