/-
  The parts of the run of viewportlaw21.lives: what each call, and each loop from a state on, gives, for each memory that holds what it looks at. No condition.
-/
import Derived.Test.YtdloekmdhhfmoaaAx9
import Derived.Test.YtdloekmdhhfmoaaKeys
import Derived.Test.YtdloekmdhhfmoaaTabs0
import Derived.Test.YtdloekmdhhfmoaaProg
import Derived.KernelRfl
set_option linter.unusedSimpArgs false
set_option linter.unusedVariables false
namespace Go.Proofs.Ytdloekmdhhfmoaa.lives
open Go.Proofs Go.Proofs.Ytdloekmdhhfmoaa Ax


end Go.Proofs.Ytdloekmdhhfmoaa.lives
