/-
  The parts of the run of viewportlaw24.lives: what each call, and each loop from a state on, gives, for each memory that holds what it looks at. No condition.
-/
import Derived.Test.YtfanipihhgbahaaAx9
import Derived.Test.YtfanipihhgbahaaKeys
import Derived.Test.YtfanipihhgbahaaTabs0
import Derived.Test.YtfanipihhgbahaaProg
import Derived.KernelRfl
set_option linter.unusedSimpArgs false
set_option linter.unusedVariables false
namespace Go.Proofs.Ytfanipihhgbahaa.lives
open Go.Proofs Go.Proofs.Ytfanipihhgbahaa Ax


end Go.Proofs.Ytfanipihhgbahaa.lives
