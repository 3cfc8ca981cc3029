/-
  The parts of the run of viewportlaw11.lives: what each call, and each loop from a state on, gives, for each memory that holds what it looks at. No condition.
-/
import Derived.Test.YtpbhdiapgeiopaaAx9
import Derived.Test.YtpbhdiapgeiopaaKeys
import Derived.Test.YtpbhdiapgeiopaaTabs0
import Derived.Test.YtpbhdiapgeiopaaProg
import Derived.KernelRfl
set_option linter.unusedSimpArgs false
set_option linter.unusedVariables false
namespace Go.Proofs.Ytpbhdiapgeiopaa.lives
open Go.Proofs Go.Proofs.Ytpbhdiapgeiopaa Ax


end Go.Proofs.Ytpbhdiapgeiopaa.lives
