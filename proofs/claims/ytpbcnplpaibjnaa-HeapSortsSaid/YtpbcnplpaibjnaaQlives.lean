/-
  The parts of the run of viewportlaw23.lives: what each call, and each loop from a state on, gives, for each memory that holds what it looks at. No condition.
-/
import Derived.Test.YtpbcnplpaibjnaaAx9
import Derived.Test.YtpbcnplpaibjnaaKeys
import Derived.Test.YtpbcnplpaibjnaaTabs0
import Derived.Test.YtpbcnplpaibjnaaProg
import Derived.KernelRfl
set_option linter.unusedSimpArgs false
set_option linter.unusedVariables false
namespace Go.Proofs.Ytpbcnplpaibjnaa.lives
open Go.Proofs Go.Proofs.Ytpbcnplpaibjnaa Ax


end Go.Proofs.Ytpbcnplpaibjnaa.lives
