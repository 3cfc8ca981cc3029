/-
  The parts of the run of viewportlaw26.lives: what each call, and each loop from a state on, gives, for each memory that holds what it looks at. No condition.
-/
import Derived.Test.YtejokkfeocohpaaAx9
import Derived.Test.YtejokkfeocohpaaKeys
import Derived.Test.YtejokkfeocohpaaTabs0
import Derived.Test.YtejokkfeocohpaaProg
import Derived.KernelRfl
set_option linter.unusedSimpArgs false
set_option linter.unusedVariables false
namespace Go.Proofs.Ytejokkfeocohpaa.lives
open Go.Proofs Go.Proofs.Ytejokkfeocohpaa Ax


end Go.Proofs.Ytejokkfeocohpaa.lives
