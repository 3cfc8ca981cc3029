/-
  The parts of the run of viewportlaw20.lives: what each call, and each loop from a state on, gives, for each memory that holds what it looks at. No condition.
-/
import Derived.Test.YtofkckljnmphdaaAx9
import Derived.Test.YtofkckljnmphdaaKeys
import Derived.Test.YtofkckljnmphdaaTabs0
import Derived.Test.YtofkckljnmphdaaProg
import Derived.KernelRfl
set_option linter.unusedSimpArgs false
set_option linter.unusedVariables false
namespace Go.Proofs.Ytofkckljnmphdaa.lives
open Go.Proofs Go.Proofs.Ytofkckljnmphdaa Ax


end Go.Proofs.Ytofkckljnmphdaa.lives
