/-
  The parts of the run of viewportlaw20.lives: what each call, and each loop from a state on, gives, for each memory that holds what it looks at. No condition.
-/
import Derived.Test.YtjboikbhilkelaaAx9
import Derived.Test.YtjboikbhilkelaaKeys
import Derived.Test.YtjboikbhilkelaaTabs0
import Derived.Test.YtjboikbhilkelaaProg
import Derived.KernelRfl
set_option linter.unusedSimpArgs false
set_option linter.unusedVariables false
namespace Go.Proofs.Ytjboikbhilkelaa.lives
open Go.Proofs Go.Proofs.Ytjboikbhilkelaa Ax


end Go.Proofs.Ytjboikbhilkelaa.lives
