/-
  The parts of the run of viewportlaw01.lives: what each call, and each loop from a state on, gives, for each memory that holds what it looks at. No condition.
-/
import Derived.Test.YtagobfiiaaiblaaDoorAx9
import Derived.Test.YtagobfiiaaiblaaDoorKeys
import Derived.Test.YtagobfiiaaiblaaDoorTabslives
import Derived.Test.YtagobfiiaaiblaaDoorProg
import Derived.KernelRfl
set_option linter.unusedSimpArgs false
set_option linter.unusedVariables false
namespace Go.Proofs.YtagobfiiaaiblaaDoor.lives
open Go.Proofs Go.Proofs.YtagobfiiaaiblaaDoor Ax


end Go.Proofs.YtagobfiiaaiblaaDoor.lives
