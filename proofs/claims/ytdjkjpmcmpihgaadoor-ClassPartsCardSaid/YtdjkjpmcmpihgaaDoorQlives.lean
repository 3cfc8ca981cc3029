/-
  The parts of the run of viewportlaw01.lives: what each call, and each loop from a state on, gives, for each memory that holds what it looks at. No condition.
-/
import Derived.Test.YtdjkjpmcmpihgaaDoorAx9
import Derived.Test.YtdjkjpmcmpihgaaDoorKeys
import Derived.Test.YtdjkjpmcmpihgaaDoorTabslives
import Derived.Test.YtdjkjpmcmpihgaaDoorProg
import Derived.KernelRfl
set_option linter.unusedSimpArgs false
set_option linter.unusedVariables false
namespace Go.Proofs.YtdjkjpmcmpihgaaDoor.lives
open Go.Proofs Go.Proofs.YtdjkjpmcmpihgaaDoor Ax


end Go.Proofs.YtdjkjpmcmpihgaaDoor.lives
