/-
  The parts of the run of viewportlaw16.lives: what each call, and each loop from a state on, gives, for each memory that holds what it looks at. No condition.
-/
import Derived.Test.YtoebdapeikdmjaaAx9
import Derived.Test.YtoebdapeikdmjaaKeys
import Derived.Test.YtoebdapeikdmjaaTabs0
import Derived.Test.YtoebdapeikdmjaaProg
import Derived.KernelRfl
set_option linter.unusedSimpArgs false
set_option linter.unusedVariables false
namespace Go.Proofs.Ytoebdapeikdmjaa.lives
open Go.Proofs Go.Proofs.Ytoebdapeikdmjaa Ax


end Go.Proofs.Ytoebdapeikdmjaa.lives
