/-
  The parts of the run of viewportlaw12.lives: what each call, and each loop from a state on, gives, for each memory that holds what it looks at. No condition.
-/
import Derived.Test.YtgcbagchpjpmoaaAx9
import Derived.Test.YtgcbagchpjpmoaaKeys
import Derived.Test.YtgcbagchpjpmoaaTabs0
import Derived.Test.YtgcbagchpjpmoaaProg
import Derived.KernelRfl
import Derived.Test.YtgcbagchpjpmoaaPlives1
set_option linter.unusedSimpArgs false
set_option linter.unusedVariables false
namespace Go.Proofs.Ytgcbagchpjpmoaa.lives
open Go.Proofs Go.Proofs.Ytgcbagchpjpmoaa Ax

theorem h100 : LOK Try.prog g100 := Ax.partLQ (ql := quiets) (K := sks) (l := []) (m := []) mixed quiets_ok sks_ok trivial trivial c100

end Go.Proofs.Ytgcbagchpjpmoaa.lives
