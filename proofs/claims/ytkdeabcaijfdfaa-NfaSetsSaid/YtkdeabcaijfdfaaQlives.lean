/-
  The parts of the run of viewportlaw03.lives: what each call, and each loop from a state on, gives, for each memory that holds what it looks at. No condition.
-/
import Derived.Test.YtkdeabcaijfdfaaAx9
import Derived.Test.YtkdeabcaijfdfaaKeys
import Derived.Test.YtkdeabcaijfdfaaTabs0
import Derived.Test.YtkdeabcaijfdfaaProg
import Derived.KernelRfl
import Derived.Test.YtkdeabcaijfdfaaPlives1
set_option linter.unusedSimpArgs false
set_option linter.unusedVariables false
namespace Go.Proofs.Ytkdeabcaijfdfaa.lives
open Go.Proofs Go.Proofs.Ytkdeabcaijfdfaa Ax

theorem h237 : LOK Try.prog g237 := Ax.loopU (ql := quiets) (K := sks) (l := []) (m := []) mixed quiets_ok sks_ok trivial trivial c237
theorem h236 : LOK Try.prog g236 := Ax.loopU (ql := quiets) (K := sks) (l := []) (m := [g237]) mixed quiets_ok sks_ok trivial ⟨h237, trivial⟩ c236
theorem h241 : LOK Try.prog g241 := Ax.loopU (ql := quiets) (K := sks) (l := []) (m := []) mixed quiets_ok sks_ok trivial trivial c241
theorem h244 : LOK Try.prog g244 := Ax.loopU (ql := quiets) (K := sks) (l := []) (m := []) mixed quiets_ok sks_ok trivial trivial c244
theorem h243 : LOK Try.prog g243 := Ax.loopU (ql := quiets) (K := sks) (l := []) (m := [g244]) mixed quiets_ok sks_ok trivial ⟨h244, trivial⟩ c243
theorem h247 : LOK Try.prog g247 := Ax.loopU (ql := quiets) (K := sks) (l := []) (m := []) mixed quiets_ok sks_ok trivial trivial c247
theorem h260 : LOK Try.prog g260 := Ax.loopU (ql := quiets) (K := sks) (l := []) (m := []) mixed quiets_ok sks_ok trivial trivial c260
theorem h270 : LOK Try.prog g270 := Ax.loopU (ql := quiets) (K := sks) (l := []) (m := []) mixed quiets_ok sks_ok trivial trivial c270

end Go.Proofs.Ytkdeabcaijfdfaa.lives
