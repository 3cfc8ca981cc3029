/-
  The parts of the run of viewportlaw06.lives: what each call, and each loop from a state on, gives, for each memory that holds what it looks at. No condition.
-/
import Derived.Test.YtaompjplflaloaaAx9
import Derived.Test.YtaompjplflaloaaKeys
import Derived.Test.YtaompjplflaloaaTabs0
import Derived.Test.YtaompjplflaloaaProg
import Derived.KernelRfl
import Derived.Test.YtaompjplflaloaaPlives1
import Derived.Test.YtaompjplflaloaaPlives2
import Derived.Test.YtaompjplflaloaaPlives3
import Derived.Test.YtaompjplflaloaaPlives4
import Derived.Test.YtaompjplflaloaaPlives5
import Derived.Test.YtaompjplflaloaaPlives6
import Derived.Test.YtaompjplflaloaaPlives7
import Derived.Test.YtaompjplflaloaaPlives8
import Derived.Test.YtaompjplflaloaaPlives9
import Derived.Test.YtaompjplflaloaaPlives10
set_option linter.unusedSimpArgs false
set_option linter.unusedVariables false
namespace Go.Proofs.Ytaompjplflaloaa.lives
open Go.Proofs Go.Proofs.Ytaompjplflaloaa Ax

theorem h3463 : LOK Try.prog g3463 := Ax.partLQ (ql := quiets) (K := sks) (l := []) (m := []) mixed quiets_ok sks_ok trivial trivial c3463
theorem h3099 : LOK Try.prog g3099 := Ax.partLQ (ql := quiets) (K := sks) (l := []) (m := [g3463]) mixed quiets_ok sks_ok trivial ⟨h3463, trivial⟩ c3099
theorem h2735 : LOK Try.prog g2735 := Ax.partLQ (ql := quiets) (K := sks) (l := []) (m := [g3099]) mixed quiets_ok sks_ok trivial ⟨h3099, trivial⟩ c2735
theorem h2371 : LOK Try.prog g2371 := Ax.partLQ (ql := quiets) (K := sks) (l := []) (m := [g2735]) mixed quiets_ok sks_ok trivial ⟨h2735, trivial⟩ c2371
theorem h2007 : LOK Try.prog g2007 := Ax.partLQ (ql := quiets) (K := sks) (l := []) (m := [g2371]) mixed quiets_ok sks_ok trivial ⟨h2371, trivial⟩ c2007
theorem h1643 : LOK Try.prog g1643 := Ax.partLQ (ql := quiets) (K := sks) (l := []) (m := [g2007]) mixed quiets_ok sks_ok trivial ⟨h2007, trivial⟩ c1643
theorem h1273 : LOK Try.prog g1273 := Ax.partLQ (ql := quiets) (K := sks) (l := []) (m := [g1643]) mixed quiets_ok sks_ok trivial ⟨h1643, trivial⟩ c1273
theorem h927 : LOK Try.prog g927 := Ax.partLQ (ql := quiets) (K := sks) (l := []) (m := [g1273]) mixed quiets_ok sks_ok trivial ⟨h1273, trivial⟩ c927
theorem h568 : LOK Try.prog g568 := Ax.partLQ (ql := quiets) (K := sks) (l := []) (m := [g927]) mixed quiets_ok sks_ok trivial ⟨h927, trivial⟩ c568
theorem h218 : LOK Try.prog g218 := Ax.partLQ (ql := quiets) (K := sks) (l := []) (m := [g568]) mixed quiets_ok sks_ok trivial ⟨h568, trivial⟩ c218
theorem h6564 : LOK Try.prog g6564 := Ax.partLQ (ql := quiets) (K := sks) (l := []) (m := []) mixed quiets_ok sks_ok trivial trivial c6564
theorem h6192 : LOK Try.prog g6192 := Ax.partLQ (ql := quiets) (K := sks) (l := []) (m := [g6564]) mixed quiets_ok sks_ok trivial ⟨h6564, trivial⟩ c6192
theorem h5820 : LOK Try.prog g5820 := Ax.partLQ (ql := quiets) (K := sks) (l := []) (m := [g6192]) mixed quiets_ok sks_ok trivial ⟨h6192, trivial⟩ c5820
theorem h5448 : LOK Try.prog g5448 := Ax.partLQ (ql := quiets) (K := sks) (l := []) (m := [g5820]) mixed quiets_ok sks_ok trivial ⟨h5820, trivial⟩ c5448
theorem h5076 : LOK Try.prog g5076 := Ax.partLQ (ql := quiets) (K := sks) (l := []) (m := [g5448]) mixed quiets_ok sks_ok trivial ⟨h5448, trivial⟩ c5076
theorem h4704 : LOK Try.prog g4704 := Ax.partLQ (ql := quiets) (K := sks) (l := []) (m := [g5076]) mixed quiets_ok sks_ok trivial ⟨h5076, trivial⟩ c4704
theorem h4338 : LOK Try.prog g4338 := Ax.partLQ (ql := quiets) (K := sks) (l := []) (m := [g4704]) mixed quiets_ok sks_ok trivial ⟨h4704, trivial⟩ c4338
theorem h3966 : LOK Try.prog g3966 := Ax.partLQ (ql := quiets) (K := sks) (l := []) (m := [g4338]) mixed quiets_ok sks_ok trivial ⟨h4338, trivial⟩ c3966
theorem h9647 : LOK Try.prog g9647 := Ax.partLQ (ql := quiets) (K := sks) (l := []) (m := []) mixed quiets_ok sks_ok trivial trivial c9647
theorem h9275 : LOK Try.prog g9275 := Ax.partLQ (ql := quiets) (K := sks) (l := []) (m := [g9647]) mixed quiets_ok sks_ok trivial ⟨h9647, trivial⟩ c9275
theorem h8903 : LOK Try.prog g8903 := Ax.partLQ (ql := quiets) (K := sks) (l := []) (m := [g9275]) mixed quiets_ok sks_ok trivial ⟨h9275, trivial⟩ c8903
theorem h8531 : LOK Try.prog g8531 := Ax.partLQ (ql := quiets) (K := sks) (l := []) (m := [g8903]) mixed quiets_ok sks_ok trivial ⟨h8903, trivial⟩ c8531
theorem h8159 : LOK Try.prog g8159 := Ax.partLQ (ql := quiets) (K := sks) (l := []) (m := [g8531]) mixed quiets_ok sks_ok trivial ⟨h8531, trivial⟩ c8159
theorem h7793 : LOK Try.prog g7793 := Ax.partLQ (ql := quiets) (K := sks) (l := []) (m := [g8159]) mixed quiets_ok sks_ok trivial ⟨h8159, trivial⟩ c7793
theorem h7421 : LOK Try.prog g7421 := Ax.partLQ (ql := quiets) (K := sks) (l := []) (m := [g7793]) mixed quiets_ok sks_ok trivial ⟨h7793, trivial⟩ c7421
theorem h7049 : LOK Try.prog g7049 := Ax.partLQ (ql := quiets) (K := sks) (l := []) (m := [g7421]) mixed quiets_ok sks_ok trivial ⟨h7421, trivial⟩ c7049
theorem h12727 : LOK Try.prog g12727 := Ax.partLQ (ql := quiets) (K := sks) (l := []) (m := []) mixed quiets_ok sks_ok trivial trivial c12727
theorem h12355 : LOK Try.prog g12355 := Ax.partLQ (ql := quiets) (K := sks) (l := []) (m := [g12727]) mixed quiets_ok sks_ok trivial ⟨h12727, trivial⟩ c12355
theorem h11983 : LOK Try.prog g11983 := Ax.partLQ (ql := quiets) (K := sks) (l := []) (m := [g12355]) mixed quiets_ok sks_ok trivial ⟨h12355, trivial⟩ c11983
theorem h11611 : LOK Try.prog g11611 := Ax.partLQ (ql := quiets) (K := sks) (l := []) (m := [g11983]) mixed quiets_ok sks_ok trivial ⟨h11983, trivial⟩ c11611
theorem h11239 : LOK Try.prog g11239 := Ax.partLQ (ql := quiets) (K := sks) (l := []) (m := [g11611]) mixed quiets_ok sks_ok trivial ⟨h11611, trivial⟩ c11239
theorem h10864 : LOK Try.prog g10864 := Ax.partLQ (ql := quiets) (K := sks) (l := []) (m := [g11239]) mixed quiets_ok sks_ok trivial ⟨h11239, trivial⟩ c10864
theorem h10492 : LOK Try.prog g10492 := Ax.partLQ (ql := quiets) (K := sks) (l := []) (m := [g10864]) mixed quiets_ok sks_ok trivial ⟨h10864, trivial⟩ c10492
theorem h10120 : LOK Try.prog g10120 := Ax.partLQ (ql := quiets) (K := sks) (l := []) (m := [g10492]) mixed quiets_ok sks_ok trivial ⟨h10492, trivial⟩ c10120
theorem o195 : EntryOK Try.prog e195 := Ax.partCQ (ql := quiets) (K := sks) (l := []) (m := [g218, g3966, g7049, g10120]) mixed quiets_ok sks_ok trivial ⟨h218, h3966, h7049, h10120, trivial⟩ c195
theorem h13783 : LOK Try.prog g13783 := Ax.partLQ (ql := quiets) (K := sks) (l := []) (m := []) mixed quiets_ok sks_ok trivial trivial c13783
theorem h13435 : LOK Try.prog g13435 := Ax.partLQ (ql := quiets) (K := sks) (l := []) (m := [g13783]) mixed quiets_ok sks_ok trivial ⟨h13783, trivial⟩ c13435
theorem o13114 : EntryOK Try.prog e13114 := Ax.partCQ (ql := quiets) (K := sks) (l := []) (m := [g13435]) mixed quiets_ok sks_ok trivial ⟨h13435, trivial⟩ c13114

end Go.Proofs.Ytaompjplflaloaa.lives
