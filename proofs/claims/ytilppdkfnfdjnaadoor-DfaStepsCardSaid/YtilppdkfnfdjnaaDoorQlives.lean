/-
  The parts of the run of viewportlaw04.lives: what each call, and each loop from a state on, gives, for each memory that holds what it looks at. No condition.
-/
import Derived.Test.YtilppdkfnfdjnaaDoorAx9
import Derived.Test.YtilppdkfnfdjnaaDoorKeys
import Derived.Test.YtilppdkfnfdjnaaDoorTabs0
import Derived.Test.YtilppdkfnfdjnaaDoorProg
import Derived.KernelRfl
import Derived.Test.YtilppdkfnfdjnaaDoorPlives1
import Derived.Test.YtilppdkfnfdjnaaDoorPlives2
import Derived.Test.YtilppdkfnfdjnaaDoorPlives3
set_option linter.unusedSimpArgs false
set_option linter.unusedVariables false
namespace Go.Proofs.YtilppdkfnfdjnaaDoor.lives
open Go.Proofs Go.Proofs.YtilppdkfnfdjnaaDoor Ax

theorem h2365 : LOK Tryd.prog g2365 := Ax.partLQ (ql := quiets) (K := sks) (l := []) (m := []) mixed quiets_ok sks_ok trivial trivial c2365
theorem h2015 : LOK Tryd.prog g2015 := Ax.partLQ (ql := quiets) (K := sks) (l := []) (m := [g2365]) mixed quiets_ok sks_ok trivial ⟨h2365, trivial⟩ c2015
theorem h1665 : LOK Tryd.prog g1665 := Ax.partLQ (ql := quiets) (K := sks) (l := []) (m := [g2015]) mixed quiets_ok sks_ok trivial ⟨h2015, trivial⟩ c1665
theorem h1315 : LOK Tryd.prog g1315 := Ax.partLQ (ql := quiets) (K := sks) (l := []) (m := [g1665]) mixed quiets_ok sks_ok trivial ⟨h1665, trivial⟩ c1315
theorem h965 : LOK Tryd.prog g965 := Ax.partLQ (ql := quiets) (K := sks) (l := []) (m := [g1315]) mixed quiets_ok sks_ok trivial ⟨h1315, trivial⟩ c965
theorem h615 : LOK Tryd.prog g615 := Ax.partLQ (ql := quiets) (K := sks) (l := []) (m := [g965]) mixed quiets_ok sks_ok trivial ⟨h965, trivial⟩ c615
theorem h265 : LOK Tryd.prog g265 := Ax.partLQ (ql := quiets) (K := sks) (l := []) (m := [g615]) mixed quiets_ok sks_ok trivial ⟨h615, trivial⟩ c265
theorem h2846 : LOK Tryd.prog g2846 := Ax.partLQ (ql := quiets) (K := sks) (l := []) (m := []) mixed quiets_ok sks_ok trivial trivial c2846
theorem h3183 : LOK Tryd.prog g3183 := Ax.partLQ (ql := quiets) (K := sks) (l := []) (m := []) mixed quiets_ok sks_ok trivial trivial c3183
theorem h3500 : LOK Tryd.prog g3500 := Ax.partLQ (ql := quiets) (K := sks) (l := []) (m := []) mixed quiets_ok sks_ok trivial trivial c3500
theorem h3085 : LOK Tryd.prog g3085 := Ax.partLQ (ql := quiets) (K := sks) (l := []) (m := [g3183, g3500]) mixed quiets_ok sks_ok trivial ⟨h3183, h3500, trivial⟩ c3085
theorem o149 : EntryOK Tryd.prog e149 := Ax.partCQ (ql := quiets) (K := sks) (l := []) (m := [g265, g2846, g3085]) mixed quiets_ok sks_ok trivial ⟨h265, h2846, h3085, trivial⟩ c149

end Go.Proofs.YtilppdkfnfdjnaaDoor.lives
