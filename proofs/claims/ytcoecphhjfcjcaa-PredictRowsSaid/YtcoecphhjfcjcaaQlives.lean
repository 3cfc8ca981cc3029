/-
  The parts of the run of viewportlaw14.lives: what each call, and each loop from a state on, gives, for each memory that holds what it looks at. No condition.
-/
import Derived.Test.YtcoecphhjfcjcaaAx9
import Derived.Test.YtcoecphhjfcjcaaKeys
import Derived.Test.YtcoecphhjfcjcaaTabs0
import Derived.Test.YtcoecphhjfcjcaaProg
import Derived.KernelRfl
import Derived.Test.YtcoecphhjfcjcaaPlives1
set_option linter.unusedSimpArgs false
set_option linter.unusedVariables false
namespace Go.Proofs.Ytcoecphhjfcjcaa.lives
open Go.Proofs Go.Proofs.Ytcoecphhjfcjcaa Ax

theorem o305 : EntryOK Try.prog e305 := Ax.partCQ (ql := quiets) (K := sks) (l := []) (m := []) mixed quiets_ok sks_ok trivial trivial c305
theorem o25 : EntryOK Try.prog e25 := Ax.partCQ (ql := quiets) (K := sks) (l := [e305]) (m := []) mixed quiets_ok sks_ok ⟨o305, trivial⟩ trivial c25
theorem o845 : EntryOK Try.prog e845 := o25.up c845
theorem o3 : EntryOK Try.prog e3 := Ax.partP (ql := quiets) (K := sks) (l := [e25, e845]) (m := []) mixed quiets_ok sks_ok ⟨o25, o845, trivial⟩ trivial c3
theorem o2140 : EntryOK Try.prog e2140 := Ax.partCQ (ql := quiets) (K := sks) (l := []) (m := []) mixed quiets_ok sks_ok trivial trivial c2140
theorem o1790 : EntryOK Try.prog e1790 := Ax.partCQ (ql := quiets) (K := sks) (l := [e2140]) (m := []) mixed quiets_ok sks_ok ⟨o2140, trivial⟩ trivial c1790

end Go.Proofs.Ytcoecphhjfcjcaa.lives
