/-
  The parts of the run of viewportlaw14.PredictNames: what each call, and each loop from a state on, gives, for each memory that holds what it looks at. No condition.
-/
import Derived.Test.YtnikfiecmlkjmaaAx9
import Derived.Test.YtnikfiecmlkjmaaKeys
import Derived.Test.YtnikfiecmlkjmaaTabs0
import Derived.Test.YtnikfiecmlkjmaaProg
import Derived.KernelRfl
import Derived.Test.YtnikfiecmlkjmaaPPredictNames1
import Derived.Test.YtnikfiecmlkjmaaPPredictNames2
import Derived.Test.YtnikfiecmlkjmaaPPredictNames3
set_option linter.unusedSimpArgs false
set_option linter.unusedVariables false
namespace Go.Proofs.Ytnikfiecmlkjmaa.predictNames
open Go.Proofs Go.Proofs.Ytnikfiecmlkjmaa Ax

theorem o306 : EntryOK Try.prog e306 := Ax.partCQ (ql := quiets) (K := sks) (l := []) (m := []) mixed quiets_ok sks_ok trivial trivial c306
theorem o26 : EntryOK Try.prog e26 := Ax.partCQ (ql := quiets) (K := sks) (l := [e306]) (m := []) mixed quiets_ok sks_ok ⟨o306, trivial⟩ trivial c26
theorem o846 : EntryOK Try.prog e846 := o26.up c846
theorem o4 : EntryOK Try.prog e4 := Ax.partP (ql := quiets) (K := sks) (l := [e26, e846]) (m := []) mixed quiets_ok sks_ok ⟨o26, o846, trivial⟩ trivial c4
theorem o2141 : EntryOK Try.prog e2141 := Ax.partCQ (ql := quiets) (K := sks) (l := []) (m := []) mixed quiets_ok sks_ok trivial trivial c2141
theorem o1769 : EntryOK Try.prog e1769 := Ax.partCQ (ql := quiets) (K := sks) (l := [e2141]) (m := []) mixed quiets_ok sks_ok ⟨o2141, trivial⟩ trivial c1769
theorem o2794 : EntryOK Try.prog e2794 := o1769.up c2794
theorem o4160 : EntryOK Try.prog e4160 := Ax.partCQ (ql := quiets) (K := sks) (l := []) (m := []) mixed quiets_ok sks_ok trivial trivial c4160
theorem o3787 : EntryOK Try.prog e3787 := Ax.partCQ (ql := quiets) (K := sks) (l := [e4160]) (m := []) mixed quiets_ok sks_ok ⟨o4160, trivial⟩ trivial c3787
theorem o5084 : EntryOK Try.prog e5084 := Ax.partCQ (ql := quiets) (K := sks) (l := []) (m := []) mixed quiets_ok sks_ok trivial trivial c5084
theorem o4804 : EntryOK Try.prog e4804 := Ax.partCQ (ql := quiets) (K := sks) (l := [e5084]) (m := []) mixed quiets_ok sks_ok ⟨o5084, trivial⟩ trivial c4804
theorem o5624 : EntryOK Try.prog e5624 := o4804.up c5624
theorem o4782 : EntryOK Try.prog e4782 := Ax.partP (ql := quiets) (K := sks) (l := [e4804, e5624]) (m := []) mixed quiets_ok sks_ok ⟨o4804, o5624, trivial⟩ trivial c4782
theorem o6741 : EntryOK Try.prog e6741 := Ax.partCQ (ql := quiets) (K := sks) (l := []) (m := []) mixed quiets_ok sks_ok trivial trivial c6741
theorem o7451 : EntryOK Try.prog e7451 := Ax.partCQ (ql := quiets) (K := sks) (l := []) (m := []) mixed quiets_ok sks_ok trivial trivial c7451
theorem o7171 : EntryOK Try.prog e7171 := Ax.partCQ (ql := quiets) (K := sks) (l := [e7451]) (m := []) mixed quiets_ok sks_ok ⟨o7451, trivial⟩ trivial c7171
theorem o7991 : EntryOK Try.prog e7991 := o7171.up c7991
theorem o7149 : EntryOK Try.prog e7149 := Ax.partP (ql := quiets) (K := sks) (l := [e7171, e7991]) (m := []) mixed quiets_ok sks_ok ⟨o7171, o7991, trivial⟩ trivial c7149
theorem o6954 : EntryOK Try.prog e6954 := Ax.partCQ (ql := quiets) (K := sks) (l := [e7149]) (m := []) mixed quiets_ok sks_ok ⟨o7149, trivial⟩ trivial c6954
theorem o9481 : EntryOK Try.prog e9481 := Ax.partCQ (ql := quiets) (K := sks) (l := []) (m := []) mixed quiets_ok sks_ok trivial trivial c9481
theorem o9108 : EntryOK Try.prog e9108 := Ax.partCQ (ql := quiets) (K := sks) (l := [e9481]) (m := []) mixed quiets_ok sks_ok ⟨o9481, trivial⟩ trivial c9108

end Go.Proofs.Ytnikfiecmlkjmaa.predictNames
