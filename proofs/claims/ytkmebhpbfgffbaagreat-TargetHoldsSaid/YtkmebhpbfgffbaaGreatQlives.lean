/-
  The parts of the run of viewportlaw25.lives: what each call, and each loop from a state on, gives, for each memory that holds what it looks at. No condition.
-/
import Derived.Test.YtkmebhpbfgffbaaGreatAx9
import Derived.Test.YtkmebhpbfgffbaaGreatKeys
import Derived.Test.YtkmebhpbfgffbaaGreatTabs0
import Derived.Test.YtkmebhpbfgffbaaGreatProg
import Derived.KernelRfl
import Derived.Test.YtkmebhpbfgffbaaGreatPlives1
import Derived.Test.YtkmebhpbfgffbaaGreatPlives2
import Derived.Test.YtkmebhpbfgffbaaGreatPlives3
import Derived.Test.YtkmebhpbfgffbaaGreatPlives4
import Derived.Test.YtkmebhpbfgffbaaGreatPlives5
import Derived.Test.YtkmebhpbfgffbaaGreatPlives6
import Derived.Test.YtkmebhpbfgffbaaGreatPlives7
import Derived.Test.YtkmebhpbfgffbaaGreatPlives8
import Derived.Test.YtkmebhpbfgffbaaGreatPlives9
import Derived.Test.YtkmebhpbfgffbaaGreatPlives10
import Derived.Test.YtkmebhpbfgffbaaGreatPlives11
import Derived.Test.YtkmebhpbfgffbaaGreatPlives12
import Derived.Test.YtkmebhpbfgffbaaGreatPlives13
import Derived.Test.YtkmebhpbfgffbaaGreatPlives14
import Derived.Test.YtkmebhpbfgffbaaGreatPlives15
import Derived.Test.YtkmebhpbfgffbaaGreatPlives16
import Derived.Test.YtkmebhpbfgffbaaGreatPlives17
import Derived.Test.YtkmebhpbfgffbaaGreatPlives18
import Derived.Test.YtkmebhpbfgffbaaGreatPlives19
import Derived.Test.YtkmebhpbfgffbaaGreatPlives20
import Derived.Test.YtkmebhpbfgffbaaGreatPlives21
import Derived.Test.YtkmebhpbfgffbaaGreatPlives22
import Derived.Test.YtkmebhpbfgffbaaGreatPlives23
import Derived.Test.YtkmebhpbfgffbaaGreatPlives24
import Derived.Test.YtkmebhpbfgffbaaGreatPlives25
import Derived.Test.YtkmebhpbfgffbaaGreatPlives26
import Derived.Test.YtkmebhpbfgffbaaGreatPlives27
set_option linter.unusedSimpArgs false
set_option linter.unusedVariables false
namespace Go.Proofs.YtkmebhpbfgffbaaGreat.lives
open Go.Proofs Go.Proofs.YtkmebhpbfgffbaaGreat Ax

theorem h2850 : LOK Tryz.prog g2850 := Ax.partLQ (ql := quiets) (K := sks) (l := []) (m := []) mixed quiets_ok sks_ok trivial trivial c2850
theorem h1973 : LOK Tryz.prog g1973 := Ax.partLQ (ql := quiets) (K := sks) (l := []) (m := [g2850]) mixed quiets_ok sks_ok trivial ⟨h2850, trivial⟩ c1973
theorem h1118 : LOK Tryz.prog g1118 := Ax.partLQ (ql := quiets) (K := sks) (l := []) (m := [g1973]) mixed quiets_ok sks_ok trivial ⟨h1973, trivial⟩ c1118
theorem h319 : LOK Tryz.prog g319 := Ax.partLQ (ql := quiets) (K := sks) (l := []) (m := [g1118]) mixed quiets_ok sks_ok trivial ⟨h1118, trivial⟩ c319
theorem h5645 : LOK Tryz.prog g5645 := Ax.partLQ (ql := quiets) (K := sks) (l := []) (m := []) mixed quiets_ok sks_ok trivial trivial c5645
theorem h4743 : LOK Tryz.prog g4743 := Ax.partLQ (ql := quiets) (K := sks) (l := []) (m := [g5645]) mixed quiets_ok sks_ok trivial ⟨h5645, trivial⟩ c4743
theorem h3838 : LOK Tryz.prog g3838 := Ax.partLQ (ql := quiets) (K := sks) (l := []) (m := [g4743]) mixed quiets_ok sks_ok trivial ⟨h4743, trivial⟩ c3838
theorem h8544 : LOK Tryz.prog g8544 := Ax.partLQ (ql := quiets) (K := sks) (l := []) (m := []) mixed quiets_ok sks_ok trivial trivial c8544
theorem h7672 : LOK Tryz.prog g7672 := Ax.partLQ (ql := quiets) (K := sks) (l := []) (m := [g8544]) mixed quiets_ok sks_ok trivial ⟨h8544, trivial⟩ c7672
theorem h6772 : LOK Tryz.prog g6772 := Ax.partLQ (ql := quiets) (K := sks) (l := []) (m := [g7672]) mixed quiets_ok sks_ok trivial ⟨h7672, trivial⟩ c6772
theorem h9712 : LOK Tryz.prog g9712 := Ax.partLQ (ql := quiets) (K := sks) (l := []) (m := []) mixed quiets_ok sks_ok trivial trivial c9712
theorem h10411 : LOK Tryz.prog g10411 := Ax.partLQ (ql := quiets) (K := sks) (l := []) (m := []) mixed quiets_ok sks_ok trivial trivial c10411
theorem h10901 : LOK Tryz.prog g10901 := Ax.partLQ (ql := quiets) (K := sks) (l := []) (m := []) mixed quiets_ok sks_ok trivial trivial c10901
theorem h11437 : LOK Tryz.prog g11437 := Ax.partLQ (ql := quiets) (K := sks) (l := []) (m := []) mixed quiets_ok sks_ok trivial trivial c11437
theorem o9459 : EntryOK Tryz.prog e9459 := Ax.partCQ (ql := quiets) (K := sks) (l := []) (m := [g9712, g10411, g10901, g11437]) mixed quiets_ok sks_ok trivial ⟨h9712, h10411, h10901, h11437, trivial⟩ c9459
theorem o5 : EntryOK Tryz.prog e5 := Ax.partCQ (ql := quiets) (K := sks) (l := [e9459]) (m := [g319, g3838, g6772]) mixed quiets_ok sks_ok ⟨o9459, trivial⟩ ⟨h319, h3838, h6772, trivial⟩ c5
theorem o11925 : EntryOK Tryz.prog e11925 := Ax.partCQ (ql := quiets) (K := sks) (l := []) (m := []) mixed quiets_ok sks_ok trivial trivial c11925
theorem o13086 : EntryOK Tryz.prog e13086 := Ax.partCQ (ql := quiets) (K := sks) (l := []) (m := []) mixed quiets_ok sks_ok trivial trivial c13086
theorem o12496 : EntryOK Tryz.prog e12496 := Ax.partCQ (ql := quiets) (K := sks) (l := [e13086]) (m := []) mixed quiets_ok sks_ok ⟨o13086, trivial⟩ trivial c12496
theorem o14301 : EntryOK Tryz.prog e14301 := Ax.partCQ (ql := quiets) (K := sks) (l := []) (m := []) mixed quiets_ok sks_ok trivial trivial c14301
theorem o13707 : EntryOK Tryz.prog e13707 := Ax.partCQ (ql := quiets) (K := sks) (l := [e14301]) (m := []) mixed quiets_ok sks_ok ⟨o14301, trivial⟩ trivial c13707
theorem o16167 : EntryOK Tryz.prog e16167 := Ax.partCQ (ql := quiets) (K := sks) (l := []) (m := []) mixed quiets_ok sks_ok trivial trivial c16167
theorem o15573 : EntryOK Tryz.prog e15573 := Ax.partCQ (ql := quiets) (K := sks) (l := [e16167]) (m := []) mixed quiets_ok sks_ok ⟨o16167, trivial⟩ trivial c15573
theorem o4 : EntryOK Tryz.prog e4 := Ax.partCQ (ql := quiets) (K := sks) (l := [e5, e11925, e12496, e13707, e15573]) (m := []) mixed quiets_ok sks_ok ⟨o5, o11925, o12496, o13707, o15573, trivial⟩ trivial c4
theorem h17046 : LOK Tryz.prog g17046 := Ax.partLQ (ql := quiets) (K := sks) (l := []) (m := []) mixed quiets_ok sks_ok trivial trivial c17046
theorem h17830 : LOK Tryz.prog g17830 := Ax.partLQ (ql := quiets) (K := sks) (l := []) (m := []) mixed quiets_ok sks_ok trivial trivial c17830
theorem o17575 : EntryOK Tryz.prog e17575 := Ax.partCQ (ql := quiets) (K := sks) (l := []) (m := [g17830]) mixed quiets_ok sks_ok trivial ⟨h17830, trivial⟩ c17575
theorem o16792 : EntryOK Tryz.prog e16792 := Ax.partCQ (ql := quiets) (K := sks) (l := [e17575]) (m := [g17046]) mixed quiets_ok sks_ok ⟨o17575, trivial⟩ ⟨h17046, trivial⟩ c16792
theorem h18610 : LOK Tryz.prog g18610 := Ax.partLQ (ql := quiets) (K := sks) (l := []) (m := []) mixed quiets_ok sks_ok trivial trivial c18610
theorem h19407 : LOK Tryz.prog g19407 := Ax.partLQ (ql := quiets) (K := sks) (l := []) (m := []) mixed quiets_ok sks_ok trivial trivial c19407
theorem h20191 : LOK Tryz.prog g20191 := Ax.partLQ (ql := quiets) (K := sks) (l := []) (m := []) mixed quiets_ok sks_ok trivial trivial c20191
theorem o19936 : EntryOK Tryz.prog e19936 := Ax.partCQ (ql := quiets) (K := sks) (l := []) (m := [g20191]) mixed quiets_ok sks_ok trivial ⟨h20191, trivial⟩ c19936
theorem h20979 : LOK Tryz.prog g20979 := Ax.partLQ (ql := quiets) (K := sks) (l := []) (m := []) mixed quiets_ok sks_ok trivial trivial c20979
theorem h21763 : LOK Tryz.prog g21763 := Ax.partLQ (ql := quiets) (K := sks) (l := []) (m := []) mixed quiets_ok sks_ok trivial trivial c21763
theorem h22541 : LOK Tryz.prog g22541 := Ax.partLQ (ql := quiets) (K := sks) (l := []) (m := []) mixed quiets_ok sks_ok trivial trivial c22541
theorem o21508 : EntryOK Tryz.prog e21508 := Ax.partCQ (ql := quiets) (K := sks) (l := []) (m := [g21763, g22541]) mixed quiets_ok sks_ok trivial ⟨h21763, h22541, trivial⟩ c21508
theorem h23321 : LOK Tryz.prog g23321 := Ax.partLQ (ql := quiets) (K := sks) (l := []) (m := []) mixed quiets_ok sks_ok trivial trivial c23321
theorem h24099 : LOK Tryz.prog g24099 := Ax.partLQ (ql := quiets) (K := sks) (l := []) (m := []) mixed quiets_ok sks_ok trivial trivial c24099
theorem o23066 : EntryOK Tryz.prog e23066 := Ax.partCQ (ql := quiets) (K := sks) (l := []) (m := [g23321, g24099]) mixed quiets_ok sks_ok trivial ⟨h23321, h24099, trivial⟩ c23066
theorem h24896 : LOK Tryz.prog g24896 := Ax.partLQ (ql := quiets) (K := sks) (l := []) (m := []) mixed quiets_ok sks_ok trivial trivial c24896
theorem h25680 : LOK Tryz.prog g25680 := Ax.partLQ (ql := quiets) (K := sks) (l := []) (m := []) mixed quiets_ok sks_ok trivial trivial c25680
theorem h26458 : LOK Tryz.prog g26458 := Ax.partLQ (ql := quiets) (K := sks) (l := []) (m := []) mixed quiets_ok sks_ok trivial trivial c26458
theorem o25425 : EntryOK Tryz.prog e25425 := Ax.partCQ (ql := quiets) (K := sks) (l := []) (m := [g25680, g26458]) mixed quiets_ok sks_ok trivial ⟨h25680, h26458, trivial⟩ c25425
theorem h27246 : LOK Tryz.prog g27246 := Ax.partLQ (ql := quiets) (K := sks) (l := []) (m := []) mixed quiets_ok sks_ok trivial trivial c27246
theorem h28030 : LOK Tryz.prog g28030 := Ax.partLQ (ql := quiets) (K := sks) (l := []) (m := []) mixed quiets_ok sks_ok trivial trivial c28030
theorem o26992 : EntryOK Tryz.prog e26992 := Ax.partCQ (ql := quiets) (K := sks) (l := []) (m := [g27246, g28030]) mixed quiets_ok sks_ok trivial ⟨h27246, h28030, trivial⟩ c26992
theorem h28808 : LOK Tryz.prog g28808 := Ax.partLQ (ql := quiets) (K := sks) (l := []) (m := []) mixed quiets_ok sks_ok trivial trivial c28808
theorem h26987 : LOK Tryz.prog g26987 := Ax.partLQ (ql := quiets) (K := sks) (l := [e26992]) (m := [g28808]) mixed quiets_ok sks_ok ⟨o26992, trivial⟩ ⟨h28808, trivial⟩ c26987
theorem h24640 : LOK Tryz.prog g24640 := Ax.partLQ (ql := quiets) (K := sks) (l := [e25425]) (m := [g24896, g26987]) mixed quiets_ok sks_ok ⟨o25425, trivial⟩ ⟨h24896, h26987, trivial⟩ c24640
theorem h20720 : LOK Tryz.prog g20720 := Ax.partLQ (ql := quiets) (K := sks) (l := [e21508, e23066]) (m := [g20979, g24640]) mixed quiets_ok sks_ok ⟨o21508, o23066, trivial⟩ ⟨h20979, h24640, trivial⟩ c20720
theorem h19151 : LOK Tryz.prog g19151 := Ax.partLQ (ql := quiets) (K := sks) (l := [e19936]) (m := [g19407, g20720]) mixed quiets_ok sks_ok ⟨o19936, trivial⟩ ⟨h19407, h20720, trivial⟩ c19151
theorem h29638 : LOK Tryz.prog g29638 := Ax.partLQ (ql := quiets) (K := sks) (l := []) (m := []) mixed quiets_ok sks_ok trivial trivial c29638
theorem h30422 : LOK Tryz.prog g30422 := Ax.partLQ (ql := quiets) (K := sks) (l := []) (m := []) mixed quiets_ok sks_ok trivial trivial c30422
theorem o29384 : EntryOK Tryz.prog e29384 := Ax.partCQ (ql := quiets) (K := sks) (l := []) (m := [g29638, g30422]) mixed quiets_ok sks_ok trivial ⟨h29638, h30422, trivial⟩ c29384

end Go.Proofs.YtkmebhpbfgffbaaGreat.lives
