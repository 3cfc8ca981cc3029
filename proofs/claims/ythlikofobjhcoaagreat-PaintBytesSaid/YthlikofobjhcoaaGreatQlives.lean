/-
  The parts of the run of viewportlaw28.lives: what each call, and each loop from a state on, gives, for each memory that holds what it looks at. No condition.
-/
import Derived.Test.YthlikofobjhcoaaGreatAx9
import Derived.Test.YthlikofobjhcoaaGreatKeys
import Derived.Test.YthlikofobjhcoaaGreatTabs0
import Derived.Test.YthlikofobjhcoaaGreatProg
import Derived.KernelRfl
import Derived.Test.YthlikofobjhcoaaGreatPlives1
import Derived.Test.YthlikofobjhcoaaGreatPlives2
import Derived.Test.YthlikofobjhcoaaGreatPlives3
import Derived.Test.YthlikofobjhcoaaGreatPlives4
import Derived.Test.YthlikofobjhcoaaGreatPlives5
import Derived.Test.YthlikofobjhcoaaGreatPlives6
import Derived.Test.YthlikofobjhcoaaGreatPlives7
import Derived.Test.YthlikofobjhcoaaGreatPlives8
import Derived.Test.YthlikofobjhcoaaGreatPlives9
import Derived.Test.YthlikofobjhcoaaGreatPlives10
import Derived.Test.YthlikofobjhcoaaGreatPlives11
import Derived.Test.YthlikofobjhcoaaGreatPlives12
import Derived.Test.YthlikofobjhcoaaGreatPlives13
import Derived.Test.YthlikofobjhcoaaGreatPlives14
import Derived.Test.YthlikofobjhcoaaGreatPlives15
import Derived.Test.YthlikofobjhcoaaGreatPlives16
import Derived.Test.YthlikofobjhcoaaGreatPlives17
import Derived.Test.YthlikofobjhcoaaGreatPlives18
import Derived.Test.YthlikofobjhcoaaGreatPlives19
import Derived.Test.YthlikofobjhcoaaGreatPlives20
import Derived.Test.YthlikofobjhcoaaGreatPlives21
import Derived.Test.YthlikofobjhcoaaGreatPlives22
import Derived.Test.YthlikofobjhcoaaGreatPlives23
import Derived.Test.YthlikofobjhcoaaGreatPlives24
import Derived.Test.YthlikofobjhcoaaGreatPlives25
import Derived.Test.YthlikofobjhcoaaGreatPlives26
import Derived.Test.YthlikofobjhcoaaGreatPlives27
import Derived.Test.YthlikofobjhcoaaGreatPlives28
import Derived.Test.YthlikofobjhcoaaGreatPlives29
import Derived.Test.YthlikofobjhcoaaGreatPlives30
import Derived.Test.YthlikofobjhcoaaGreatPlives31
import Derived.Test.YthlikofobjhcoaaGreatPlives32
import Derived.Test.YthlikofobjhcoaaGreatPlives33
import Derived.Test.YthlikofobjhcoaaGreatPlives34
import Derived.Test.YthlikofobjhcoaaGreatPlives35
set_option linter.unusedSimpArgs false
set_option linter.unusedVariables false
namespace Go.Proofs.YthlikofobjhcoaaGreat.lives
open Go.Proofs Go.Proofs.YthlikofobjhcoaaGreat Ax

theorem h3096:LOK Tryz.prog g3096:=Ax.partLQ (ql:=qh_) (K:=sks) (l:=[]) (m:=[]) mixed qe_ qb5_ trivial trivial c3096
theorem h2459:LOK Tryz.prog g2459:=Ax.partLQ (ql:=qh_) (K:=sks) (l:=[]) (m:=[g3096]) mixed qe_ qb5_ trivial ⟨h3096,trivial⟩ c2459
theorem h1828:LOK Tryz.prog g1828:=Ax.partLQ (ql:=qh_) (K:=sks) (l:=[]) (m:=[g2459]) mixed qe_ qb5_ trivial ⟨h2459,trivial⟩ c1828
theorem h1208:LOK Tryz.prog g1208:=Ax.partLQ (ql:=qh_) (K:=sks) (l:=[]) (m:=[g1828]) mixed qe_ qb5_ trivial ⟨h1828,trivial⟩ c1208
theorem h565:LOK Tryz.prog g565:=Ax.partLQ (ql:=qh_) (K:=sks) (l:=[]) (m:=[g1208]) mixed qe_ qb5_ trivial ⟨h1208,trivial⟩ c565
theorem h5897:LOK Tryz.prog g5897:=Ax.partLQ (ql:=qh_) (K:=sks) (l:=[]) (m:=[]) mixed qe_ qb5_ trivial trivial c5897
theorem h5248:LOK Tryz.prog g5248:=Ax.partLQ (ql:=qh_) (K:=sks) (l:=[]) (m:=[g5897]) mixed qe_ qb5_ trivial ⟨h5897,trivial⟩ c5248
theorem h4599:LOK Tryz.prog g4599:=Ax.partLQ (ql:=qh_) (K:=sks) (l:=[]) (m:=[g5248]) mixed qe_ qb5_ trivial ⟨h5248,trivial⟩ c4599
theorem h3947:LOK Tryz.prog g3947:=Ax.partLQ (ql:=qh_) (K:=sks) (l:=[]) (m:=[g4599]) mixed qe_ qb5_ trivial ⟨h4599,trivial⟩ c3947
theorem h8796:LOK Tryz.prog g8796:=Ax.partLQ (ql:=qh_) (K:=sks) (l:=[]) (m:=[]) mixed qe_ qb5_ trivial trivial c8796
theorem h8147:LOK Tryz.prog g8147:=Ax.partLQ (ql:=qh_) (K:=sks) (l:=[]) (m:=[g8796]) mixed qe_ qb5_ trivial ⟨h8796,trivial⟩ c8147
theorem h7530:LOK Tryz.prog g7530:=Ax.partLQ (ql:=qh_) (K:=sks) (l:=[]) (m:=[g8147]) mixed qe_ qb5_ trivial ⟨h8147,trivial⟩ c7530
theorem h6881:LOK Tryz.prog g6881:=Ax.partLQ (ql:=qh_) (K:=sks) (l:=[]) (m:=[g7530]) mixed qe_ qb5_ trivial ⟨h7530,trivial⟩ c6881
theorem h3734:LOK Tryz.prog g3734:=Ax.partLQ (ql:=qh_) (K:=sks) (l:=[]) (m:=[g3947,g6881]) mixed qe_ qb5_ trivial ⟨h3947,h6881,trivial⟩ c3734
theorem h9854:LOK Tryz.prog g9854:=Ax.partLQ (ql:=qh_) (K:=sks) (l:=[]) (m:=[]) mixed qe_ qb5_ trivial trivial c9854
theorem h9480:LOK Tryz.prog g9480:=Ax.partLQ (ql:=qh_) (K:=sks) (l:=[]) (m:=[g9854]) mixed qe_ qb5_ trivial ⟨h9854,trivial⟩ c9480
theorem h10548:LOK Tryz.prog g10548:=Ax.partLQ (ql:=qh_) (K:=sks) (l:=[]) (m:=[]) mixed qe_ qb5_ trivial trivial c10548
theorem h11038:LOK Tryz.prog g11038:=Ax.partLQ (ql:=qh_) (K:=sks) (l:=[]) (m:=[]) mixed qe_ qb5_ trivial trivial c11038
theorem h11576:LOK Tryz.prog g11576:=Ax.partLQ (ql:=qh_) (K:=sks) (l:=[]) (m:=[]) mixed qe_ qb5_ trivial trivial c11576
theorem h10895:LOK Tryz.prog g10895:=Ax.partLQ (ql:=qh_) (K:=sks) (l:=[]) (m:=[g11038,g11576]) mixed qe_ qb5_ trivial ⟨h11038,h11576,trivial⟩ c10895
theorem o9458:qh1_ Tryz.prog e9458:=Ax.partCQ (ql:=qh_) (K:=sks) (l:=[]) (m:=[g9480,g10548,g10895]) mixed qe_ qb5_ trivial ⟨h9480,h10548,h10895,trivial⟩ c9458
theorem o4:qh1_ Tryz.prog e4:=Ax.partCQ (ql:=qh_) (K:=sks) (l:=[e9458]) (m:=[g565,g3734]) mixed qe_ qb5_ ⟨o9458,trivial⟩ ⟨h565,h3734,trivial⟩ c4
theorem o11924:qh1_ Tryz.prog e11924:=Ax.partCQ (ql:=qh_) (K:=sks) (l:=[]) (m:=[]) mixed qe_ qb5_ trivial trivial c11924
theorem o12496:qh1_ Tryz.prog e12496:=Ax.partCQ (ql:=qh_) (K:=sks) (l:=[]) (m:=[]) mixed qe_ qb5_ trivial trivial c12496
theorem o13086:qh1_ Tryz.prog e13086:=Ax.partCQ (ql:=qh_) (K:=sks) (l:=[]) (m:=[]) mixed qe_ qb5_ trivial trivial c13086
theorem o13711:qh1_ Tryz.prog e13711:=Ax.partCQ (ql:=qh_) (K:=sks) (l:=[]) (m:=[]) mixed qe_ qb5_ trivial trivial c13711
theorem o14301:qh1_ Tryz.prog e14301:=Ax.partCQ (ql:=qh_) (K:=sks) (l:=[]) (m:=[]) mixed qe_ qb5_ trivial trivial c14301
theorem o14921:qh1_ Tryz.prog e14921:=Ax.partCQ (ql:=qh_) (K:=sks) (l:=[]) (m:=[]) mixed qe_ qb5_ trivial trivial c14921
theorem o15577:qh1_ Tryz.prog e15577:=Ax.partCQ (ql:=qh_) (K:=sks) (l:=[]) (m:=[]) mixed qe_ qb5_ trivial trivial c15577
theorem o16167:qh1_ Tryz.prog e16167:=Ax.partCQ (ql:=qh_) (K:=sks) (l:=[]) (m:=[]) mixed qe_ qb5_ trivial trivial c16167
theorem o3:qh1_ Tryz.prog e3:=Ax.partCQ (ql:=qh_) (K:=sks) (l:=[e4,e11924,e12496,e13086,e13711,e14301,e14921,e15577,e16167]) (m:=[]) mixed qe_ qb5_ ⟨o4,o11924,o12496,o13086,o13711,o14301,o14921,o15577,o16167,trivial⟩ trivial c3
theorem h17188:LOK Tryz.prog g17188:=Ax.partLQ (ql:=qh_) (K:=sks) (l:=[]) (m:=[]) mixed qe_ qb5_ trivial trivial c17188
theorem h16814:LOK Tryz.prog g16814:=Ax.partLQ (ql:=qh_) (K:=sks) (l:=[]) (m:=[g17188]) mixed qe_ qb5_ trivial ⟨h17188,trivial⟩ c16814
theorem h17972:LOK Tryz.prog g17972:=Ax.partLQ (ql:=qh_) (K:=sks) (l:=[]) (m:=[]) mixed qe_ qb5_ trivial trivial c17972
theorem h17598:LOK Tryz.prog g17598:=Ax.partLQ (ql:=qh_) (K:=sks) (l:=[]) (m:=[g17972]) mixed qe_ qb5_ trivial ⟨h17972,trivial⟩ c17598
theorem h18752:LOK Tryz.prog g18752:=Ax.partLQ (ql:=qh_) (K:=sks) (l:=[]) (m:=[]) mixed qe_ qb5_ trivial trivial c18752
theorem h18378:LOK Tryz.prog g18378:=Ax.partLQ (ql:=qh_) (K:=sks) (l:=[]) (m:=[g18752]) mixed qe_ qb5_ trivial ⟨h18752,trivial⟩ c18378
theorem h19549:LOK Tryz.prog g19549:=Ax.partLQ (ql:=qh_) (K:=sks) (l:=[]) (m:=[]) mixed qe_ qb5_ trivial trivial c19549
theorem h19175:LOK Tryz.prog g19175:=Ax.partLQ (ql:=qh_) (K:=sks) (l:=[]) (m:=[g19549]) mixed qe_ qb5_ trivial ⟨h19549,trivial⟩ c19175
theorem h20333:LOK Tryz.prog g20333:=Ax.partLQ (ql:=qh_) (K:=sks) (l:=[]) (m:=[]) mixed qe_ qb5_ trivial trivial c20333
theorem h19959:LOK Tryz.prog g19959:=Ax.partLQ (ql:=qh_) (K:=sks) (l:=[]) (m:=[g20333]) mixed qe_ qb5_ trivial ⟨h20333,trivial⟩ c19959
theorem h21121:LOK Tryz.prog g21121:=Ax.partLQ (ql:=qh_) (K:=sks) (l:=[]) (m:=[]) mixed qe_ qb5_ trivial trivial c21121
theorem h20747:LOK Tryz.prog g20747:=Ax.partLQ (ql:=qh_) (K:=sks) (l:=[]) (m:=[g21121]) mixed qe_ qb5_ trivial ⟨h21121,trivial⟩ c20747
theorem h21905:LOK Tryz.prog g21905:=Ax.partLQ (ql:=qh_) (K:=sks) (l:=[]) (m:=[]) mixed qe_ qb5_ trivial trivial c21905
theorem h21531:LOK Tryz.prog g21531:=Ax.partLQ (ql:=qh_) (K:=sks) (l:=[]) (m:=[g21905]) mixed qe_ qb5_ trivial ⟨h21905,trivial⟩ c21531
theorem h22683:LOK Tryz.prog g22683:=Ax.partLQ (ql:=qh_) (K:=sks) (l:=[]) (m:=[]) mixed qe_ qb5_ trivial trivial c22683
theorem h22309:LOK Tryz.prog g22309:=Ax.partLQ (ql:=qh_) (K:=sks) (l:=[]) (m:=[g22683]) mixed qe_ qb5_ trivial ⟨h22683,trivial⟩ c22309
theorem h23463:LOK Tryz.prog g23463:=Ax.partLQ (ql:=qh_) (K:=sks) (l:=[]) (m:=[]) mixed qe_ qb5_ trivial trivial c23463
theorem h23089:LOK Tryz.prog g23089:=Ax.partLQ (ql:=qh_) (K:=sks) (l:=[]) (m:=[g23463]) mixed qe_ qb5_ trivial ⟨h23463,trivial⟩ c23089
theorem h24241:LOK Tryz.prog g24241:=Ax.partLQ (ql:=qh_) (K:=sks) (l:=[]) (m:=[]) mixed qe_ qb5_ trivial trivial c24241
theorem h23867:LOK Tryz.prog g23867:=Ax.partLQ (ql:=qh_) (K:=sks) (l:=[]) (m:=[g24241]) mixed qe_ qb5_ trivial ⟨h24241,trivial⟩ c23867
theorem h25038:LOK Tryz.prog g25038:=Ax.partLQ (ql:=qh_) (K:=sks) (l:=[]) (m:=[]) mixed qe_ qb5_ trivial trivial c25038
theorem h24664:LOK Tryz.prog g24664:=Ax.partLQ (ql:=qh_) (K:=sks) (l:=[]) (m:=[g25038]) mixed qe_ qb5_ trivial ⟨h25038,trivial⟩ c24664
theorem h25822:LOK Tryz.prog g25822:=Ax.partLQ (ql:=qh_) (K:=sks) (l:=[]) (m:=[]) mixed qe_ qb5_ trivial trivial c25822
theorem h25448:LOK Tryz.prog g25448:=Ax.partLQ (ql:=qh_) (K:=sks) (l:=[]) (m:=[g25822]) mixed qe_ qb5_ trivial ⟨h25822,trivial⟩ c25448
theorem h26600:LOK Tryz.prog g26600:=Ax.partLQ (ql:=qh_) (K:=sks) (l:=[]) (m:=[]) mixed qe_ qb5_ trivial trivial c26600
theorem h26226:LOK Tryz.prog g26226:=Ax.partLQ (ql:=qh_) (K:=sks) (l:=[]) (m:=[g26600]) mixed qe_ qb5_ trivial ⟨h26600,trivial⟩ c26226
theorem h27388:LOK Tryz.prog g27388:=Ax.partLQ (ql:=qh_) (K:=sks) (l:=[]) (m:=[]) mixed qe_ qb5_ trivial trivial c27388
theorem h27014:LOK Tryz.prog g27014:=Ax.partLQ (ql:=qh_) (K:=sks) (l:=[]) (m:=[g27388]) mixed qe_ qb5_ trivial ⟨h27388,trivial⟩ c27014
theorem h28172:LOK Tryz.prog g28172:=Ax.partLQ (ql:=qh_) (K:=sks) (l:=[]) (m:=[]) mixed qe_ qb5_ trivial trivial c28172
theorem h27798:LOK Tryz.prog g27798:=Ax.partLQ (ql:=qh_) (K:=sks) (l:=[]) (m:=[g28172]) mixed qe_ qb5_ trivial ⟨h28172,trivial⟩ c27798
theorem h28950:LOK Tryz.prog g28950:=Ax.partLQ (ql:=qh_) (K:=sks) (l:=[]) (m:=[]) mixed qe_ qb5_ trivial trivial c28950
theorem h28576:LOK Tryz.prog g28576:=Ax.partLQ (ql:=qh_) (K:=sks) (l:=[]) (m:=[g28950]) mixed qe_ qb5_ trivial ⟨h28950,trivial⟩ c28576
theorem o20720:qh1_ Tryz.prog e20720:=Ax.partCQ (ql:=qh_) (K:=sks) (l:=[]) (m:=[g20747,g21531,g22309,g23089,g23867,g24664,g25448,g26226,g27014,g27798,g28576]) mixed qe_ qb5_ trivial ⟨h20747,h21531,h22309,h23089,h23867,h24664,h25448,h26226,h27014,h27798,h28576,trivial⟩ c20720
theorem h29780:LOK Tryz.prog g29780:=Ax.partLQ (ql:=qh_) (K:=sks) (l:=[]) (m:=[]) mixed qe_ qb5_ trivial trivial c29780
theorem h29406:LOK Tryz.prog g29406:=Ax.partLQ (ql:=qh_) (K:=sks) (l:=[]) (m:=[g29780]) mixed qe_ qb5_ trivial ⟨h29780,trivial⟩ c29406
theorem h30564:LOK Tryz.prog g30564:=Ax.partLQ (ql:=qh_) (K:=sks) (l:=[]) (m:=[]) mixed qe_ qb5_ trivial trivial c30564
theorem h30190:LOK Tryz.prog g30190:=Ax.partLQ (ql:=qh_) (K:=sks) (l:=[]) (m:=[g30564]) mixed qe_ qb5_ trivial ⟨h30564,trivial⟩ c30190
theorem o16787:qh1_ Tryz.prog e16787:=Ax.partCQ (ql:=qh_) (K:=sks) (l:=[e20720]) (m:=[g16814,g17598,g18378,g19175,g19959,g29406,g30190]) mixed qe_ qb5_ ⟨o20720,trivial⟩ ⟨h16814,h17598,h18378,h19175,h19959,h29406,h30190,trivial⟩ c16787
theorem h31147:LOK Tryz.prog g31147:=Ax.partLQ (ql:=qh_) (K:=sks) (l:=[]) (m:=[]) mixed qe_ qb5_ trivial trivial c31147
theorem o30948:qh1_ Tryz.prog e30948:=Ax.partCQ (ql:=qh_) (K:=sks) (l:=[]) (m:=[g31147]) mixed qe_ qb5_ trivial ⟨h31147,trivial⟩ c30948

end Go.Proofs.YthlikofobjhcoaaGreat.lives
