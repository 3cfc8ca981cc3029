/-
  The parts of the run of viewportlaw17.FreshNames: what each call, and each loop from a state on, gives, for each memory that holds what it looks at. No condition.
-/
import Derived.Test.YtpgmeagnklfiiaaGreatDoorAx9
import Derived.Test.YtpgmeagnklfiiaaGreatDoorKeys
import Derived.Test.YtpgmeagnklfiiaaGreatDoorTabsFreshNames
import Derived.Test.YtpgmeagnklfiiaaGreatDoorProg
import Derived.KernelRfl
import Derived.Test.YtpgmeagnklfiiaaGreatDoorPFreshNames1
import Derived.Test.YtpgmeagnklfiiaaGreatDoorPFreshNames2
import Derived.Test.YtpgmeagnklfiiaaGreatDoorPFreshNames3
import Derived.Test.YtpgmeagnklfiiaaGreatDoorPFreshNames4
import Derived.Test.YtpgmeagnklfiiaaGreatDoorPFreshNames5
import Derived.Test.YtpgmeagnklfiiaaGreatDoorPFreshNames6
import Derived.Test.YtpgmeagnklfiiaaGreatDoorPFreshNames7
import Derived.Test.YtpgmeagnklfiiaaGreatDoorPFreshNames8
import Derived.Test.YtpgmeagnklfiiaaGreatDoorPFreshNames9
import Derived.Test.YtpgmeagnklfiiaaGreatDoorPFreshNames10
import Derived.Test.YtpgmeagnklfiiaaGreatDoorPFreshNames11
import Derived.Test.YtpgmeagnklfiiaaGreatDoorPFreshNames12
import Derived.Test.YtpgmeagnklfiiaaGreatDoorPFreshNames13
import Derived.Test.YtpgmeagnklfiiaaGreatDoorPFreshNames14
import Derived.Test.YtpgmeagnklfiiaaGreatDoorPFreshNames15
import Derived.Test.YtpgmeagnklfiiaaGreatDoorPFreshNames16
set_option linter.unusedSimpArgs false
set_option linter.unusedVariables false
namespace Go.Proofs.YtpgmeagnklfiiaaGreatDoor.freshNames
open Go.Proofs Go.Proofs.YtpgmeagnklfiiaaGreatDoor Ax

theorem h15 : LOK Tryz.prog g15 := Ax.loopU (ql := quiets) (K := sks) (l := []) (m := []) mixed quiets_ok sks_ok trivial trivial c15
theorem h94 : LOK Tryz.prog g94 := Ax.loopU (ql := quiets) (K := sks) (l := []) (m := []) mixed quiets_ok sks_ok trivial trivial c94
theorem o11 : EntryOK Tryz.prog e11 := Ax.partCQ (ql := quiets) (K := sks) (l := []) (m := [g15, g94]) mixed quiets_ok sks_ok trivial ⟨h15, h94, trivial⟩ c11
theorem h156 : LOK Tryz.prog g156 := Ax.loopU (ql := quiets) (K := sks) (l := []) (m := []) mixed quiets_ok sks_ok trivial trivial c156
theorem h183 : LOK Tryz.prog g183 := Ax.loopU (ql := quiets) (K := sks) (l := []) (m := []) mixed quiets_ok sks_ok trivial trivial c183
theorem h369 : LOK Tryz.prog g369 := Ax.loopU (ql := quiets) (K := sks) (l := []) (m := []) mixed quiets_ok sks_ok trivial trivial c369
theorem h368 : LOK Tryz.prog g368 := Ax.loopU (ql := quiets) (K := sks) (l := []) (m := [g369]) mixed quiets_ok sks_ok trivial ⟨h369, trivial⟩ c368
theorem h380 : LOK Tryz.prog g380 := Ax.loopU (ql := quiets) (K := sks) (l := []) (m := []) mixed quiets_ok sks_ok trivial trivial c380
theorem h386 : LOK Tryz.prog g386 := Ax.loopU (ql := quiets) (K := sks) (l := []) (m := []) mixed quiets_ok sks_ok trivial trivial c386
theorem h385 : LOK Tryz.prog g385 := Ax.loopU (ql := quiets) (K := sks) (l := []) (m := [g386]) mixed quiets_ok sks_ok trivial ⟨h386, trivial⟩ c385
theorem h397 : LOK Tryz.prog g397 := Ax.loopU (ql := quiets) (K := sks) (l := []) (m := []) mixed quiets_ok sks_ok trivial trivial c397
theorem h2021 : LOK Tryz.prog g2021 := Ax.partLQ (ql := quiets) (K := sks) (l := []) (m := []) mixed quiets_ok sks_ok trivial trivial c2021
theorem h1589 : LOK Tryz.prog g1589 := Ax.partLQ (ql := quiets) (K := sks) (l := []) (m := [g2021]) mixed quiets_ok sks_ok trivial ⟨h2021, trivial⟩ c1589
theorem h1165 : LOK Tryz.prog g1165 := Ax.partLQ (ql := quiets) (K := sks) (l := []) (m := [g1589]) mixed quiets_ok sks_ok trivial ⟨h1589, trivial⟩ c1165
theorem h733 : LOK Tryz.prog g733 := Ax.partLQ (ql := quiets) (K := sks) (l := []) (m := [g1165]) mixed quiets_ok sks_ok trivial ⟨h1165, trivial⟩ c733
theorem o412 : EntryOK Tryz.prog e412 := Ax.partCQ (ql := quiets) (K := sks) (l := []) (m := [g733]) mixed quiets_ok sks_ok trivial ⟨h733, trivial⟩ c412
theorem h2570 : LOK Tryz.prog g2570 := Ax.partLQ (ql := quiets) (K := sks) (l := []) (m := []) mixed quiets_ok sks_ok trivial trivial c2570
theorem h2869 : LOK Tryz.prog g2869 := Ax.partLQ (ql := quiets) (K := sks) (l := []) (m := []) mixed quiets_ok sks_ok trivial trivial c2869
theorem h3176 : LOK Tryz.prog g3176 := Ax.partLQ (ql := quiets) (K := sks) (l := []) (m := []) mixed quiets_ok sks_ok trivial trivial c3176
theorem h3782 : LOK Tryz.prog g3782 := Ax.partLQ (ql := quiets) (K := sks) (l := []) (m := []) mixed quiets_ok sks_ok trivial trivial c3782
theorem o3440 : EntryOK Tryz.prog e3440 := Ax.partCQ (ql := quiets) (K := sks) (l := []) (m := [g3782]) mixed quiets_ok sks_ok trivial ⟨h3782, trivial⟩ c3440
theorem h4560 : LOK Tryz.prog g4560 := Ax.partLQ (ql := quiets) (K := sks) (l := []) (m := []) mixed quiets_ok sks_ok trivial trivial c4560
theorem h4994 : LOK Tryz.prog g4994 := Ax.partLQ (ql := quiets) (K := sks) (l := []) (m := []) mixed quiets_ok sks_ok trivial trivial c4994
theorem o4217 : EntryOK Tryz.prog e4217 := Ax.partCQ (ql := quiets) (K := sks) (l := []) (m := [g4560, g4994]) mixed quiets_ok sks_ok trivial ⟨h4560, h4994, trivial⟩ c4217
theorem h6119 : LOK Tryz.prog g6119 := Ax.partLQ (ql := quiets) (K := sks) (l := []) (m := []) mixed quiets_ok sks_ok trivial trivial c6119
theorem h5860 : LOK Tryz.prog g5860 := Ax.partLQ (ql := quiets) (K := sks) (l := []) (m := [g6119]) mixed quiets_ok sks_ok trivial ⟨h6119, trivial⟩ c5860
theorem h6899 : LOK Tryz.prog g6899 := Ax.partLQ (ql := quiets) (K := sks) (l := []) (m := []) mixed quiets_ok sks_ok trivial trivial c6899
theorem h6640 : LOK Tryz.prog g6640 := Ax.partLQ (ql := quiets) (K := sks) (l := []) (m := [g6899]) mixed quiets_ok sks_ok trivial ⟨h6899, trivial⟩ c6640
theorem h6379 : LOK Tryz.prog g6379 := Ax.partLQ (ql := quiets) (K := sks) (l := []) (m := [g6640]) mixed quiets_ok sks_ok trivial ⟨h6640, trivial⟩ c6379
theorem h7161 : LOK Tryz.prog g7161 := Ax.partLQ (ql := quiets) (K := sks) (l := []) (m := []) mixed quiets_ok sks_ok trivial trivial c7161
theorem h7677 : LOK Tryz.prog g7677 := Ax.partLQ (ql := quiets) (K := sks) (l := []) (m := []) mixed quiets_ok sks_ok trivial trivial c7677
theorem h7159 : LOK Tryz.prog g7159 := Ax.partLQ (ql := quiets) (K := sks) (l := []) (m := [g7161, g7677]) mixed quiets_ok sks_ok trivial ⟨h7161, h7677, trivial⟩ c7159
theorem o3439 : EntryOK Tryz.prog e3439 := Ax.partCQ (ql := quiets) (K := sks) (l := [e3440, e4217]) (m := [g5860, g6379, g7159]) mixed quiets_ok sks_ok ⟨o3440, o4217, trivial⟩ ⟨h5860, h6379, h7159, trivial⟩ c3439
theorem o235 : EntryOK Tryz.prog e235 := Ax.partCQ (ql := quiets) (K := sks) (l := [e412, e3439]) (m := [g368, g380, g385, g397, g2570, g2869, g3176]) mixed quiets_ok sks_ok ⟨o412, o3439, trivial⟩ ⟨h368, h380, h385, h397, h2570, h2869, h3176, trivial⟩ c235
theorem o8460 : EntryOK Tryz.prog e8460 := Ax.partCQ (ql := quiets) (K := sks) (l := []) (m := []) mixed quiets_ok sks_ok trivial trivial c8460
theorem o8109 : EntryOK Tryz.prog e8109 := Ax.partCQ (ql := quiets) (K := sks) (l := [e8460]) (m := []) mixed quiets_ok sks_ok ⟨o8460, trivial⟩ trivial c8109
theorem o9594 : EntryOK Tryz.prog e9594 := Ax.partCQ (ql := quiets) (K := sks) (l := []) (m := []) mixed quiets_ok sks_ok trivial trivial c9594
theorem o9243 : EntryOK Tryz.prog e9243 := Ax.partCQ (ql := quiets) (K := sks) (l := [e9594]) (m := []) mixed quiets_ok sks_ok ⟨o9594, trivial⟩ trivial c9243
theorem o9068 : EntryOK Tryz.prog e9068 := Ax.partCQ (ql := quiets) (K := sks) (l := [e9243]) (m := []) mixed quiets_ok sks_ok ⟨o9243, trivial⟩ trivial c9068
theorem o10668 : EntryOK Tryz.prog e10668 := Ax.partCQ (ql := quiets) (K := sks) (l := []) (m := []) mixed quiets_ok sks_ok trivial trivial c10668
theorem o10318 : EntryOK Tryz.prog e10318 := Ax.partCQ (ql := quiets) (K := sks) (l := [e10668]) (m := []) mixed quiets_ok sks_ok ⟨o10668, trivial⟩ trivial c10318
theorem o11282 : EntryOK Tryz.prog e11282 := Ax.partCQ (ql := quiets) (K := sks) (l := []) (m := []) mixed quiets_ok sks_ok trivial trivial c11282
theorem o2 : EntryOK Tryz.prog e2 := Ax.partCQ (ql := quiets) (K := sks) (l := [e11, e235, e8109, e9068, e10318, e11282]) (m := [g156, g183]) mixed quiets_ok sks_ok ⟨o11, o235, o8109, o9068, o10318, o11282, trivial⟩ ⟨h156, h183, trivial⟩ c2
theorem o11751 : EntryOK Tryz.prog e11751 := o2.up c11751
theorem h23880 : LOK Tryz.prog g23880 := Ax.partLQ (ql := quiets) (K := sks) (l := []) (m := []) mixed quiets_ok sks_ok trivial trivial c23880
theorem o23535 : EntryOK Tryz.prog e23535 := Ax.partCQ (ql := quiets) (K := sks) (l := []) (m := [g23880]) mixed quiets_ok sks_ok trivial ⟨h23880, trivial⟩ c23535
theorem h24669 : LOK Tryz.prog g24669 := Ax.partLQ (ql := quiets) (K := sks) (l := []) (m := []) mixed quiets_ok sks_ok trivial trivial c24669
theorem o24326 : EntryOK Tryz.prog e24326 := Ax.partCQ (ql := quiets) (K := sks) (l := []) (m := [g24669]) mixed quiets_ok sks_ok trivial ⟨h24669, trivial⟩ c24326
theorem h25136 : LOK Tryz.prog g25136 := Ax.partLQ (ql := quiets) (K := sks) (l := []) (m := []) mixed quiets_ok sks_ok trivial trivial c25136
theorem o23499 : EntryOK Tryz.prog e23499 := Ax.partCQ (ql := quiets) (K := sks) (l := [e23535, e24326]) (m := [g25136]) mixed quiets_ok sks_ok ⟨o23535, o24326, trivial⟩ ⟨h25136, trivial⟩ c23499
theorem h25842 : LOK Tryz.prog g25842 := Ax.partLQ (ql := quiets) (K := sks) (l := []) (m := []) mixed quiets_ok sks_ok trivial trivial c25842
theorem o25497 : EntryOK Tryz.prog e25497 := Ax.partCQ (ql := quiets) (K := sks) (l := []) (m := [g25842]) mixed quiets_ok sks_ok trivial ⟨h25842, trivial⟩ c25497
theorem o26288 : EntryOK Tryz.prog e26288 := o24326.up c26288
theorem o25461 : EntryOK Tryz.prog e25461 := Ax.partCQ (ql := quiets) (K := sks) (l := [e25497, e26288]) (m := []) mixed quiets_ok sks_ok ⟨o25497, o26288, trivial⟩ trivial c25461
theorem o27252 : EntryOK Tryz.prog e27252 := o11.up c27252
theorem h27397 : LOK Tryz.prog g27397 := Ax.loopU (ql := quiets) (K := sks) (l := []) (m := []) mixed quiets_ok sks_ok trivial trivial c27397
theorem h27424 : LOK Tryz.prog g27424 := Ax.loopU (ql := quiets) (K := sks) (l := []) (m := []) mixed quiets_ok sks_ok trivial trivial c27424
theorem o27476 : EntryOK Tryz.prog e27476 := o235.up c27476
theorem o35832 : EntryOK Tryz.prog e35832 := Ax.partCQ (ql := quiets) (K := sks) (l := []) (m := []) mixed quiets_ok sks_ok trivial trivial c35832
theorem o35434 : EntryOK Tryz.prog e35434 := Ax.partCQ (ql := quiets) (K := sks) (l := [e35832]) (m := []) mixed quiets_ok sks_ok ⟨o35832, trivial⟩ trivial c35434
theorem o27245 : EntryOK Tryz.prog e27245 := Ax.partCQ (ql := quiets) (K := sks) (l := [e27252, e27476, e35434]) (m := [g27397, g27424]) mixed quiets_ok sks_ok ⟨o27252, o27476, o35434, trivial⟩ ⟨h27397, h27424, trivial⟩ c27245
theorem h36923 : LOK Tryz.prog g36923 := Ax.partLQ (ql := quiets) (K := sks) (l := []) (m := []) mixed quiets_ok sks_ok trivial trivial c36923
theorem o36578 : EntryOK Tryz.prog e36578 := Ax.partCQ (ql := quiets) (K := sks) (l := []) (m := [g36923]) mixed quiets_ok sks_ok trivial ⟨h36923, trivial⟩ c36578
theorem o37369 : EntryOK Tryz.prog e37369 := o24326.up c37369
theorem o36552 : EntryOK Tryz.prog e36552 := Ax.partCQ (ql := quiets) (K := sks) (l := [e36578, e37369]) (m := []) mixed quiets_ok sks_ok ⟨o36578, o37369, trivial⟩ trivial c36552
theorem h38739 : LOK Tryz.prog g38739 := Ax.partLQ (ql := quiets) (K := sks) (l := []) (m := []) mixed quiets_ok sks_ok trivial trivial c38739
theorem h39526 : LOK Tryz.prog g39526 := Ax.partLQ (ql := quiets) (K := sks) (l := []) (m := []) mixed quiets_ok sks_ok trivial trivial c39526
theorem h40314 : LOK Tryz.prog g40314 := Ax.partLQ (ql := quiets) (K := sks) (l := []) (m := []) mixed quiets_ok sks_ok trivial trivial c40314
theorem h39969 : LOK Tryz.prog g39969 := Ax.partLQ (ql := quiets) (K := sks) (l := []) (m := [g40314]) mixed quiets_ok sks_ok trivial ⟨h40314, trivial⟩ c39969
theorem o39180 : EntryOK Tryz.prog e39180 := Ax.partCQ (ql := quiets) (K := sks) (l := []) (m := [g39526, g39969]) mixed quiets_ok sks_ok trivial ⟨h39526, h39969, trivial⟩ c39180
theorem o38391 : EntryOK Tryz.prog e38391 := Ax.partCQ (ql := quiets) (K := sks) (l := [e39180]) (m := [g38739]) mixed quiets_ok sks_ok ⟨o39180, trivial⟩ ⟨h38739, trivial⟩ c38391
theorem h41138 : LOK Tryz.prog g41138 := Ax.partLQ (ql := quiets) (K := sks) (l := []) (m := []) mixed quiets_ok sks_ok trivial trivial c41138
theorem o40793 : EntryOK Tryz.prog e40793 := Ax.partCQ (ql := quiets) (K := sks) (l := []) (m := [g41138]) mixed quiets_ok sks_ok trivial ⟨h41138, trivial⟩ c40793
theorem o41584 : EntryOK Tryz.prog e41584 := o24326.up c41584
theorem o40757 : EntryOK Tryz.prog e40757 := Ax.partCQ (ql := quiets) (K := sks) (l := [e40793, e41584]) (m := []) mixed quiets_ok sks_ok ⟨o40793, o41584, trivial⟩ trivial c40757
theorem o42632 : EntryOK Tryz.prog e42632 := o11.up c42632
theorem h42777 : LOK Tryz.prog g42777 := Ax.loopU (ql := quiets) (K := sks) (l := []) (m := []) mixed quiets_ok sks_ok trivial trivial c42777
theorem h42804 : LOK Tryz.prog g42804 := Ax.loopU (ql := quiets) (K := sks) (l := []) (m := []) mixed quiets_ok sks_ok trivial trivial c42804
theorem o42856 : EntryOK Tryz.prog e42856 := o235.up c42856
theorem o51169 : EntryOK Tryz.prog e51169 := Ax.partCQ (ql := quiets) (K := sks) (l := []) (m := []) mixed quiets_ok sks_ok trivial trivial c51169
theorem o50802 : EntryOK Tryz.prog e50802 := Ax.partCQ (ql := quiets) (K := sks) (l := [e51169]) (m := []) mixed quiets_ok sks_ok ⟨o51169, trivial⟩ trivial c50802
theorem o52477 : EntryOK Tryz.prog e52477 := Ax.partCQ (ql := quiets) (K := sks) (l := []) (m := []) mixed quiets_ok sks_ok trivial trivial c52477
theorem o52110 : EntryOK Tryz.prog e52110 := Ax.partCQ (ql := quiets) (K := sks) (l := [e52477]) (m := []) mixed quiets_ok sks_ok ⟨o52477, trivial⟩ trivial c52110
theorem o51863 : EntryOK Tryz.prog e51863 := Ax.partCQ (ql := quiets) (K := sks) (l := [e52110]) (m := []) mixed quiets_ok sks_ok ⟨o52110, trivial⟩ trivial c51863
theorem o53710 : EntryOK Tryz.prog e53710 := Ax.partCQ (ql := quiets) (K := sks) (l := []) (m := []) mixed quiets_ok sks_ok trivial trivial c53710
theorem o53344 : EntryOK Tryz.prog e53344 := Ax.partCQ (ql := quiets) (K := sks) (l := [e53710]) (m := []) mixed quiets_ok sks_ok ⟨o53710, trivial⟩ trivial c53344
theorem o54410 : EntryOK Tryz.prog e54410 := Ax.partCQ (ql := quiets) (K := sks) (l := []) (m := []) mixed quiets_ok sks_ok trivial trivial c54410
theorem o42625 : EntryOK Tryz.prog e42625 := Ax.partCQ (ql := quiets) (K := sks) (l := [e42632, e42856, e50802, e51863, e53344, e54410]) (m := [g42777, g42804]) mixed quiets_ok sks_ok ⟨o42632, o42856, o50802, o51863, o53344, o54410, trivial⟩ ⟨h42777, h42804, trivial⟩ c42625
theorem h55314 : LOK Tryz.prog g55314 := Ax.partLQ (ql := quiets) (K := sks) (l := []) (m := []) mixed quiets_ok sks_ok trivial trivial c55314
theorem o54969 : EntryOK Tryz.prog e54969 := Ax.partCQ (ql := quiets) (K := sks) (l := []) (m := [g55314]) mixed quiets_ok sks_ok trivial ⟨h55314, trivial⟩ c54969
theorem o55760 : EntryOK Tryz.prog e55760 := o24326.up c55760
theorem o54933 : EntryOK Tryz.prog e54933 := Ax.partCQ (ql := quiets) (K := sks) (l := [e54969, e55760]) (m := []) mixed quiets_ok sks_ok ⟨o54969, o55760, trivial⟩ trivial c54933

end Go.Proofs.YtpgmeagnklfiiaaGreatDoor.freshNames
