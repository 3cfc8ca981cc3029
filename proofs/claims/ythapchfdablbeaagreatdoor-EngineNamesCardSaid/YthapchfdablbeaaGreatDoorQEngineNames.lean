/-
  The parts of the run of viewportlaw27.EngineNames: what each call, and each loop from a state on, gives, for each memory that holds what it looks at. No condition.
-/
import Derived.Test.YthapchfdablbeaaGreatDoorAx9
import Derived.Test.YthapchfdablbeaaGreatDoorKeys
import Derived.Test.YthapchfdablbeaaGreatDoorTabsEngineNames
import Derived.Test.YthapchfdablbeaaGreatDoorProg
import Derived.KernelRfl
import Derived.Test.YthapchfdablbeaaGreatDoorPEngineNames1
import Derived.Test.YthapchfdablbeaaGreatDoorPEngineNames2
import Derived.Test.YthapchfdablbeaaGreatDoorPEngineNames3
import Derived.Test.YthapchfdablbeaaGreatDoorPEngineNames4
import Derived.Test.YthapchfdablbeaaGreatDoorPEngineNames5
import Derived.Test.YthapchfdablbeaaGreatDoorPEngineNames6
import Derived.Test.YthapchfdablbeaaGreatDoorPEngineNames7
import Derived.Test.YthapchfdablbeaaGreatDoorPEngineNames8
import Derived.Test.YthapchfdablbeaaGreatDoorPEngineNames9
import Derived.Test.YthapchfdablbeaaGreatDoorPEngineNames10
import Derived.Test.YthapchfdablbeaaGreatDoorPEngineNames11
import Derived.Test.YthapchfdablbeaaGreatDoorPEngineNames12
import Derived.Test.YthapchfdablbeaaGreatDoorPEngineNames13
import Derived.Test.YthapchfdablbeaaGreatDoorPEngineNames14
import Derived.Test.YthapchfdablbeaaGreatDoorPEngineNames15
import Derived.Test.YthapchfdablbeaaGreatDoorPEngineNames16
import Derived.Test.YthapchfdablbeaaGreatDoorPEngineNames17
import Derived.Test.YthapchfdablbeaaGreatDoorPEngineNames18
import Derived.Test.YthapchfdablbeaaGreatDoorPEngineNames19
import Derived.Test.YthapchfdablbeaaGreatDoorPEngineNames20
import Derived.Test.YthapchfdablbeaaGreatDoorPEngineNames21
import Derived.Test.YthapchfdablbeaaGreatDoorPEngineNames22
import Derived.Test.YthapchfdablbeaaGreatDoorPEngineNames23
import Derived.Test.YthapchfdablbeaaGreatDoorPEngineNames24
import Derived.Test.YthapchfdablbeaaGreatDoorPEngineNames25
import Derived.Test.YthapchfdablbeaaGreatDoorPEngineNames26
import Derived.Test.YthapchfdablbeaaGreatDoorPEngineNames27
import Derived.Test.YthapchfdablbeaaGreatDoorPEngineNames28
import Derived.Test.YthapchfdablbeaaGreatDoorPEngineNames29
import Derived.Test.YthapchfdablbeaaGreatDoorPEngineNames30
import Derived.Test.YthapchfdablbeaaGreatDoorPEngineNames31
import Derived.Test.YthapchfdablbeaaGreatDoorPEngineNames32
import Derived.Test.YthapchfdablbeaaGreatDoorPEngineNames33
import Derived.Test.YthapchfdablbeaaGreatDoorPEngineNames34
set_option linter.unusedSimpArgs false
set_option linter.unusedVariables false
namespace Go.Proofs.YthapchfdablbeaaGreatDoor.engineNames
open Go.Proofs Go.Proofs.YthapchfdablbeaaGreatDoor Ax

theorem h21 : LOK Tryz.prog g21 := Ax.loopU (ql := quiets) (K := sks) (l := []) (m := []) mixed quiets_ok sks_ok trivial trivial c21
theorem h100 : LOK Tryz.prog g100 := Ax.loopU (ql := quiets) (K := sks) (l := []) (m := []) mixed quiets_ok sks_ok trivial trivial c100
theorem o17 : EntryOK Tryz.prog e17 := Ax.partCQ (ql := quiets) (K := sks) (l := []) (m := [g21, g100]) mixed quiets_ok sks_ok trivial ⟨h21, h100, trivial⟩ c17
theorem h162 : LOK Tryz.prog g162 := Ax.loopU (ql := quiets) (K := sks) (l := []) (m := []) mixed quiets_ok sks_ok trivial trivial c162
theorem h189 : LOK Tryz.prog g189 := Ax.loopU (ql := quiets) (K := sks) (l := []) (m := []) mixed quiets_ok sks_ok trivial trivial c189
theorem h375 : LOK Tryz.prog g375 := Ax.loopU (ql := quiets) (K := sks) (l := []) (m := []) mixed quiets_ok sks_ok trivial trivial c375
theorem h374 : LOK Tryz.prog g374 := Ax.loopU (ql := quiets) (K := sks) (l := []) (m := [g375]) mixed quiets_ok sks_ok trivial ⟨h375, trivial⟩ c374
theorem h386 : LOK Tryz.prog g386 := Ax.loopU (ql := quiets) (K := sks) (l := []) (m := []) mixed quiets_ok sks_ok trivial trivial c386
theorem h392 : LOK Tryz.prog g392 := Ax.loopU (ql := quiets) (K := sks) (l := []) (m := []) mixed quiets_ok sks_ok trivial trivial c392
theorem h391 : LOK Tryz.prog g391 := Ax.loopU (ql := quiets) (K := sks) (l := []) (m := [g392]) mixed quiets_ok sks_ok trivial ⟨h392, trivial⟩ c391
theorem h403 : LOK Tryz.prog g403 := Ax.loopU (ql := quiets) (K := sks) (l := []) (m := []) mixed quiets_ok sks_ok trivial trivial c403
theorem h2027 : LOK Tryz.prog g2027 := Ax.partLQ (ql := quiets) (K := sks) (l := []) (m := []) mixed quiets_ok sks_ok trivial trivial c2027
theorem h1595 : LOK Tryz.prog g1595 := Ax.partLQ (ql := quiets) (K := sks) (l := []) (m := [g2027]) mixed quiets_ok sks_ok trivial ⟨h2027, trivial⟩ c1595
theorem h1171 : LOK Tryz.prog g1171 := Ax.partLQ (ql := quiets) (K := sks) (l := []) (m := [g1595]) mixed quiets_ok sks_ok trivial ⟨h1595, trivial⟩ c1171
theorem h739 : LOK Tryz.prog g739 := Ax.partLQ (ql := quiets) (K := sks) (l := []) (m := [g1171]) mixed quiets_ok sks_ok trivial ⟨h1171, trivial⟩ c739
theorem o418 : EntryOK Tryz.prog e418 := Ax.partCQ (ql := quiets) (K := sks) (l := []) (m := [g739]) mixed quiets_ok sks_ok trivial ⟨h739, trivial⟩ c418
theorem h2576 : LOK Tryz.prog g2576 := Ax.partLQ (ql := quiets) (K := sks) (l := []) (m := []) mixed quiets_ok sks_ok trivial trivial c2576
theorem h2875 : LOK Tryz.prog g2875 := Ax.partLQ (ql := quiets) (K := sks) (l := []) (m := []) mixed quiets_ok sks_ok trivial trivial c2875
theorem h3182 : LOK Tryz.prog g3182 := Ax.partLQ (ql := quiets) (K := sks) (l := []) (m := []) mixed quiets_ok sks_ok trivial trivial c3182
theorem h3788 : LOK Tryz.prog g3788 := Ax.partLQ (ql := quiets) (K := sks) (l := []) (m := []) mixed quiets_ok sks_ok trivial trivial c3788
theorem o3446 : EntryOK Tryz.prog e3446 := Ax.partCQ (ql := quiets) (K := sks) (l := []) (m := [g3788]) mixed quiets_ok sks_ok trivial ⟨h3788, trivial⟩ c3446
theorem h4566 : LOK Tryz.prog g4566 := Ax.partLQ (ql := quiets) (K := sks) (l := []) (m := []) mixed quiets_ok sks_ok trivial trivial c4566
theorem h5000 : LOK Tryz.prog g5000 := Ax.partLQ (ql := quiets) (K := sks) (l := []) (m := []) mixed quiets_ok sks_ok trivial trivial c5000
theorem o4223 : EntryOK Tryz.prog e4223 := Ax.partCQ (ql := quiets) (K := sks) (l := []) (m := [g4566, g5000]) mixed quiets_ok sks_ok trivial ⟨h4566, h5000, trivial⟩ c4223
theorem h6125 : LOK Tryz.prog g6125 := Ax.partLQ (ql := quiets) (K := sks) (l := []) (m := []) mixed quiets_ok sks_ok trivial trivial c6125
theorem h5866 : LOK Tryz.prog g5866 := Ax.partLQ (ql := quiets) (K := sks) (l := []) (m := [g6125]) mixed quiets_ok sks_ok trivial ⟨h6125, trivial⟩ c5866
theorem h6905 : LOK Tryz.prog g6905 := Ax.partLQ (ql := quiets) (K := sks) (l := []) (m := []) mixed quiets_ok sks_ok trivial trivial c6905
theorem h6646 : LOK Tryz.prog g6646 := Ax.partLQ (ql := quiets) (K := sks) (l := []) (m := [g6905]) mixed quiets_ok sks_ok trivial ⟨h6905, trivial⟩ c6646
theorem h6385 : LOK Tryz.prog g6385 := Ax.partLQ (ql := quiets) (K := sks) (l := []) (m := [g6646]) mixed quiets_ok sks_ok trivial ⟨h6646, trivial⟩ c6385
theorem h7167 : LOK Tryz.prog g7167 := Ax.partLQ (ql := quiets) (K := sks) (l := []) (m := []) mixed quiets_ok sks_ok trivial trivial c7167
theorem h7683 : LOK Tryz.prog g7683 := Ax.partLQ (ql := quiets) (K := sks) (l := []) (m := []) mixed quiets_ok sks_ok trivial trivial c7683
theorem h7165 : LOK Tryz.prog g7165 := Ax.partLQ (ql := quiets) (K := sks) (l := []) (m := [g7167, g7683]) mixed quiets_ok sks_ok trivial ⟨h7167, h7683, trivial⟩ c7165
theorem o3445 : EntryOK Tryz.prog e3445 := Ax.partCQ (ql := quiets) (K := sks) (l := [e3446, e4223]) (m := [g5866, g6385, g7165]) mixed quiets_ok sks_ok ⟨o3446, o4223, trivial⟩ ⟨h5866, h6385, h7165, trivial⟩ c3445
theorem o241 : EntryOK Tryz.prog e241 := Ax.partCQ (ql := quiets) (K := sks) (l := [e418, e3445]) (m := [g374, g386, g391, g403, g2576, g2875, g3182]) mixed quiets_ok sks_ok ⟨o418, o3445, trivial⟩ ⟨h374, h386, h391, h403, h2576, h2875, h3182, trivial⟩ c241
theorem o8466 : EntryOK Tryz.prog e8466 := Ax.partCQ (ql := quiets) (K := sks) (l := []) (m := []) mixed quiets_ok sks_ok trivial trivial c8466
theorem o8115 : EntryOK Tryz.prog e8115 := Ax.partCQ (ql := quiets) (K := sks) (l := [e8466]) (m := []) mixed quiets_ok sks_ok ⟨o8466, trivial⟩ trivial c8115
theorem o9600 : EntryOK Tryz.prog e9600 := Ax.partCQ (ql := quiets) (K := sks) (l := []) (m := []) mixed quiets_ok sks_ok trivial trivial c9600
theorem o9249 : EntryOK Tryz.prog e9249 := Ax.partCQ (ql := quiets) (K := sks) (l := [e9600]) (m := []) mixed quiets_ok sks_ok ⟨o9600, trivial⟩ trivial c9249
theorem o9074 : EntryOK Tryz.prog e9074 := Ax.partCQ (ql := quiets) (K := sks) (l := [e9249]) (m := []) mixed quiets_ok sks_ok ⟨o9249, trivial⟩ trivial c9074
theorem o10674 : EntryOK Tryz.prog e10674 := Ax.partCQ (ql := quiets) (K := sks) (l := []) (m := []) mixed quiets_ok sks_ok trivial trivial c10674
theorem o10324 : EntryOK Tryz.prog e10324 := Ax.partCQ (ql := quiets) (K := sks) (l := [e10674]) (m := []) mixed quiets_ok sks_ok ⟨o10674, trivial⟩ trivial c10324
theorem o11288 : EntryOK Tryz.prog e11288 := Ax.partCQ (ql := quiets) (K := sks) (l := []) (m := []) mixed quiets_ok sks_ok trivial trivial c11288
theorem o9 : EntryOK Tryz.prog e9 := Ax.partCQ (ql := quiets) (K := sks) (l := [e17, e241, e8115, e9074, e10324, e11288]) (m := [g162, g189]) mixed quiets_ok sks_ok ⟨o17, o241, o8115, o9074, o10324, o11288, trivial⟩ ⟨h162, h189, trivial⟩ c9
theorem h12174 : LOK Tryz.prog g12174 := Ax.partLQ (ql := quiets) (K := sks) (l := []) (m := []) mixed quiets_ok sks_ok trivial trivial c12174
theorem o11831 : EntryOK Tryz.prog e11831 := Ax.partCQ (ql := quiets) (K := sks) (l := []) (m := [g12174]) mixed quiets_ok sks_ok trivial ⟨h12174, trivial⟩ c11831
theorem o11829 : EntryOK Tryz.prog e11829 := Ax.partCQ (ql := quiets) (K := sks) (l := [e11831]) (m := []) mixed quiets_ok sks_ok ⟨o11831, trivial⟩ trivial c11829
theorem h12963 : LOK Tryz.prog g12963 := Ax.partLQ (ql := quiets) (K := sks) (l := []) (m := []) mixed quiets_ok sks_ok trivial trivial c12963
theorem o12620 : EntryOK Tryz.prog e12620 := Ax.partCQ (ql := quiets) (K := sks) (l := []) (m := [g12963]) mixed quiets_ok sks_ok trivial ⟨h12963, trivial⟩ c12620
theorem h13401 : LOK Tryz.prog g13401 := Ax.partLQ (ql := quiets) (K := sks) (l := []) (m := []) mixed quiets_ok sks_ok trivial trivial c13401
theorem h13430 : LOK Tryz.prog g13430 := Ax.partLQ (ql := quiets) (K := sks) (l := []) (m := []) mixed quiets_ok sks_ok trivial trivial c13430
theorem h13485 : LOK Tryz.prog g13485 := Ax.partLQ (ql := quiets) (K := sks) (l := []) (m := []) mixed quiets_ok sks_ok trivial trivial c13485
theorem h13540 : LOK Tryz.prog g13540 := Ax.partLQ (ql := quiets) (K := sks) (l := []) (m := []) mixed quiets_ok sks_ok trivial trivial c13540
theorem o13613 : EntryOK Tryz.prog e13613 := Ax.partCQ (ql := quiets) (K := sks) (l := []) (m := []) mixed quiets_ok sks_ok trivial trivial c13613
theorem o13694 : EntryOK Tryz.prog e13694 := Ax.partCQ (ql := quiets) (K := sks) (l := []) (m := []) mixed quiets_ok sks_ok trivial trivial c13694
theorem o13775 : EntryOK Tryz.prog e13775 := Ax.partCQ (ql := quiets) (K := sks) (l := []) (m := []) mixed quiets_ok sks_ok trivial trivial c13775
theorem o13856 : EntryOK Tryz.prog e13856 := Ax.partCQ (ql := quiets) (K := sks) (l := []) (m := []) mixed quiets_ok sks_ok trivial trivial c13856
theorem o13936 : EntryOK Tryz.prog e13936 := Ax.partCQ (ql := quiets) (K := sks) (l := []) (m := []) mixed quiets_ok sks_ok trivial trivial c13936
theorem o14021 : EntryOK Tryz.prog e14021 := Ax.partCQ (ql := quiets) (K := sks) (l := []) (m := []) mixed quiets_ok sks_ok trivial trivial c14021
theorem o11796 : EntryOK Tryz.prog e11796 := Ax.partCQ (ql := quiets) (K := sks) (l := [e11829, e12620, e13613, e13694, e13775, e13856, e13936, e14021]) (m := [g13401, g13430, g13485, g13540]) mixed quiets_ok sks_ok ⟨o11829, o12620, o13613, o13694, o13775, o13856, o13936, o14021, trivial⟩ ⟨h13401, h13430, h13485, h13540, trivial⟩ c11796
theorem o14057 : EntryOK Tryz.prog e14057 := o17.up c14057
theorem h14202 : LOK Tryz.prog g14202 := Ax.loopU (ql := quiets) (K := sks) (l := []) (m := []) mixed quiets_ok sks_ok trivial trivial c14202
theorem h14229 : LOK Tryz.prog g14229 := Ax.loopU (ql := quiets) (K := sks) (l := []) (m := []) mixed quiets_ok sks_ok trivial trivial c14229
theorem o14281 : EntryOK Tryz.prog e14281 := o241.up c14281
theorem o22506 : EntryOK Tryz.prog e22506 := Ax.partCQ (ql := quiets) (K := sks) (l := []) (m := []) mixed quiets_ok sks_ok trivial trivial c22506
theorem o22155 : EntryOK Tryz.prog e22155 := Ax.partCQ (ql := quiets) (K := sks) (l := [e22506]) (m := []) mixed quiets_ok sks_ok ⟨o22506, trivial⟩ trivial c22155
theorem o23640 : EntryOK Tryz.prog e23640 := Ax.partCQ (ql := quiets) (K := sks) (l := []) (m := []) mixed quiets_ok sks_ok trivial trivial c23640
theorem o23289 : EntryOK Tryz.prog e23289 := Ax.partCQ (ql := quiets) (K := sks) (l := [e23640]) (m := []) mixed quiets_ok sks_ok ⟨o23640, trivial⟩ trivial c23289
theorem o23114 : EntryOK Tryz.prog e23114 := Ax.partCQ (ql := quiets) (K := sks) (l := [e23289]) (m := []) mixed quiets_ok sks_ok ⟨o23289, trivial⟩ trivial c23114
theorem o24714 : EntryOK Tryz.prog e24714 := Ax.partCQ (ql := quiets) (K := sks) (l := []) (m := []) mixed quiets_ok sks_ok trivial trivial c24714
theorem o24364 : EntryOK Tryz.prog e24364 := Ax.partCQ (ql := quiets) (K := sks) (l := [e24714]) (m := []) mixed quiets_ok sks_ok ⟨o24714, trivial⟩ trivial c24364
theorem o25328 : EntryOK Tryz.prog e25328 := Ax.partCQ (ql := quiets) (K := sks) (l := []) (m := []) mixed quiets_ok sks_ok trivial trivial c25328
theorem o14048 : EntryOK Tryz.prog e14048 := Ax.partCQ (ql := quiets) (K := sks) (l := [e14057, e14281, e22155, e23114, e24364, e25328]) (m := [g14202, g14229]) mixed quiets_ok sks_ok ⟨o14057, o14281, o22155, o23114, o24364, o25328, trivial⟩ ⟨h14202, h14229, trivial⟩ c14048
theorem o25966 : EntryOK Tryz.prog e25966 := Ax.partCQ (ql := quiets) (K := sks) (l := []) (m := []) mixed quiets_ok sks_ok trivial trivial c25966
theorem o26177 : EntryOK Tryz.prog e26177 := Ax.partCQ (ql := quiets) (K := sks) (l := []) (m := []) mixed quiets_ok sks_ok trivial trivial c26177
theorem o26286 : EntryOK Tryz.prog e26286 := Ax.partCQ (ql := quiets) (K := sks) (l := []) (m := []) mixed quiets_ok sks_ok trivial trivial c26286
theorem o26395 : EntryOK Tryz.prog e26395 := Ax.partCQ (ql := quiets) (K := sks) (l := []) (m := []) mixed quiets_ok sks_ok trivial trivial c26395
theorem o25965 : EntryOK Tryz.prog e25965 := Ax.partCQ (ql := quiets) (K := sks) (l := [e25966, e26177, e26286, e26395]) (m := []) mixed quiets_ok sks_ok ⟨o25966, o26177, o26286, o26395, trivial⟩ trivial c25965
theorem o26793 : EntryOK Tryz.prog e26793 := Ax.partCQ (ql := quiets) (K := sks) (l := []) (m := []) mixed quiets_ok sks_ok trivial trivial c26793
theorem o26830 : EntryOK Tryz.prog e26830 := Ax.partCQ (ql := quiets) (K := sks) (l := []) (m := []) mixed quiets_ok sks_ok trivial trivial c26830
theorem o27004 : EntryOK Tryz.prog e27004 := Ax.partCQ (ql := quiets) (K := sks) (l := []) (m := []) mixed quiets_ok sks_ok trivial trivial c27004
theorem o27429 : EntryOK Tryz.prog e27429 := Ax.partCQ (ql := quiets) (K := sks) (l := []) (m := []) mixed quiets_ok sks_ok trivial trivial c27429
theorem o26792 : EntryOK Tryz.prog e26792 := Ax.partCQ (ql := quiets) (K := sks) (l := [e26793, e26830, e27004, e27429]) (m := []) mixed quiets_ok sks_ok ⟨o26793, o26830, o27004, o27429, trivial⟩ trivial c26792
theorem o27533 : EntryOK Tryz.prog e27533 := Ax.partCQ (ql := quiets) (K := sks) (l := []) (m := []) mixed quiets_ok sks_ok trivial trivial c27533
theorem o27519 : EntryOK Tryz.prog e27519 := Ax.partCQ (ql := quiets) (K := sks) (l := [e27533]) (m := []) mixed quiets_ok sks_ok ⟨o27533, trivial⟩ trivial c27519
theorem o27961 : EntryOK Tryz.prog e27961 := Ax.partCQ (ql := quiets) (K := sks) (l := []) (m := []) mixed quiets_ok sks_ok trivial trivial c27961
theorem o28158 : EntryOK Tryz.prog e28158 := Ax.partCQ (ql := quiets) (K := sks) (l := []) (m := []) mixed quiets_ok sks_ok trivial trivial c28158
theorem h28749 : LOK Tryz.prog g28749 := Ax.partLQ (ql := quiets) (K := sks) (l := []) (m := []) mixed quiets_ok sks_ok trivial trivial c28749
theorem h29536 : LOK Tryz.prog g29536 := Ax.partLQ (ql := quiets) (K := sks) (l := []) (m := []) mixed quiets_ok sks_ok trivial trivial c29536
theorem h30324 : LOK Tryz.prog g30324 := Ax.partLQ (ql := quiets) (K := sks) (l := []) (m := []) mixed quiets_ok sks_ok trivial trivial c30324
theorem h29979 : LOK Tryz.prog g29979 := Ax.partLQ (ql := quiets) (K := sks) (l := []) (m := [g30324]) mixed quiets_ok sks_ok trivial ⟨h30324, trivial⟩ c29979
theorem o29190 : EntryOK Tryz.prog e29190 := Ax.partCQ (ql := quiets) (K := sks) (l := []) (m := [g29536, g29979]) mixed quiets_ok sks_ok trivial ⟨h29536, h29979, trivial⟩ c29190
theorem h28380 : LOK Tryz.prog g28380 := Ax.partLQ (ql := quiets) (K := sks) (l := [e29190]) (m := [g28749]) mixed quiets_ok sks_ok ⟨o29190, trivial⟩ ⟨h28749, trivial⟩ c28380
theorem h27859 : LOK Tryz.prog g27859 := Ax.partLQ (ql := quiets) (K := sks) (l := [e27961, e28158]) (m := [g28380]) mixed quiets_ok sks_ok ⟨o27961, o28158, trivial⟩ ⟨h28380, trivial⟩ c27859
theorem o30797 : EntryOK Tryz.prog e30797 := o9.up c30797
theorem o42619 : EntryOK Tryz.prog e42619 := o11831.up c42619
theorem o43408 : EntryOK Tryz.prog e43408 := o12620.up c43408
theorem h44218 : LOK Tryz.prog g44218 := Ax.partLQ (ql := quiets) (K := sks) (l := []) (m := []) mixed quiets_ok sks_ok trivial trivial c44218
theorem o30796 : EntryOK Tryz.prog e30796 := Ax.partCQ (ql := quiets) (K := sks) (l := [e30797, e42619, e43408]) (m := [g44218]) mixed quiets_ok sks_ok ⟨o30797, o42619, o43408, trivial⟩ ⟨h44218, trivial⟩ c30796
theorem o44604 : EntryOK Tryz.prog e44604 := Ax.partCQ (ql := quiets) (K := sks) (l := []) (m := []) mixed quiets_ok sks_ok trivial trivial c44604
theorem o45105 : EntryOK Tryz.prog e45105 := Ax.partCQ (ql := quiets) (K := sks) (l := []) (m := []) mixed quiets_ok sks_ok trivial trivial c45105
theorem o45229 : EntryOK Tryz.prog e45229 := Ax.partCQ (ql := quiets) (K := sks) (l := []) (m := []) mixed quiets_ok sks_ok trivial trivial c45229
theorem h45852 : LOK Tryz.prog g45852 := Ax.partLQ (ql := quiets) (K := sks) (l := []) (m := []) mixed quiets_ok sks_ok trivial trivial c45852
theorem h46639 : LOK Tryz.prog g46639 := Ax.partLQ (ql := quiets) (K := sks) (l := []) (m := []) mixed quiets_ok sks_ok trivial trivial c46639
theorem o46293 : EntryOK Tryz.prog e46293 := Ax.partCQ (ql := quiets) (K := sks) (l := []) (m := [g46639]) mixed quiets_ok sks_ok trivial ⟨h46639, trivial⟩ c46293
theorem o45503 : EntryOK Tryz.prog e45503 := Ax.partCQ (ql := quiets) (K := sks) (l := [e46293]) (m := [g45852]) mixed quiets_ok sks_ok ⟨o46293, trivial⟩ ⟨h45852, trivial⟩ c45503
theorem h45483 : LOK Tryz.prog g45483 := Ax.partLQ (ql := quiets) (K := sks) (l := [e45503]) (m := []) mixed quiets_ok sks_ok ⟨o45503, trivial⟩ trivial c45483
theorem o47376 : EntryOK Tryz.prog e47376 := Ax.partCQ (ql := quiets) (K := sks) (l := []) (m := []) mixed quiets_ok sks_ok trivial trivial c47376
theorem o47329 : EntryOK Tryz.prog e47329 := Ax.partCQ (ql := quiets) (K := sks) (l := [e47376]) (m := []) mixed quiets_ok sks_ok ⟨o47376, trivial⟩ trivial c47329
theorem h45078 : LOK Tryz.prog g45078 := Ax.partLQ (ql := quiets) (K := sks) (l := [e45105, e45229, e47329]) (m := [g45483]) mixed quiets_ok sks_ok ⟨o45105, o45229, o47329, trivial⟩ ⟨h45483, trivial⟩ c45078
theorem h50929 : LOK Tryz.prog g50929 := Ax.partLQ (ql := quiets) (K := sks) (l := []) (m := []) mixed quiets_ok sks_ok trivial trivial c50929
theorem h50487 : LOK Tryz.prog g50487 := Ax.partLQ (ql := quiets) (K := sks) (l := []) (m := [g50929]) mixed quiets_ok sks_ok trivial ⟨h50929, trivial⟩ c50487
theorem h50045 : LOK Tryz.prog g50045 := Ax.partLQ (ql := quiets) (K := sks) (l := []) (m := [g50487]) mixed quiets_ok sks_ok trivial ⟨h50487, trivial⟩ c50045
theorem h49610 : LOK Tryz.prog g49610 := Ax.partLQ (ql := quiets) (K := sks) (l := []) (m := [g50045]) mixed quiets_ok sks_ok trivial ⟨h50045, trivial⟩ c49610
theorem h49210 : LOK Tryz.prog g49210 := Ax.partLQ (ql := quiets) (K := sks) (l := []) (m := [g49610]) mixed quiets_ok sks_ok trivial ⟨h49610, trivial⟩ c49210
theorem h48768 : LOK Tryz.prog g48768 := Ax.partLQ (ql := quiets) (K := sks) (l := []) (m := [g49210]) mixed quiets_ok sks_ok trivial ⟨h49210, trivial⟩ c48768
theorem h48333 : LOK Tryz.prog g48333 := Ax.partLQ (ql := quiets) (K := sks) (l := []) (m := [g48768]) mixed quiets_ok sks_ok trivial ⟨h48768, trivial⟩ c48333
theorem h53744 : LOK Tryz.prog g53744 := Ax.partLQ (ql := quiets) (K := sks) (l := []) (m := []) mixed quiets_ok sks_ok trivial trivial c53744
theorem h53293 : LOK Tryz.prog g53293 := Ax.partLQ (ql := quiets) (K := sks) (l := []) (m := [g53744]) mixed quiets_ok sks_ok trivial ⟨h53744, trivial⟩ c53293
theorem h52842 : LOK Tryz.prog g52842 := Ax.partLQ (ql := quiets) (K := sks) (l := []) (m := [g53293]) mixed quiets_ok sks_ok trivial ⟨h53293, trivial⟩ c52842
theorem h52391 : LOK Tryz.prog g52391 := Ax.partLQ (ql := quiets) (K := sks) (l := []) (m := [g52842]) mixed quiets_ok sks_ok trivial ⟨h52842, trivial⟩ c52391
theorem h51940 : LOK Tryz.prog g51940 := Ax.partLQ (ql := quiets) (K := sks) (l := []) (m := [g52391]) mixed quiets_ok sks_ok trivial ⟨h52391, trivial⟩ c51940
theorem h51497 : LOK Tryz.prog g51497 := Ax.partLQ (ql := quiets) (K := sks) (l := []) (m := [g51940]) mixed quiets_ok sks_ok trivial ⟨h51940, trivial⟩ c51497
theorem h56643 : LOK Tryz.prog g56643 := Ax.partLQ (ql := quiets) (K := sks) (l := []) (m := []) mixed quiets_ok sks_ok trivial trivial c56643
theorem h56203 : LOK Tryz.prog g56203 := Ax.partLQ (ql := quiets) (K := sks) (l := []) (m := [g56643]) mixed quiets_ok sks_ok trivial ⟨h56643, trivial⟩ c56203
theorem h55763 : LOK Tryz.prog g55763 := Ax.partLQ (ql := quiets) (K := sks) (l := []) (m := [g56203]) mixed quiets_ok sks_ok trivial ⟨h56203, trivial⟩ c55763
theorem h55351 : LOK Tryz.prog g55351 := Ax.partLQ (ql := quiets) (K := sks) (l := []) (m := [g55763]) mixed quiets_ok sks_ok trivial ⟨h55763, trivial⟩ c55351
theorem h54915 : LOK Tryz.prog g54915 := Ax.partLQ (ql := quiets) (K := sks) (l := []) (m := [g55351]) mixed quiets_ok sks_ok trivial ⟨h55351, trivial⟩ c54915
theorem h54464 : LOK Tryz.prog g54464 := Ax.partLQ (ql := quiets) (K := sks) (l := []) (m := [g54915]) mixed quiets_ok sks_ok trivial ⟨h54915, trivial⟩ c54464
theorem h51372 : LOK Tryz.prog g51372 := Ax.partLQ (ql := quiets) (K := sks) (l := []) (m := [g51497, g54464]) mixed quiets_ok sks_ok trivial ⟨h51497, h54464, trivial⟩ c51372
theorem o47936 : EntryOK Tryz.prog e47936 := Ax.partCQ (ql := quiets) (K := sks) (l := []) (m := [g48333, g51372]) mixed quiets_ok sks_ok trivial ⟨h48333, h51372, trivial⟩ c47936
theorem h57610 : LOK Tryz.prog g57610 := Ax.partLQ (ql := quiets) (K := sks) (l := []) (m := []) mixed quiets_ok sks_ok trivial trivial c57610
theorem h57354 : LOK Tryz.prog g57354 := Ax.partLQ (ql := quiets) (K := sks) (l := []) (m := [g57610]) mixed quiets_ok sks_ok trivial ⟨h57610, trivial⟩ c57354
theorem o57097 : EntryOK Tryz.prog e57097 := Ax.partCQ (ql := quiets) (K := sks) (l := []) (m := [g57354]) mixed quiets_ok sks_ok trivial ⟨h57354, trivial⟩ c57097
theorem h58278 : LOK Tryz.prog g58278 := Ax.partLQ (ql := quiets) (K := sks) (l := []) (m := []) mixed quiets_ok sks_ok trivial trivial c58278
theorem h58054 : LOK Tryz.prog g58054 := Ax.partLQ (ql := quiets) (K := sks) (l := []) (m := [g58278]) mixed quiets_ok sks_ok trivial ⟨h58278, trivial⟩ c58054
theorem h58792 : LOK Tryz.prog g58792 := Ax.partLQ (ql := quiets) (K := sks) (l := []) (m := []) mixed quiets_ok sks_ok trivial trivial c58792
theorem h58544 : LOK Tryz.prog g58544 := Ax.partLQ (ql := quiets) (K := sks) (l := []) (m := [g58792]) mixed quiets_ok sks_ok trivial ⟨h58792, trivial⟩ c58544
theorem h59306 : LOK Tryz.prog g59306 := Ax.partLQ (ql := quiets) (K := sks) (l := []) (m := []) mixed quiets_ok sks_ok trivial trivial c59306
theorem h59082 : LOK Tryz.prog g59082 := Ax.partLQ (ql := quiets) (K := sks) (l := []) (m := [g59306]) mixed quiets_ok sks_ok trivial ⟨h59306, trivial⟩ c59082
theorem o57096 : EntryOK Tryz.prog e57096 := Ax.partCQ (ql := quiets) (K := sks) (l := [e57097]) (m := [g58054, g58544, g59082]) mixed quiets_ok sks_ok ⟨o57097, trivial⟩ ⟨h58054, h58544, h59082, trivial⟩ c57096
theorem o47642 : EntryOK Tryz.prog e47642 := Ax.partCQ (ql := quiets) (K := sks) (l := [e47936, e57096]) (m := []) mixed quiets_ok sks_ok ⟨o47936, o57096, trivial⟩ trivial c47642
theorem o59703 : EntryOK Tryz.prog e59703 := Ax.partCQ (ql := quiets) (K := sks) (l := []) (m := []) mixed quiets_ok sks_ok trivial trivial c59703
theorem o60276 : EntryOK Tryz.prog e60276 := Ax.partCQ (ql := quiets) (K := sks) (l := []) (m := []) mixed quiets_ok sks_ok trivial trivial c60276
theorem o60865 : EntryOK Tryz.prog e60865 := Ax.partCQ (ql := quiets) (K := sks) (l := []) (m := []) mixed quiets_ok sks_ok trivial trivial c60865
theorem o60133 : EntryOK Tryz.prog e60133 := Ax.partCQ (ql := quiets) (K := sks) (l := [e60276, e60865]) (m := []) mixed quiets_ok sks_ok ⟨o60276, o60865, trivial⟩ trivial c60133
theorem o61491 : EntryOK Tryz.prog e61491 := Ax.partCQ (ql := quiets) (K := sks) (l := []) (m := []) mixed quiets_ok sks_ok trivial trivial c61491
theorem o62080 : EntryOK Tryz.prog e62080 := Ax.partCQ (ql := quiets) (K := sks) (l := []) (m := []) mixed quiets_ok sks_ok trivial trivial c62080
theorem o61344 : EntryOK Tryz.prog e61344 := Ax.partCQ (ql := quiets) (K := sks) (l := [e61491, e62080]) (m := []) mixed quiets_ok sks_ok ⟨o61491, o62080, trivial⟩ trivial c61344
theorem o62571 : EntryOK Tryz.prog e62571 := Ax.partCQ (ql := quiets) (K := sks) (l := []) (m := []) mixed quiets_ok sks_ok trivial trivial c62571
theorem o63357 : EntryOK Tryz.prog e63357 := Ax.partCQ (ql := quiets) (K := sks) (l := []) (m := []) mixed quiets_ok sks_ok trivial trivial c63357
theorem o63946 : EntryOK Tryz.prog e63946 := Ax.partCQ (ql := quiets) (K := sks) (l := []) (m := []) mixed quiets_ok sks_ok trivial trivial c63946
theorem o63210 : EntryOK Tryz.prog e63210 := Ax.partCQ (ql := quiets) (K := sks) (l := [e63357, e63946]) (m := []) mixed quiets_ok sks_ok ⟨o63357, o63946, trivial⟩ trivial c63210
theorem o47641 : EntryOK Tryz.prog e47641 := Ax.partCQ (ql := quiets) (K := sks) (l := [e47642, e59703, e60133, e61344, e62571, e63210]) (m := []) mixed quiets_ok sks_ok ⟨o47642, o59703, o60133, o61344, o62571, o63210, trivial⟩ trivial c47641
theorem h64944 : LOK Tryz.prog g64944 := Ax.partLQ (ql := quiets) (K := sks) (l := []) (m := []) mixed quiets_ok sks_ok trivial trivial c64944
theorem h64688 : LOK Tryz.prog g64688 := Ax.partLQ (ql := quiets) (K := sks) (l := []) (m := [g64944]) mixed quiets_ok sks_ok trivial ⟨h64944, trivial⟩ c64688
theorem o64431 : EntryOK Tryz.prog e64431 := Ax.partCQ (ql := quiets) (K := sks) (l := []) (m := [g64688]) mixed quiets_ok sks_ok trivial ⟨h64688, trivial⟩ c64431
theorem h65728 : LOK Tryz.prog g65728 := Ax.partLQ (ql := quiets) (K := sks) (l := []) (m := []) mixed quiets_ok sks_ok trivial trivial c65728
theorem h65472 : LOK Tryz.prog g65472 := Ax.partLQ (ql := quiets) (K := sks) (l := []) (m := [g65728]) mixed quiets_ok sks_ok trivial ⟨h65728, trivial⟩ c65472
theorem o65215 : EntryOK Tryz.prog e65215 := Ax.partCQ (ql := quiets) (K := sks) (l := []) (m := [g65472]) mixed quiets_ok sks_ok trivial ⟨h65472, trivial⟩ c65215
theorem h66509 : LOK Tryz.prog g66509 := Ax.partLQ (ql := quiets) (K := sks) (l := []) (m := []) mixed quiets_ok sks_ok trivial trivial c66509
theorem h66253 : LOK Tryz.prog g66253 := Ax.partLQ (ql := quiets) (K := sks) (l := []) (m := [g66509]) mixed quiets_ok sks_ok trivial ⟨h66509, trivial⟩ c66253
theorem o65996 : EntryOK Tryz.prog e65996 := Ax.partCQ (ql := quiets) (K := sks) (l := []) (m := [g66253]) mixed quiets_ok sks_ok trivial ⟨h66253, trivial⟩ c65996
theorem h67307 : LOK Tryz.prog g67307 := Ax.partLQ (ql := quiets) (K := sks) (l := []) (m := []) mixed quiets_ok sks_ok trivial trivial c67307
theorem h67051 : LOK Tryz.prog g67051 := Ax.partLQ (ql := quiets) (K := sks) (l := []) (m := [g67307]) mixed quiets_ok sks_ok trivial ⟨h67307, trivial⟩ c67051
theorem o66794 : EntryOK Tryz.prog e66794 := Ax.partCQ (ql := quiets) (K := sks) (l := []) (m := [g67051]) mixed quiets_ok sks_ok trivial ⟨h67051, trivial⟩ c66794
theorem h68091 : LOK Tryz.prog g68091 := Ax.partLQ (ql := quiets) (K := sks) (l := []) (m := []) mixed quiets_ok sks_ok trivial trivial c68091
theorem h67835 : LOK Tryz.prog g67835 := Ax.partLQ (ql := quiets) (K := sks) (l := []) (m := [g68091]) mixed quiets_ok sks_ok trivial ⟨h68091, trivial⟩ c67835
theorem o67578 : EntryOK Tryz.prog e67578 := Ax.partCQ (ql := quiets) (K := sks) (l := []) (m := [g67835]) mixed quiets_ok sks_ok trivial ⟨h67835, trivial⟩ c67578
theorem h68880 : LOK Tryz.prog g68880 := Ax.partLQ (ql := quiets) (K := sks) (l := []) (m := []) mixed quiets_ok sks_ok trivial trivial c68880
theorem h68624 : LOK Tryz.prog g68624 := Ax.partLQ (ql := quiets) (K := sks) (l := []) (m := [g68880]) mixed quiets_ok sks_ok trivial ⟨h68880, trivial⟩ c68624
theorem o68367 : EntryOK Tryz.prog e68367 := Ax.partCQ (ql := quiets) (K := sks) (l := []) (m := [g68624]) mixed quiets_ok sks_ok trivial ⟨h68624, trivial⟩ c68367
theorem h69664 : LOK Tryz.prog g69664 := Ax.partLQ (ql := quiets) (K := sks) (l := []) (m := []) mixed quiets_ok sks_ok trivial trivial c69664
theorem h69408 : LOK Tryz.prog g69408 := Ax.partLQ (ql := quiets) (K := sks) (l := []) (m := [g69664]) mixed quiets_ok sks_ok trivial ⟨h69664, trivial⟩ c69408
theorem o69151 : EntryOK Tryz.prog e69151 := Ax.partCQ (ql := quiets) (K := sks) (l := []) (m := [g69408]) mixed quiets_ok sks_ok trivial ⟨h69408, trivial⟩ c69151
theorem h70442 : LOK Tryz.prog g70442 := Ax.partLQ (ql := quiets) (K := sks) (l := []) (m := []) mixed quiets_ok sks_ok trivial trivial c70442
theorem h70186 : LOK Tryz.prog g70186 := Ax.partLQ (ql := quiets) (K := sks) (l := []) (m := [g70442]) mixed quiets_ok sks_ok trivial ⟨h70442, trivial⟩ c70186
theorem o69929 : EntryOK Tryz.prog e69929 := Ax.partCQ (ql := quiets) (K := sks) (l := []) (m := [g70186]) mixed quiets_ok sks_ok trivial ⟨h70186, trivial⟩ c69929
theorem h71222 : LOK Tryz.prog g71222 := Ax.partLQ (ql := quiets) (K := sks) (l := []) (m := []) mixed quiets_ok sks_ok trivial trivial c71222
theorem h70966 : LOK Tryz.prog g70966 := Ax.partLQ (ql := quiets) (K := sks) (l := []) (m := [g71222]) mixed quiets_ok sks_ok trivial ⟨h71222, trivial⟩ c70966
theorem o70709 : EntryOK Tryz.prog e70709 := Ax.partCQ (ql := quiets) (K := sks) (l := []) (m := [g70966]) mixed quiets_ok sks_ok trivial ⟨h70966, trivial⟩ c70709
theorem h72000 : LOK Tryz.prog g72000 := Ax.partLQ (ql := quiets) (K := sks) (l := []) (m := []) mixed quiets_ok sks_ok trivial trivial c72000
theorem h71744 : LOK Tryz.prog g71744 := Ax.partLQ (ql := quiets) (K := sks) (l := []) (m := [g72000]) mixed quiets_ok sks_ok trivial ⟨h72000, trivial⟩ c71744
theorem o71487 : EntryOK Tryz.prog e71487 := Ax.partCQ (ql := quiets) (K := sks) (l := []) (m := [g71744]) mixed quiets_ok sks_ok trivial ⟨h71744, trivial⟩ c71487
theorem h72797 : LOK Tryz.prog g72797 := Ax.partLQ (ql := quiets) (K := sks) (l := []) (m := []) mixed quiets_ok sks_ok trivial trivial c72797
theorem h72541 : LOK Tryz.prog g72541 := Ax.partLQ (ql := quiets) (K := sks) (l := []) (m := [g72797]) mixed quiets_ok sks_ok trivial ⟨h72797, trivial⟩ c72541
theorem o72284 : EntryOK Tryz.prog e72284 := Ax.partCQ (ql := quiets) (K := sks) (l := []) (m := [g72541]) mixed quiets_ok sks_ok trivial ⟨h72541, trivial⟩ c72284
theorem h73581 : LOK Tryz.prog g73581 := Ax.partLQ (ql := quiets) (K := sks) (l := []) (m := []) mixed quiets_ok sks_ok trivial trivial c73581
theorem h73325 : LOK Tryz.prog g73325 := Ax.partLQ (ql := quiets) (K := sks) (l := []) (m := [g73581]) mixed quiets_ok sks_ok trivial ⟨h73581, trivial⟩ c73325
theorem o73068 : EntryOK Tryz.prog e73068 := Ax.partCQ (ql := quiets) (K := sks) (l := []) (m := [g73325]) mixed quiets_ok sks_ok trivial ⟨h73325, trivial⟩ c73068
theorem h74359 : LOK Tryz.prog g74359 := Ax.partLQ (ql := quiets) (K := sks) (l := []) (m := []) mixed quiets_ok sks_ok trivial trivial c74359
theorem h74103 : LOK Tryz.prog g74103 := Ax.partLQ (ql := quiets) (K := sks) (l := []) (m := [g74359]) mixed quiets_ok sks_ok trivial ⟨h74359, trivial⟩ c74103
theorem o73846 : EntryOK Tryz.prog e73846 := Ax.partCQ (ql := quiets) (K := sks) (l := []) (m := [g74103]) mixed quiets_ok sks_ok trivial ⟨h74103, trivial⟩ c73846
theorem h75147 : LOK Tryz.prog g75147 := Ax.partLQ (ql := quiets) (K := sks) (l := []) (m := []) mixed quiets_ok sks_ok trivial trivial c75147
theorem h74891 : LOK Tryz.prog g74891 := Ax.partLQ (ql := quiets) (K := sks) (l := []) (m := [g75147]) mixed quiets_ok sks_ok trivial ⟨h75147, trivial⟩ c74891
theorem o74634 : EntryOK Tryz.prog e74634 := Ax.partCQ (ql := quiets) (K := sks) (l := []) (m := [g74891]) mixed quiets_ok sks_ok trivial ⟨h74891, trivial⟩ c74634
theorem h75931 : LOK Tryz.prog g75931 := Ax.partLQ (ql := quiets) (K := sks) (l := []) (m := []) mixed quiets_ok sks_ok trivial trivial c75931
theorem h75675 : LOK Tryz.prog g75675 := Ax.partLQ (ql := quiets) (K := sks) (l := []) (m := [g75931]) mixed quiets_ok sks_ok trivial ⟨h75931, trivial⟩ c75675
theorem o75417 : EntryOK Tryz.prog e75417 := Ax.partCQ (ql := quiets) (K := sks) (l := []) (m := [g75675]) mixed quiets_ok sks_ok trivial ⟨h75675, trivial⟩ c75417
theorem h76709 : LOK Tryz.prog g76709 := Ax.partLQ (ql := quiets) (K := sks) (l := []) (m := []) mixed quiets_ok sks_ok trivial trivial c76709
theorem h76453 : LOK Tryz.prog g76453 := Ax.partLQ (ql := quiets) (K := sks) (l := []) (m := [g76709]) mixed quiets_ok sks_ok trivial ⟨h76709, trivial⟩ c76453
theorem o76195 : EntryOK Tryz.prog e76195 := Ax.partCQ (ql := quiets) (K := sks) (l := []) (m := [g76453]) mixed quiets_ok sks_ok trivial ⟨h76453, trivial⟩ c76195
theorem h77539 : LOK Tryz.prog g77539 := Ax.partLQ (ql := quiets) (K := sks) (l := []) (m := []) mixed quiets_ok sks_ok trivial trivial c77539
theorem h77283 : LOK Tryz.prog g77283 := Ax.partLQ (ql := quiets) (K := sks) (l := []) (m := [g77539]) mixed quiets_ok sks_ok trivial ⟨h77539, trivial⟩ c77283
theorem o77026 : EntryOK Tryz.prog e77026 := Ax.partCQ (ql := quiets) (K := sks) (l := []) (m := [g77283]) mixed quiets_ok sks_ok trivial ⟨h77283, trivial⟩ c77026
theorem h78323 : LOK Tryz.prog g78323 := Ax.partLQ (ql := quiets) (K := sks) (l := []) (m := []) mixed quiets_ok sks_ok trivial trivial c78323
theorem h78067 : LOK Tryz.prog g78067 := Ax.partLQ (ql := quiets) (K := sks) (l := []) (m := [g78323]) mixed quiets_ok sks_ok trivial ⟨h78323, trivial⟩ c78067
theorem o77809 : EntryOK Tryz.prog e77809 := Ax.partCQ (ql := quiets) (K := sks) (l := []) (m := [g78067]) mixed quiets_ok sks_ok trivial ⟨h78067, trivial⟩ c77809
theorem o64425 : EntryOK Tryz.prog e64425 := Ax.partCQ (ql := quiets) (K := sks) (l := [e64431, e65215, e65996, e66794, e67578, e68367, e69151, e69929, e70709, e71487, e72284, e73068, e73846, e74634, e75417, e76195, e77026, e77809]) (m := []) mixed quiets_ok sks_ok ⟨o64431, o65215, o65996, o66794, o67578, o68367, o69151, o69929, o70709, o71487, o72284, o73068, o73846, o74634, o75417, o76195, o77026, o77809, trivial⟩ trivial c64425
theorem o30793 : EntryOK Tryz.prog e30793 := Ax.partCQ (ql := quiets) (K := sks) (l := [e30796, e44604, e47641, e64425]) (m := [g45078]) mixed quiets_ok sks_ok ⟨o30796, o44604, o47641, o64425, trivial⟩ ⟨h45078, trivial⟩ c30793
theorem o78671 : EntryOK Tryz.prog e78671 := o17.up c78671
theorem h78816 : LOK Tryz.prog g78816 := Ax.loopU (ql := quiets) (K := sks) (l := []) (m := []) mixed quiets_ok sks_ok trivial trivial c78816
theorem h78843 : LOK Tryz.prog g78843 := Ax.loopU (ql := quiets) (K := sks) (l := []) (m := []) mixed quiets_ok sks_ok trivial trivial c78843
theorem o78895 : EntryOK Tryz.prog e78895 := o241.up c78895
theorem o87120 : EntryOK Tryz.prog e87120 := Ax.partCQ (ql := quiets) (K := sks) (l := []) (m := []) mixed quiets_ok sks_ok trivial trivial c87120
theorem o86769 : EntryOK Tryz.prog e86769 := Ax.partCQ (ql := quiets) (K := sks) (l := [e87120]) (m := []) mixed quiets_ok sks_ok ⟨o87120, trivial⟩ trivial c86769
theorem o88254 : EntryOK Tryz.prog e88254 := Ax.partCQ (ql := quiets) (K := sks) (l := []) (m := []) mixed quiets_ok sks_ok trivial trivial c88254
theorem o87903 : EntryOK Tryz.prog e87903 := Ax.partCQ (ql := quiets) (K := sks) (l := [e88254]) (m := []) mixed quiets_ok sks_ok ⟨o88254, trivial⟩ trivial c87903
theorem o87728 : EntryOK Tryz.prog e87728 := Ax.partCQ (ql := quiets) (K := sks) (l := [e87903]) (m := []) mixed quiets_ok sks_ok ⟨o87903, trivial⟩ trivial c87728
theorem o89328 : EntryOK Tryz.prog e89328 := Ax.partCQ (ql := quiets) (K := sks) (l := []) (m := []) mixed quiets_ok sks_ok trivial trivial c89328
theorem o88978 : EntryOK Tryz.prog e88978 := Ax.partCQ (ql := quiets) (K := sks) (l := [e89328]) (m := []) mixed quiets_ok sks_ok ⟨o89328, trivial⟩ trivial c88978
theorem o89942 : EntryOK Tryz.prog e89942 := Ax.partCQ (ql := quiets) (K := sks) (l := []) (m := []) mixed quiets_ok sks_ok trivial trivial c89942
theorem o78662 : EntryOK Tryz.prog e78662 := Ax.partCQ (ql := quiets) (K := sks) (l := [e78671, e78895, e86769, e87728, e88978, e89942]) (m := [g78816, g78843]) mixed quiets_ok sks_ok ⟨o78671, o78895, o86769, o87728, o88978, o89942, trivial⟩ ⟨h78816, h78843, trivial⟩ c78662
theorem o90456 : EntryOK Tryz.prog e90456 := o17.up c90456
theorem h90601 : LOK Tryz.prog g90601 := Ax.loopU (ql := quiets) (K := sks) (l := []) (m := []) mixed quiets_ok sks_ok trivial trivial c90601
theorem h90628 : LOK Tryz.prog g90628 := Ax.loopU (ql := quiets) (K := sks) (l := []) (m := []) mixed quiets_ok sks_ok trivial trivial c90628
theorem o90680 : EntryOK Tryz.prog e90680 := o241.up c90680
theorem o98905 : EntryOK Tryz.prog e98905 := Ax.partCQ (ql := quiets) (K := sks) (l := []) (m := []) mixed quiets_ok sks_ok trivial trivial c98905
theorem o98554 : EntryOK Tryz.prog e98554 := Ax.partCQ (ql := quiets) (K := sks) (l := [e98905]) (m := []) mixed quiets_ok sks_ok ⟨o98905, trivial⟩ trivial c98554
theorem o100039 : EntryOK Tryz.prog e100039 := Ax.partCQ (ql := quiets) (K := sks) (l := []) (m := []) mixed quiets_ok sks_ok trivial trivial c100039
theorem o99688 : EntryOK Tryz.prog e99688 := Ax.partCQ (ql := quiets) (K := sks) (l := [e100039]) (m := []) mixed quiets_ok sks_ok ⟨o100039, trivial⟩ trivial c99688
theorem o99513 : EntryOK Tryz.prog e99513 := Ax.partCQ (ql := quiets) (K := sks) (l := [e99688]) (m := []) mixed quiets_ok sks_ok ⟨o99688, trivial⟩ trivial c99513
theorem o101113 : EntryOK Tryz.prog e101113 := Ax.partCQ (ql := quiets) (K := sks) (l := []) (m := []) mixed quiets_ok sks_ok trivial trivial c101113
theorem o100763 : EntryOK Tryz.prog e100763 := Ax.partCQ (ql := quiets) (K := sks) (l := [e101113]) (m := []) mixed quiets_ok sks_ok ⟨o101113, trivial⟩ trivial c100763
theorem o101727 : EntryOK Tryz.prog e101727 := Ax.partCQ (ql := quiets) (K := sks) (l := []) (m := []) mixed quiets_ok sks_ok trivial trivial c101727
theorem o90447 : EntryOK Tryz.prog e90447 := Ax.partCQ (ql := quiets) (K := sks) (l := [e90456, e90680, e98554, e99513, e100763, e101727]) (m := [g90601, g90628]) mixed quiets_ok sks_ok ⟨o90456, o90680, o98554, o99513, o100763, o101727, trivial⟩ ⟨h90601, h90628, trivial⟩ c90447

end Go.Proofs.YthapchfdablbeaaGreatDoor.engineNames
