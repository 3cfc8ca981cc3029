/-
  The parts of the run of viewportlaw19.lives: what each call, and each loop from a state on, gives, for each memory that holds what it looks at. No condition.
-/
import Derived.Test.YtleifgniphogeaaGreatDoorAx9
import Derived.Test.YtleifgniphogeaaGreatDoorKeys
import Derived.Test.YtleifgniphogeaaGreatDoorTabs0
import Derived.Test.YtleifgniphogeaaGreatDoorProg
import Derived.KernelRfl
import Derived.Test.YtleifgniphogeaaGreatDoorPlives1
import Derived.Test.YtleifgniphogeaaGreatDoorPlives2
import Derived.Test.YtleifgniphogeaaGreatDoorPlives3
import Derived.Test.YtleifgniphogeaaGreatDoorPlives4
import Derived.Test.YtleifgniphogeaaGreatDoorPlives5
import Derived.Test.YtleifgniphogeaaGreatDoorPlives6
import Derived.Test.YtleifgniphogeaaGreatDoorPlives7
import Derived.Test.YtleifgniphogeaaGreatDoorPlives8
import Derived.Test.YtleifgniphogeaaGreatDoorPlives9
import Derived.Test.YtleifgniphogeaaGreatDoorPlives10
import Derived.Test.YtleifgniphogeaaGreatDoorPlives11
set_option linter.unusedSimpArgs false
set_option linter.unusedVariables false
namespace Go.Proofs.YtleifgniphogeaaGreatDoor.lives
open Go.Proofs Go.Proofs.YtleifgniphogeaaGreatDoor Ax

theorem h14:LOK Tryz.prog g14:=Ax.loopU (ql:=qbd_) (K:=sks) (l:=[]) (m:=[]) mixed qr_ qey_ trivial trivial c14
theorem h93:LOK Tryz.prog g93:=Ax.loopU (ql:=qbd_) (K:=sks) (l:=[]) (m:=[]) mixed qr_ qey_ trivial trivial c93
theorem h155:LOK Tryz.prog g155:=Ax.loopU (ql:=qbd_) (K:=sks) (l:=[]) (m:=[]) mixed qr_ qey_ trivial trivial c155
theorem h182:LOK Tryz.prog g182:=Ax.loopU (ql:=qbd_) (K:=sks) (l:=[]) (m:=[]) mixed qr_ qey_ trivial trivial c182
theorem h368:LOK Tryz.prog g368:=Ax.loopU (ql:=qbd_) (K:=sks) (l:=[]) (m:=[]) mixed qr_ qey_ trivial trivial c368
theorem h367:LOK Tryz.prog g367:=Ax.loopU (ql:=qbd_) (K:=sks) (l:=[]) (m:=[g368]) mixed qr_ qey_ trivial ⟨h368,trivial⟩ c367
theorem h379:LOK Tryz.prog g379:=Ax.loopU (ql:=qbd_) (K:=sks) (l:=[]) (m:=[]) mixed qr_ qey_ trivial trivial c379
theorem h385:LOK Tryz.prog g385:=Ax.loopU (ql:=qbd_) (K:=sks) (l:=[]) (m:=[]) mixed qr_ qey_ trivial trivial c385
theorem h384:LOK Tryz.prog g384:=Ax.loopU (ql:=qbd_) (K:=sks) (l:=[]) (m:=[g385]) mixed qr_ qey_ trivial ⟨h385,trivial⟩ c384
theorem h396:LOK Tryz.prog g396:=Ax.loopU (ql:=qbd_) (K:=sks) (l:=[]) (m:=[]) mixed qr_ qey_ trivial trivial c396
theorem h1828:LOK Tryz.prog g1828:=Ax.partLQ (ql:=qbd_) (K:=sks) (l:=[]) (m:=[]) mixed qr_ qey_ trivial trivial c1828
theorem h1204:LOK Tryz.prog g1204:=Ax.partLQ (ql:=qbd_) (K:=sks) (l:=[]) (m:=[g1828]) mixed qr_ qey_ trivial ⟨h1828,trivial⟩ c1204
theorem h580:LOK Tryz.prog g580:=Ax.partLQ (ql:=qbd_) (K:=sks) (l:=[]) (m:=[g1204]) mixed qr_ qey_ trivial ⟨h1204,trivial⟩ c580
theorem h2500:LOK Tryz.prog g2500:=Ax.partLQ (ql:=qbd_) (K:=sks) (l:=[]) (m:=[]) mixed qr_ qey_ trivial trivial c2500
theorem h3130:LOK Tryz.prog g3130:=Ax.partLQ (ql:=qbd_) (K:=sks) (l:=[]) (m:=[]) mixed qr_ qey_ trivial trivial c3130
theorem h2473:LOK Tryz.prog g2473:=Ax.partLQ (ql:=qbd_) (K:=sks) (l:=[]) (m:=[g2500,g3130]) mixed qr_ qey_ trivial ⟨h2500,h3130,trivial⟩ c2473
theorem h3588:LOK Tryz.prog g3588:=Ax.partLQ (ql:=qbd_) (K:=sks) (l:=[]) (m:=[]) mixed qr_ qey_ trivial trivial c3588
theorem h4366:LOK Tryz.prog g4366:=Ax.partLQ (ql:=qbd_) (K:=sks) (l:=[]) (m:=[]) mixed qr_ qey_ trivial trivial c4366
theorem o4216:EntryOK Tryz.prog e4216:=Ax.partCQ (ql:=qbd_) (K:=sks) (l:=[]) (m:=[g4366]) mixed qr_ qey_ trivial ⟨h4366,trivial⟩ c4216
theorem h5859:LOK Tryz.prog g5859:=Ax.partLQ (ql:=qbd_) (K:=sks) (l:=[]) (m:=[]) mixed qr_ qey_ trivial trivial c5859
theorem h6639:LOK Tryz.prog g6639:=Ax.partLQ (ql:=qbd_) (K:=sks) (l:=[]) (m:=[]) mixed qr_ qey_ trivial trivial c6639
theorem o4215:EntryOK Tryz.prog e4215:=Ax.partCQ (ql:=qbd_) (K:=sks) (l:=[e4216]) (m:=[g5859,g6639]) mixed qr_ qey_ ⟨o4216,trivial⟩ ⟨h5859,h6639,trivial⟩ c4215
theorem h7160:LOK Tryz.prog g7160:=Ax.partLQ (ql:=qbd_) (K:=sks) (l:=[]) (m:=[]) mixed qr_ qey_ trivial trivial c7160
theorem h7676:LOK Tryz.prog g7676:=Ax.partLQ (ql:=qbd_) (K:=sks) (l:=[]) (m:=[]) mixed qr_ qey_ trivial trivial c7676
theorem o3438:EntryOK Tryz.prog e3438:=Ax.partCQ (ql:=qbd_) (K:=sks) (l:=[e4215]) (m:=[g3588,g7160,g7676]) mixed qr_ qey_ ⟨o4215,trivial⟩ ⟨h3588,h7160,h7676,trivial⟩ c3438
theorem o4:EntryOK Tryz.prog e4:=Ax.partCQ (ql:=qbd_) (K:=sks) (l:=[e3438]) (m:=[g14,g93,g155,g182,g367,g379,g384,g396,g580,g2473]) mixed qr_ qey_ ⟨o3438,trivial⟩ ⟨h14,h93,h155,h182,h367,h379,h384,h396,h580,h2473,trivial⟩ c4
theorem o8127:EntryOK Tryz.prog e8127:=Ax.partCQ (ql:=qbd_) (K:=sks) (l:=[]) (m:=[]) mixed qr_ qey_ trivial trivial c8127
theorem o9261:EntryOK Tryz.prog e9261:=Ax.partCQ (ql:=qbd_) (K:=sks) (l:=[]) (m:=[]) mixed qr_ qey_ trivial trivial c9261
theorem o10335:EntryOK Tryz.prog e10335:=Ax.partCQ (ql:=qbd_) (K:=sks) (l:=[]) (m:=[]) mixed qr_ qey_ trivial trivial c10335
theorem o11281:EntryOK Tryz.prog e11281:=Ax.partCQ (ql:=qbd_) (K:=sks) (l:=[]) (m:=[]) mixed qr_ qey_ trivial trivial c11281
theorem o3:EntryOK Tryz.prog e3:=Ax.partCQ (ql:=qbd_) (K:=sks) (l:=[e4,e8127,e9261,e10335,e11281]) (m:=[]) mixed qr_ qey_ ⟨o4,o8127,o9261,o10335,o11281,trivial⟩ trivial c3
theorem h11937:LOK Tryz.prog g11937:=Ax.partLQ (ql:=qbd_) (K:=sks) (l:=[]) (m:=[]) mixed qr_ qey_ trivial trivial c11937
theorem o11785:EntryOK Tryz.prog e11785:=Ax.partCQ (ql:=qbd_) (K:=sks) (l:=[]) (m:=[g11937]) mixed qr_ qey_ trivial ⟨h11937,trivial⟩ c11785
theorem h12726:LOK Tryz.prog g12726:=Ax.partLQ (ql:=qbd_) (K:=sks) (l:=[]) (m:=[]) mixed qr_ qey_ trivial trivial c12726
theorem o11749:EntryOK Tryz.prog e11749:=Ax.partCQ (ql:=qbd_) (K:=sks) (l:=[e11785]) (m:=[g12726]) mixed qr_ qey_ ⟨o11785,trivial⟩ ⟨h12726,trivial⟩ c11749
theorem o13942:EntryOK Tryz.prog e13942:=Ax.partCQ (ql:=qbd_) (K:=sks) (l:=[]) (m:=[]) mixed qr_ qey_ trivial trivial c13942

end Go.Proofs.YtleifgniphogeaaGreatDoor.lives
