/-
  The parts of the run of viewportlaw02.lives: what each call, and each loop from a state on, gives, for each memory that holds what it looks at. No condition.
-/
import Derived.Test.YtgiceoflfmmlcaaDoorAx9
import Derived.Test.YtgiceoflfmmlcaaDoorKeys
import Derived.Test.YtgiceoflfmmlcaaDoorTabslives
import Derived.Test.YtgiceoflfmmlcaaDoorProg
import Derived.KernelRfl
import Derived.Test.YtgiceoflfmmlcaaDoorPlives1
set_option linter.unusedSimpArgs false
set_option linter.unusedVariables false
namespace Go.Proofs.YtgiceoflfmmlcaaDoor.lives
open Go.Proofs Go.Proofs.YtgiceoflfmmlcaaDoor Ax

theorem h6 : LOK Tryd.prog g6 := Ax.loopU (ql := qgg_) (K := sks) (l := []) (m := []) mixed qel_ qnb_ trivial trivial c6
theorem h10 : LOK Tryd.prog g10 := Ax.loopU (ql := qgg_) (K := sks) (l := []) (m := []) mixed qel_ qnb_ trivial trivial c10
theorem h23 : LOK Tryd.prog g23 := Ax.loopU (ql := qgg_) (K := sks) (l := []) (m := []) mixed qel_ qnb_ trivial trivial c23
theorem h29 : LOK Tryd.prog g29 := Ax.loopU (ql := qgg_) (K := sks) (l := []) (m := []) mixed qel_ qnb_ trivial trivial c29
theorem h42 : LOK Tryd.prog g42 := Ax.loopU (ql := qgg_) (K := sks) (l := []) (m := []) mixed qel_ qnb_ trivial trivial c42
theorem h53 : LOK Tryd.prog g53 := Ax.loopU (ql := qgg_) (K := sks) (l := []) (m := []) mixed qel_ qnb_ trivial trivial c53
theorem h69 : LOK Tryd.prog g69 := Ax.loopU (ql := qgg_) (K := sks) (l := []) (m := []) mixed qel_ qnb_ trivial trivial c69
theorem h336 : LOK Tryd.prog g336 := Ax.loopU (ql := qgg_) (K := sks) (l := []) (m := []) mixed qel_ qnb_ trivial trivial c336
theorem h349 : LOK Tryd.prog g349 := Ax.loopU (ql := qgg_) (K := sks) (l := []) (m := []) mixed qel_ qnb_ trivial trivial c349
theorem h353 : LOK Tryd.prog g353 := Ax.loopU (ql := qgg_) (K := sks) (l := []) (m := []) mixed qel_ qnb_ trivial trivial c353
theorem h368 : LOK Tryd.prog g368 := Ax.loopU (ql := qgg_) (K := sks) (l := []) (m := []) mixed qel_ qnb_ trivial trivial c368
theorem h381 : LOK Tryd.prog g381 := Ax.loopU (ql := qgg_) (K := sks) (l := []) (m := []) mixed qel_ qnb_ trivial trivial c381

end Go.Proofs.YtgiceoflfmmlcaaDoor.lives
