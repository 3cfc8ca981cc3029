/-
  Parts of the run of viewportlaw28.lives, in order: each, for itself, gives what is said of it. No condition.
-/
import Derived.Test.YthlikofobjhcoaaGreatAx9
import Derived.Test.YthlikofobjhcoaaGreatKeys
import Derived.Test.YthlikofobjhcoaaGreatTabs0
import Derived.Test.YthlikofobjhcoaaGreatProg
import Derived.KernelRfl
import Derived.Test.YthlikofobjhcoaaGreatDlives1
set_option linter.unusedSimpArgs false
set_option linter.unusedVariables false
namespace Go.Proofs.YthlikofobjhcoaaGreat.lives
open Go.Proofs Go.Proofs.YthlikofobjhcoaaGreat Ax

set_option maxRecDepth 1000000 in
theorem c28576:Ax.chkL Tryz.prog qh_ sks [] [g28950] g28576=true:=by kernel_rfl
set_option maxRecDepth 1000000 in
theorem c20720:Ax.chkC Tryz.prog qh_ sks [] [g20747,g21531,g22309,g23089,g23867,g24664,g25448,g26226,g27014,g27798,g28576] e20720=true:=by kernel_rfl

end Go.Proofs.YthlikofobjhcoaaGreat.lives
