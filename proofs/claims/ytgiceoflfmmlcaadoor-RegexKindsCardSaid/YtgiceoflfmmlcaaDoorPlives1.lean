/-
  Parts of the run of viewportlaw02.lives, in order: each, for itself, gives what is said of it. No condition.
-/
import Derived.Test.YtgiceoflfmmlcaaDoorAx9
import Derived.Test.YtgiceoflfmmlcaaDoorKeys
import Derived.Test.YtgiceoflfmmlcaaDoorTabslives
import Derived.Test.YtgiceoflfmmlcaaDoorProg
import Derived.KernelRfl
import Derived.Test.YtgiceoflfmmlcaaDoorDlives1
set_option linter.unusedSimpArgs false
set_option linter.unusedVariables false
namespace Go.Proofs.YtgiceoflfmmlcaaDoor.lives
open Go.Proofs Go.Proofs.YtgiceoflfmmlcaaDoor Ax

set_option maxRecDepth 1000000 in
theorem c6 : Ax.chkU Tryd.prog qgg_ sks [] [] u6 = true := by kernel_rfl
set_option maxRecDepth 1000000 in
theorem c10 : Ax.chkU Tryd.prog qgg_ sks [] [] u10 = true := by kernel_rfl
set_option maxRecDepth 1000000 in
theorem c23 : Ax.chkU Tryd.prog qgg_ sks [] [] u23 = true := by kernel_rfl
set_option maxRecDepth 1000000 in
theorem c29 : Ax.chkU Tryd.prog qgg_ sks [] [] u29 = true := by kernel_rfl
set_option maxRecDepth 1000000 in
theorem c42 : Ax.chkU Tryd.prog qgg_ sks [] [] u42 = true := by kernel_rfl
set_option maxRecDepth 1000000 in
theorem c53 : Ax.chkU Tryd.prog qgg_ sks [] [] u53 = true := by kernel_rfl
set_option maxRecDepth 1000000 in
theorem c69 : Ax.chkU Tryd.prog qgg_ sks [] [] u69 = true := by kernel_rfl
set_option maxRecDepth 1000000 in
theorem c336 : Ax.chkU Tryd.prog qgg_ sks [] [] u336 = true := by kernel_rfl
set_option maxRecDepth 1000000 in
theorem c349 : Ax.chkU Tryd.prog qgg_ sks [] [] u349 = true := by kernel_rfl
set_option maxRecDepth 1000000 in
theorem c353 : Ax.chkU Tryd.prog qgg_ sks [] [] u353 = true := by kernel_rfl
set_option maxRecDepth 1000000 in
theorem c368 : Ax.chkU Tryd.prog qgg_ sks [] [] u368 = true := by kernel_rfl
set_option maxRecDepth 1000000 in
theorem c381 : Ax.chkU Tryd.prog qgg_ sks [] [] u381 = true := by kernel_rfl

end Go.Proofs.YtgiceoflfmmlcaaDoor.lives
