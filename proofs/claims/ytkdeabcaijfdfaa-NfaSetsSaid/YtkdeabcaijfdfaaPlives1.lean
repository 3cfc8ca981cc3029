/-
  Parts of the run of viewportlaw03.lives, in order: each, for itself, gives what is said of it. No condition.
-/
import Derived.Test.YtkdeabcaijfdfaaAx9
import Derived.Test.YtkdeabcaijfdfaaKeys
import Derived.Test.YtkdeabcaijfdfaaTabs0
import Derived.Test.YtkdeabcaijfdfaaProg
import Derived.KernelRfl
import Derived.Test.YtkdeabcaijfdfaaDlives1
set_option linter.unusedSimpArgs false
set_option linter.unusedVariables false
namespace Go.Proofs.Ytkdeabcaijfdfaa.lives
open Go.Proofs Go.Proofs.Ytkdeabcaijfdfaa Ax

set_option maxRecDepth 1000000 in
theorem c237 : Ax.chkU Try.prog quiets sks [] [] u237 = true := by kernel_rfl
set_option maxRecDepth 1000000 in
theorem c236 : Ax.chkU Try.prog quiets sks [] [g237] u236 = true := by kernel_rfl
set_option maxRecDepth 1000000 in
theorem c241 : Ax.chkU Try.prog quiets sks [] [] u241 = true := by kernel_rfl
set_option maxRecDepth 1000000 in
theorem c244 : Ax.chkU Try.prog quiets sks [] [] u244 = true := by kernel_rfl
set_option maxRecDepth 1000000 in
theorem c243 : Ax.chkU Try.prog quiets sks [] [g244] u243 = true := by kernel_rfl
set_option maxRecDepth 1000000 in
theorem c247 : Ax.chkU Try.prog quiets sks [] [] u247 = true := by kernel_rfl
set_option maxRecDepth 1000000 in
theorem c260 : Ax.chkU Try.prog quiets sks [] [] u260 = true := by kernel_rfl
set_option maxRecDepth 1000000 in
theorem c270 : Ax.chkU Try.prog quiets sks [] [] u270 = true := by kernel_rfl

end Go.Proofs.Ytkdeabcaijfdfaa.lives
