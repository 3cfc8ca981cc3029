/-
  viewportlaw03.lives, run in order, in parts, gives true; so it gives true in whatever order, and leaves what was there. No condition.
-/
import Derived.Test.YtkdeabcaijfdfaaAx5
import Derived.Test.YtkdeabcaijfdfaaKeys
import Derived.Test.YtkdeabcaijfdfaaTabs0
import Derived.Test.YtkdeabcaijfdfaaChecked
import Derived.KernelRfl
import Derived.Test.YtkdeabcaijfdfaaQlives
set_option linter.unusedSimpArgs false
set_option linter.unusedVariables false
namespace Go.Proofs.Ytkdeabcaijfdfaa.lives
open Go.Proofs Go.Proofs.Ytkdeabcaijfdfaa Ax

set_option maxRecDepth 1000000 in
theorem closed  : Ax.isTrue (Ax.callR Try.prog quiets sks [] [g236, g241, g243, g247, g260, g270] (.func 5) [] Ax.h0) = true := by kernel_rfl
theorem walk_lives  (w : World)  : Calls Try.prog 5 #[] w fun e w' => e = .returned (.bool true) ∧ Go.RowKit.Below w.heap.size w w' :=
  Ax.run_argsR (ql := quiets) (l := []) (m := [g236, g241, g243, g247, g260, g270]) mixed quiets_ok sks_ok trivial ⟨h236, h241, h243, h247, h260, h270, trivial⟩ .nil (closed ) w (tabs_ok w)

end Go.Proofs.Ytkdeabcaijfdfaa.lives
