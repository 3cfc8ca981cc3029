/-
  viewportlaw12.lives, run in order, in parts, gives true; so it gives true in whatever order, and leaves what was there. No condition.
-/
import Derived.Test.YtgcbagchpjpmoaaAx5
import Derived.Test.YtgcbagchpjpmoaaKeys
import Derived.Test.YtgcbagchpjpmoaaTabs0
import Derived.Test.YtgcbagchpjpmoaaChecked
import Derived.KernelRfl
import Derived.Test.YtgcbagchpjpmoaaQlives
set_option linter.unusedSimpArgs false
set_option linter.unusedVariables false
namespace Go.Proofs.Ytgcbagchpjpmoaa.lives
open Go.Proofs Go.Proofs.Ytgcbagchpjpmoaa Ax

set_option maxRecDepth 1000000 in
theorem closed  : Ax.isTrue (Ax.callR Try.prog quiets sks [] [g100] (.func 4) [] Ax.h0) = true := by kernel_rfl
theorem walk_lives  (w : World)  : Calls Try.prog 4 #[] w fun e w' => e = .returned (.bool true) ∧ Go.RowKit.Below w.heap.size w w' :=
  Ax.run_argsR (ql := quiets) (l := []) (m := [g100]) mixed quiets_ok sks_ok trivial ⟨h100, trivial⟩ .nil (closed ) w (tabs_ok w)

end Go.Proofs.Ytgcbagchpjpmoaa.lives
