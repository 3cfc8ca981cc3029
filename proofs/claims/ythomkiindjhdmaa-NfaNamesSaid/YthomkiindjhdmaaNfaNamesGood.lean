/-
  viewportlaw03.NfaNames, run in order, in parts, gives true; so it gives true in whatever order, and leaves what was there. No condition.
-/
import Derived.Test.YthomkiindjhdmaaAx5
import Derived.Test.YthomkiindjhdmaaKeys
import Derived.Test.YthomkiindjhdmaaTabs0
import Derived.Test.YthomkiindjhdmaaChecked
import Derived.KernelRfl
import Derived.Test.YthomkiindjhdmaaPNfaNames1
set_option linter.unusedSimpArgs false
set_option linter.unusedVariables false
namespace Go.Proofs.Ythomkiindjhdmaa.nfaNames
open Go.Proofs Go.Proofs.Ythomkiindjhdmaa Ax

set_option maxRecDepth 1000000 in
theorem closed  : Ax.isTrue (Ax.callR Try.prog quiets sks [e2, e301, e381] [] (.func 6) [] Ax.h0) = true := by kernel_rfl
theorem walk_NfaNames  (w : World)  : Calls Try.prog 6 #[] w fun e w' => e = .returned (.bool true) ∧ Go.RowKit.Below w.heap.size w w' :=
  Ax.run_argsR (ql := quiets) (l := [e2, e301, e381]) (m := []) mixed quiets_ok sks_ok ⟨o2, o301, o381, trivial⟩ trivial .nil (closed ) w (tabs_ok w)

end Go.Proofs.Ythomkiindjhdmaa.nfaNames
