/-
  viewportlaw04.DfaNames, run in order, in parts, gives true; so it gives true in whatever order, and leaves what was there. No condition.
-/
import Derived.Test.YthomkiindjhdmaaDoorAx5
import Derived.Test.YthomkiindjhdmaaDoorKeys
import Derived.Test.YthomkiindjhdmaaDoorTabsDfaNames
import Derived.Test.YthomkiindjhdmaaDoorChecked
import Derived.KernelRfl
import Derived.Test.YthomkiindjhdmaaDoorPDfaNames3
import Derived.Test.YthomkiindjhdmaaDoorPDfaNames6
import Derived.Test.YthomkiindjhdmaaDoorPDfaNames8
import Derived.Test.YthomkiindjhdmaaDoorPDfaNames9
import Derived.Test.YthomkiindjhdmaaDoorPDfaNames10
import Derived.Test.YthomkiindjhdmaaDoorPDfaNames11
import Derived.Test.YthomkiindjhdmaaDoorPDfaNames12
import Derived.Test.YthomkiindjhdmaaDoorPDfaNames13
import Derived.Test.YthomkiindjhdmaaDoorPDfaNames14
set_option linter.unusedSimpArgs false
set_option linter.unusedVariables false
namespace Go.Proofs.YthomkiindjhdmaaDoor.dfaNames
open Go.Proofs Go.Proofs.YthomkiindjhdmaaDoor Ax

set_option maxRecDepth 1000000 in
theorem closed  : Ax.isTrue (Ax.callR Tryd.prog quiets sks [e2, e3727, e3874, e7446, e7593, e12060, e12323, e13100, e13878, e14656, e15434, e16212, e16990, e17771, e18549, e19330] [g10876, g11809] (.func 4) [] Ax.h0) = true := by kernel_rfl
theorem walk_DfaNames  (w : World) (ht : Ax.TabsOK w.heap.size w)  : Calls Tryd.prog 4 #[] w fun e w' => e = .returned (.bool true) ∧ Go.RowKit.Below w.heap.size w w' :=
  Ax.run_argsR (ql := quiets) (l := [e2, e3727, e3874, e7446, e7593, e12060, e12323, e13100, e13878, e14656, e15434, e16212, e16990, e17771, e18549, e19330]) (m := [g10876, g11809]) mixed quiets_ok sks_ok ⟨o2, o3727, o3874, o7446, o7593, o12060, o12323, o13100, o13878, o14656, o15434, o16212, o16990, o17771, o18549, o19330, trivial⟩ ⟨h10876, h11809, trivial⟩ .nil (closed ) w ht

end Go.Proofs.YthomkiindjhdmaaDoor.dfaNames
