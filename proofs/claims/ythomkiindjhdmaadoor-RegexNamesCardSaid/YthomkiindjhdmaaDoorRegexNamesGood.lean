/-
  viewportlaw02.RegexNames, run in order, in parts, gives true; so it gives true in whatever order, and leaves what was there. No condition.
-/
import Derived.Test.YthomkiindjhdmaaDoorAx5
import Derived.Test.YthomkiindjhdmaaDoorKeys
import Derived.Test.YthomkiindjhdmaaDoorTabsRegexNames
import Derived.Test.YthomkiindjhdmaaDoorChecked
import Derived.KernelRfl
import Derived.Test.YthomkiindjhdmaaDoorPRegexNames1
import Derived.Test.YthomkiindjhdmaaDoorPRegexNames2
import Derived.Test.YthomkiindjhdmaaDoorPRegexNames4
import Derived.Test.YthomkiindjhdmaaDoorPRegexNames5
import Derived.Test.YthomkiindjhdmaaDoorPRegexNames6
import Derived.Test.YthomkiindjhdmaaDoorPRegexNames7
set_option linter.unusedSimpArgs false
set_option linter.unusedVariables false
namespace Go.Proofs.YthomkiindjhdmaaDoor.regexNames
open Go.Proofs Go.Proofs.YthomkiindjhdmaaDoor Ax

set_option maxRecDepth 1000000 in
theorem closed  : Ax.isTrue (Ax.callR Tryd.prog quiets sks [e2, e562, e688, e831, e1111, e1219, e1330, e1407, e1470, e2575, e2689, e3802, e4091, e4204, e4303, e4453, e4585, e4900, e5167, e5275, e5404] [g388, g402, g415, g421, g435, g441, g457, g485, g495, g509, g522] (.func 3) [] Ax.h0) = true := by kernel_rfl
theorem walk_RegexNames  (w : World) (ht : Ax.TabsOK w.heap.size w)  : Calls Tryd.prog 3 #[] w fun e w' => e = .returned (.bool true) ∧ Go.RowKit.Below w.heap.size w w' :=
  Ax.run_argsR (ql := quiets) (l := [e2, e562, e688, e831, e1111, e1219, e1330, e1407, e1470, e2575, e2689, e3802, e4091, e4204, e4303, e4453, e4585, e4900, e5167, e5275, e5404]) (m := [g388, g402, g415, g421, g435, g441, g457, g485, g495, g509, g522]) mixed quiets_ok sks_ok ⟨o2, o562, o688, o831, o1111, o1219, o1330, o1407, o1470, o2575, o2689, o3802, o4091, o4204, o4303, o4453, o4585, o4900, o5167, o5275, o5404, trivial⟩ ⟨h388, h402, h415, h421, h435, h441, h457, h485, h495, h509, h522, trivial⟩ .nil (closed ) w ht

end Go.Proofs.YthomkiindjhdmaaDoor.regexNames
