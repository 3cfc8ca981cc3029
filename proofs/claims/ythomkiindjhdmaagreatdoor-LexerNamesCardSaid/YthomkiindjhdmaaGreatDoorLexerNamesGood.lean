/-
  viewportlaw07.LexerNames, run in order, in parts, gives true; so it gives true in whatever order, and leaves what was there. No condition.
-/
import Derived.Test.YthomkiindjhdmaaGreatDoorAx5
import Derived.Test.YthomkiindjhdmaaGreatDoorKeys
import Derived.Test.YthomkiindjhdmaaGreatDoorTabsLexerNames
import Derived.Test.YthomkiindjhdmaaGreatDoorChecked
import Derived.KernelRfl
import Derived.Test.YthomkiindjhdmaaGreatDoorPLexerNames7
import Derived.Test.YthomkiindjhdmaaGreatDoorPLexerNames12
import Derived.Test.YthomkiindjhdmaaGreatDoorPLexerNames14
import Derived.Test.YthomkiindjhdmaaGreatDoorPLexerNames15
import Derived.Test.YthomkiindjhdmaaGreatDoorPLexerNames16
import Derived.Test.YthomkiindjhdmaaGreatDoorPLexerNames17
import Derived.Test.YthomkiindjhdmaaGreatDoorPLexerNames18
set_option linter.unusedSimpArgs false
set_option linter.unusedVariables false
namespace Go.Proofs.YthomkiindjhdmaaGreatDoor.lexerNames
open Go.Proofs Go.Proofs.YthomkiindjhdmaaGreatDoor Ax

set_option maxRecDepth 1000000 in
theorem closed  : Ax.isTrue (Ax.callR Tryz.prog quiets sks [e2, e9598, e17718, e20079, e21655, e22441, e24117, e24905] [g17541, g17588, g17630, g17634, g17655, g17668, g25753] (.func 3) [] Ax.h0) = true := by kernel_rfl
theorem walk_LexerNames  (w : World) (ht : Ax.TabsOK w.heap.size w)  : Calls Tryz.prog 3 #[] w fun e w' => e = .returned (.bool true) ∧ Go.RowKit.Below w.heap.size w w' :=
  Ax.run_argsR (ql := quiets) (l := [e2, e9598, e17718, e20079, e21655, e22441, e24117, e24905]) (m := [g17541, g17588, g17630, g17634, g17655, g17668, g25753]) mixed quiets_ok sks_ok ⟨o2, o9598, o17718, o20079, o21655, o22441, o24117, o24905, trivial⟩ ⟨h17541, h17588, h17630, h17634, h17655, h17668, h25753, trivial⟩ .nil (closed ) w ht

end Go.Proofs.YthomkiindjhdmaaGreatDoor.lexerNames
