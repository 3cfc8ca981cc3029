/-
  viewportlaw19.MarksNames, run in order, in parts, gives true; so it gives true in whatever order, and leaves what was there. No condition.
-/
import Derived.Test.YthomkiindjhdmaaGreatDoorBx5
import Derived.Test.YthomkiindjhdmaaGreatDoorBKeys
import Derived.Test.YthomkiindjhdmaaGreatDoorTabsMarksNames
import Derived.Test.YthomkiindjhdmaaGreatDoorChecked
import Derived.KernelRfl
import Derived.Test.YthomkiindjhdmaaGreatDoorPMarksNames6
import Derived.Test.YthomkiindjhdmaaGreatDoorPMarksNames7
import Derived.Test.YthomkiindjhdmaaGreatDoorPMarksNames13
import Derived.Test.YthomkiindjhdmaaGreatDoorPMarksNames14
import Derived.Test.YthomkiindjhdmaaGreatDoorPMarksNames16
import Derived.Test.YthomkiindjhdmaaGreatDoorPMarksNames17
import Derived.Test.YthomkiindjhdmaaGreatDoorPMarksNames18
set_option linter.unusedSimpArgs false
set_option linter.unusedVariables false
namespace Go.Proofs.YthomkiindjhdmaaGreatDoor.marksNames
open Go.Proofs Go.Proofs.YthomkiindjhdmaaGreatDoor Ax

set_option maxRecDepth 1000000 in
theorem closed  : Ax.isTrue (Ax.callR Tryz.prog quiets sks [e4, e8108, e9067, e10317, e11281, e11752, e19856, e20815, e22065, e23029, e23497, e25459, e25690, e25927, e27889, e28126, e28227, e28447] [] (.func 4) [] Ax.h0) = true := by kernel_rfl
theorem walk_MarksNames  (w : World) (ht : Ax.TabsOK w.heap.size w)  : Calls Tryz.prog 4 #[] w fun e w' => e = .returned (.bool true) ∧ Go.RowKit.Below w.heap.size w w' :=
  Ax.run_argsR (ql := quiets) (l := [e4, e8108, e9067, e10317, e11281, e11752, e19856, e20815, e22065, e23029, e23497, e25459, e25690, e25927, e27889, e28126, e28227, e28447]) (m := []) mixed quiets_ok sks_ok ⟨o4, o8108, o9067, o10317, o11281, o11752, o19856, o20815, o22065, o23029, o23497, o25459, o25690, o25927, o27889, o28126, o28227, o28447, trivial⟩ trivial .nil (closed ) w ht

end Go.Proofs.YthomkiindjhdmaaGreatDoor.marksNames
