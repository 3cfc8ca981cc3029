/-
  viewportlaw17.FreshNames, run in order, in parts, gives true; so it gives true in whatever order, and leaves what was there. No condition.
-/
import Derived.Test.YtpgmeagnklfiiaaGreatDoorAx5
import Derived.Test.YtpgmeagnklfiiaaGreatDoorKeys
import Derived.Test.YtpgmeagnklfiiaaGreatDoorTabsFreshNames
import Derived.Test.YtpgmeagnklfiiaaGreatDoorChecked
import Derived.KernelRfl
import Derived.Test.YtpgmeagnklfiiaaGreatDoorQFreshNames
set_option linter.unusedSimpArgs false
set_option linter.unusedVariables false
namespace Go.Proofs.YtpgmeagnklfiiaaGreatDoor.freshNames
open Go.Proofs Go.Proofs.YtpgmeagnklfiiaaGreatDoor Ax

set_option maxRecDepth 1000000 in
theorem closed  : Ax.isTrue (Ax.callR Tryz.prog quiets sks [e2, e11751, e23499, e25461, e27245, e36552, e38391, e40757, e42625, e54933] [] (.func 3) [] Ax.h0) = true := by kernel_rfl
theorem walk_FreshNames  (w : World) (ht : Ax.TabsOK w.heap.size w)  : Calls Tryz.prog 3 #[] w fun e w' => e = .returned (.bool true) ∧ Go.RowKit.Below w.heap.size w w' :=
  Ax.run_argsR (ql := quiets) (l := [e2, e11751, e23499, e25461, e27245, e36552, e38391, e40757, e42625, e54933]) (m := []) mixed quiets_ok sks_ok ⟨o2, o11751, o23499, o25461, o27245, o36552, o38391, o40757, o42625, o54933, trivial⟩ trivial .nil (closed ) w ht

end Go.Proofs.YtpgmeagnklfiiaaGreatDoor.freshNames
