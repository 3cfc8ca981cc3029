/-
  viewportlaw18.MachineNames, run in order, in parts, gives true; so it gives true in whatever order, and leaves what was there. No condition.
-/
import Derived.Test.YtmfmfmmnddncpaaGreatDoorAx5
import Derived.Test.YtmfmfmmnddncpaaGreatDoorKeys
import Derived.Test.YtmfmfmmnddncpaaGreatDoorTabsMachineNames
import Derived.Test.YtmfmfmmnddncpaaGreatDoorChecked
import Derived.KernelRfl
import Derived.Test.YtmfmfmmnddncpaaGreatDoorPMachineNames7
import Derived.Test.YtmfmfmmnddncpaaGreatDoorPMachineNames16
import Derived.Test.YtmfmfmmnddncpaaGreatDoorPMachineNames18
import Derived.Test.YtmfmfmmnddncpaaGreatDoorPMachineNames19
import Derived.Test.YtmfmfmmnddncpaaGreatDoorPMachineNames20
import Derived.Test.YtmfmfmmnddncpaaGreatDoorPMachineNames23
set_option linter.unusedSimpArgs false
set_option linter.unusedVariables false
namespace Go.Proofs.YtmfmfmmnddncpaaGreatDoor.machineNames
open Go.Proofs Go.Proofs.YtmfmfmmnddncpaaGreatDoor Ax

set_option maxRecDepth 1000000 in
theorem closed  : Ax.isTrue (Ax.callR Tryz.prog quiets sks [e3, e11749, e26097, e28075, e36072] [g29238, g30937, g32545] (.func 4) [] Ax.h0) = true := by kernel_rfl
theorem walk_MachineNames  (w : World) (ht : Ax.TabsOK w.heap.size w)  : Calls Tryz.prog 4 #[] w fun e w' => e = .returned (.bool true) ∧ Go.RowKit.Below w.heap.size w w' :=
  Ax.run_argsR (ql := quiets) (l := [e3, e11749, e26097, e28075, e36072]) (m := [g29238, g30937, g32545]) mixed quiets_ok sks_ok ⟨o3, o11749, o26097, o28075, o36072, trivial⟩ ⟨h29238, h30937, h32545, trivial⟩ .nil (closed ) w ht

end Go.Proofs.YtmfmfmmnddncpaaGreatDoor.machineNames
