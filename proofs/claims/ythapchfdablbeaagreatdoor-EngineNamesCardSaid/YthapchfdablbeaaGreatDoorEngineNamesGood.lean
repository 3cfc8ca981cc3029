/-
  viewportlaw27.EngineNames, run in order, in parts, gives true; so it gives true in whatever order, and leaves what was there. No condition.
-/
import Derived.Test.YthapchfdablbeaaGreatDoorAx5
import Derived.Test.YthapchfdablbeaaGreatDoorKeys
import Derived.Test.YthapchfdablbeaaGreatDoorTabsEngineNames
import Derived.Test.YthapchfdablbeaaGreatDoorChecked
import Derived.KernelRfl
import Derived.Test.YthapchfdablbeaaGreatDoorQEngineNames
set_option linter.unusedSimpArgs false
set_option linter.unusedVariables false
namespace Go.Proofs.YthapchfdablbeaaGreatDoor.engineNames
open Go.Proofs Go.Proofs.YthapchfdablbeaaGreatDoor Ax

set_option maxRecDepth 1000000 in
theorem closed  : Ax.isTrue (Ax.callR Tryz.prog quiets sks [e9, e11796, e14048, e25965, e26792, e27519, e30793, e78662, e90447] [g27859] (.func 3) [] Ax.h0) = true := by kernel_rfl
theorem walk_EngineNames  (w : World) (ht : Ax.TabsOK w.heap.size w)  : Calls Tryz.prog 3 #[] w fun e w' => e = .returned (.bool true) ∧ Go.RowKit.Below w.heap.size w w' :=
  Ax.run_argsR (ql := quiets) (l := [e9, e11796, e14048, e25965, e26792, e27519, e30793, e78662, e90447]) (m := [g27859]) mixed quiets_ok sks_ok ⟨o9, o11796, o14048, o25965, o26792, o27519, o30793, o78662, o90447, trivial⟩ ⟨h27859, trivial⟩ .nil (closed ) w ht

end Go.Proofs.YthapchfdablbeaaGreatDoor.engineNames
