/-
  viewportlaw18.MachineNil, run in order, in parts, gives true; so it gives true in whatever order, and leaves what was there. No condition.
-/
import Derived.Test.YtmfmfmmnddncpaaGreatDoorAx5
import Derived.Test.YtmfmfmmnddncpaaGreatDoorKeys
import Derived.Test.YtmfmfmmnddncpaaGreatDoorTabsMachineNil
import Derived.Test.YtmfmfmmnddncpaaGreatDoorChecked
import Derived.KernelRfl
import Derived.Test.YtmfmfmmnddncpaaGreatDoorPMachineNil6
import Derived.Test.YtmfmfmmnddncpaaGreatDoorPMachineNil7
import Derived.Test.YtmfmfmmnddncpaaGreatDoorPMachineNil9
set_option linter.unusedSimpArgs false
set_option linter.unusedVariables false
namespace Go.Proofs.YtmfmfmmnddncpaaGreatDoor.machineNil
open Go.Proofs Go.Proofs.YtmfmfmmnddncpaaGreatDoor Ax

set_option maxRecDepth 1000000 in
theorem closed (t : ByteArray) (n : Int) (e0 : Int) (e1 : Int) (e2 : Int) : Ax.isTrue (Ax.callR Tryz.prog quiets sks [e5, e8109, e9068, e10318, e11282, e11750] [] (.func 3) [.string t, .int .i64 n, .agg #[.int .i64 e0, .int .i64 e1, .int .i64 e2]] Ax.h0) = true := by kernel_rfl
theorem walk_MachineNil (t : ByteArray) (n : Int) (e0 : Int) (e1 : Int) (e2 : Int) (w : World) (ht : Ax.TabsOK w.heap.size w) (_ : t.size ≤ maxLen) (_ : (Lit.int .i64 n).wf = true) (_ : (Lit.int .i64 e0).wf = true) (_ : (Lit.int .i64 e1).wf = true) (_ : (Lit.int .i64 e2).wf = true) : Calls Tryz.prog 3 #[.string t, .int .i64 n, .agg #[.int .i64 e0, .int .i64 e1, .int .i64 e2]] w fun e w' => e = .returned (.bool true) ∧ Go.RowKit.Below w.heap.size w w' :=
  Ax.run_argsR (ql := quiets) (l := [e5, e8109, e9068, e10318, e11282, e11750]) (m := []) mixed quiets_ok sks_ok ⟨o5, o8109, o9068, o10318, o11282, o11750, trivial⟩ trivial (.cons (.string _) (.cons (.int _ _) (.cons (VRs.agg (.cons (.int _ _) (.cons (.int _ _) (.cons (.int _ _) .nil)))) .nil))) (closed t n e0 e1 e2) w ht

end Go.Proofs.YtmfmfmmnddncpaaGreatDoor.machineNil
