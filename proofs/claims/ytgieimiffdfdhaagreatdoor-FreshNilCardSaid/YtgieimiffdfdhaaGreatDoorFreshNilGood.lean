/-
  viewportlaw17.FreshNil, run in order, in parts, gives true; so it gives true in whatever order, and leaves what was there. No condition.
-/
import Derived.Test.YtgieimiffdfdhaaGreatDoorAx5
import Derived.Test.YtgieimiffdfdhaaGreatDoorKeys
import Derived.Test.YtgieimiffdfdhaaGreatDoorTabsFreshNil
import Derived.Test.YtgieimiffdfdhaaGreatDoorChecked
import Derived.KernelRfl
import Derived.Test.YtgieimiffdfdhaaGreatDoorPFreshNil6
import Derived.Test.YtgieimiffdfdhaaGreatDoorPFreshNil7
import Derived.Test.YtgieimiffdfdhaaGreatDoorPFreshNil9
import Derived.Test.YtgieimiffdfdhaaGreatDoorPFreshNil10
set_option linter.unusedSimpArgs false
set_option linter.unusedVariables false
namespace Go.Proofs.YtgieimiffdfdhaaGreatDoor.freshNil
open Go.Proofs Go.Proofs.YtgieimiffdfdhaaGreatDoor Ax

set_option maxRecDepth 1000000 in
theorem closed (t : ByteArray) (l : Int) (p : Int) : Ax.isTrue (Ax.callR Tryz.prog quiets sks [e6, e8110, e9069, e10319, e11283, e11751, e13713] [] (.func 3) [.string t, .int .i64 l, .int .i64 p] Ax.h0) = true := by kernel_rfl
theorem walk_FreshNil (t : ByteArray) (l : Int) (p : Int) (w : World) (ht : Ax.TabsOK w.heap.size w) (_ : t.size ≤ maxLen) (_ : (Lit.int .i64 l).wf = true) (_ : (Lit.int .i64 p).wf = true) : Calls Tryz.prog 3 #[.string t, .int .i64 l, .int .i64 p] w fun e w' => e = .returned (.bool true) ∧ Go.RowKit.Below w.heap.size w w' :=
  Ax.run_argsR (ql := quiets) (l := [e6, e8110, e9069, e10319, e11283, e11751, e13713]) (m := []) mixed quiets_ok sks_ok ⟨o6, o8110, o9069, o10319, o11283, o11751, o13713, trivial⟩ trivial (.cons (.string _) (.cons (.int _ _) (.cons (.int _ _) .nil))) (closed t l p) w ht

end Go.Proofs.YtgieimiffdfdhaaGreatDoor.freshNil
