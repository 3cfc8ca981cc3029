/-
  viewportlaw27.EngineNil, run in order, in parts, gives true; so it gives true in whatever order, and leaves what was there. No condition.
-/
import Derived.Test.YtlocganmbeghjaaGreatDoorAx5
import Derived.Test.YtlocganmbeghjaaGreatDoorKeys
import Derived.Test.YtlocganmbeghjaaGreatDoorTabsEngineNil
import Derived.Test.YtlocganmbeghjaaGreatDoorChecked
import Derived.KernelRfl
import Derived.Test.YtlocganmbeghjaaGreatDoorPEngineNil9
import Derived.Test.YtlocganmbeghjaaGreatDoorPEngineNil11
import Derived.Test.YtlocganmbeghjaaGreatDoorPEngineNil24
import Derived.Test.YtlocganmbeghjaaGreatDoorPEngineNil40
set_option linter.unusedSimpArgs false
set_option linter.unusedVariables false
namespace Go.Proofs.YtlocganmbeghjaaGreatDoor.engineNil
open Go.Proofs Go.Proofs.YtlocganmbeghjaaGreatDoor Ax

set_option maxRecDepth 1000000 in
theorem closed (a : Int) (b : Int) (s : ByteArray) : Ax.isTrue (Ax.callR Tryz.prog quiets sks [e5, e13813, e16850, e33634] [g14287] (.func 4) [.int .i64 a, .int .i64 b, .string s] Ax.h0) = true := by kernel_rfl
theorem walk_EngineNil (a : Int) (b : Int) (s : ByteArray) (w : World) (ht : Ax.TabsOK w.heap.size w) (_ : (Lit.int .i64 a).wf = true) (_ : (Lit.int .i64 b).wf = true) (_ : s.size ≤ maxLen) : Calls Tryz.prog 4 #[.int .i64 a, .int .i64 b, .string s] w fun e w' => e = .returned (.bool true) ∧ Go.RowKit.Below w.heap.size w w' :=
  Ax.run_argsR (ql := quiets) (l := [e5, e13813, e16850, e33634]) (m := [g14287]) mixed quiets_ok sks_ok ⟨o5, o13813, o16850, o33634, trivial⟩ ⟨h14287, trivial⟩ (.cons (.int _ _) (.cons (.int _ _) (.cons (.string _) .nil))) (closed a b s) w ht

end Go.Proofs.YtlocganmbeghjaaGreatDoor.engineNil
