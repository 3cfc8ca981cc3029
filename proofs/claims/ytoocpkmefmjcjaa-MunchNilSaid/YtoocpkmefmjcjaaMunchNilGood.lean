/-
  viewportlaw06.MunchNil, run in order, in parts, gives true; so it gives true in whatever order, and leaves what was there. No condition.
-/
import Derived.Test.YtoocpkmefmjcjaaAx1
import Derived.Test.YtoocpkmefmjcjaaKeys
import Derived.Test.YtoocpkmefmjcjaaChecked
import Derived.KernelRfl
import Derived.Test.YtoocpkmefmjcjaaPMunchNil6
import Derived.Test.YtoocpkmefmjcjaaPMunchNil7
set_option linter.unusedSimpArgs false
set_option linter.unusedVariables false
namespace Go.Proofs.Ytoocpkmefmjcjaa.munchNil
open Go.Proofs Go.Proofs.Ytoocpkmefmjcjaa Ax

set_option maxRecDepth 1000000 in
theorem closed (at : Int) (text : ByteArray) : Ax.isTrue (Ax.callQ Try.prog sks [e89, e2428] (.func 3) [.int .i64 at, .string text] Ax.h0) = true := by kernel_rfl
theorem walk_MunchNil (at : Int) (text : ByteArray) (w : World) (_ : (Lit.int .i64 at).wf = true) : Calls Try.prog 3 #[.int .i64 at, .string text] w fun e w' => e = .returned (.bool true) ∧ Go.RowKit.Below w.heap.size w w' :=
  Ax.run_argsQ (l := [e89, e2428]) mixed sks_ok ⟨o89, o2428, trivial⟩ (.cons (.int _ _) (.cons (.string _) .nil)) (closed at text) w

end Go.Proofs.Ytoocpkmefmjcjaa.munchNil
