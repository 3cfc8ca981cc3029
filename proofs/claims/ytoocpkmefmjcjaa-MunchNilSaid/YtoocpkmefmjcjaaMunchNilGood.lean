/-
  viewportlaw06.MunchNil, run in order, in parts, gives true; so it gives true in whatever order, and leaves what was there. No condition.
-/
import Derived.Test.YtoocpkmefmjcjaaAx5
import Derived.Test.YtoocpkmefmjcjaaKeys
import Derived.Test.YtoocpkmefmjcjaaChecked
import Derived.KernelRfl
import Derived.Test.YtoocpkmefmjcjaaPMunchNil5
set_option linter.unusedSimpArgs false
set_option linter.unusedVariables false
namespace Go.Proofs.Ytoocpkmefmjcjaa.munchNil
open Go.Proofs Go.Proofs.Ytoocpkmefmjcjaa Ax

set_option maxRecDepth 1000000 in
theorem closed (a1 : Int) (t1 : ByteArray) : Ax.isTrue (Ax.callR Try.prog sks [e3] [g13570] (.func 3) [.int .i64 a1, .string t1] Ax.h0) = true := by kernel_rfl
theorem walk_MunchNil (a1 : Int) (t1 : ByteArray) (w : World) (_ : (Lit.int .i64 a1).wf = true) (_ : t1.size ≤ maxLen) : Calls Try.prog 3 #[.int .i64 a1, .string t1] w fun e w' => e = .returned (.bool true) ∧ Go.RowKit.Below w.heap.size w w' :=
  Ax.run_argsR (l := [e3]) (m := [g13570]) mixed sks_ok ⟨o3, trivial⟩ ⟨h13570, trivial⟩ (.cons (.int _ _) (.cons (.string _) .nil)) (closed a1 t1) w

end Go.Proofs.Ytoocpkmefmjcjaa.munchNil
