/-
  viewportlaw09.LinesNil, run in order, gives true whatever its arguments are; so it gives true in whatever order, and leaves what was there. No condition.
-/
import Derived.Test.YtfanjbjnjkejiaaAxX
import Derived.Test.YtfanjbjnjkejiaaChecked
import Derived.KernelRfl
set_option linter.unusedSimpArgs false
set_option linter.unusedVariables false
namespace Go.Proofs.Ytfanjbjnjkejiaa.linesNil
open Go.Proofs.Ytfanjbjnjkejiaa Ax

set_option maxRecDepth 1000000 in
theorem closed (e0 : Int) (e1 : Int) (e2 : Int) (a : Int) (b : Int) : Ax.isTrue (Ax.callP Try.prog (.func 5) [.agg #[.int .i64 e0, .int .i64 e1, .int .i64 e2], .int .i64 a, .int .i64 b] Ax.h0) = true := by kernel_rfl
theorem walk_LinesNil (e0 : Int) (e1 : Int) (e2 : Int) (a : Int) (b : Int) (w : World) (_ : (Lit.int .i64 e0).wf = true) (_ : (Lit.int .i64 e1).wf = true) (_ : (Lit.int .i64 e2).wf = true) (_ : (Lit.int .i64 a).wf = true) (_ : (Lit.int .i64 b).wf = true) : Calls Try.prog 5 #[.agg #[.int .i64 e0, .int .i64 e1, .int .i64 e2], .int .i64 a, .int .i64 b] w fun e w' => e = .returned (.bool true) ∧ Go.RowKit.Below w.heap.size w w' :=
  Ax.run_args (by kernel_rfl) (.cons (VRs.agg (.cons (.int _ _) (.cons (.int _ _) (.cons (.int _ _) .nil)))) (.cons (.int _ _) (.cons (.int _ _) .nil))) (closed e0 e1 e2 a b) w

end Go.Proofs.Ytfanjbjnjkejiaa.linesNil
