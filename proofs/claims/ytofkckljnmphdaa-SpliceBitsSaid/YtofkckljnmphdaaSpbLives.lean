/-
  The examples come out, whatever windows there are. No condition.
-/
import Derived.Test.YtofkckljnmphdaaSpbWin
import Derived.Test.YtofkckljnmphdaalivesGood
set_option linter.unusedSimpArgs false
set_option linter.unusedVariables false
set_option linter.unusedSectionVars false
set_option linter.unnecessarySimpa false
namespace Go.Proofs.Ytofkckljnmphdaa.spb20
open Go Go.Proofs.Ytofkckljnmphdaa Ax Go.Proofs.Ytofkckljnmphdaa.lives
theorem lives_gv0 : @Gv tabs P (.func 6) [] Ax.h0 (.bool true) Ax.h0 :=
  @Gv.ofTrueR tabs P hm quiets quiets_ok sks sks_ok [] trivial [] trivial 6 closed
theorem lives_gv [Args] : Gv P (.func 6) [] Ax.h0 (.bool true) Ax.h0 :=
  Gv.other tabs wins (fun n w => ⟨fun g l h => (nomatch (show (none : Option (List Value)) = some l from h)), fun j b d l h => (nomatch (show (none : Option (Nat × Nat × List Value)) = some (b, d, l) from h))⟩) lives_gv0
end Go.Proofs.Ytofkckljnmphdaa.spb20
