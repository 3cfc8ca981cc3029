/-
  The examples come out, whatever windows there are. No condition.
-/
import Derived.Test.YtdcocjjkfodjeaaSpcWin
import Derived.Test.YtdcocjjkfodjeaalivesGood
set_option linter.unusedSimpArgs false
set_option linter.unusedVariables false
set_option linter.unusedSectionVars false
set_option linter.unnecessarySimpa false
namespace Go.Proofs.Ytdcocjjkfodjeaa.spc20
open Go Go.Proofs.Ytdcocjjkfodjeaa Ax Go.Proofs.Ytdcocjjkfodjeaa.lives
theorem lives_gv0:@Gv tabs P (.func 4) [] Ax.h0 (.bool true) Ax.h0:=
  @Gv.ofTrueR tabs P hm quiets quiets_ok sks sks_ok [] trivial [] trivial 4 closed
theorem lives_gv [Args]:Gv P (.func 4) [] Ax.h0 (.bool true) Ax.h0:=
  Gv.other tabs wins (fun n w=>⟨fun g l h=>(nomatch (show (none:Option (List Value))=some l from h)),fun j b d l h=>(nomatch (show (none:Option (Nat×Nat×List Value))=some (b,d,l) from h))⟩) lives_gv0
end Go.Proofs.Ytdcocjjkfodjeaa.spc20
