/-
  The examples come out, whatever windows there are. No condition.
-/
import Derived.Test.YtdjkjpmcmpihgaaDoorClpWin
import Derived.Test.YtdjkjpmcmpihgaaDoorlivesGood
set_option linter.unusedSimpArgs false
set_option linter.unusedVariables false
set_option linter.unusedSectionVars false
set_option linter.unnecessarySimpa false
namespace Go.Proofs.YtdjkjpmcmpihgaaDoor.clp01
open Go Go.Proofs.YtdjkjpmcmpihgaaDoor Ax Go.Proofs.YtdjkjpmcmpihgaaDoor.lives
theorem lives_gv0 : @Gv Go.Proofs.YtdjkjpmcmpihgaaDoor.lives.tabs P (.func 5) [] Ax.h0 (.bool true) Ax.h0 :=
  @Gv.ofTrueR Go.Proofs.YtdjkjpmcmpihgaaDoor.lives.tabs P hm quiets quiets_ok sks sks_ok [] trivial [] trivial 5 closed
theorem lives_gv [Args] : Gv P (.func 5) [] Ax.h0 (.bool true) Ax.h0 :=
  Gv.otherT Go.Proofs.YtdjkjpmcmpihgaaDoor.lives.tabs wins (fun n w h0 => ⟨fun g l h => h0.1 g l h, fun j b d l h => (nomatch (show (none : Option (Nat × Nat × List Value)) = some (b, d, l) from h))⟩) lives_gv0
end Go.Proofs.YtdjkjpmcmpihgaaDoor.clp01
