/-
  The examples come out, whatever windows there are. No condition.
-/
import Derived.Test.YtkdeabcaijfdfaaNssWin
import Derived.Test.YtkdeabcaijfdfaalivesGood
set_option linter.unusedSimpArgs false
set_option linter.unusedVariables false
set_option linter.unusedSectionVars false
set_option linter.unnecessarySimpa false
namespace Go.Proofs.Ytkdeabcaijfdfaa.nss03
open Go Go.Proofs.Ytkdeabcaijfdfaa Ax Go.Proofs.Ytkdeabcaijfdfaa.lives
theorem lives_gv0 : @Gv tabs P (.func 5) [] Ax.h0 (.bool true) Ax.h0 :=
  @Gv.ofTrueR tabs P hm quiets quiets_ok sks sks_ok [] trivial [g236, g241, g243, g247, g260, g270] ⟨h236, h241, h243, h247, h260, h270, trivial⟩ 5 closed
theorem lives_gv [Args] : Gv P (.func 5) [] Ax.h0 (.bool true) Ax.h0 :=
  Gv.other tabs wins (fun n w => ⟨fun g l h => (nomatch (show (none : Option (List Value)) = some l from h)), fun j b d l h => (nomatch (show (none : Option (Nat × Nat × List Value)) = some (b, d, l) from h))⟩) lives_gv0
end Go.Proofs.Ytkdeabcaijfdfaa.nss03
