/-
  The examples come out, whatever windows there are. No condition.
-/
import Derived.Test.YtkmebhpbfgffbaaGreatTghWin
import Derived.Test.YtkmebhpbfgffbaaGreatlivesGood
set_option linter.unusedSimpArgs false
set_option linter.unusedVariables false
set_option linter.unusedSectionVars false
set_option linter.unnecessarySimpa false
namespace Go.Proofs.YtkmebhpbfgffbaaGreat.tghw
open Go Go.Proofs.YtkmebhpbfgffbaaGreat Ax Go.Proofs.YtkmebhpbfgffbaaGreat.lives
theorem lives_gv0 : @Gv tabs P (.func 5) [] Ax.h0 (.bool true) Ax.h0 :=
  @Gv.ofTrueR tabs P hm quiets quiets_ok sks sks_ok [e4, e16792, e29384] ⟨o4, o16792, o29384, trivial⟩ [g18610, g19151] ⟨h18610, h19151, trivial⟩ 5 closed
theorem lives_gv [Args] : Gv P (.func 5) [] Ax.h0 (.bool true) Ax.h0 :=
  Gv.other tabs wins (fun n w => ⟨fun g l h => (nomatch (show (none : Option (List Value)) = some l from h)), fun j b d l h => (nomatch (show (none : Option (Nat × Nat × List Value)) = some (b, d, l) from h))⟩) lives_gv0
end Go.Proofs.YtkmebhpbfgffbaaGreat.tghw
