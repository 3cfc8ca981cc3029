/-
  The examples come out, whatever windows there are. No condition.
-/
import Derived.Test.YthlikofobjhcoaaGreatPtbWin
import Derived.Test.YthlikofobjhcoaaGreatlivesGood
set_option linter.unusedSimpArgs false
set_option linter.unusedVariables false
set_option linter.unusedSectionVars false
set_option linter.unnecessarySimpa false
namespace Go.Proofs.YthlikofobjhcoaaGreat.ptb28
open Go Go.Proofs.YthlikofobjhcoaaGreat Ax Go.Proofs.YthlikofobjhcoaaGreat.lives
theorem lives_gv0:@Gv tabs P (.func 4) [] Ax.h0 (.bool true) Ax.h0:=
  @Gv.ofTrueR tabs P hm qh_ qe_ sks qb5_ [e3,e16787,e30948] ⟨o3,o16787,o30948,trivial⟩ [] trivial 4 closed
theorem lives_gv [Args]:Gv P (.func 4) [] Ax.h0 (.bool true) Ax.h0:=
  Gv.other tabs wins (fun n w=>⟨fun g l h=>(nomatch (show (none:Option (List Value))=some l from h)),fun j b d l h=>(nomatch (show (none:Option (Nat×Nat×List Value))=some (b,d,l) from h))⟩) lives_gv0
end Go.Proofs.YthlikofobjhcoaaGreat.ptb28
