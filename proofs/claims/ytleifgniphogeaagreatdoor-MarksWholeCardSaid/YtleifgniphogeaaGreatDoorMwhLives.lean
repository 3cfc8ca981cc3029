/-
  The examples come out, whatever windows there are. No condition.
-/
import Derived.Test.YtleifgniphogeaaGreatDoorMwhWin
import Derived.Test.YtleifgniphogeaaGreatDoorlivesGood
set_option linter.unusedSimpArgs false
set_option linter.unusedVariables false
set_option linter.unusedSectionVars false
set_option linter.unnecessarySimpa false
namespace Go.Proofs.YtleifgniphogeaaGreatDoor.mwh19
open Go Go.Proofs.YtleifgniphogeaaGreatDoor Ax Go.Proofs.YtleifgniphogeaaGreatDoor.lives
theorem lives_gv0:@Gv tabs P (.func 4) [] Ax.h0 (.bool true) Ax.h0:=
  @Gv.ofTrueR tabs P hm qbd_ qr_ sks qey_ [e3,e11749,e13942] ⟨o3,o11749,o13942,trivial⟩ [] trivial 4 closed
theorem lives_gv [Args]:Gv P (.func 4) [] Ax.h0 (.bool true) Ax.h0:=
  Gv.other tabs wins (fun n w=>⟨fun g l h=>(nomatch (show (none:Option (List Value))=some l from h)),fun j b d l h=>(nomatch (show (none:Option (Nat×Nat×List Value))=some (b,d,l) from h))⟩) lives_gv0
end Go.Proofs.YtleifgniphogeaaGreatDoor.mwh19
