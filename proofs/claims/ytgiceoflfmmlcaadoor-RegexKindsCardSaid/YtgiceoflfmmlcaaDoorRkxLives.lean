/-
  The examples come out, whatever windows there are. No condition.
-/
import Derived.Test.YtgiceoflfmmlcaaDoorRkxWin
import Derived.Test.YtgiceoflfmmlcaaDoorlivesGood
set_option linter.unusedSimpArgs false
set_option linter.unusedVariables false
set_option linter.unusedSectionVars false
set_option linter.unnecessarySimpa false
namespace Go.Proofs.YtgiceoflfmmlcaaDoor.rkx02
open Go Go.Proofs.YtgiceoflfmmlcaaDoor Ax Go.Proofs.YtgiceoflfmmlcaaDoor.lives
theorem lives_gv0 : @Gv Go.Proofs.YtgiceoflfmmlcaaDoor.lives.tabs P (.func 5) [] Ax.h0 (.bool true) Ax.h0 :=
  @Gv.ofTrueR Go.Proofs.YtgiceoflfmmlcaaDoor.lives.tabs P hm qgg_ qel_ sks qnb_ [] trivial [g6, g10, g23, g29, g42, g53, g69, g336, g349, g353, g368, g381] ⟨h6, h10, h23, h29, h42, h53, h69, h336, h349, h353, h368, h381, trivial⟩ 5 closed
theorem lives_gv [Args] : Gv P (.func 5) [] Ax.h0 (.bool true) Ax.h0 :=
  Gv.otherT Go.Proofs.YtgiceoflfmmlcaaDoor.lives.tabs wins (fun n w h0 => ⟨fun g l h => h0.1 g l h, fun j b d l h => (nomatch (show (none : Option (Nat × Nat × List Value)) = some (b, d, l) from h))⟩) lives_gv0
end Go.Proofs.YtgiceoflfmmlcaaDoor.rkx02
