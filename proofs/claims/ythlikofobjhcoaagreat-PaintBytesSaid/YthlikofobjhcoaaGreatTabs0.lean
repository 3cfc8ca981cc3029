/-
  No table lies there from the start. No condition.
-/
import Derived.Test.YthlikofobjhcoaaGreatAx5
set_option linter.unusedVariables false
namespace Go.Proofs.YthlikofobjhcoaaGreat
instance tabs : Ax.Tabs := { tab := fun _ => none }
theorem tabs_ok (W : World) : Ax.TabsOK W.heap.size W := ⟨fun g l h => (nomatch (show (none : Option (List Value)) = some l from h)), fun j b d l h => (nomatch (show (none : Option (Nat × Nat × List Value)) = some (b, d, l) from h))⟩
end Go.Proofs.YthlikofobjhcoaaGreat
