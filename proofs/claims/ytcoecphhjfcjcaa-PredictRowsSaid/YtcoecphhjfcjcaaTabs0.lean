/-
  No table lies there from the start. No condition.
-/
import Derived.Test.YtcoecphhjfcjcaaAx5
namespace Go.Proofs.Ytcoecphhjfcjcaa
instance tabs : Ax.Tabs := ⟨fun _ => none⟩
theorem tabs_ok (W : World) : Ax.TabsOK W.heap.size W := fun g l h => by cases h
end Go.Proofs.Ytcoecphhjfcjcaa
