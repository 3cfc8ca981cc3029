/-
  viewportlaw09.LinesCut gives true whatever its arguments are, and leaves what was there. No condition.
-/
import Derived.Test.YtkhdiflfkbekbaaLinesCutPure
set_option linter.unusedSimpArgs false
set_option linter.unusedVariables false
set_option linter.unusedSectionVars false
set_option linter.unnecessarySimpa false
namespace Go.Proofs.Ytkhdiflfkbekbaa.linesCut
open Go Go.Proofs.Ytkhdiflfkbekbaa Ax
theorem walk_LinesCut (s : ByteArray) (w : World) (_ : s.size ≤ maxLen) : Calls Try.prog 3 #[.string s] w fun e w' => e = .returned (.bool true) ∧ Go.RowKit.Below w.heap.size w w' := by
  obtain ⟨n, h⟩ := law_true s
  have hg := m3_ok n s () h
  have hl := law_ok (P := Try.prog) (f := 3) (args := A3 s) (args' := [.string s]) (k := 0) (B := .nil) hg (w := w) (n0 := ⟨⟨w.heap.size, fun _ => False⟩, fun _ => False⟩) (σ := fun _ => none) (.cons (.string s) .nil) (hr_start w (tabs_ok w))
  exact hl.mono fun e w' ⟨h1, σ', h2⟩ => ⟨h1, h2.below⟩
end Go.Proofs.Ytkhdiflfkbekbaa.linesCut
