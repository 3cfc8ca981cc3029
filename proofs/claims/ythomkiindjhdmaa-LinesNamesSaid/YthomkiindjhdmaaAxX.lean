/-
  A call, run in order, tells what it returns in whatever order. Own work.
-/
import Derived.Test.YthomkiindjhdmaaAxW
set_option linter.unusedSimpArgs false
set_option linter.unusedVariables false
set_option linter.unnecessarySimpa false
set_option linter.deprecated false
set_option linter.unusedSectionVars false
namespace Go.Proofs.Ythomkiindjhdmaa.Ax
open Go.RowKit
variable [Tabs]

noncomputable def h0 : AH := ⟨.nil, 0, 0⟩
noncomputable def callP (P : Program) : CallT := callF (regDraw P) P 100000
def isTrue (r : VRes) : Bool :=
  match r with
  | some (.bool true, _) => true
  | _ => false
theorem hr_start (w : World) (ht : TabsOK w.heap.size w) : HR ⟨⟨w.heap.size, fun _ => False⟩, fun _ => False⟩ (fun _ => none) h0 w :=
  ⟨⟨Nat.le_refl _, fun c h => h.elim, ht⟩, fun b x h => (by cases h), fun b₁ b₂ x₁ x₂ c d₁ m₁ d₂ m₂ h => (by cases h), fun b t h => (by cases h), fun b c d m h => (by cases h), fun b h => h.elim⟩
/-- a function that gives true in order gives true, and leaves what was there -/
theorem run_args {P : Program} (hm : P.follows .mixedOrders = true) {f : FuncId} {args : List Value} (hargs : VRs (fun _ => none) args args) (h : isTrue (callP P (.func f) args h0) = true) (w : World) (ht : TabsOK w.heap.size w) :
    Calls P f ⟨args⟩ w fun e w' => e = .returned (.bool true) ∧ Below w.heap.size w w' := by
  unfold isTrue at h
  split at h
  · rename_i H' hc
    obtain ⟨_, hgo⟩ := callF_ok (regDraw_ok hm w.heap.size) (regDraw_low P) 100000 (fun _ => False) (fun _ => False) _ _ _ _ _ hc (fun _ => none) w _ ⟨args⟩ (.func f) hargs (hr_start w ht)
    refine (callsIn_wide (n := 0)).1 (CallsIn.mono (hgo 0) ?_)
    rintro e w' ⟨v', σ', rfl, h1, _, h3⟩
    cases h1
    exact ⟨rfl, h3.below⟩
  · cases h
/-- a function of no argument -/
theorem run_true {P : Program} (hm : P.follows .mixedOrders = true) {f : FuncId} (h : isTrue (callP P (.func f) [] h0) = true) (w : World) (ht : TabsOK w.heap.size w) :
    Calls P f #[] w fun e w' => e = .returned (.bool true) ∧ Below w.heap.size w w' := run_args hm .nil h w ht

end Go.Proofs.Ythomkiindjhdmaa.Ax
