/-
  DERIVED. GIVEN WITH THE SEED: THE CARDS: each row of YtilppdkfnfdjnaaDoorRows.lean that lists a variable, with what it lists TIED to the program's text (the seventh form; the later family's looks); each row that meets fmt, with fmt's text TOLD by the authors' own Lean function (tested against real Go, not proved from fmt's source: count such statements apart). THE CARD IS WHAT COUNTS. Prove the row's statement (the work); the ties are given (YtilppdkfnfdjnaaDoorTie.lean); close each card by the builder's one call (the guide's Derived/Test/ToyasCard.lean, 'card_holds'). Laid BY PROGRAM, IN A SANDBOX (cutbox-door.mjs). By AI agents, Wed Nov 11 2026. No macro, syntax, notation, axiom, sorry.
-/
import Derived.Test.YtilppdkfnfdjnaaDoorRows
import GoSem.ClaimSeven
namespace Go.Proofs.YtilppdkfnfdjnaaDoor
namespace Rows

/-- THE TIED CARD OF 'viewportlaw04.DfaSteps'. -/
def dfaStepsCard : Claim7 := { stood := { row := dfaStepsRow, standIns := [], harness := (true, "2e16fb0b6d54433281d197eb95bfd914474a972a88f7e8879c8a9e0d28498d77"), looks := false }, kinds := [], alts := [], laidByText := true, laidKinds := [.data, .data, .data], laidTests := true, laidLooks := .later }
def DfaStepsCardSaid : Prop := Claim7.holds Tryd.pinned (.plain (OpenSpec.ofChange dfaStepsSpec)) dfaStepsCard

/-- THE SECOND FORM's CARD OF 'viewportlaw04.DfaSteps'. -/
def dfaStepsUptoCard : Claim7 := { stood := { row := dfaStepsUptoRow, standIns := [], harness := (true, "2e16fb0b6d54433281d197eb95bfd914474a972a88f7e8879c8a9e0d28498d77"), looks := false }, kinds := [], alts := [], laidByText := true, laidKinds := [.data, .data, .data], laidTests := true, laidLooks := .later }
def DfaStepsUptoCardSaid : Prop := Claim7.holds Tryd.pinned (.plain (OpenSpec.upto dfaStepsSpec)) dfaStepsUptoCard
end Rows
end Go.Proofs.YtilppdkfnfdjnaaDoor
