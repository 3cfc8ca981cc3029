/-
  DERIVED. GIVEN WITH THE SEED: THE CARDS: each row of YtmjibnlojmdcgaaGreatDoorRows.lean that lists a variable, with what it lists TIED to the program's text (the seventh form; the later family's looks); each row that meets fmt, with fmt's text TOLD by the authors' own Lean function (tested against real Go, not proved from fmt's source: count such statements apart). THE CARD IS WHAT COUNTS. Prove the row's statement (the work); the ties are given (YtmjibnlojmdcgaaGreatDoorTie.lean); close each card by the builder's one call (the guide's Derived/Test/ToyasCard.lean, 'card_holds'). Laid BY PROGRAM, IN A SANDBOX (cutbox-door.mjs). By AI agents, Wed Nov 11 2026. No macro, syntax, notation, axiom, sorry.
-/
import Derived.Test.YtmjibnlojmdcgaaGreatDoorRows
import GoSem.ClaimSeven
namespace Go.Proofs.YtmjibnlojmdcgaaGreatDoor
namespace Rows

/-- THE TIED CARD OF 'viewportlaw19.MarksLater'. -/
def marksLaterCard : Claim7 := { stood := { row := marksLaterRow, standIns := [], harness := (true, "97aae64d1dc9a8b4cb431db44ac684469111721f9dd4e6ab6542562cee5d8111"), looks := true }, kinds := [], alts := [], laidByText := true, laidKinds := [.data, .data, .data], laidTests := true, laidLooks := .later }
def MarksLaterCardSaid : Prop := Claim7.holds Tryz.pinned (.plain (OpenSpec.ofChange marksLaterSpec)) marksLaterCard

/-- THE SECOND FORM's CARD OF 'viewportlaw19.MarksLater'. -/
def marksLaterUptoCard : Claim7 := { stood := { row := marksLaterUptoRow, standIns := [], harness := (true, "97aae64d1dc9a8b4cb431db44ac684469111721f9dd4e6ab6542562cee5d8111"), looks := true }, kinds := [], alts := [], laidByText := true, laidKinds := [.data, .data, .data], laidTests := true, laidLooks := .later }
def MarksLaterUptoCardSaid : Prop := Claim7.holds Tryz.pinned (.plain (OpenSpec.upto marksLaterSpec)) marksLaterUptoCard
end Rows
end Go.Proofs.YtmjibnlojmdcgaaGreatDoor
