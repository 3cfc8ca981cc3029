/-
  DERIVED. GIVEN WITH THE SEED: THE CARDS: each row of YtdjkjpmcmpihgaaDoorRows.lean that lists a variable, with what it lists TIED to the program's text (the seventh form; the later family's looks); each row that meets fmt, with fmt's text TOLD by the authors' own Lean function (tested against real Go, not proved from fmt's source: count such statements apart). THE CARD IS WHAT COUNTS. Prove the row's statement (the work); the ties are given (YtdjkjpmcmpihgaaDoorTie.lean); close each card by the builder's one call (the guide's Derived/Test/ToyasCard.lean, 'card_holds'). Laid BY PROGRAM, IN A SANDBOX (cutbox-door.mjs). By AI agents, Wed Nov 11 2026. No macro, syntax, notation, axiom, sorry.
-/
import Derived.Test.YtdjkjpmcmpihgaaDoorRows
import GoSem.ClaimSeven
namespace Go.Proofs.YtdjkjpmcmpihgaaDoor
namespace Rows

/-- THE TIED CARD OF 'viewportlaw01.ClassCalls'. -/
def classCallsCard : Claim7 := { stood := { row := classCallsRow, standIns := [], harness := (true, "18dc97289429e0a329542fb732769bb625b898aa491a3ab8ef83fe06cd58499e"), looks := false }, kinds := [], alts := [], laidByText := true, laidKinds := [.data], laidTests := true, laidLooks := .later }
def ClassCallsCardSaid : Prop := Claim7.holds Tryd.pinned (.plain (OpenSpec.ofChange classCallsSpec)) classCallsCard

/-- THE TIED CARD OF 'viewportlaw01.ClassParts'. -/
def classPartsCard : Claim7 := { stood := { row := classPartsRow, standIns := [], harness := (true, "18dc97289429e0a329542fb732769bb625b898aa491a3ab8ef83fe06cd58499e"), looks := false }, kinds := [], alts := [], laidByText := true, laidKinds := [.data], laidTests := true, laidLooks := .later }
def ClassPartsCardSaid : Prop := Claim7.holds Tryd.pinned (.plain (OpenSpec.ofChange classPartsSpec)) classPartsCard

/-- THE SECOND FORM's CARD OF 'viewportlaw01.ClassCalls'. -/
def classCallsUptoCard : Claim7 := { stood := { row := classCallsUptoRow, standIns := [], harness := (true, "18dc97289429e0a329542fb732769bb625b898aa491a3ab8ef83fe06cd58499e"), looks := false }, kinds := [], alts := [], laidByText := true, laidKinds := [.data], laidTests := true, laidLooks := .later }
def ClassCallsUptoCardSaid : Prop := Claim7.holds Tryd.pinned (.plain (OpenSpec.upto classCallsSpec)) classCallsUptoCard

/-- THE SECOND FORM's CARD OF 'viewportlaw01.ClassParts'. -/
def classPartsUptoCard : Claim7 := { stood := { row := classPartsUptoRow, standIns := [], harness := (true, "18dc97289429e0a329542fb732769bb625b898aa491a3ab8ef83fe06cd58499e"), looks := false }, kinds := [], alts := [], laidByText := true, laidKinds := [.data], laidTests := true, laidLooks := .later }
def ClassPartsUptoCardSaid : Prop := Claim7.holds Tryd.pinned (.plain (OpenSpec.upto classPartsSpec)) classPartsUptoCard
end Rows
end Go.Proofs.YtdjkjpmcmpihgaaDoor
