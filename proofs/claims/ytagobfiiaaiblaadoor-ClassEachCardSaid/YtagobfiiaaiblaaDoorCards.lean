/-
  DERIVED. GIVEN WITH THE SEED: THE CARDS: each row of YtagobfiiaaiblaaDoorRows.lean that lists a variable, with what it lists TIED to the program's text (the seventh form; the later family's looks); each row that meets fmt, with fmt's text TOLD by the authors' own Lean function (tested against real Go, not proved from fmt's source: count such statements apart). THE CARD IS WHAT COUNTS. Prove the row's statement (the work); the ties are given (YtagobfiiaaiblaaDoorTie.lean); close each card by the builder's one call (the guide's Derived/Test/ToyasCard.lean, 'card_holds'). Laid BY PROGRAM, IN A SANDBOX (cutbox-door.mjs). By AI agents, Wed Nov 11 2026. No macro, syntax, notation, axiom, sorry.
-/
import Derived.Test.YtagobfiiaaiblaaDoorRows
import GoSem.ClaimSeven
namespace Go.Proofs.YtagobfiiaaiblaaDoor
namespace Rows

/-- THE TIED CARD OF 'viewportlaw01.ClassSets'. -/
def classSetsCard : Claim7 := { stood := { row := classSetsRow, standIns := [], harness := (true, "a1f290ab6a7bfe299e646e7ab4b74fc0605e60569f28ba54ebd7ee18a3eee994"), looks := false }, kinds := [], alts := [], laidByText := true, laidKinds := [.data], laidTests := true, laidLooks := .later }
def ClassSetsCardSaid : Prop := Claim7.holds Tryd.pinned (.plain (OpenSpec.ofChange classSetsSpec)) classSetsCard

/-- THE TIED CARD OF 'viewportlaw01.ClassEach'. -/
def classEachCard : Claim7 := { stood := { row := classEachRow, standIns := [], harness := (true, "a1f290ab6a7bfe299e646e7ab4b74fc0605e60569f28ba54ebd7ee18a3eee994"), looks := false }, kinds := [], alts := [], laidByText := true, laidKinds := [.data], laidTests := true, laidLooks := .later }
def ClassEachCardSaid : Prop := Claim7.holds Tryd.pinned (.plain (OpenSpec.ofChange classEachSpec)) classEachCard

/-- THE TIED CARD OF 'viewportlaw01.ClassLaws'. -/
def classLawsCard : Claim7 := { stood := { row := classLawsRow, standIns := [], harness := (true, "a1f290ab6a7bfe299e646e7ab4b74fc0605e60569f28ba54ebd7ee18a3eee994"), looks := false }, kinds := [], alts := [], laidByText := true, laidKinds := [.data], laidTests := true, laidLooks := .later }
def ClassLawsCardSaid : Prop := Claim7.holds Tryd.pinned (.plain (OpenSpec.ofChange classLawsSpec)) classLawsCard

/-- THE SECOND FORM's CARD OF 'viewportlaw01.ClassSets'. -/
def classSetsUptoCard : Claim7 := { stood := { row := classSetsUptoRow, standIns := [], harness := (true, "a1f290ab6a7bfe299e646e7ab4b74fc0605e60569f28ba54ebd7ee18a3eee994"), looks := false }, kinds := [], alts := [], laidByText := true, laidKinds := [.data], laidTests := true, laidLooks := .later }
def ClassSetsUptoCardSaid : Prop := Claim7.holds Tryd.pinned (.plain (OpenSpec.upto classSetsSpec)) classSetsUptoCard

/-- THE SECOND FORM's CARD OF 'viewportlaw01.ClassEach'. -/
def classEachUptoCard : Claim7 := { stood := { row := classEachUptoRow, standIns := [], harness := (true, "a1f290ab6a7bfe299e646e7ab4b74fc0605e60569f28ba54ebd7ee18a3eee994"), looks := false }, kinds := [], alts := [], laidByText := true, laidKinds := [.data], laidTests := true, laidLooks := .later }
def ClassEachUptoCardSaid : Prop := Claim7.holds Tryd.pinned (.plain (OpenSpec.upto classEachSpec)) classEachUptoCard

/-- THE SECOND FORM's CARD OF 'viewportlaw01.ClassLaws'. -/
def classLawsUptoCard : Claim7 := { stood := { row := classLawsUptoRow, standIns := [], harness := (true, "a1f290ab6a7bfe299e646e7ab4b74fc0605e60569f28ba54ebd7ee18a3eee994"), looks := false }, kinds := [], alts := [], laidByText := true, laidKinds := [.data], laidTests := true, laidLooks := .later }
def ClassLawsUptoCardSaid : Prop := Claim7.holds Tryd.pinned (.plain (OpenSpec.upto classLawsSpec)) classLawsUptoCard
end Rows
end Go.Proofs.YtagobfiiaaiblaaDoor
