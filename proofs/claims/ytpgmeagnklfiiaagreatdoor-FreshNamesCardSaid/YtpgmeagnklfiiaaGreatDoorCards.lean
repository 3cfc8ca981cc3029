/-
  DERIVED. GIVEN WITH THE SEED: THE CARDS: each row of YtpgmeagnklfiiaaGreatDoorRows.lean that lists a variable, with what it lists TIED to the program's text (the seventh form; the later family's looks); each row that meets fmt, with fmt's text TOLD by the authors' own Lean function (tested against real Go, not proved from fmt's source: count such statements apart). THE CARD IS WHAT COUNTS. Prove the row's statement (the work); the ties are given (YtpgmeagnklfiiaaGreatDoorTie.lean); close each card by the builder's one call (the guide's Derived/Test/ToyasCard.lean, 'card_holds'). Laid BY PROGRAM, IN A SANDBOX (cutbox-door.mjs). By AI agents, Wed Nov 11 2026. No macro, syntax, notation, axiom, sorry.
-/
import Derived.Test.YtpgmeagnklfiiaaGreatDoorRows
import GoSem.ClaimSeven
namespace Go.Proofs.YtpgmeagnklfiiaaGreatDoor
namespace Rows

/-- THE TIED CARD OF 'viewportlaw17.FreshNames'. -/
def freshNamesCard : Claim7 := { stood := { row := freshNamesRow, standIns := [], harness := (true, "f01d14dd3fe519ce223040a87ba7bb6a56c5b15bd8e42d769a0cc0f6ca0d8ec8"), looks := true }, kinds := [], alts := [], laidByText := true, laidKinds := [.data, .data, .data], laidTests := true, laidLooks := .later }
def FreshNamesCardSaid : Prop := Claim7.holds Tryz.pinned (.plain (OpenSpec.ofChange freshNamesSpec)) freshNamesCard

/-- THE SECOND FORM's CARD OF 'viewportlaw17.FreshNames'. -/
def freshNamesUptoCard : Claim7 := { stood := { row := freshNamesUptoRow, standIns := [], harness := (true, "f01d14dd3fe519ce223040a87ba7bb6a56c5b15bd8e42d769a0cc0f6ca0d8ec8"), looks := true }, kinds := [], alts := [], laidByText := true, laidKinds := [.data, .data, .data], laidTests := true, laidLooks := .later }
def FreshNamesUptoCardSaid : Prop := Claim7.holds Tryz.pinned (.plain (OpenSpec.upto freshNamesSpec)) freshNamesUptoCard
end Rows
end Go.Proofs.YtpgmeagnklfiiaaGreatDoor
