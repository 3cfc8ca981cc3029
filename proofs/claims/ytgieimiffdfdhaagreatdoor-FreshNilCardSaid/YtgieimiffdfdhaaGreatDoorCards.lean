/-
  DERIVED. GIVEN WITH THE SEED: THE CARDS: each row of YtgieimiffdfdhaaGreatDoorRows.lean that lists a variable, with what it lists TIED to the program's text (the seventh form; the later family's looks); each row that meets fmt, with fmt's text TOLD by the authors' own Lean function (tested against real Go, not proved from fmt's source: count such statements apart). THE CARD IS WHAT COUNTS. Prove the row's statement (the work); the ties are given (YtgieimiffdfdhaaGreatDoorTie.lean); close each card by the builder's one call (the guide's Derived/Test/ToyasCard.lean, 'card_holds'). Laid BY PROGRAM, IN A SANDBOX (cutbox-door.mjs). By AI agents, Wed Nov 11 2026. No macro, syntax, notation, axiom, sorry.
-/
import Derived.Test.YtgieimiffdfdhaaGreatDoorRows
import GoSem.ClaimSeven
namespace Go.Proofs.YtgieimiffdfdhaaGreatDoor
namespace Rows

/-- THE TIED CARD OF 'viewportlaw17.FreshNil'. -/
def freshNilCard : Claim7 := { stood := { row := freshNilRow, standIns := [], harness := (true, "c29d73eda730807f9010aae4c9a572f6861dfd63f0dd7f726f6156efb73e39a8"), looks := true }, kinds := [], alts := [], laidByText := true, laidKinds := [.data, .data, .data], laidTests := true, laidLooks := .later }
def FreshNilCardSaid : Prop := Claim7.holds Tryz.pinned (.plain (OpenSpec.ofChange freshNilSpec)) freshNilCard

/-- THE TIED CARD OF 'viewportlaw18.MachineNil'. -/
def machineNilCard : Claim7 := { stood := { row := machineNilRow, standIns := [], harness := (true, "c29d73eda730807f9010aae4c9a572f6861dfd63f0dd7f726f6156efb73e39a8"), looks := true }, kinds := [], alts := [], laidByText := true, laidKinds := [.data, .data, .data], laidTests := true, laidLooks := .later }
def MachineNilCardSaid : Prop := Claim7.holds Tryz.pinned (.plain (OpenSpec.ofChange machineNilSpec)) machineNilCard

/-- THE SECOND FORM's CARD OF 'viewportlaw17.FreshNil'. -/
def freshNilUptoCard : Claim7 := { stood := { row := freshNilUptoRow, standIns := [], harness := (true, "c29d73eda730807f9010aae4c9a572f6861dfd63f0dd7f726f6156efb73e39a8"), looks := true }, kinds := [], alts := [], laidByText := true, laidKinds := [.data, .data, .data], laidTests := true, laidLooks := .later }
def FreshNilUptoCardSaid : Prop := Claim7.holds Tryz.pinned (.plain (OpenSpec.upto freshNilSpec)) freshNilUptoCard

/-- THE SECOND FORM's CARD OF 'viewportlaw18.MachineNil'. -/
def machineNilUptoCard : Claim7 := { stood := { row := machineNilUptoRow, standIns := [], harness := (true, "c29d73eda730807f9010aae4c9a572f6861dfd63f0dd7f726f6156efb73e39a8"), looks := true }, kinds := [], alts := [], laidByText := true, laidKinds := [.data, .data, .data], laidTests := true, laidLooks := .later }
def MachineNilUptoCardSaid : Prop := Claim7.holds Tryz.pinned (.plain (OpenSpec.upto machineNilSpec)) machineNilUptoCard
end Rows
end Go.Proofs.YtgieimiffdfdhaaGreatDoor
