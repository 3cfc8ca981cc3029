/-
  DERIVED. GIVEN WITH THE SEED: THE CARDS: each row of YthomkiindjhdmaaDoorRows.lean that lists a variable, with what it lists TIED to the program's text (the seventh form; the later family's looks); each row that meets fmt, with fmt's text TOLD by the authors' own Lean function (tested against real Go, not proved from fmt's source: count such statements apart). THE CARD IS WHAT COUNTS. Prove the row's statement (the work); the ties are given (YthomkiindjhdmaaDoorTie.lean); close each card by the builder's one call (the guide's Derived/Test/ToyasCard.lean, 'card_holds'). Laid BY PROGRAM, IN A SANDBOX (cutbox-door.mjs). By AI agents, Wed Nov 11 2026. No macro, syntax, notation, axiom, sorry.
-/
import Derived.Test.YthomkiindjhdmaaDoorRows
import GoSem.ClaimSeven
namespace Go.Proofs.YthomkiindjhdmaaDoor
namespace Rows

/-- THE TIED CARD OF 'viewportlaw02.RegexNames'. -/
def regexNamesCard : Claim7 := { stood := { row := regexNamesRow, standIns := [], harness := (true, "ec6e07e2c132e20ed986bcc173fdcb113be49cc1025ab31f12cf3e95eba671eb"), looks := false }, kinds := [], alts := [], laidByText := true, laidKinds := [.data], laidTests := true, laidLooks := .later }
def RegexNamesCardSaid : Prop := Claim7.holds Tryd.pinned (.plain (OpenSpec.ofChange regexNamesSpec)) regexNamesCard

/-- THE TIED CARD OF 'viewportlaw04.DfaNames'. -/
def dfaNamesCard : Claim7 := { stood := { row := dfaNamesRow, standIns := [], harness := (true, "ec6e07e2c132e20ed986bcc173fdcb113be49cc1025ab31f12cf3e95eba671eb"), looks := false }, kinds := [], alts := [], laidByText := true, laidKinds := [.data, .data, .data], laidTests := true, laidLooks := .later }
def DfaNamesCardSaid : Prop := Claim7.holds Tryd.pinned (.plain (OpenSpec.ofChange dfaNamesSpec)) dfaNamesCard

/-- THE TIED CARD OF 'viewportlaw22.DirtyNames'. -/
def dirtyNamesCard : Claim7 := { stood := { row := dirtyNamesRow, standIns := [], harness := (true, "ec6e07e2c132e20ed986bcc173fdcb113be49cc1025ab31f12cf3e95eba671eb"), looks := false }, kinds := [], alts := [], laidByText := true, laidKinds := [.data], laidTests := true, laidLooks := .later }
def DirtyNamesCardSaid : Prop := Claim7.holds Tryd.pinned (.plain (OpenSpec.ofChange dirtyNamesSpec)) dirtyNamesCard

/-- THE SECOND FORM's CARD OF 'viewportlaw02.RegexNames'. -/
def regexNamesUptoCard : Claim7 := { stood := { row := regexNamesUptoRow, standIns := [], harness := (true, "ec6e07e2c132e20ed986bcc173fdcb113be49cc1025ab31f12cf3e95eba671eb"), looks := false }, kinds := [], alts := [], laidByText := true, laidKinds := [.data], laidTests := true, laidLooks := .later }
def RegexNamesUptoCardSaid : Prop := Claim7.holds Tryd.pinned (.plain (OpenSpec.upto regexNamesSpec)) regexNamesUptoCard

/-- THE SECOND FORM's CARD OF 'viewportlaw04.DfaNames'. -/
def dfaNamesUptoCard : Claim7 := { stood := { row := dfaNamesUptoRow, standIns := [], harness := (true, "ec6e07e2c132e20ed986bcc173fdcb113be49cc1025ab31f12cf3e95eba671eb"), looks := false }, kinds := [], alts := [], laidByText := true, laidKinds := [.data, .data, .data], laidTests := true, laidLooks := .later }
def DfaNamesUptoCardSaid : Prop := Claim7.holds Tryd.pinned (.plain (OpenSpec.upto dfaNamesSpec)) dfaNamesUptoCard

/-- THE SECOND FORM's CARD OF 'viewportlaw22.DirtyNames'. -/
def dirtyNamesUptoCard : Claim7 := { stood := { row := dirtyNamesUptoRow, standIns := [], harness := (true, "ec6e07e2c132e20ed986bcc173fdcb113be49cc1025ab31f12cf3e95eba671eb"), looks := false }, kinds := [], alts := [], laidByText := true, laidKinds := [.data], laidTests := true, laidLooks := .later }
def DirtyNamesUptoCardSaid : Prop := Claim7.holds Tryd.pinned (.plain (OpenSpec.upto dirtyNamesSpec)) dirtyNamesUptoCard
end Rows
end Go.Proofs.YthomkiindjhdmaaDoor
