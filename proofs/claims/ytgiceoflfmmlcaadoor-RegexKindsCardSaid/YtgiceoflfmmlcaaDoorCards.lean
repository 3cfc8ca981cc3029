/-
  DERIVED. GIVEN WITH THE SEED: THE CARDS: each row of YtgiceoflfmmlcaaDoorRows.lean that lists a variable, with what it lists TIED to the program's text (the seventh form; the later family's looks); each row that meets fmt, with fmt's text TOLD by the authors' own Lean function (tested against real Go, not proved from fmt's source: count such statements apart). THE CARD IS WHAT COUNTS. Prove the row's statement (the work); the ties are given (YtgiceoflfmmlcaaDoorTie.lean); close each card by the builder's one call (the guide's Derived/Test/ToyasCard.lean, 'card_holds'). Laid BY PROGRAM, IN A SANDBOX (cutbox-door.mjs). By AI agents, Wed Nov 11 2026. No macro, syntax, notation, axiom, sorry.
-/
import Derived.Test.YtgiceoflfmmlcaaDoorRows
import GoSem.ClaimSeven
namespace Go.Proofs.YtgiceoflfmmlcaaDoor
namespace Rows

/-- THE TIED CARD OF 'viewportlaw02.RegexKinds'. -/
def regexKindsCard : Claim7 := { stood := { row := regexKindsRow, standIns := [], harness := (true, "de2f4c43189b8aafb4bf9205ac795582e1b62486b01f10efdf6d6cb8c5224538"), looks := false }, kinds := [], alts := [], laidByText := true, laidKinds := [.data], laidTests := true, laidLooks := .later }
def RegexKindsCardSaid : Prop := Claim7.holds Tryd.pinned (.plain (OpenSpec.ofChange regexKindsSpec)) regexKindsCard

/-- THE TIED CARD OF 'viewportlaw02.RegexLaws'. -/
def regexLawsCard : Claim7 := { stood := { row := regexLawsRow, standIns := [], harness := (true, "de2f4c43189b8aafb4bf9205ac795582e1b62486b01f10efdf6d6cb8c5224538"), looks := false }, kinds := [], alts := [], laidByText := true, laidKinds := [.data], laidTests := true, laidLooks := .later }
def RegexLawsCardSaid : Prop := Claim7.holds Tryd.pinned (.plain (OpenSpec.ofChange regexLawsSpec)) regexLawsCard

/-- THE SECOND FORM's CARD OF 'viewportlaw02.RegexKinds'. -/
def regexKindsUptoCard : Claim7 := { stood := { row := regexKindsUptoRow, standIns := [], harness := (true, "de2f4c43189b8aafb4bf9205ac795582e1b62486b01f10efdf6d6cb8c5224538"), looks := false }, kinds := [], alts := [], laidByText := true, laidKinds := [.data], laidTests := true, laidLooks := .later }
def RegexKindsUptoCardSaid : Prop := Claim7.holds Tryd.pinned (.plain (OpenSpec.upto regexKindsSpec)) regexKindsUptoCard

/-- THE SECOND FORM's CARD OF 'viewportlaw02.RegexLaws'. -/
def regexLawsUptoCard : Claim7 := { stood := { row := regexLawsUptoRow, standIns := [], harness := (true, "de2f4c43189b8aafb4bf9205ac795582e1b62486b01f10efdf6d6cb8c5224538"), looks := false }, kinds := [], alts := [], laidByText := true, laidKinds := [.data], laidTests := true, laidLooks := .later }
def RegexLawsUptoCardSaid : Prop := Claim7.holds Tryd.pinned (.plain (OpenSpec.upto regexLawsSpec)) regexLawsUptoCard
end Rows
end Go.Proofs.YtgiceoflfmmlcaaDoor
