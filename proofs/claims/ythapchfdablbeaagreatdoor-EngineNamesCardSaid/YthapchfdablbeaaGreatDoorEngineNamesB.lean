/-
  EngineNames: its row, where the tables lie.
-/
import Derived.Test.YthapchfdablbeaaGreatDoorEngineNamesA
import Derived.Test.YthapchfdablbeaaGreatDoorEngineNamesF
import Derived.Test.YthapchfdablbeaaGreatDoorRows
import Derived.Test.YthapchfdablbeaaGreatDoorCards
import Derived.Test.YthapchfdablbeaaGreatDoorTie
import Derived.Test.YthapchfdablbeaaGreatDoorEngineNamesGood
import Derived.Test.YthapchfdablbeaaGreatDoorTabsOkEngineNames
import Derived.WalkKit
import Derived.ProofKit
import Derived.OpenShut
import Derived.ShutString
import Derived.ChangeOld
import Derived.Below
import Derived.LaidMore
import Derived.SevenTiedAt
import Derived.Stop.Joined
import Derived.Lib.SmallJoins
set_option linter.unusedSimpArgs false
set_option linter.unusedVariables false
namespace Go.Proofs.YthapchfdablbeaaGreatDoor.engineNames
open Go.ChangeShapes Go.WideShapes Go.ChangeAt Go.RowKit Go.Joins
open Go.ChangeMaps (open_string shut_string)
theorem holds : Rows.EngineNamesSaid :=
  OpenClaim.holds_of_wide 3 Tryz.f3 rfl rfl rfl rfl rfl rfl rfl ⟨rfl, rfl, rfl, rfl, rfl⟩ rfl rfl rfl rfl rfl funcIs Tryz.func3 joined inst wrap
    (fun os started H enc _ => lifted os started H enc)
end Go.Proofs.YthapchfdablbeaaGreatDoor.engineNames
