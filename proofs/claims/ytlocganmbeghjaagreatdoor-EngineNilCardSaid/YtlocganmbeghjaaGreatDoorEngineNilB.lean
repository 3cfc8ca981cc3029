/-
  EngineNil: its row, where the tables lie.
-/
import Derived.Test.YtlocganmbeghjaaGreatDoorEngineNilA
import Derived.Test.YtlocganmbeghjaaGreatDoorEngineNilF
import Derived.Test.YtlocganmbeghjaaGreatDoorRows
import Derived.Test.YtlocganmbeghjaaGreatDoorCards
import Derived.Test.YtlocganmbeghjaaGreatDoorTie
import Derived.Test.YtlocganmbeghjaaGreatDoorEngineNilGood
import Derived.Test.YtlocganmbeghjaaGreatDoorTabsOkEngineNil
import Derived.WalkKit
import Derived.ProofKit
import Derived.OpenShut
import Derived.ShutString
import Derived.ChangeOld
import Derived.Below
import Derived.LaidMore
import Derived.SevenTiedAt
import Derived.Stop.Joined
import Derived.Lib.SmallJoins
set_option linter.unusedSimpArgs false
set_option linter.unusedVariables false
namespace Go.Proofs.YtlocganmbeghjaaGreatDoor.engineNil
open Go.ChangeShapes Go.WideShapes Go.ChangeAt Go.RowKit Go.Joins
open Go.ChangeMaps (open_string shut_string)
theorem holds : Rows.EngineNilSaid :=
  OpenClaim.holds_of_wide 4 Tryz.f4 rfl rfl rfl rfl rfl rfl rfl ⟨rfl, rfl, rfl, rfl, rfl⟩ rfl rfl rfl rfl rfl funcIs Tryz.func4 joined inst wrap
    (fun os started H enc _ => lifted os started H enc)
end Go.Proofs.YtlocganmbeghjaaGreatDoor.engineNil
