/-
  viewport/viewportlaw27.EngineNames: whatever comes in, it returns true, and each argument reads as it read before: where the listed tables lie as the program's text lays them; and that they lie so.
-/
import Derived.Test.YthapchfdablbeaaGreatDoorEngineNamesB
import Derived.Test.YthapchfdablbeaaGreatDoorRows
import Derived.Test.YthapchfdablbeaaGreatDoorCards
import Derived.Test.YthapchfdablbeaaGreatDoorTie
import Derived.Test.YthapchfdablbeaaGreatDoorEngineNamesGood
import Derived.Test.YthapchfdablbeaaGreatDoorTabsOkEngineNames
import Derived.WalkKit
import Derived.ProofKit
import Derived.OpenShut
import Derived.ShutString
import Derived.ChangeOld
import Derived.Below
import Derived.LaidMore
import Derived.SevenTiedAt
import Derived.Stop.Joined
import Derived.Lib.SmallJoins
set_option linter.unusedSimpArgs false
set_option linter.unusedVariables false
namespace Go.Proofs.YthapchfdablbeaaGreatDoor.engineNames
open Go.ChangeShapes Go.WideShapes Go.ChangeAt Go.RowKit Go.Joins
open Go.ChangeMaps (open_string shut_string)
theorem proved : Rows.EngineNamesCardSaid :=
  Claim7.holds_tied_plain_at .later [] [.data, .data, .data] true (true, "8b513cdfd13e9c63739ebd4662704941e5cb8bee822c3cf660b92fb14bde0f76") true
    holds (fun _ h => by cases h) (by kernel_rfl) (fun _ h => by cases h) engineNames_row_tie rfl ⟨rfl, rfl⟩ (by kernel_rfl) rfl
    (fun f fn hf hfn => by
      obtain rfl : f = 3 := Option.some.inj (funcIs.symm.trans hf) |>.symm
      obtain rfl : fn = Tryz.f3 := (Option.some.inj (Tryz.func3.symm.trans hfn)).symm
      exact ⟨looksIs, fun j t ht => by
        have hp : Tryz.f3.params = #[] := rfl
        rw [hp] at ht
        simp at ht⟩)
    goesNot
#print axioms proved
end Go.Proofs.YthapchfdablbeaaGreatDoor.engineNames
