/-
  viewport/viewportlaw18.MachineNames: whatever comes in, it returns true, and each argument reads as it read before: where the listed tables lie as the program's text lays them; and that they lie so.
-/
import Derived.Test.YtmfmfmmnddncpaaGreatDoorMachineNamesB
import Derived.Test.YtmfmfmmnddncpaaGreatDoorRows
import Derived.Test.YtmfmfmmnddncpaaGreatDoorCards
import Derived.Test.YtmfmfmmnddncpaaGreatDoorTie
import Derived.Test.YtmfmfmmnddncpaaGreatDoorMachineNamesGood
import Derived.Test.YtmfmfmmnddncpaaGreatDoorTabsOkMachineNames
import Derived.WalkKit
import Derived.ProofKit
import Derived.OpenShut
import Derived.ShutString
import Derived.ChangeOld
import Derived.Below
import Derived.LaidMore
import Derived.SevenTiedAt
import Derived.Stop.Joined
import Derived.Lib.SmallJoins
set_option linter.unusedSimpArgs false
set_option linter.unusedVariables false
namespace Go.Proofs.YtmfmfmmnddncpaaGreatDoor.machineNames
open Go.ChangeShapes Go.WideShapes Go.ChangeAt Go.RowKit Go.Joins
open Go.ChangeMaps (open_string shut_string)
theorem proved : Rows.MachineNamesCardSaid :=
  Claim7.holds_tied_plain_at .later [] [.data, .data, .data] true (true, "a760ca30bb4662d56201da258848a57a181154039b8205ba58e72ce047df0bfb") true
    holds (fun _ h => by cases h) (by kernel_rfl) (fun _ h => by cases h) machineNames_row_tie rfl ⟨rfl, rfl⟩ (by kernel_rfl) rfl
    (fun f fn hf hfn => by
      obtain rfl : f = 4 := Option.some.inj (funcIs.symm.trans hf) |>.symm
      obtain rfl : fn = Tryz.f4 := (Option.some.inj (Tryz.func4.symm.trans hfn)).symm
      exact ⟨by kernel_rfl, fun j t ht => by
        have hp : Tryz.f4.params = #[] := rfl
        rw [hp] at ht
        simp at ht⟩)
    (by kernel_rfl)
#print axioms proved
end Go.Proofs.YtmfmfmmnddncpaaGreatDoor.machineNames
