/-
  viewport/viewportlaw18.MachineNil: whatever comes in, it returns true, and each argument reads as it read before: where the listed tables lie as the program's text lays them; and that they lie so.
-/
import Derived.Test.YtmfmfmmnddncpaaGreatDoorMachineNilB
import Derived.Test.YtmfmfmmnddncpaaGreatDoorRows
import Derived.Test.YtmfmfmmnddncpaaGreatDoorCards
import Derived.Test.YtmfmfmmnddncpaaGreatDoorTie
import Derived.Test.YtmfmfmmnddncpaaGreatDoorMachineNilGood
import Derived.Test.YtmfmfmmnddncpaaGreatDoorTabsOkMachineNil
import Derived.WalkKit
import Derived.ProofKit
import Derived.OpenShut
import Derived.ShutString
import Derived.ChangeOld
import Derived.Below
import Derived.LaidMore
import Derived.SevenTiedAt
import Derived.Stop.Joined
import Derived.Lib.SmallJoins
set_option linter.unusedSimpArgs false
set_option linter.unusedVariables false
namespace Go.Proofs.YtmfmfmmnddncpaaGreatDoor.machineNil
open Go.ChangeShapes Go.WideShapes Go.ChangeAt Go.RowKit Go.Joins
open Go.ChangeMaps (open_string shut_string)
theorem ws23 : Tryz.prog.wantsStandIn 23 = false := by kernel_rfl
theorem ws3 : Tryz.prog.wantsStandIn 3 = false := by kernel_rfl
theorem ws9 : Tryz.prog.wantsStandIn 9 = false := by kernel_rfl
theorem proved : Rows.MachineNilCardSaid :=
  Claim7.holds_tied_plain_at .later [] [.data, .data, .data] true (true, "a760ca30bb4662d56201da258848a57a181154039b8205ba58e72ce047df0bfb") true
    holds (fun _ h => by cases h) (by kernel_rfl) (fun _ h => by cases h) machineNil_row_tie rfl ⟨rfl, rfl⟩ (by kernel_rfl) rfl
    (fun f fn hf hfn => by
      obtain rfl : f = 3 := Option.some.inj (funcIs.symm.trans hf) |>.symm
      obtain rfl : fn = Tryz.f3 := (Option.some.inj (Tryz.func3.symm.trans hfn)).symm
      exact ⟨by kernel_rfl, fun j t ht => by
        rw [Tryz.params3] at ht
        match j, ht with
        | 0, ht => obtain rfl := Option.some.inj ht; exact ws9
        | 1, ht => obtain rfl := Option.some.inj ht; exact ws3
        | 2, ht => obtain rfl := Option.some.inj ht; exact ws23
        | n + 3, ht => simp at ht⟩)
    (by kernel_rfl)
#print axioms proved
end Go.Proofs.YtmfmfmmnddncpaaGreatDoor.machineNil
