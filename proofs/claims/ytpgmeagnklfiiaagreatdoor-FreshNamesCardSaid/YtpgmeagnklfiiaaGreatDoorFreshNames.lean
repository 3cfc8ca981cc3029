/-
  viewport/viewportlaw17.FreshNames: whatever comes in, it returns true, and each argument reads as it read before: where the listed tables lie as the program's text lays them; and that they lie so.
-/
import Derived.Test.YtpgmeagnklfiiaaGreatDoorFreshNamesB
import Derived.Test.YtpgmeagnklfiiaaGreatDoorRows
import Derived.Test.YtpgmeagnklfiiaaGreatDoorCards
import Derived.Test.YtpgmeagnklfiiaaGreatDoorTie
import Derived.Test.YtpgmeagnklfiiaaGreatDoorFreshNamesGood
import Derived.Test.YtpgmeagnklfiiaaGreatDoorTabsOkFreshNames
import Derived.WalkKit
import Derived.ProofKit
import Derived.OpenShut
import Derived.ShutString
import Derived.ChangeOld
import Derived.Below
import Derived.LaidMore
import Derived.SevenTiedAt
import Derived.Stop.Joined
import Derived.Lib.SmallJoins
set_option linter.unusedSimpArgs false
set_option linter.unusedVariables false
namespace Go.Proofs.YtpgmeagnklfiiaaGreatDoor.freshNames
open Go.ChangeShapes Go.WideShapes Go.ChangeAt Go.RowKit Go.Joins
open Go.ChangeMaps (open_string shut_string)
theorem proved : Rows.FreshNamesCardSaid :=
  Claim7.holds_tied_plain_at .later [] [.data, .data, .data] true (true, "f01d14dd3fe519ce223040a87ba7bb6a56c5b15bd8e42d769a0cc0f6ca0d8ec8") true
    holds (fun _ h => by cases h) (by kernel_rfl) (fun _ h => by cases h) freshNames_row_tie rfl ⟨rfl, rfl⟩ (by kernel_rfl) rfl
    (fun f fn hf hfn => by
      obtain rfl : f = 3 := Option.some.inj (funcIs.symm.trans hf) |>.symm
      obtain rfl : fn = Tryz.f3 := (Option.some.inj (Tryz.func3.symm.trans hfn)).symm
      exact ⟨looksIs, fun j t ht => by
        have hp : Tryz.f3.params = #[] := rfl
        rw [hp] at ht
        simp at ht⟩)
    goesNot
#print axioms proved
end Go.Proofs.YtpgmeagnklfiiaaGreatDoor.freshNames
