/-
  viewport/viewportlaw27.EngineNil: whatever comes in, it returns true, and each argument reads as it read before: where the listed tables lie as the program's text lays them; and that they lie so.
-/
import Derived.Test.YtlocganmbeghjaaGreatDoorEngineNilB
import Derived.Test.YtlocganmbeghjaaGreatDoorRows
import Derived.Test.YtlocganmbeghjaaGreatDoorCards
import Derived.Test.YtlocganmbeghjaaGreatDoorTie
import Derived.Test.YtlocganmbeghjaaGreatDoorEngineNilGood
import Derived.Test.YtlocganmbeghjaaGreatDoorTabsOkEngineNil
import Derived.WalkKit
import Derived.ProofKit
import Derived.OpenShut
import Derived.ShutString
import Derived.ChangeOld
import Derived.Below
import Derived.LaidMore
import Derived.SevenTiedAt
import Derived.Stop.Joined
import Derived.Lib.SmallJoins
set_option linter.unusedSimpArgs false
set_option linter.unusedVariables false
namespace Go.Proofs.YtlocganmbeghjaaGreatDoor.engineNil
open Go.ChangeShapes Go.WideShapes Go.ChangeAt Go.RowKit Go.Joins
open Go.ChangeMaps (open_string shut_string)
theorem proved : Rows.EngineNilCardSaid :=
  Claim7.holds_tied_plain_at .later [] [.data, .data, .data] true (true, "f1cdb0a68ea79d51b1fee1cc6d282659f672f862e44d83531a6767c9362d03ce") true
    holds (fun _ h => by cases h) (by kernel_rfl) (fun _ h => by cases h) engineNil_row_tie rfl ⟨rfl, rfl⟩ (by kernel_rfl) rfl
    (fun f fn hf hfn => by
      obtain rfl : f = 4 := Option.some.inj (funcIs.symm.trans hf) |>.symm
      obtain rfl : fn = Tryz.f4 := (Option.some.inj (Tryz.func4.symm.trans hfn)).symm
      exact ⟨looksIs, fun j t ht => by
        rw [Tryz.params4] at ht
        match j, ht with
        | 0, ht => obtain rfl := Option.some.inj ht; exact ws3
        | 1, ht => obtain rfl := Option.some.inj ht; exact ws3
        | 2, ht => obtain rfl := Option.some.inj ht; exact ws9
        | n + 3, ht => simp at ht⟩)
    goesNot
#print axioms proved
end Go.Proofs.YtlocganmbeghjaaGreatDoor.engineNil
