/-
  FreshNil: its row, where the tables lie.
-/
import Derived.Test.YtgieimiffdfdhaaGreatDoorFreshNilA
import Derived.Test.YtgieimiffdfdhaaGreatDoorRows
import Derived.Test.YtgieimiffdfdhaaGreatDoorCards
import Derived.Test.YtgieimiffdfdhaaGreatDoorTie
import Derived.Test.YtgieimiffdfdhaaGreatDoorFreshNilGood
import Derived.Test.YtgieimiffdfdhaaGreatDoorTabsOkFreshNil
import Derived.WalkKit
import Derived.ProofKit
import Derived.OpenShut
import Derived.ShutString
import Derived.ChangeOld
import Derived.Below
import Derived.LaidMore
import Derived.SevenTiedAt
import Derived.Stop.Joined
import Derived.Lib.SmallJoins
set_option linter.unusedSimpArgs false
set_option linter.unusedVariables false
namespace Go.Proofs.YtgieimiffdfdhaaGreatDoor.freshNil
open Go.ChangeShapes Go.WideShapes Go.ChangeAt Go.RowKit Go.Joins
open Go.ChangeMaps (open_string shut_string)
theorem holds : Rows.FreshNilSaid :=
  OpenClaim.holds_of_wide 3 Tryz.f3 rfl rfl rfl rfl rfl rfl rfl ⟨rfl, rfl, rfl, rfl, rfl⟩ rfl rfl rfl rfl rfl (by kernel_rfl) Tryz.func3 (by kernel_rfl)
    (of_decide_eq_true (by kernel_rfl)) (by unfold Func.isWrapper; first | (rw [if_pos (by decide +kernel)]; kernel_rfl) | (rw [if_neg (by decide +kernel)]; exact ⟨rfl, rfl⟩))
    (fun os started H enc _ => lifted os started H enc)
end Go.Proofs.YtgieimiffdfdhaaGreatDoor.freshNil
