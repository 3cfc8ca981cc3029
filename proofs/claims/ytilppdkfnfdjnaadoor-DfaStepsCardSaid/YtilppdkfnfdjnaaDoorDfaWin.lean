/-
  Arguments that are slices of ints, as windows. No condition.
-/
import Derived.Test.YtilppdkfnfdjnaaDoorSxG
import Derived.Test.YtilppdkfnfdjnaaDoorTabs0
import Derived.Test.YtilppdkfnfdjnaaDoorProg
import Derived.KernelRfl
set_option linter.unusedSimpArgs false
set_option linter.unusedVariables false
set_option linter.unusedSectionVars false
set_option linter.unnecessarySimpa false
namespace Go.Proofs.YtilppdkfnfdjnaaDoor.dfaw
open Go Go.Proofs.YtilppdkfnfdjnaaDoor Ax
noncomputable abbrev P : Program := Tryd.prog
theorem hm : P.follows .mixedOrders = true := by kernel_rfl
class Args where
  N : List Int
  bN : Nat
  dN : Nat
  cN : Nat
  R : List Int
  bR : Nat
  dR : Nat
  cR : Nat
noncomputable instance wins [Args] : Ax.Tabs := { tab := fun _ => none, win := fun j => match j with
    | 0 => some (Args.bN, Args.dN, iv Args.N)
    | 1 => some (Args.bR, Args.dR, iv Args.R)
    | _ => none }
end Go.Proofs.YtilppdkfnfdjnaaDoor.dfaw
