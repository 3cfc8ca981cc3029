/-
  Contract of viewportlaw10.edited. Own work.
-/
import Derived.Test.YtlondbckhlfibaaProg
import Derived.Test.YtlondbckhlfibaaSt
import Derived.IntWalk
import Derived.Deep.QuietTactic
import Derived.BigQuiet
set_option linter.unusedSimpArgs false
set_option linter.unusedVariables false
namespace Go.Proofs.Ytlondbckhlfibaa
open Go.RowKit

set_option maxHeartbeats 1000000 in
theorem edited_any (s i : ByteArray) (A D : Nat) (z : Int) (w : World) (h : A + D ≤ s.size) (hs : s.size ≤ 300) (hi : i.size ≤ 300) :
    Calls Try.prog 25 #[.string s, .agg #[.int .i64 A, .int .i64 D, .int .i64 z], .string i] w fun e w' => e = .returned (.string (s.extract 0 A ++ i ++ s.extract (A + D) s.size)) ∧ Below w.heap.size w w' := by
  have k1 : IntKind.i64.wrap ((A : Int) + D) = (A : Int) + D := IntWalk.i64_in _ (by omega)
  have k2 : (0 : Int) ≤ (A : Int) := by omega
  have k3 : (A : Int) ≤ (s.size : Int) := by omega
  have k4 : (0 : Int) ≤ (A : Int) + D := by omega
  have k5 : (A : Int) + D ≤ (s.size : Int) := by omega
  have k6 : ((A : Int) + D).toNat = A + D := by omega
  go_enter Try.func25, Try.ntmps25
  go_wp2
  go_quiet (fail)
  go_wp2
  go_ret
  exact ⟨rfl, below_drewN' ((Below.refl _ _).alloc (Nat.le_refl _) _) nq⟩

end Go.Proofs.Ytlondbckhlfibaa
