/-
  Contracts of the functions of package shift that bound numbers: number, span, edit (with the generic bound entered in place). Own work.
-/
import Derived.Test.YtlondbckhlfibaaProg
import Derived.WalkKit
import Derived.WalkSpells
import Derived.WalkLawsBesides
import Derived.LoopN
import Derived.Below
set_option linter.unusedSimpArgs false
set_option linter.unusedVariables false
namespace Go.Proofs.Ytlondbckhlfibaa
open Go.RowKit

def bndLow (x : Int) : Int := if x < -1099511627776 then -1099511627776 else x
def bndHigh (x : Int) : Int := if 1099511627776 < x then 1099511627776 else x
/-- a number within the bounds -/
def bnd (x : Int) : Int := bndHigh (bndLow x)
theorem bndLow_eq (x : Int) : (if x < -1099511627776 then -1099511627776 else x) = bndLow x := rfl
theorem bndHigh_eq (x : Int) : (if 1099511627776 < x then 1099511627776 else x) = bndHigh x := rfl
theorem bnd_eq (x : Int) : bndHigh (bndLow x) = bnd x := rfl

theorem number_any (x : Int) (w : World) :
    Calls Try.prog 39 #[.int .i64 x] w fun e w' => e = .returned (.int .i64 (bnd x)) ∧ Below w.heap.size w w' := by
  have k1 := bndLow_eq
  have k2 := bndHigh_eq
  have k3 := bnd_eq
  go_enter Try.func39, Try.ntmps39
  go_wp2
  refine wp_loop_rounds 2 ?_
  rw [rounds_succ]
  go_wp2
  rw [rounds_succ]
  go_wp2
  go_end0
  go_wp2
  go_ret
  exact ⟨rfl, ((Below.refl _ _).alloc (Nat.le_refl _) _).alloc (by simp) _⟩

theorem span_any (x y : Int) (w : World) :
    Calls Try.prog 33 #[.agg #[.int .i64 x, .int .i64 y]] w fun e w' => e = .returned (.agg #[.int .i64 (bnd x), .int .i64 (bnd y)]) ∧ Below w.heap.size w w' := by
  have k1 := bndLow_eq
  have k2 := bndHigh_eq
  have k3 := bnd_eq
  go_enter Try.func33, Try.ntmps33
  go_wp2
  refine wp_loop_rounds 3 ?_
  rw [rounds_succ]
  go_wp2
  rw [rounds_succ]
  go_wp2
  rw [rounds_succ]
  go_wp2
  go_end0
  go_wp2
  refine bodyPost_ret (v := .agg #[.int .i64 (bnd x), .int .i64 (bnd y)]) (by simp [results, Try.results33, go_sem]) rfl ⟨rfl, ?_⟩
  exact (((Below.refl _ _).alloc (Nat.le_refl _) _).alloc (by simp) _).alloc (by simp; omega) _

theorem edit_any (x y z : Int) (w : World) :
    Calls Try.prog 38 #[.agg #[.int .i64 x, .int .i64 y, .int .i64 z]] w fun e w' => e = .returned (.agg #[.int .i64 (bnd x), .int .i64 (bnd y), .int .i64 (bnd z)]) ∧ Below w.heap.size w w' := by
  have k1 := bndLow_eq
  have k2 := bndHigh_eq
  have k3 := bnd_eq
  go_enter Try.func38, Try.ntmps38
  go_wp2
  refine wp_loop_rounds 4 ?_
  rw [rounds_succ]
  go_wp2
  rw [rounds_succ]
  go_wp2
  rw [rounds_succ]
  go_wp2
  rw [rounds_succ]
  go_wp2
  go_end0
  go_wp2
  refine bodyPost_ret (v := .agg #[.int .i64 (bnd x), .int .i64 (bnd y), .int .i64 (bnd z)]) (by simp [results, Try.results38, go_sem]) rfl ⟨rfl, ?_⟩
  exact (((Below.refl _ _).alloc (Nat.le_refl _) _).alloc (by simp) _).alloc (by simp; omega) _

end Go.Proofs.Ytlondbckhlfibaa
