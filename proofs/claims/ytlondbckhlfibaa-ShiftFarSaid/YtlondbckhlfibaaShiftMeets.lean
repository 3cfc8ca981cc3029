/-
  Contract of shift.Meets. Own work.
-/
import Derived.Test.YtlondbckhlfibaaShiftEdit
set_option linter.unusedSimpArgs false
set_option linter.unusedVariables false
namespace Go.Proofs.Ytlondbckhlfibaa
open Go.RowKit

/-- a struct of two numbers, and one of three -/
abbrev two23 (a b x y z : Int) : List (Nat × Nat × Value) := [(0, 0, .int .i64 a), (0, 1, .int .i64 b), (1, 0, .int .i64 x), (1, 1, .int .i64 y), (1, 2, .int .i64 z)]
theorem two23_init (w : World) (a b x y z : Int) (t u : Nat) : St w ((w.alloc (.cells #[.int .i64 a, .int .i64 b] t)).alloc (.cells #[.int .i64 x, .int .i64 y, .int .i64 z] u)) (two23 a b x y z) := by
  refine ⟨((Below.refl _ _).alloc (Nat.le_refl _) _).alloc (by simp) _, ?_⟩
  simp only [Cells, Nat.add_zero]
  and_intros <;> go_simp

def meetsP (a b x y z : Int) : Prop := (0 < y ∧ x < b ∧ a < x + y) ∨ (0 < z ∧ a < x ∧ x < b)
instance (a b x y z : Int) : Decidable (meetsP a b x y z) := by unfold meetsP; infer_instance
def meetsB (a b x y z : Int) : Bool := decide (meetsP (bnd a) (bnd b) (bnd x) (bnd y) (bnd z))

theorem meetsB_iff (a b x y z : Int) : meetsB a b x y z = true ↔ meetsP (bnd a) (bnd b) (bnd x) (bnd y) (bnd z) := by simp [meetsB]

set_option maxHeartbeats 2000000 in
theorem meets_any (a b x y z : Int) (w : World) :
    Calls Try.prog 16 #[.agg #[.int .i64 a, .int .i64 b], .agg #[.int .i64 x, .int .i64 y, .int .i64 z]] w fun e w' => e = .returned (.bool (meetsB a b x y z)) ∧ Below w.heap.size w w' := by
  have gy := bnd_ge y
  have ly := bnd_le y
  have gx := bnd_ge x
  have lx := bnd_le x
  go_enter Try.func16, Try.ntmps16
  go_upto_region 1 with fail
  go_cut [] (fun wx => St w wx (two23 (bnd a) (bnd b) (bnd x) (bnd y) (bnd z)))
  case first =>
    go_region_with (first | (go_at_call 33; refine (span_st _ _ w _ (two23 a b x y z) (by first | exact (two23_init _ _ _ _ _ _ _ _).drew | assumption)).mono ?_; rintro e w' ⟨rfl, hS⟩; have hT := hS; simp only [St, Cells, Nat.add_zero, Nat.add_assoc] at hT; obtain ⟨h0, ⟨c0, f0, k0⟩, ⟨c1, f1, k1⟩, ⟨c2, f2, k2⟩, ⟨c3, f3, k3⟩, ⟨c4, f4, k4⟩, -⟩ := hT) | (go_at_call 38; refine (edit_st _ _ _ w _ (two23 a b x y z) (by first | exact (two23_init _ _ _ _ _ _ _ _).drew | assumption)).mono ?_; rintro e w' ⟨rfl, hS⟩; have hT := hS; simp only [St, Cells, Nat.add_zero, Nat.add_assoc] at hT; obtain ⟨h0, ⟨c0, f0, k0⟩, ⟨c1, f1, k1⟩, ⟨c2, f2, k2⟩, ⟨c3, f3, k3⟩, ⟨c4, f4, k4⟩, -⟩ := hT))
    all_goals (go_wp2_with fail; go_meet)
    all_goals (refine ⟨((((h0.setCell (by simp) _).setCell (by simp) _).setCell (by simp) _).setCell (by simp) _).setCell (by simp) _, ?_⟩; simp only [Cells, Nat.add_zero]; and_intros <;> go_simp)
  case rest =>
    simp only [St, Cells, Nat.add_zero] at hcut
    obtain ⟨h0, ⟨c0, f0, k0⟩, ⟨c1, f1, k1⟩, ⟨c2, f2, k2⟩, ⟨c3, f3, k3⟩, ⟨c4, f4, k4⟩, -⟩ := hcut
    go_wp2
    all_goals go_ret
    all_goals refine ⟨?_, h0⟩
    all_goals refine congrArg (fun b => Ending.returned (Value.bool b)) ?_
    all_goals rw [Bool.eq_iff_iff, meetsB_iff]
    all_goals simp [meetsP]
    all_goals omega

end Go.Proofs.Ytlondbckhlfibaa
