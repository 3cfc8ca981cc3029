/-
  Contract of shift.Check. Own work.
-/
import Derived.Test.YtlondbckhlfibaaShiftEdit
set_option linter.unusedSimpArgs false
set_option linter.unusedVariables false
namespace Go.Proofs.Ytlondbckhlfibaa
open Go.RowKit

def badP (x y z n : Int) : Prop := n < 0 ∨ 65536 < n ∨ x < 0 ∨ y < 0 ∨ z < 0 ∨ n < x + y
instance (x y z n : Int) : Decidable (badP x y z n) := by unfold badP; infer_instance
def checkI (x y z n : Int) : Int := if badP (bnd x) (bnd y) (bnd z) (bnd n) then 2 else if 65536 < lenI y z n then 3 else 0

theorem lenI_bnd (y z n : Int) : lenI (bnd y) (bnd z) (bnd n) = lenI y z n := by simp only [lenI, bnd_bnd]

set_option maxHeartbeats 2000000 in
theorem check_any (x y z n : Int) (w : World) :
    Calls Try.prog 14 #[.agg #[.int .i64 x, .int .i64 y, .int .i64 z], .int .i64 n] w fun e w' => e = .returned (.int .i64 (checkI x y z n)) ∧ Below w.heap.size w w' := by
  have gy := bnd_ge y
  have gx := bnd_ge x
  have ly := bnd_le y
  have lx := bnd_le x
  go_enter Try.func14, Try.ntmps14
  go_wp2_with fail
  refine (edit_st _ _ _ w _ (one3 x y z) (one3_init _ _ _ _ _)).mono ?_
  rintro e w' ⟨rfl, hS⟩
  go_wp2_with fail
  refine (number_st _ w _ (one3 x y z) hS).mono ?_
  rintro e w2 ⟨rfl, hT⟩
  simp only [St, Cells, Nat.add_zero] at hT
  obtain ⟨h0, ⟨c0, f0, k0⟩, ⟨c1, f1, k1⟩, ⟨c2, f2, k2⟩, -⟩ := hT
  clear hS
  have hB : Below w.heap.size w (((w2.setCell ⟨w.heap.size, 0, none⟩ (.int .i64 (bnd x))).setCell ⟨w.heap.size, 1, none⟩ (.int .i64 (bnd y))).setCell ⟨w.heap.size, 2, none⟩ (.int .i64 (bnd z))) := ((h0.setCell (by simp) _).setCell (by simp) _).setCell (by simp) _
  go_wp2_with (go_at_call 15; refine (len_any _ _ _ _ _).mono ?_; rintro e w3 ⟨rfl, hb⟩; have hB3 := hB.trans (hb.mono (by have := hB.size; omega)); clear hB hb; rw [lenI_bnd])
  all_goals go_ret
  all_goals first
    | (refine ⟨?_, hB⟩; simp only [checkI]; rw [if_pos (by unfold badP; omega)] <;> rfl)
    | (refine ⟨?_, by assumption⟩; simp only [checkI]; rw [if_neg (by unfold badP; omega), if_pos (by omega)] <;> rfl)
    | (refine ⟨?_, by assumption⟩; simp only [checkI]; rw [if_neg (by unfold badP; omega), if_neg (by omega)] <;> rfl)

end Go.Proofs.Ytlondbckhlfibaa
