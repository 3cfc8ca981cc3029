/-
  Contract of shift.Join. Own work.
-/
import Derived.Test.YtlondbckhlfibaaShiftTouch
set_option linter.unusedSimpArgs false
set_option linter.unusedVariables false
namespace Go.Proofs.Ytlondbckhlfibaa
open Go.RowKit

set_option maxHeartbeats 1000000 in
theorem join_any (a b c d : Int) (w : World) :
    Calls Try.prog 26 #[.agg #[.int .i64 a, .int .i64 b], .agg #[.int .i64 c, .int .i64 d]] w fun e w' => e = .returned (.agg #[.int .i64 (minI (bnd a) (bnd c)), .int .i64 (maxI (bnd b) (bnd d))]) ∧ Below w.heap.size w w' := by
  have m1 := minI_eq
  have m2 := maxI_eq
  go_enter Try.func26, Try.ntmps26
  go_upto_region 1 with fail
  go_cut [] (fun wx => St w wx (twoAnd (bnd a) (bnd b) (bnd c) (bnd d) (.int .i64 0) (.int .i64 0)))
  case first =>
    go_region_with (go_at_call 33; refine (span_st _ _ w _ (twoAnd a b c d (.int .i64 0) (.int .i64 0)) (by first | exact (twoAnd_init _ _ _ _ _ _ _ _ _ _).drew | assumption)).mono ?_; rintro e w' ⟨rfl, hS⟩; have hT := hS; simp only [St, Cells, Nat.add_zero, Nat.add_assoc] at hT; obtain ⟨h0, ⟨c0, f0, k0⟩, ⟨c1, f1, k1⟩, ⟨c2, f2, k2⟩, ⟨c3, f3, k3⟩, ⟨c4, f4, k4⟩, ⟨c5, f5, k5⟩, -⟩ := hT)
    all_goals (go_wp2_with fail; go_meet)
    all_goals (refine ⟨(((h0.setCell (by simp) _).setCell (by simp) _).setCell (by simp) _).setCell (by simp) _, ?_⟩; simp only [Cells, Nat.add_zero]; and_intros <;> go_simp)
  case rest =>
    simp only [St, Cells, Nat.add_zero] at hcut
    obtain ⟨h0, ⟨c0, f0, k0⟩, ⟨c1, f1, k1⟩, ⟨c2, f2, k2⟩, ⟨c3, f3, k3⟩, ⟨c4, f4, k4⟩, ⟨c5, f5, k5⟩, -⟩ := hcut
    go_wp2
    refine bodyPost_ret (v := .agg #[.int .i64 (minI (bnd a) (bnd c)), .int .i64 (maxI (bnd b) (bnd d))]) (by simp [results, Try.results26, go_sem, c4, c5]) rfl ⟨rfl, ?_⟩
    exact (h0.setCell (by simp <;> omega) _).setCell (by simp <;> omega) _

end Go.Proofs.Ytlondbckhlfibaa
