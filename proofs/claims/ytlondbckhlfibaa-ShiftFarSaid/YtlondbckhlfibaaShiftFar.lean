/-
  Contract of shift.Far. Own work.
-/
import Derived.Test.YtlondbckhlfibaaShiftTouch
set_option linter.unusedSimpArgs false
set_option linter.unusedVariables false
namespace Go.Proofs.Ytlondbckhlfibaa
open Go.RowKit

def farI (a b c d : Int) : Int := if touchB a b c d then 0 else if bnd b < bnd c then bnd c - bnd b else bnd a - bnd d

set_option maxHeartbeats 1000000 in
theorem far_any (a b c d : Int) (w : World) :
    Calls Try.prog 22 #[.agg #[.int .i64 a, .int .i64 b], .agg #[.int .i64 c, .int .i64 d]] w fun e w' => e = .returned (.int .i64 (farI a b c d)) ∧ Below w.heap.size w w' := by
  have ga := bnd_ge a
  have gb := bnd_ge b
  have gc := bnd_ge c
  have gd := bnd_ge d
  have la := bnd_le a
  have lb := bnd_le b
  have lc := bnd_le c
  have ld := bnd_le d
  go_enter Try.func22, Try.ntmps22
  go_upto_region 1 with fail
  go_cut [] (fun wx => St w wx (two (bnd a) (bnd b) (bnd c) (bnd d)))
  case first =>
    go_region_with (go_at_call 33; refine (span_st _ _ w _ (two a b c d) (by first | exact (two_init _ _ _ _ _ _ _).drew | assumption)).mono ?_; rintro e w' ⟨rfl, hS⟩; have hT := hS; simp only [St, Cells, Nat.add_zero, Nat.add_assoc] at hT; obtain ⟨h0, ⟨c0, f0, k0⟩, ⟨c1, f1, k1⟩, ⟨c2, f2, k2⟩, ⟨c3, f3, k3⟩, -⟩ := hT)
    all_goals (go_wp2_with fail; go_meet)
    all_goals (refine ⟨(((h0.setCell (by simp) _).setCell (by simp) _).setCell (by simp) _).setCell (by simp) _, ?_⟩; simp only [Cells, Nat.add_zero]; and_intros <;> go_simp)
  case rest =>
    have hC := hcut
    simp only [St, Cells, Nat.add_zero] at hcut
    obtain ⟨h0, ⟨c0, f0, k0⟩, ⟨c1, f1, k1⟩, ⟨c2, f2, k2⟩, ⟨c3, f3, k3⟩, -⟩ := hcut
    have e1 := bnd_bnd a
    have e2 := bnd_bnd b
    have e3 := bnd_bnd c
    have e4 := bnd_bnd d
    have ht : touchB (bnd a) (bnd b) (bnd c) (bnd d) = touchB a b c d := by simp [touchB, e1, e2, e3, e4]
    go_wp2_with (go_at_call 23; refine (touch_any _ _ _ _ _).mono ?_; rintro e w' ⟨rfl, hb⟩; have hT := hC.next hb; clear hb h0 c0 f0 k0 c1 f1 k1 c2 f2 k2 c3 f3 k3; simp only [St, Cells, Nat.add_zero] at hT; obtain ⟨h0, ⟨c0, f0, k0⟩, ⟨c1, f1, k1⟩, ⟨c2, f2, k2⟩, ⟨c3, f3, k3⟩, -⟩ := hT)
    all_goals go_ret
    · exact ⟨by simp [farI, *], h0⟩
    · exact ⟨by simp [farI, *], h0⟩
    · refine ⟨?_, h0⟩
      have hn : ¬ bnd b < bnd c := by omega
      simp [farI, *]

end Go.Proofs.Ytlondbckhlfibaa
