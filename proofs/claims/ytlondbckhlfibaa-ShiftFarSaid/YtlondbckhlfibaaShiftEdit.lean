/-
  Contracts of shift.Len, Check, Start, End. Own work.
-/
import Derived.Test.YtlondbckhlfibaaShiftTouch
set_option linter.unusedSimpArgs false
set_option linter.unusedVariables false
namespace Go.Proofs.Ytlondbckhlfibaa
open Go.RowKit

theorem number_st (x : Int) (w W : World) (l : List (Nat × Nat × Value)) (h : St w W l) :
    Calls Try.prog 39 #[.int .i64 x] W fun e W' => e = .returned (.int .i64 (bnd x)) ∧ St w W' l :=
  (number_any x W).mono fun _ _ ⟨he, hb⟩ => ⟨he, h.next hb⟩
theorem edit_st (x y z : Int) (w W : World) (l : List (Nat × Nat × Value)) (h : St w W l) :
    Calls Try.prog 38 #[.agg #[.int .i64 x, .int .i64 y, .int .i64 z]] W fun e W' => e = .returned (.agg #[.int .i64 (bnd x), .int .i64 (bnd y), .int .i64 (bnd z)]) ∧ St w W' l :=
  (edit_any x y z W).mono fun _ _ ⟨he, hb⟩ => ⟨he, h.next hb⟩

/-- one struct of three numbers -/
abbrev one3 (x y z : Int) : List (Nat × Nat × Value) := [(0, 0, .int .i64 x), (0, 1, .int .i64 y), (0, 2, .int .i64 z)]
theorem one3_init (w : World) (x y z : Int) (t : Nat) : St w (w.alloc (.cells #[.int .i64 x, .int .i64 y, .int .i64 z] t)) (one3 x y z) := by
  refine ⟨(Below.refl _ _).alloc (Nat.le_refl _) _, ?_⟩
  simp only [Cells, Nat.add_zero]
  and_intros <;> go_simp

def lenI (y z n : Int) : Int := bnd n - bnd y + bnd z

set_option maxHeartbeats 1000000 in
theorem len_any (x y z n : Int) (w : World) :
    Calls Try.prog 15 #[.agg #[.int .i64 x, .int .i64 y, .int .i64 z], .int .i64 n] w fun e w' => e = .returned (.int .i64 (lenI y z n)) ∧ Below w.heap.size w w' := by
  have gy := bnd_ge y
  have gz := bnd_ge z
  have gn := bnd_ge n
  have ly := bnd_le y
  have lz := bnd_le z
  have ln := bnd_le n
  go_enter Try.func15, Try.ntmps15
  go_wp2_with fail
  refine (edit_st _ _ _ w _ (one3 x y z) (one3_init _ _ _ _ _)).mono ?_
  rintro e w' ⟨rfl, hS⟩
  go_wp2_with fail
  refine (number_st _ w _ (one3 x y z) hS).mono ?_
  rintro e w2 ⟨rfl, hT⟩
  simp only [St, Cells, Nat.add_zero] at hT
  obtain ⟨h0, ⟨c0, f0, k0⟩, ⟨c1, f1, k1⟩, ⟨c2, f2, k2⟩, -⟩ := hT
  clear hS
  go_wp2
  go_ret
  exact ⟨rfl, ((h0.setCell (by simp) _).setCell (by simp) _).setCell (by simp) _⟩

def startI (t x y z : Int) : Int := if bnd t < bnd x then bnd t else if bnd x + bnd y ≤ bnd t then bnd t - bnd y + bnd z else bnd x + bnd z
def endI (t x y z : Int) : Int := if bnd t ≤ bnd x then bnd t else if bnd x + bnd y ≤ bnd t then bnd t - bnd y + bnd z else bnd x

set_option maxHeartbeats 1000000 in
theorem start_any (t x y z : Int) (w : World) :
    Calls Try.prog 17 #[.int .i64 t, .agg #[.int .i64 x, .int .i64 y, .int .i64 z]] w fun e w' => e = .returned (.int .i64 (startI t x y z)) ∧ Below w.heap.size w w' := by
  have gy := bnd_ge y
  have gz := bnd_ge z
  have gt := bnd_ge t
  have ly := bnd_le y
  have lz := bnd_le z
  have lt := bnd_le t
  have gx := bnd_ge x
  have lx := bnd_le x
  go_enter Try.func17, Try.ntmps17
  go_upto_region 1 with fail
  go_cut [0] (fun s0 wx => s0 = .int .i64 (bnd t) ∧ St w wx (one3 (bnd x) (bnd y) (bnd z)))
  case first =>
    go_region_with (first | (go_at_call 39; refine (number_st _ w _ (one3 x y z) (by first | exact (one3_init _ _ _ _ _).drew | assumption)).mono ?_; rintro e w' ⟨rfl, hS⟩; have hT := hS; simp only [St, Cells, Nat.add_zero, Nat.add_assoc] at hT; obtain ⟨h0, ⟨c0, f0, k0⟩, ⟨c1, f1, k1⟩, ⟨c2, f2, k2⟩, -⟩ := hT) | (go_at_call 38; refine (edit_st _ _ _ w _ (one3 x y z) (by first | exact (one3_init _ _ _ _ _).drew | assumption)).mono ?_; rintro e w' ⟨rfl, hS⟩; have hT := hS; simp only [St, Cells, Nat.add_zero, Nat.add_assoc] at hT; obtain ⟨h0, ⟨c0, f0, k0⟩, ⟨c1, f1, k1⟩, ⟨c2, f2, k2⟩, -⟩ := hT))
    all_goals (go_wp2_with fail; go_meet)
    all_goals (refine ⟨rfl, ((h0.setCell (by simp) _).setCell (by simp) _).setCell (by simp) _, ?_⟩; simp only [Cells, Nat.add_zero]; and_intros <;> go_simp)
  case rest =>
    obtain ⟨rfl, hcut⟩ := hcut
    simp only [St, Cells, Nat.add_zero] at hcut
    obtain ⟨h0, ⟨c0, f0, k0⟩, ⟨c1, f1, k1⟩, ⟨c2, f2, k2⟩, -⟩ := hcut
    go_wp2
    all_goals go_ret
    · exact ⟨by simp [startI, *], h0⟩
    · have hn : ¬ bnd t < bnd x := by omega
      exact ⟨by simp [startI, *], h0⟩
    · have hn : ¬ bnd t < bnd x := by omega
      have hm : ¬ bnd x + bnd y ≤ bnd t := by omega
      exact ⟨by simp [startI, *], h0⟩

set_option maxHeartbeats 1000000 in
theorem end_any (t x y z : Int) (w : World) :
    Calls Try.prog 18 #[.int .i64 t, .agg #[.int .i64 x, .int .i64 y, .int .i64 z]] w fun e w' => e = .returned (.int .i64 (endI t x y z)) ∧ Below w.heap.size w w' := by
  have gy := bnd_ge y
  have gz := bnd_ge z
  have gt := bnd_ge t
  have ly := bnd_le y
  have lz := bnd_le z
  have lt := bnd_le t
  have gx := bnd_ge x
  have lx := bnd_le x
  go_enter Try.func18, Try.ntmps18
  go_upto_region 1 with fail
  go_cut [0] (fun s0 wx => s0 = .int .i64 (bnd t) ∧ St w wx (one3 (bnd x) (bnd y) (bnd z)))
  case first =>
    go_region_with (first | (go_at_call 39; refine (number_st _ w _ (one3 x y z) (by first | exact (one3_init _ _ _ _ _).drew | assumption)).mono ?_; rintro e w' ⟨rfl, hS⟩; have hT := hS; simp only [St, Cells, Nat.add_zero, Nat.add_assoc] at hT; obtain ⟨h0, ⟨c0, f0, k0⟩, ⟨c1, f1, k1⟩, ⟨c2, f2, k2⟩, -⟩ := hT) | (go_at_call 38; refine (edit_st _ _ _ w _ (one3 x y z) (by first | exact (one3_init _ _ _ _ _).drew | assumption)).mono ?_; rintro e w' ⟨rfl, hS⟩; have hT := hS; simp only [St, Cells, Nat.add_zero, Nat.add_assoc] at hT; obtain ⟨h0, ⟨c0, f0, k0⟩, ⟨c1, f1, k1⟩, ⟨c2, f2, k2⟩, -⟩ := hT))
    all_goals (go_wp2_with fail; go_meet)
    all_goals (refine ⟨rfl, ((h0.setCell (by simp) _).setCell (by simp) _).setCell (by simp) _, ?_⟩; simp only [Cells, Nat.add_zero]; and_intros <;> go_simp)
  case rest =>
    obtain ⟨rfl, hcut⟩ := hcut
    simp only [St, Cells, Nat.add_zero] at hcut
    obtain ⟨h0, ⟨c0, f0, k0⟩, ⟨c1, f1, k1⟩, ⟨c2, f2, k2⟩, -⟩ := hcut
    go_wp2
    all_goals go_ret
    · exact ⟨by simp [endI, *], h0⟩
    · have hn : ¬ bnd t ≤ bnd x := by omega
      exact ⟨by simp [endI, *], h0⟩
    · have hn : ¬ bnd t ≤ bnd x := by omega
      have hm : ¬ bnd x + bnd y ≤ bnd t := by omega
      exact ⟨by simp [endI, *], h0⟩

end Go.Proofs.Ytlondbckhlfibaa
