/-
  Contracts of shift.Move, New. Own work.
-/
import Derived.Test.YtlondbckhlfibaaShiftMeets
set_option linter.unusedSimpArgs false
set_option linter.unusedVariables false
namespace Go.Proofs.Ytlondbckhlfibaa
open Go.RowKit

/-- a struct of two numbers, one of three, room for one of two -/
abbrev two23And (a b x y z : Int) (u v : Value) : List (Nat × Nat × Value) := [(0, 0, .int .i64 a), (0, 1, .int .i64 b), (1, 0, .int .i64 x), (1, 1, .int .i64 y), (1, 2, .int .i64 z), (2, 0, u), (2, 1, v)]
theorem two23And_init (w : World) (a b x y z : Int) (u v : Value) (p q r : Nat) : St w (((w.alloc (.cells #[.int .i64 a, .int .i64 b] p)).alloc (.cells #[.int .i64 x, .int .i64 y, .int .i64 z] q)).alloc (.cells #[u, v] r)) (two23And a b x y z u v) := by
  refine ⟨(((Below.refl _ _).alloc (Nat.le_refl _) _).alloc (by simp) _).alloc (by simp; omega) _, ?_⟩
  simp only [Cells, Nat.add_zero]
  and_intros <;> go_simp

theorem start_st (t x y z : Int) (w W : World) (l : List (Nat × Nat × Value)) (h : St w W l) :
    Calls Try.prog 17 #[.int .i64 t, .agg #[.int .i64 x, .int .i64 y, .int .i64 z]] W fun e W' => e = .returned (.int .i64 (startI t x y z)) ∧ St w W' l :=
  (start_any t x y z W).mono fun _ _ ⟨he, hb⟩ => ⟨he, h.next hb⟩
theorem end_st (t x y z : Int) (w W : World) (l : List (Nat × Nat × Value)) (h : St w W l) :
    Calls Try.prog 18 #[.int .i64 t, .agg #[.int .i64 x, .int .i64 y, .int .i64 z]] W fun e W' => e = .returned (.int .i64 (endI t x y z)) ∧ St w W' l :=
  (end_any t x y z W).mono fun _ _ ⟨he, hb⟩ => ⟨he, h.next hb⟩

set_option maxHeartbeats 2000000 in
theorem move_any (a b x y z : Int) (w : World) :
    Calls Try.prog 19 #[.agg #[.int .i64 a, .int .i64 b], .agg #[.int .i64 x, .int .i64 y, .int .i64 z]] w fun e w' => e = .returned (.agg #[.int .i64 (startI a x y z), .int .i64 (maxI (startI a x y z) (endI b x y z))]) ∧ Below w.heap.size w w' := by
  have m2 := maxI_eq
  go_enter Try.func19, Try.ntmps19
  go_wp2_with fail
  refine (start_st _ _ _ _ w _ (two23And a b x y z (.int .i64 0) (.int .i64 0)) (two23And_init _ _ _ _ _ _ _ _ _ _ _)).mono ?_
  rintro e w1 ⟨rfl, hS⟩
  have hT := hS
  simp only [St, Cells, Nat.add_zero] at hT
  obtain ⟨h0, ⟨c0, f0, k0⟩, ⟨c1, f1, k1⟩, ⟨c2, f2, k2⟩, ⟨c3, f3, k3⟩, ⟨c4, f4, k4⟩, -⟩ := hT
  go_wp2_with fail
  refine (end_st _ _ _ _ w _ (two23And a b x y z (.int .i64 0) (.int .i64 0)) hS).mono ?_
  rintro e w2 ⟨rfl, hT⟩
  clear h0 c0 f0 k0 c1 f1 k1 c2 f2 k2 c3 f3 k3 c4 f4 k4 hS
  simp only [St, Cells, Nat.add_zero] at hT
  obtain ⟨h0, ⟨c0, f0, k0⟩, ⟨c1, f1, k1⟩, ⟨c2, f2, k2⟩, ⟨c3, f3, k3⟩, ⟨c4, f4, k4⟩, ⟨c5, f5, k5⟩, ⟨c6, f6, k6⟩, -⟩ := hT
  go_wp2
  refine bodyPost_ret (v := .agg #[.int .i64 (startI a x y z), .int .i64 (maxI (startI a x y z) (endI b x y z))]) (by simp [results, Try.results19, go_sem, c5, c6]) rfl ⟨rfl, ?_⟩
  exact (h0.setCell (by simp <;> omega) _).setCell (by simp <;> omega) _

end Go.Proofs.Ytlondbckhlfibaa
