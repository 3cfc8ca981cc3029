/-
  The walk of viewportlaw10.ShiftMeets. Own work.
-/
import Derived.Test.YtlondbckhlfibaaShiftOrderWalk
set_option linter.unusedSimpArgs false
set_option linter.unusedVariables false
namespace Go.Proofs.Ytlondbckhlfibaa
open Go.RowKit

/-- an edit, and a span -/
abbrev two32 (x y z a b : Int) : List (Nat × Nat × Value) := [(0, 0, .int .i64 x), (0, 1, .int .i64 y), (0, 2, .int .i64 z), (1, 0, .int .i64 a), (1, 1, .int .i64 b)]
theorem two32_init (w : World) (x y z a b : Int) (t u : Nat) : St w ((w.alloc (.cells #[.int .i64 x, .int .i64 y, .int .i64 z] t)).alloc (.cells #[.int .i64 a, .int .i64 b] u)) (two32 x y z a b) := by
  refine ⟨((Below.refl _ _).alloc (Nat.le_refl _) _).alloc (by simp) _, ?_⟩
  simp only [Cells, Nat.add_zero]
  and_intros <;> go_simp
theorem two32_set {w W : World} {x y z a b : Int} (h : St w W (two32 x y z a b)) (c d : Int) : St w ((W.setCell ⟨w.heap.size + 1, 0, none⟩ (.int .i64 c)).setCell ⟨w.heap.size + 1, 1, none⟩ (.int .i64 d)) (two32 x y z c d) := by
  have hT := h
  simp only [St, Cells, Nat.add_zero] at hT
  obtain ⟨h0, ⟨c0, f0, k0⟩, ⟨c1, f1, k1⟩, ⟨c2, f2, k2⟩, ⟨c3, f3, k3⟩, ⟨c4, f4, k4⟩, -⟩ := hT
  refine ⟨(h0.setCell (by simp <;> omega) _).setCell (by simp <;> omega) _, ?_⟩
  simp only [Cells, Nat.add_zero]
  and_intros <;> go_simp

theorem meets_st (a b x y z : Int) (w W : World) (l : List (Nat × Nat × Value)) (h : St w W l) :
    Calls Try.prog 16 #[.agg #[.int .i64 a, .int .i64 b], .agg #[.int .i64 x, .int .i64 y, .int .i64 z]] W fun e w' => e = .returned (.bool (meetsB a b x y z)) ∧ St w w' l :=
  (meets_any a b x y z W).mono fun _ _ ⟨he, hb⟩ => ⟨he, h.next hb⟩

set_option maxHeartbeats 2000000 in
theorem meets_bad (x y z n a b by_ cut : Int) (w : World) (hc : checkI x y z n ≠ 0) :
    Calls Try.prog 6 #[.agg #[.int .i64 x, .int .i64 y, .int .i64 z], .int .i64 n, .agg #[.int .i64 a, .int .i64 b], .int .i64 by_, .int .i64 cut] w fun e w' => e = .returned (.bool true) ∧ Below w.heap.size w w' := by
  have hne : (checkI x y z n != 0) = true := by simp [hc]
  go_enter Try.func6, Try.ntmps6
  go_wp2_with fail
  refine (lives_st w _ (two32 x y z a b) (two32_init _ _ _ _ _ _ _ _)).mono ?_
  rintro e w1 ⟨rfl, hS⟩
  have hT := hS
  simp only [St, Cells, Nat.add_zero] at hT
  obtain ⟨h0, ⟨c0, f0, k0⟩, ⟨c1, f1, k1⟩, ⟨c2, f2, k2⟩, ⟨c3, f3, k3⟩, ⟨c4, f4, k4⟩, -⟩ := hT
  go_wp2_with fail
  refine (check_st _ _ _ _ w _ (two32 x y z a b) hS).mono ?_
  rintro e w2 ⟨rfl, hS2⟩
  go_wp2
  go_ret
  exact ⟨rfl, hS2.1⟩

/-- what the law says, of numbers: p, q the span, k the cut, r how much greater -/
theorem meets_facts {x y z n p q k r : Int} (h : checkI x y z n = 0) (h1 : 0 ≤ p) (h2 : p ≤ q) (h3 : q ≤ n) (h4 : p ≤ k) (h5 : k ≤ q) (h6 : 0 ≤ r) (h7 : r < 1000) :
    (meetsB p q x y z = true → meetsB (p - r) q x y z = true ∧ meetsB p (q + r) x y z = true) ∧
    (meetsB p k x y z = true ∨ meetsB k q x y z = true → meetsB p q x y z = true) ∧
    meetsB p q x y z = (meetsB p k x y z || meetsB k q x y z || (decide (0 < z) && (x == k) && decide (p < k) && decide (k < q))) := by
  obtain ⟨⟨a1, a2, a3, a4, a5, a6, a7⟩, a8⟩ := check_zero h
  have ep := bnd_id p (by omega) (by omega)
  have eq := bnd_id q (by omega) (by omega)
  have ek := bnd_id k (by omega) (by omega)
  have ex := bnd_id x (by omega) (by omega)
  have ey := bnd_id y (by omega) (by omega)
  have ez := bnd_id z (by omega) (by omega)
  have e1 := bnd_id (p - r) (by omega) (by omega)
  have e2 := bnd_id (q + r) (by omega) (by omega)
  refine ⟨?_, ?_, ?_⟩
  · simp only [meetsB_iff, ep, eq, ex, ey, ez, e1, e2, meetsP]
    omega
  · simp only [meetsB_iff, ep, eq, ex, ey, ez, ek, meetsP]
    omega
  · rw [Bool.eq_iff_iff]
    simp only [Bool.or_eq_true, Bool.and_eq_true, decide_eq_true_eq, beq_iff_eq, meetsB_iff, ep, eq, ex, ey, ez, ek, meetsP]
    omega

end Go.Proofs.Ytlondbckhlfibaa
