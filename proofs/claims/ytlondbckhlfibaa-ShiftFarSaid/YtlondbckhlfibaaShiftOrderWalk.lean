/-
  The walk of viewportlaw10.ShiftOrder. Own work.
-/
import Derived.Test.YtlondbckhlfibaaShiftLives
import Derived.Test.YtlondbckhlfibaaShiftCheck
import Derived.Test.YtlondbckhlfibaaPick
set_option linter.unusedSimpArgs false
set_option linter.unusedVariables false
namespace Go.Proofs.Ytlondbckhlfibaa
open Go.RowKit

theorem lives_st (w W : World) (l : List (Nat × Nat × Value)) (h : St w W l) :
    Calls Try.prog 12 #[] W fun e W' => e = .returned (.bool true) ∧ St w W' l :=
  (lives_any W).mono fun _ _ ⟨he, hb⟩ => ⟨he, h.next hb⟩
theorem check_st (x y z n : Int) (w W : World) (l : List (Nat × Nat × Value)) (h : St w W l) :
    Calls Try.prog 14 #[.agg #[.int .i64 x, .int .i64 y, .int .i64 z], .int .i64 n] W fun e W' => e = .returned (.int .i64 (checkI x y z n)) ∧ St w W' l :=
  (check_any x y z n W).mono fun _ _ ⟨he, hb⟩ => ⟨he, h.next hb⟩
theorem len_st (x y z n : Int) (w W : World) (l : List (Nat × Nat × Value)) (h : St w W l) :
    Calls Try.prog 15 #[.agg #[.int .i64 x, .int .i64 y, .int .i64 z], .int .i64 n] W fun e W' => e = .returned (.int .i64 (lenI y z n)) ∧ St w W' l :=
  (len_any x y z n W).mono fun _ _ ⟨he, hb⟩ => ⟨he, h.next hb⟩

/-- an edit that may be: all its numbers are small -/
theorem check_zero {x y z n : Int} (h : checkI x y z n = 0) : (0 ≤ n ∧ n ≤ 65536 ∧ 0 ≤ x ∧ 0 ≤ y ∧ 0 ≤ z ∧ x + y ≤ n ∧ n - y + z ≤ 65536) ∧ z ≤ 65536 := by
  unfold checkI at h
  split at h
  · omega
  · split at h
    · omega
    · rename_i h1 h2
      unfold badP at h1
      unfold lenI at h2
      have k : ∀ t : Int, bnd t = t ∨ (bnd t = 1099511627776) ∨ bnd t = -1099511627776 := by
        intro t
        simp only [bnd, bndHigh, bndLow]; split <;> split <;> omega
      rcases k n with e1 | e1 | e1 <;> rcases k x with e2 | e2 | e2 <;> rcases k y with e3 | e3 | e3 <;> rcases k z with e4 | e4 | e4 <;> rw [e1] at h1 h2 <;> rw [e2] at h1 <;> rw [e3] at h1 h2 <;> rw [e4] at h1 h2 <;> omega

set_option maxHeartbeats 2000000 in
theorem order_bad (x y z n a b : Int) (w : World) (hc : checkI x y z n ≠ 0) :
    Calls Try.prog 5 #[.agg #[.int .i64 x, .int .i64 y, .int .i64 z], .int .i64 n, .int .i64 a, .int .i64 b] w fun e w' => e = .returned (.bool true) ∧ Below w.heap.size w w' := by
  have hne : (checkI x y z n != 0) = true := by simp [hc]
  go_enter Try.func5, Try.ntmps5
  go_wp2_with fail
  refine (lives_st w _ (one3 x y z) (one3_init _ _ _ _ _)).mono ?_
  rintro e w1 ⟨rfl, hS⟩
  have hT := hS
  simp only [St, Cells, Nat.add_zero] at hT
  obtain ⟨h0, ⟨c0, f0, k0⟩, ⟨c1, f1, k1⟩, ⟨c2, f2, k2⟩, -⟩ := hT
  go_wp2_with fail
  refine (check_st _ _ _ _ w _ (one3 x y z) hS).mono ?_
  rintro e w2 ⟨rfl, hS2⟩
  go_wp2
  go_ret
  exact ⟨rfl, hS2.1⟩

/-- what Start and End do to two places in order, of an edit that may be -/
theorem order_facts {x y z n p q : Int} (h : checkI x y z n = 0) (h1 : 0 ≤ p) (h2 : p ≤ q) (h3 : q ≤ n) :
    startI p x y z ≤ startI q x y z ∧ endI p x y z ≤ endI q x y z ∧ endI p x y z ≤ startI p x y z ∧ 0 ≤ startI p x y z ∧ startI q x y z ≤ n - y + z ∧ 0 ≤ endI p x y z ∧ endI q x y z ≤ n - y + z ∧
    (p < x → startI p x y z = p ∧ endI p x y z = p) ∧ (x + y < p → n - y + z - startI p x y z = n - p ∧ n - y + z - endI p x y z = n - p) ∧ (startI n x y z = n - y + z ∨ n < x + y) ∧ startI q x y z ≤ 200000 ∧ 0 ≤ startI n x y z ∧ startI n x y z ≤ 200000 := by
  obtain ⟨⟨a1, a2, a3, a4, a5, a6, a7⟩, a8⟩ := check_zero h
  have ep := bnd_id p (by omega) (by omega)
  have eq := bnd_id q (by omega) (by omega)
  have ex := bnd_id x (by omega) (by omega)
  have ey := bnd_id y (by omega) (by omega)
  have ez := bnd_id z (by omega) (by omega)
  have en := bnd_id n (by omega) (by omega)
  simp only [startI, endI, ep, eq, ex, ey, ez, en]
  refine ⟨?_, ?_, ?_, ?_, ?_, ?_, ?_, ?_, ?_, ?_, ?_, ?_, ?_⟩ <;> (repeat' split) <;> omega

theorem len_plain {x y z n : Int} (h : checkI x y z n = 0) : lenI y z n = n - y + z := by
  obtain ⟨⟨a1, a2, a3, a4, a5, a6, a7⟩, a8⟩ := check_zero h
  simp only [lenI, bnd_id n (by omega) (by omega), bnd_id y (by omega) (by omega), bnd_id z (by omega) (by omega)]

end Go.Proofs.Ytlondbckhlfibaa
