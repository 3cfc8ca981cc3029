/-
  The walk of viewportlaw10.ShiftBack. Own work.
-/
import Derived.Test.YtlondbckhlfibaaShiftMeetsWalk
set_option linter.unusedSimpArgs false
set_option linter.unusedVariables false
namespace Go.Proofs.Ytlondbckhlfibaa
open Go.RowKit

theorem move_st (a b x y z : Int) (w W : World) (l : List (Nat × Nat × Value)) (h : St w W l) :
    Calls Try.prog 19 #[.agg #[.int .i64 a, .int .i64 b], .agg #[.int .i64 x, .int .i64 y, .int .i64 z]] W fun e w' => e = .returned (.agg #[.int .i64 (startI a x y z), .int .i64 (maxI (startI a x y z) (endI b x y z))]) ∧ St w w' l :=
  (move_any a b x y z W).mono fun _ _ ⟨he, hb⟩ => ⟨he, h.next hb⟩

/-- what the law says, of numbers -/
theorem back_facts {x y z n p q s t : Int} (h : checkI x y z n = 0) (h1 : 0 ≤ p) (h2 : p < q) (h3 : q ≤ n) (h4 : meetsB p q x y z = false) (hs : s = startI p x y z) (ht : t = maxI (startI p x y z) (endI q x y z)) :
    t - s = q - p ∧ checkI x z y (n - y + z) = 0 ∧ (p < x → x < q → s = p ∧ t = q) ∧
    (¬ (p < x ∧ x < q) → meetsB s t x z y = false ∧ startI s x z y = p ∧ maxI (startI s x z y) (endI t x z y) = q) ∧ 0 ≤ s ∧ s ≤ 200000 ∧ 0 ≤ t ∧ t ≤ 200000 := by
  obtain ⟨⟨a1, a2, a3, a4, a5, a6, a7⟩, a8⟩ := check_zero h
  have ep := bnd_id p (by omega) (by omega)
  have eq := bnd_id q (by omega) (by omega)
  have ex := bnd_id x (by omega) (by omega)
  have ey := bnd_id y (by omega) (by omega)
  have ez := bnd_id z (by omega) (by omega)
  have em := bnd_id (n - y + z) (by omega) (by omega)
  have hm : ¬ meetsP p q x y z := by
    intro k
    have := (meetsB_iff p q x y z).2 (by rw [ep, eq, ex, ey, ez]; exact k)
    rw [h4] at this
    cases this
  unfold meetsP at hm
  simp only [startI, endI, maxI, ep, eq, ex, ey, ez] at hs ht
  have ks : 0 ≤ s ∧ s ≤ 200000 := by
    subst hs
    constructor <;> (repeat' split) <;> omega
  have kt : 0 ≤ t ∧ t ≤ 200000 := by
    subst ht
    constructor <;> (repeat' split) <;> omega
  have es := bnd_id s (by omega) (by omega)
  have et := bnd_id t (by omega) (by omega)
  have k1 : (p < x ∧ s = p) ∨ (x + y ≤ p ∧ ¬ p < x ∧ s = p - y + z) ∨ (¬ p < x ∧ p < x + y ∧ s = x + z) := by
    subst hs
    (repeat' split) <;> omega
  have k2 : (t = q - p + s) := by
    subst ht
    (repeat' split) <;> (repeat' split at hs) <;> omega
  clear hs ht
  refine ⟨by omega, ?_, ?_, ?_, ks.1, ks.2, kt.1, kt.2⟩
  · simp only [checkI, lenI, ex, ey, ez, em]
    rw [if_neg (by unfold badP; omega), if_neg (by omega)]
  · intro i1 i2
    omega
  · intro i
    refine ⟨?_, ?_, ?_⟩
    · have : ¬ meetsB s t x z y = true := by
        rw [meetsB_iff, es, et, ex, ey, ez]
        unfold meetsP
        omega
      simpa using this
    · simp only [startI, es, ex, ey, ez]
      (repeat' split) <;> omega
    · simp only [startI, endI, maxI, es, et, ex, ey, ez]
      (repeat' split) <;> omega

end Go.Proofs.Ytlondbckhlfibaa
