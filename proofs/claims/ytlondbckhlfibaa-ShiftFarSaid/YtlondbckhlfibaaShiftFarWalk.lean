/-
  The walk of viewportlaw10.ShiftFar. Own work.
-/
import Derived.Test.YtlondbckhlfibaaShiftFar
import Derived.Test.YtlondbckhlfibaaShiftJoin
import Derived.Test.YtlondbckhlfibaaShiftOrderWalk
set_option linter.unusedSimpArgs false
set_option linter.unusedVariables false
namespace Go.Proofs.Ytlondbckhlfibaa
open Go.RowKit

/-- three structs of two numbers -/
abbrev three (a b c d e f : Int) : List (Nat × Nat × Value) := [(0, 0, .int .i64 a), (0, 1, .int .i64 b), (1, 0, .int .i64 c), (1, 1, .int .i64 d), (2, 0, .int .i64 e), (2, 1, .int .i64 f)]
theorem three_init (w : World) (a b c d e f : Int) (t u v : Nat) : St w (((w.alloc (.cells #[.int .i64 a, .int .i64 b] t)).alloc (.cells #[.int .i64 c, .int .i64 d] u)).alloc (.cells #[.int .i64 e, .int .i64 f] v)) (three a b c d e f) := twoAnd_init w a b c d (.int .i64 e) (.int .i64 f) t u v

def farBad (a b c d e f : Int) : Prop := b < a ∨ d < c ∨ f < e ∨ a < -1000 ∨ c < -1000 ∨ e < -1000 ∨ 1000 < b ∨ 1000 < d ∨ 1000 < f
instance (a b c d e f : Int) : Decidable (farBad a b c d e f) := by unfold farBad; infer_instance

theorem join_st (a b c d : Int) (w W : World) (l : List (Nat × Nat × Value)) (h : St w W l) :
    Calls Try.prog 26 #[.agg #[.int .i64 a, .int .i64 b], .agg #[.int .i64 c, .int .i64 d]] W fun e w' => e = .returned (.agg #[.int .i64 (minI (bnd a) (bnd c)), .int .i64 (maxI (bnd b) (bnd d))]) ∧ St w w' l :=
  (join_any a b c d W).mono fun _ _ ⟨he, hb⟩ => ⟨he, h.next hb⟩

set_option maxHeartbeats 4000000 in
/-- what the law says, of numbers -/
theorem far_facts {a b c d e f : Int} (h : ¬ farBad a b c d e f) :
    farI a b e f = farI e f a b ∧ touchB a b e f = (farI a b e f == 0) ∧ 0 ≤ farI a b e f ∧
    farI (minI a c) (maxI b d) e f ≤ minI (farI a b e f) (farI c d e f) ∧
    touchB a b (minI a c) (maxI b d) = true ∧ touchB c d (minI a c) (maxI b d) = true ∧ minI c a = minI a c ∧ maxI d b = maxI b d ∧
    (farI (minI a c) (maxI b d) e f = minI (farI a b e f) (farI c d e f) ∨ (0 < farI a b e f ∧ 0 < farI c d e f ∧ touchB (minI a c) (maxI b d) e f = true)) ∧
    minI (bnd a) (bnd c) = minI a c ∧ maxI (bnd b) (bnd d) = maxI b d ∧ minI (bnd c) (bnd a) = minI a c ∧ maxI (bnd d) (bnd b) = maxI b d ∧ farI a b e f ≤ 10000 ∧ 0 ≤ farI c d e f ∧ farI c d e f ≤ 10000 ∧ farI (minI a c) (maxI b d) e f ≤ 10000 ∧ 0 ≤ farI (minI a c) (maxI b d) e f := by
  unfold farBad at h
  have ea := bnd_id a (by omega) (by omega)
  have eb := bnd_id b (by omega) (by omega)
  have ec := bnd_id c (by omega) (by omega)
  have ed := bnd_id d (by omega) (by omega)
  have ee := bnd_id e (by omega) (by omega)
  have ef := bnd_id f (by omega) (by omega)
  have k1 : minI a c = a ∧ a ≤ c ∨ minI a c = c ∧ c ≤ a := by unfold minI; split <;> omega
  have k2 : maxI b d = b ∧ d ≤ b ∨ maxI b d = d ∧ b ≤ d := by unfold maxI; split <;> omega
  have e1 := bnd_id (minI a c) (by omega) (by omega)
  have e2 := bnd_id (maxI b d) (by omega) (by omega)
  have k3 : minI c a = minI a c := by unfold minI; split <;> split <;> omega
  have k4 : maxI d b = maxI b d := by unfold maxI; split <;> split <;> omega
  have F : ∀ p q r s : Int, bnd p = p → bnd q = q → bnd r = r → bnd s = s → (touchB p q r s = true ∧ farI p q r s = 0 ∧ p ≤ s ∧ r ≤ q) ∨ (touchB p q r s = false ∧ q < r ∧ farI p q r s = r - q) ∨ (touchB p q r s = false ∧ ¬ q < r ∧ s < p ∧ farI p q r s = p - s) := by
    intro p q r s hp hq hr hs
    simp only [touchB, farI, hp, hq, hr, hs]
    by_cases t1 : p ≤ s <;> by_cases t2 : r ≤ q <;> by_cases t3 : q < r <;> simp [t1, t2, t3] <;> omega
  have f1 := F a b e f ea eb ee ef
  have f2 := F e f a b ee ef ea eb
  have f3 := F c d e f ec ed ee ef
  have f4 := F (minI a c) (maxI b d) e f e1 e2 ee ef
  have f5 := F a b (minI a c) (maxI b d) ea eb e1 e2
  have f6 := F c d (minI a c) (maxI b d) ec ed e1 e2
  have k5 : ∀ p q : Int, minI p q = p ∧ p ≤ q ∨ minI p q = q ∧ q ≤ p := by intro p q; unfold minI; split <;> omega
  have k6 := k5 (farI a b e f) (farI c d e f)
  clear F k5
  rw [ea, eb, ec, ed, k3, k4]
  generalize minI a c = j0 at *
  generalize maxI b d = j1 at *
  generalize farI a b e f = x at *
  generalize farI e f a b = x' at *
  generalize farI c d e f = y at *
  generalize farI j0 j1 e f = z at *
  generalize minI x y = m at *
  have x0 : 0 ≤ x := by clear f2 f3 f4 f5 f6 k1 k2 k6; omega
  have y0 : 0 ≤ y := by clear f1 f2 f4 f5 f6 k1 k2 k6; omega
  have z0 : 0 ≤ z := by clear f1 f2 f3 f5 f6 k1 k2 k6; omega
  have x9 : x ≤ 10000 := by clear f2 f3 f4 f5 f6 k1 k2 k6; omega
  have y9 : y ≤ 10000 := by clear f1 f2 f4 f5 f6 k1 k2 k6; omega
  have z9 : z ≤ 10000 := by clear f1 f2 f3 f5 f6 k6; omega
  have q5 : touchB a b j0 j1 = true := by
    clear f1 f2 f3 f4 f6
    rcases f5 with ⟨g, _⟩ | ⟨g, g1, g2⟩ | ⟨g, g1, g2, g3⟩
    · exact g
    · omega
    · omega
  have q6 : touchB c d j0 j1 = true := by
    clear f1 f2 f3 f4 f5
    rcases f6 with ⟨g, _⟩ | ⟨g, g1, g2⟩ | ⟨g, g1, g2, g3⟩
    · exact g
    · omega
    · omega
  clear f5 f6
  have q1 : x = x' := by
    clear f3 f4 k1 k2 k6
    rcases f1 with ⟨g, f1⟩ | ⟨g, f1⟩ | ⟨g, f1⟩ <;> rcases f2 with ⟨g', f2⟩ | ⟨g', f2⟩ | ⟨g', f2⟩ <;> omega
  have q2 : touchB a b e f = (x == 0) := by
    clear f2 f3 f4 k1 k2 k6
    rcases f1 with ⟨g, g1, _⟩ | ⟨g, g1, g2⟩ | ⟨g, g1, g2, g3⟩ <;> rw [g] <;> symm
    · simp [g1]
    · simp; omega
    · simp; omega
  clear f2
  have q4 : z ≤ m := by
    rcases f4 with ⟨g, g1, g2, g3⟩ | ⟨g, g1, g2⟩ | ⟨g, g1, g2, g3⟩
    · clear f1 f3 k1 k2; omega
    · rcases f1 with ⟨_, f1⟩ | ⟨_, f1⟩ | ⟨_, f1⟩ <;> rcases f3 with ⟨_, f3⟩ | ⟨_, f3⟩ | ⟨_, f3⟩ <;> rcases k6 with k6 | k6 <;> omega
    · rcases f1 with ⟨_, f1⟩ | ⟨_, f1⟩ | ⟨_, f1⟩ <;> rcases f3 with ⟨_, f3⟩ | ⟨_, f3⟩ | ⟨_, f3⟩ <;> rcases k6 with k6 | k6 <;> omega
  have q7 : z = m ∨ (0 < x ∧ 0 < y ∧ touchB j0 j1 e f = true) := by
    rcases f4 with ⟨g, g1, g2, g3⟩ | ⟨g, g1, g2⟩ | ⟨g, g1, g2, g3⟩
    · clear f1 f3 k1 k2
      by_cases hx : z = m
      · exact .inl hx
      · exact .inr ⟨by omega, by omega, g⟩
    · left
      rcases f1 with ⟨_, f1⟩ | ⟨_, f1⟩ | ⟨_, f1⟩ <;> rcases f3 with ⟨_, f3⟩ | ⟨_, f3⟩ | ⟨_, f3⟩ <;> rcases k6 with k6 | k6 <;> omega
    · left
      rcases f1 with ⟨_, f1⟩ | ⟨_, f1⟩ | ⟨_, f1⟩ <;> rcases f3 with ⟨_, f3⟩ | ⟨_, f3⟩ | ⟨_, f3⟩ <;> rcases k6 with k6 | k6 <;> omega
  exact ⟨q1, q2, x0, q4, q5, q6, rfl, rfl, q7, rfl, rfl, rfl, rfl, x9, y0, y9, z9, z0⟩

end Go.Proofs.Ytlondbckhlfibaa
