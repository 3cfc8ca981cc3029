/-
  The walk of viewportlaw10.ShiftBytes. Own work.
-/
import Derived.Test.YtlondbckhlfibaaBytesFacts
import Derived.Test.YtlondbckhlfibaaEdited
import Derived.Test.YtlondbckhlfibaaShiftMeetsWalk
import Derived.Test.YtlondbckhlfibaaShiftBackWalk
set_option linter.unusedSimpArgs false
set_option linter.unusedVariables false
namespace Go.Proofs.Ytlondbckhlfibaa
open Go.RowKit

abbrev one2 (a b : Int) : List (Nat × Nat × Value) := [(0, 0, .int .i64 a), (0, 1, .int .i64 b)]
theorem one2_init (w : World) (a b : Int) (t : Nat) : St w (w.alloc (.cells #[.int .i64 a, .int .i64 b] t)) (one2 a b) := by
  refine ⟨(Below.refl _ _).alloc (Nat.le_refl _) _, ?_⟩
  simp only [Cells, Nat.add_zero]
  and_intros <;> go_simp
theorem one2_set {w W : World} {a b : Int} (h : St w W (one2 a b)) (c d : Int) : St w ((W.setCell ⟨w.heap.size, 0, none⟩ (.int .i64 c)).setCell ⟨w.heap.size, 1, none⟩ (.int .i64 d)) (one2 c d) := by
  have hT := h
  simp only [St, Cells, Nat.add_zero] at hT
  obtain ⟨h0, ⟨c0, f0, k0⟩, ⟨c1, f1, k1⟩, -⟩ := hT
  refine ⟨(h0.setCell (by simp <;> omega) _).setCell (by simp <;> omega) _, ?_⟩
  simp only [Cells, Nat.add_zero]
  and_intros <;> go_simp
/-- a store into the first struct changes nothing of one that was made later -/
theorem cells_other {w W : World} {n : Nat} {x y z : Int} (h : Cells n W (one3 x y z)) (hlt : w.heap.size < n) (c d : Value) : Cells n ((W.setCell ⟨w.heap.size, 0, none⟩ c).setCell ⟨w.heap.size, 1, none⟩ d) (one3 x y z) := by
  have hT := h
  simp only [Cells, Nat.add_zero] at hT
  obtain ⟨⟨c0, f0, k0⟩, ⟨c1, f1, k1⟩, ⟨c2, f2, k2⟩, -⟩ := hT
  have n1 : ¬ w.heap.size = n := by omega
  have n2 : ¬ n = w.heap.size := by omega
  simp only [Cells, Nat.add_zero]
  and_intros <;> go_simp

def BytesAnd (w W : World) (n v : Nat) (p q x y z X Y : Int) : Prop := St w W (one2 p q) ∧ Cells n W (one3 x y z) ∧ Cells v W (one2 X Y)
theorem BytesAnd.next {w W W' : World} {n v : Nat} {p q x y z X Y : Int} (k : BytesAnd w W n v p q x y z X Y) (hb : Below W.heap.size W W') : BytesAnd w W' n v p q x y z X Y := ⟨k.1.next hb, k.2.1.later hb, k.2.2.later hb⟩
theorem BytesAnd.drew {w W : World} {n v : Nat} {p q x y z X Y : Int} (k : BytesAnd w W n v p q x y z X Y) : BytesAnd w W.drew n v p q x y z X Y := ⟨k.1.drew, k.2.1.drew, k.2.2.drew⟩
def BytesHeld (w W : World) (n v : Nat) (p q x y z X Y : Int) : Prop := BytesAnd w W n v p q x y z X Y ∧
  W.cell? ⟨w.heap.size, 0, none⟩ = some (.int .i64 p) ∧ W.cell? ⟨w.heap.size, 1, none⟩ = some (.int .i64 q) ∧
  W.cell? ⟨n, 0, none⟩ = some (.int .i64 x) ∧ W.cell? ⟨n, 1, none⟩ = some (.int .i64 y) ∧ W.cell? ⟨n, 2, none⟩ = some (.int .i64 z) ∧
  W.cell? ⟨v, 0, none⟩ = some (.int .i64 X) ∧ W.cell? ⟨v, 1, none⟩ = some (.int .i64 Y)
theorem BytesAnd.held {w W : World} {n v : Nat} {p q x y z X Y : Int} (k : BytesAnd w W n v p q x y z X Y) : BytesHeld w W n v p q x y z X Y := by
  have hT := k
  simp only [BytesAnd, St, Cells, Nat.add_zero] at hT
  obtain ⟨⟨h0, ⟨c0, f0, k0⟩, ⟨c1, f1, k1⟩, -⟩, ⟨⟨c2, f2, k2⟩, ⟨c3, f3, k3⟩, ⟨c4, f4, k4⟩, -⟩, ⟨⟨c5, f5, k5⟩, ⟨c6, f6, k6⟩, -⟩⟩ := hT
  exact ⟨k, c0, c1, c2, c3, c4, c5, c6⟩
theorem bytes_next {w W W' : World} {n v : Nat} {p q x y z X Y : Int} (k : BytesHeld w W n v p q x y z X Y) (hb : Below W.heap.size W W') : BytesAnd w W' n v p q x y z X Y := k.1.next hb
theorem bytes_of {w W : World} {n v : Nat} {p q x y z X Y : Int} (k : BytesHeld w W n v p q x y z X Y) : BytesAnd w W n v p q x y z X Y := k.1

theorem edited_list (s i : ByteArray) (A D : Nat) (z : Int) (w : World) (h : A + D ≤ s.size) (hs : s.size ≤ 300) (hi : i.size ≤ 300) :
    Calls Try.prog 25 #[.string s, .agg #[.int .i64 A, .int .i64 D, .int .i64 z], .string i] w fun e w' => e = .returned (.string (editedB s i A D)) ∧ Below w.heap.size w w' := edited_any s i A D z w h hs hi

set_option maxHeartbeats 2000000 in
theorem bytes_bad (s i : ByteArray) (a b x y : Int) (w : World) (hc : 300 < s.size ∨ 300 < i.size ∨ checkI x y i.size s.size ≠ 0) (ms : s.size ≤ maxLen) (mi : i.size ≤ maxLen) :
    Calls Try.prog 4 #[.string s, .agg #[.int .i64 a, .int .i64 b], .int .i64 x, .int .i64 y, .string i] w fun e w' => e = .returned (.bool true) ∧ Below w.heap.size w w' := by
  have hA : ∀ w1 : World, St w w1 (one2 a b) → St w (w1.alloc (.cells #[.int .i64 x, .int .i64 y, .int .i64 i.size] 24)) (one2 a b) := fun w1 hS => hS.next ((Below.refl _ _).alloc (Nat.le_refl _) _)
  by_cases h1 : (300 : Int) < (s.size : Int)
  · go_enter Try.func4, Try.ntmps4
    go_wp2_with fail
    refine (lives_st w _ (one2 a b) (one2_init _ _ _ _)).mono ?_
    rintro e w1 ⟨rfl, hS⟩
    have hB := (hA w1 hS).1
    go_wp2
    go_ret
    exact ⟨rfl, hB⟩
  · by_cases h2 : (300 : Int) < (i.size : Int)
    · go_enter Try.func4, Try.ntmps4
      go_wp2_with fail
      refine (lives_st w _ (one2 a b) (one2_init _ _ _ _)).mono ?_
      rintro e w1 ⟨rfl, hS⟩
      have hB := (hA w1 hS).1
      go_wp2
      go_ret
      exact ⟨rfl, hB⟩
    · have h3 : checkI x y i.size s.size ≠ 0 := by
        rcases hc with h | h | h
        · omega
        · omega
        · exact h
      have hne : (checkI x y i.size s.size != 0) = true := by simp [h3]
      clear h3 hc
      go_enter Try.func4, Try.ntmps4
      go_wp2_with fail
      refine (lives_st w _ (one2 a b) (one2_init _ _ _ _)).mono ?_
      rintro e w1 ⟨rfl, hS⟩
      have hB := hA w1 hS
      go_wp2_with fail
      refine (check_st x y i.size s.size w _ (one2 a b) hB).mono ?_
      rintro e w2 ⟨rfl, hS2⟩
      go_wp2
      go_ret
      exact ⟨rfl, hS2.1⟩

end Go.Proofs.Ytlondbckhlfibaa
