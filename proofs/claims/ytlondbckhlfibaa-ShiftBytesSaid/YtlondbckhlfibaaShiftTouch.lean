/-
  Contract of shift.Touch, and what the others share. Own work.
-/
import Derived.Test.YtlondbckhlfibaaShiftBase
import Derived.Test.YtlondbckhlfibaaSt
import Derived.RegionTactic
import Derived.BigRegion
import Derived.Deep.RegionWith
import Derived.Deep.DeepCutAuto
import Derived.Deep.RegionHeld3
set_option linter.unusedSimpArgs false
set_option linter.unusedVariables false
namespace Go.Proofs.Ytlondbckhlfibaa
open Go.RowKit

theorem span_st (x y : Int) (w W : World) (l : List (Nat × Nat × Value)) (h : St w W l) :
    Calls Try.prog 33 #[.agg #[.int .i64 x, .int .i64 y]] W fun e W' => e = .returned (.agg #[.int .i64 (bnd x), .int .i64 (bnd y)]) ∧ St w W' l :=
  (span_any x y W).mono fun _ _ ⟨he, hb⟩ => ⟨he, h.next hb⟩

def touchB (a b c d : Int) : Bool := decide (bnd a ≤ bnd d) && decide (bnd c ≤ bnd b)

/-- two structs of two numbers -/
abbrev two (a b c d : Int) : List (Nat × Nat × Value) := [(0, 0, .int .i64 a), (0, 1, .int .i64 b), (1, 0, .int .i64 c), (1, 1, .int .i64 d)]
theorem two_init (w : World) (a b c d : Int) (t u : Nat) : St w ((w.alloc (.cells #[.int .i64 a, .int .i64 b] t)).alloc (.cells #[.int .i64 c, .int .i64 d] u)) (two a b c d) := by
  refine ⟨((Below.refl _ _).alloc (Nat.le_refl _) _).alloc (by simp) _, ?_⟩
  simp only [Cells, Nat.add_zero]
  and_intros <;> go_simp

/-- two structs of two numbers, and room for a third -/
abbrev twoAnd (a b c d : Int) (x y : Value) : List (Nat × Nat × Value) := [(0, 0, .int .i64 a), (0, 1, .int .i64 b), (1, 0, .int .i64 c), (1, 1, .int .i64 d), (2, 0, x), (2, 1, y)]
theorem twoAnd_init (w : World) (a b c d : Int) (x y : Value) (t u v : Nat) : St w (((w.alloc (.cells #[.int .i64 a, .int .i64 b] t)).alloc (.cells #[.int .i64 c, .int .i64 d] u)).alloc (.cells #[x, y] v)) (twoAnd a b c d x y) := by
  refine ⟨(((Below.refl _ _).alloc (Nat.le_refl _) _).alloc (by simp) _).alloc (by simp; omega) _, ?_⟩
  simp only [Cells, Nat.add_zero]
  and_intros <;> go_simp

set_option maxHeartbeats 1000000 in
theorem touch_any (a b c d : Int) (w : World) :
    Calls Try.prog 23 #[.agg #[.int .i64 a, .int .i64 b], .agg #[.int .i64 c, .int .i64 d]] w fun e w' => e = .returned (.bool (touchB a b c d)) ∧ Below w.heap.size w w' := by
  go_enter Try.func23, Try.ntmps23
  go_upto_region 1 with fail
  go_cut [] (fun wx => St w wx (two (bnd a) (bnd b) (bnd c) (bnd d)))
  case first =>
    go_region_with (go_at_call 33; refine (span_st _ _ w _ (two a b c d) (by first | exact (two_init _ _ _ _ _ _ _).drew | assumption)).mono ?_; rintro e w' ⟨rfl, hS⟩; have hT := hS; simp only [St, Cells, Nat.add_zero, Nat.add_assoc] at hT; obtain ⟨h0, ⟨c0, f0, k0⟩, ⟨c1, f1, k1⟩, ⟨c2, f2, k2⟩, ⟨c3, f3, k3⟩, -⟩ := hT)
    all_goals (go_wp2_with fail; go_meet)
    all_goals (refine ⟨(((h0.setCell (by simp) _).setCell (by simp) _).setCell (by simp) _).setCell (by simp) _, ?_⟩; simp only [Cells, Nat.add_zero]; and_intros <;> go_simp)
  case rest =>
    simp only [St, Cells, Nat.add_zero] at hcut
    obtain ⟨h0, ⟨c0, f0, k0⟩, ⟨c1, f1, k1⟩, ⟨c2, f2, k2⟩, ⟨c3, f3, k3⟩, -⟩ := hcut
    by_cases t1 : bnd a ≤ bnd d
    · go_wp2
      go_ret
      exact ⟨by simp [touchB, t1], h0⟩
    · go_wp2
      go_ret
      exact ⟨by simp [touchB]; omega, h0⟩

theorem bnd_ge (x : Int) : -1099511627776 ≤ bnd x := by
  simp only [bnd, bndHigh, bndLow]; split <;> split <;> omega
theorem bnd_le (x : Int) : bnd x ≤ 1099511627776 := by
  simp only [bnd, bndHigh, bndLow]; split <;> split <;> omega
theorem bnd_id (x : Int) (h : -1099511627776 ≤ x) (h' : x ≤ 1099511627776) : bnd x = x := by
  simp only [bnd, bndHigh, bndLow]; split <;> split <;> omega

theorem bnd_bnd (x : Int) : bnd (bnd x) = bnd x := bnd_id _ (bnd_ge x) (bnd_le x)

def minI (x y : Int) : Int := if y < x then y else x
def maxI (x y : Int) : Int := if x < y then y else x
theorem minI_eq (x y : Int) : (if y < x then y else x) = minI x y := rfl
theorem maxI_eq (x y : Int) : (if x < y then y else x) = maxI x y := rfl

end Go.Proofs.Ytlondbckhlfibaa
