/-
  Contract of viewportlaw10.lives: it returns true. Own work.
-/
import Derived.Test.YtlondbckhlfibaaShiftMove
set_option linter.unusedSimpArgs false
set_option linter.unusedVariables false
namespace Go.Proofs.Ytlondbckhlfibaa
open Go.RowKit

theorem lives_any (w : World) : Calls Try.prog 12 #[] w fun e w' => e = .returned (.bool true) ∧ Below w.heap.size w w' := by
  have m1 : startI 0 2 1 3 = 0 := by decide
  have m2 : maxI (startI 0 2 1 3) (endI 2 2 1 3) = 2 := by decide
  have m3 : startI 3 2 1 3 = 5 := by decide
  have m4 : maxI (startI 3 2 1 3) (endI 5 2 1 3) = 7 := by decide
  have m5 : meetsB 1 3 2 1 3 = true := by decide
  have e1 := move_any 0 2 2 1 3
  have e2 := move_any 3 5 2 1 3
  have e3 := meets_any 1 3 2 1 3
  rw [m1] at m2
  rw [m3] at m4
  simp only [m1, m2] at e1
  simp only [m3, m4] at e2
  simp only [m5] at e3
  clear m1 m2 m3 m4 m5
  have E1 := hid e1
  have E2 := hid e2
  have E3 := hid e3
  clear e1 e2 e3
  go_enter Try.func12, Try.ntmps12
  go_wp2_with fail
  refine (E1.out _).mono ?_
  rintro e w1 ⟨rfl, hb⟩
  have b1 : Below w.heap.size w w1 := ((Below.refl _ _).alloc (Nat.le_refl _) _).trans (hb.mono (by simp))
  have k1 : w.heap.size < w1.heap.size := Nat.lt_of_lt_of_le (by simp) hb.size
  have c0 : w1.cell? ⟨w.heap.size, 0, none⟩ = some (.int .i64 2) := (hb.cell (p := ⟨w.heap.size, 0, none⟩) (by simp)).trans (by go_simp)
  have c1 : w1.cell? ⟨w.heap.size, 1, none⟩ = some (.int .i64 1) := (hb.cell (p := ⟨w.heap.size, 1, none⟩) (by simp)).trans (by go_simp)
  have c2 : w1.cell? ⟨w.heap.size, 2, none⟩ = some (.int .i64 3) := (hb.cell (p := ⟨w.heap.size, 2, none⟩) (by simp)).trans (by go_simp)
  clear hb
  go_wp2_with fail
  refine (E2.out _).mono ?_
  rintro e w2 ⟨rfl, hb⟩
  have b2 := b1.trans (hb.mono b1.size)
  have k2 : w.heap.size < w2.heap.size := Nat.lt_of_lt_of_le k1 hb.size
  have d0 := (hb.cell (p := ⟨w.heap.size, 0, none⟩) k1).trans c0
  have d1 := (hb.cell (p := ⟨w.heap.size, 1, none⟩) k1).trans c1
  have d2 := (hb.cell (p := ⟨w.heap.size, 2, none⟩) k1).trans c2
  clear hb c0 c1 c2
  go_wp2_with fail
  refine (E3.out _).mono ?_
  rintro e w3 ⟨rfl, hb⟩
  have b3 := b2.trans (hb.mono b2.size)
  clear hb
  go_wp2
  go_ret
  exact ⟨rfl, b3⟩

end Go.Proofs.Ytlondbckhlfibaa
