/-
  Contract of viewportkit.Pick. Own work.
-/
import Derived.Test.YtlondbckhlfibaaProg
import Derived.WalkKit
import Derived.WalkSpells
import Derived.WalkLawsBesides
import Derived.Below
set_option linter.unusedSimpArgs false
set_option linter.unusedVariables false
namespace Go.Proofs.Ytlondbckhlfibaa
open Go.RowKit

theorem tmod_neg {n m : Int} (hn : n < 0) (hm : 1 ≤ m) : -m < n.tmod m ∧ n.tmod m ≤ 0 ∧ n % m = if n.tmod m < 0 then n.tmod m + m else n.tmod m := by
  have e : n.tmod m = -((-n) % m) := by
    have h1 : n = -(-n) := by omega
    conv => lhs; rw [h1, Int.neg_tmod]
    rw [Int.tmod_eq_emod_of_nonneg (by omega)]
  have h2 := Int.emod_nonneg (-n) (show m ≠ 0 by omega)
  have h3 := Int.emod_lt_of_pos (-n) (show 0 < m by omega)
  refine ⟨by omega, by omega, ?_⟩
  have h4 := Int.emod_nonneg n (show m ≠ 0 by omega)
  have h5 := Int.emod_lt_of_pos n (show 0 < m by omega)
  have h6 : (n % m + (-n) % m) % m = 0 := by
    rw [← Int.add_emod]
    simp [Int.add_right_neg]
  rw [e]
  by_cases h7 : n % m + (-n) % m < m
  · rw [Int.emod_eq_of_lt (by omega) h7] at h6
    rw [if_neg (by omega)]
    omega
  · have h8 : (n % m + (-n) % m) % m = n % m + (-n) % m - m := by
      have h9 : n % m + (-n) % m = (n % m + (-n) % m - m) + m := by omega
      rw [h9, Int.add_emod_right, Int.emod_eq_of_lt (by omega) (by omega)]
      omega
    rw [if_pos (by omega)]
    omega

theorem pick_any (n m : Int) (hm : 1 ≤ m) (hm' : m ≤ 1099511627776) (w : World) :
    Calls Try.prog 24 #[.int .i64 n, .int .i64 m] w fun e w' => e = .returned (.int .i64 (n % m)) ∧ w = w' := by
  have hz : (m == 0) = false := by simp; omega
  have h4 := Int.emod_nonneg n (show m ≠ 0 by omega)
  have h5 := Int.emod_lt_of_pos n (show 0 < m by omega)
  by_cases hn : 0 ≤ n
  · go_enter Try.func24, Try.ntmps24
    go_wp2
    go_ret
    exact ⟨rfl, rfl⟩
  · obtain ⟨t1, t2, t3⟩ := tmod_neg (n := n) (m := m) (by omega) hm
    have H := t3
    clear t3
    by_cases hk : n.tmod m < 0
    · rw [if_pos hk] at H
      have HH : Hid (n % m = n.tmod m + m) := H
      clear H
      go_enter Try.func24, Try.ntmps24
      go_wp2
      go_ret
      exact ⟨by rw [HH.out]; rfl, rfl⟩
    · rw [if_neg hk] at H
      have HH : Hid (n % m = n.tmod m) := H
      clear H
      go_enter Try.func24, Try.ntmps24
      go_wp2
      go_ret
      exact ⟨by rw [HH.out]; rfl, rfl⟩

end Go.Proofs.Ytlondbckhlfibaa
