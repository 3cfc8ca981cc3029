/-
  The pure side. No condition.
-/
import Derived.Test.YtmnjfnlpekojiaaMunchPure
import Derived.Test.YtmnjfnlpekojiaaMunchLongestTold
import Derived.IntWalk
set_option linter.unusedSimpArgs false
set_option linter.unusedVariables false
set_option linter.unusedSectionVars false
set_option linter.unnecessarySimpa false
namespace Go.Proofs.Ytmnjfnlpekojiaa.munchw
open Go Go.Proofs.Ytmnjfnlpekojiaa Ax
variable [Args]
theorem law_loop (ok : Ok) {N : Nat} (s : Small N) {x : ByteArray} (hx : x.size ≤ 60) {a : Nat} (ha : a < x.size) {r t e : Int} (hL : Lex x a r t e) : ∀ (n i : Nat), 1 ≤ i → a + i ≤ x.size + 1 → x.size + 1 - (a + i) < n →
    iterM (B3_1 N x (a : Int) r (a : Int) t e) n ((a + i : Nat) : Int) = some () := by
  intro n
  induction n with
  | zero => intro i h1 h2; omega
  | succ n ih =>
    intro i h1 h2 h3
    by_cases hlt : a + i ≤ x.size
    · have hsz : (ByteArray.extract x a (a + i)).size = i := by rw [size_ext hlt]; omega
      have hrun := run_ok ok s (ByteArray.extract x a (a + i)) (by omega)
      rw [hsz] at hrun
      have hru : ruN (ByteArray.extract x a (a + i)) 0 i = ruN x a i := by unfold ruN; rw [stN_ext hlt i (by omega)]
      rw [hru] at hrun
      have e1 : w64 (((a + i : Nat) : Int) + 1) = ((a + (i + 1) : Nat) : Int) := by rw [w64_sm (by omega) (by omega)]; omega
      rw [iterM_in (s' := ((a + (i + 1) : Nat) : Int))]
      · exact ih (i + 1) (by omega) (by omega) (by omega)
      · unfold B3_1
        rw [if_pos (by omega), if_pos (by omega), Int.toNat_natCast, Int.toNat_natCast, hrun, Option.bind_some, e1]
        have q1 := hL.rule i h1 hlt
        have q2 := hL.rest i h1 hlt
        by_cases c1 : ((a + i : Nat) : Int) = t
        · rw [if_pos c1, if_pos (q1 c1), if_neg (by omega)]
          by_cases c2 : r < 0
          · rw [if_pos c2, if_neg (by have := q2 (.inr c2); omega)]
          · rw [if_neg c2]
        · rw [if_neg c1]
          by_cases c2 : ((a + i : Nat) : Int) > t
          · rw [if_pos c2, if_neg (by have := q2 (.inl c2); omega)]
          · rw [if_neg c2]
            by_cases c3 : r < 0
            · rw [if_pos c3, if_neg (by have := q2 (.inr c3); omega)]
            · rw [if_neg c3]
    · refine iterM_out ?_
      unfold B3_1; dsimp only
      rw [if_neg (by omega)]
theorem law_true (x : ByteArray) (a : Int) : ∃ n, m3 n x a = some () := by
  refine ⟨3000000, ?_⟩
  unfold m3 m7
  rw [Option.bind_some, light_ok, Option.bind_some]
  by_cases g1 : Args.R.length ≤ 24 ∧ Args.N.length ≤ 6144
  case neg => rw [if_neg (by simpa using g1)]
  rw [if_pos (by simpa using g1)]
  have s : Small 3000000 := ⟨by omega, by omega, by omega⟩
  by_cases g2 : ((x.size : Nat) : Int) > 60
  · rw [if_pos g2]
  rw [if_neg g2]
  by_cases g3 : ((x.size : Nat) : Int) = 0
  · rw [if_pos g3]
  rw [if_neg g3]
  obtain ⟨k, hk, hk2⟩ := refCheck_ok s
  rw [hk, Option.bind_some]
  by_cases g4 : k = 0
  case neg => rw [if_neg g4]
  rw [if_pos g4]
  have ok := hk2.1 g4
  have h4 := Int.emod_nonneg a (show ((x.size : Nat) : Int) ≠ 0 by omega)
  have h5 := Int.emod_lt_of_pos a (show 0 < ((x.size : Nat) : Int) by omega)
  rw [pick_ok (by omega) (by omega), Option.bind_some]
  obtain ⟨b, hb⟩ := Int.eq_ofNat_of_zero_le h4
  rw [hb] at h5 ⊢
  obtain ⟨r, t, e, hn, hL⟩ := next_ok ok s (x := x) (by omega) (a := b) (by omega)
  obtain ⟨c, hc, hc2⟩ := check_ok s
  unfold m11
  rw [hc, Option.bind_some, if_pos (hc2.2 ok), if_neg (by omega), if_neg (by omega), hn, Option.bind_some]
  dsimp only
  rw [Option.bind_some]
  dsimp only
  have L := hL
  obtain ⟨l1, l2, l3, l4, l5, l6, l7⟩ := hL
  have e1 : w64 (((x.size : Nat) : Int) + 1) = ((x.size : Nat) : Int) + 1 := w64_sm (by omega) (by omega)
  have e2 : w64 ((b : Int) + 1) = ((b + 1 : Nat) : Int) := by rw [w64_sm (by omega) (by omega)]; omega
  have hloop := law_loop ok s (x := x) (by omega) (a := b) (by omega) L 3000000 1 (by omega) (by omega) (by omega)
  rw [if_pos rfl, if_pos rfl, if_neg (by omega), if_neg (by omega), if_neg (by omega), e1, if_neg (by omega), e2]
  rw [show m3_1 3000000 x (b : Int) r (b : Int) t e ((b + 1 : Nat) : Int) = some () from hloop]
  by_cases g5 : r < 0
  · rw [if_pos g5, if_pos (by have := l5 g5; omega)]; rfl
  · rw [if_neg g5]; rfl

end Go.Proofs.Ytmnjfnlpekojiaa.munchw
