/-
  The pure side. No condition.
-/
import Derived.Test.YtmnjfnlpekojiaaMunchAllPure
import Derived.Test.YtmnjfnlpekojiaaMunchPartsTold
import Derived.IntWalk
set_option linter.unusedSimpArgs false
set_option linter.unusedVariables false
set_option linter.unusedSectionVars false
set_option linter.unnecessarySimpa false
namespace Go.Proofs.Ytmnjfnlpekojiaa.munchw
open Go Go.Proofs.Ytmnjfnlpekojiaa Ax
variable [Args]
/-! the law of parts -/
theorem parts_loop (ok : Ok) {N : Nat} (s : Small N) {x be ah : ByteArray} (hx : x.size ≤ 60) (hb : be.size ≤ 60) (ha : ah.size ≤ 60) {l : List Q4} {f : Nat → Nat} {A : Nat} (hA : l.length ≤ A ∧ A ≤ x.size) (f1 : f l.length = A)
    (hf : ∀ i, i < l.length → f i < x.size ∧ l.getD i (0, 0, 0, 0) = qx x (f i) ∧ nTo x (f i) = f (i + 1)) : ∀ (n i : Nat), i ≤ l.length → l.length - i < n → iterM (B5_1 N x be ah) n (l, ((f i : Nat) : Int), (i : Int)) = some (A : Int) := by
  intro n
  induction n with
  | zero => intro i h1 h2; omega
  | succ n ih =>
    intro i h1 h2
    by_cases hlt : i < l.length
    · obtain ⟨g1, g2, g3⟩ := hf i hlt
      obtain ⟨t1, t2, t3, t4, t5, t6⟩ := nT_ok ok g1
      rw [iterM_in (s' := (l, ((f (i + 1) : Nat) : Int), ((i + 1 : Nat) : Int)))]
      · exact ih (i + 1) (by omega) (by omega)
      · cases l with
        | nil => exact absurd hlt (Nat.not_lt_zero _)
        | cons z t =>
          unfold B5_1
          dsimp only
          rw [if_pos (by omega), if_pos (by omega), Int.toNat_natCast, g2]
          have e1 : w64 (((ah.size : Nat) : Int) + ((f i : Nat) : Int)) = ((ah.size + f i : Nat) : Int) := by rw [w64_sm (by omega) (by omega)]; omega
          have e2 : w64 ((i : Int) + 1) = ((i + 1 : Nat) : Int) := by rw [w64_sm (by omega) (by omega)]; omega
          have hsz : (ah ++ x).size = ah.size + x.size := ByteArray.size_append
          obtain ⟨s1, s2, s3⟩ := next_shift ok (x := x) (y := ah ++ x) (a := f i) (b := ah.size + f i) g1 (by omega) (fun i' _ hi => ⟨by omega, by rw [Nat.add_assoc]; exact byteAt_right⟩) (fun j _ hj => by omega)
          have hn := Next_ok ok s (x := ah ++ x) (by omega) (a := ah.size + f i) (by omega)
          show (if (qx x (f i)).2.1 = ((f i : Nat) : Int) then _ else none) = _
          unfold qx
          dsimp only
          rw [if_pos rfl, if_neg (by omega), if_neg (by omega), if_pos (by omega), e1, hn, Option.bind_some]
          dsimp only
          rw [if_pos rfl, s1, s2, s3]
          have e3 : w64 (((ah.size + f i : Nat) : Int) - ((ah.size : Nat) : Int)) = ((f i : Nat) : Int) := by rw [w64_sm (by omega) (by omega)]; omega
          have e4 : w64 (nT x (f i) + (((ah.size + f i : Nat) : Int) - ((f i : Nat) : Int)) - ((ah.size : Nat) : Int)) = ((nTo x (f i) : Nat) : Int) := by rw [w64_sm (by omega) (by omega)]; omega
          have e5 : w64 (nE x (f i) + (((ah.size + f i : Nat) : Int) - ((f i : Nat) : Int)) - ((ah.size : Nat) : Int)) = nE x (f i) := by rw [w64_sm (by omega) (by omega)]; omega
          rw [e3, e4, e5]
          simp only [beq_self_eq_true, Bool.and_self, Bool.and_true, Bool.not_true, Bool.false_eq_true, if_false]
          rw [e2, g3]
          by_cases hE : nE x (f i) ≤ ((x.size : Nat) : Int)
          · obtain ⟨E, hEe⟩ := Int.eq_ofNat_of_zero_le t4
            rw [hEe] at hE t6 ⊢
            have hEs : E ≤ x.size := by omega
            have hs0 : (ByteArray.extract x 0 E).size = E := by rw [size_ext hEs]; omega
            rw [if_pos hE, if_pos (by omega), Int.toNat_natCast, if_pos (by omega)]
            have hsz2 : (ByteArray.extract x 0 E ++ be).size = E + be.size := by rw [ByteArray.size_append, hs0]
            obtain ⟨r1, r2, r3⟩ := next_shift ok (x := x) (y := ByteArray.extract x 0 E ++ be) (a := f i) (b := f i) g1 (by omega) (fun i' h1 hi => ⟨by omega, by
              rw [byteAt_left (by rw [hs0]; omega), byteAt_extract hEs (by omega), Nat.zero_add]⟩) (fun j h1 hj => by omega)
            have hn2 := Next_ok ok s (x := ByteArray.extract x 0 E ++ be) (by omega) (a := f i) (by omega)
            rw [hn2, Option.bind_some]
            dsimp only
            rw [if_pos rfl, r1, r2, r3, hEe, t1, Int.sub_self, Int.add_zero, Int.add_zero]
            simp only [beq_self_eq_true, Bool.and_self, Bool.and_true, Bool.not_true, Bool.false_eq_true, if_false, g3]
          · rw [if_neg hE]
    · obtain rfl : i = l.length := by omega
      refine iterM_out ?_
      unfold B5_1
      dsimp only
      rw [f1]
      cases l with
      | nil => dsimp only; rw [if_neg (by simp)]
      | cons z t => dsimp only; rw [if_neg (by omega)]
theorem parts_true (x be ah : ByteArray) : ∃ n, m5 n x be ah = some () := by
  refine ⟨3000000, ?_⟩
  unfold m5 m7
  rw [Option.bind_some, light_ok, Option.bind_some]
  by_cases g1 : Args.R.length ≤ 24 ∧ Args.N.length ≤ 6144
  case neg => rw [if_neg (by simpa using g1)]
  rw [if_pos (by simpa using g1)]
  have s : Small 3000000 := ⟨by omega, by omega, by omega⟩
  by_cases g2 : ((x.size : Nat) : Int) > 60
  · rw [if_pos g2]
  rw [if_neg g2]
  by_cases g3 : ((be.size : Nat) : Int) > 60
  · rw [if_pos g3]
  rw [if_neg g3]
  by_cases g4 : ((ah.size : Nat) : Int) > 60
  · rw [if_pos g4]
  rw [if_neg g4]
  obtain ⟨k, hk, hk2⟩ := refCheck_ok s
  rw [hk, Option.bind_some]
  by_cases g5 : k = 0
  case neg => rw [if_neg g5]
  rw [if_pos g5]
  have ok := hk2.1 g5
  obtain ⟨l, h1, h2, h3, f, f0, f1, hf⟩ := all_ok ok s (x := x) (by omega)
  rw [h1, Option.bind_some]
  have hl := parts_loop ok s (x := x) (be := be) (ah := ah) (by omega) (by omega) (by omega) (l := l) (f := f) ⟨h2, h3⟩ f1 hf 3000000 0 (Nat.zero_le _) (by omega)
  rw [f0] at hl
  have hl : m5_1 3000000 x be ah (l, 0, 0) = some ((x.size : Nat) : Int) := hl
  cases l with
  | nil => dsimp only; rw [hl, Option.bind_some, if_pos rfl]
  | cons z t => dsimp only; rw [hl, Option.bind_some, if_pos rfl]

end Go.Proofs.Ytmnjfnlpekojiaa.munchw
