/-
  The pure side. No condition.
-/
import Derived.Test.YtilppdkfnfdjnaaDoorDfaPure
import Derived.IntWalk
set_option linter.unusedSimpArgs false
set_option linter.unusedVariables false
set_option linter.unusedSectionVars false
set_option linter.unnecessarySimpa false
namespace Go.Proofs.YtilppdkfnfdjnaaDoor.dfaw
open Go Go.Proofs.YtilppdkfnfdjnaaDoor Ax
variable [Args]


/-! steps, rules and runs of a table that keeps the conditions -/
theorem checks (ok : Ok) {n : Nat} (s : Small n) : m_dfaCheck n = some 0 := by
  obtain ⟨k, hk, hk2⟩ := check_ok s
  rw [hk, hk2.2 ok]
theorem has_is (ok : Ok) {n : Nat} (s : Small n) {q : Int} (h2 : q < (Args.R.length : Nat)) : m_dfahas n q = some (decide (0 ≤ q)) := by
  unfold m_dfahas
  rw [checks ok s, Option.bind_some, if_pos rfl]
  by_cases h : 0 ≤ q
  · rw [if_pos (by omega), if_pos h2]; simp [h]
  · rw [if_neg (by omega)]; simp [h]
theorem len_is (ok : Ok) {n : Nat} (s : Small n) : m_dfaLen n = some ((Args.R.length : Nat) : Int) := by
  unfold m_dfaLen
  rw [checks ok s, Option.bind_some, if_pos rfl]
theorem step_is (ok : Ok) {n : Nat} (s : Small n) {q c : Int} (h2 : q < (Args.R.length : Nat)) (hc : 0 ≤ c ∧ c < 256) :
    m_dfaStep n q c = some (if q < 0 then -1 else Args.N.getD (256 * q.toNat + c.toNat) 0) := by
  have hN := ok.len
  have hle := ok.le
  unfold m_dfaStep
  rw [has_is ok s h2, Option.bind_some]
  by_cases h : 0 ≤ q
  · have e2 : w64 (q * 256) = 256 * q := by rw [w64_sm (by omega) (by omega)]; omega
    have e3 : IntKind.i64.wrap c = c := w64_sm (by omega) (by omega)
    have e4 : w64 (256 * q + c) = 256 * q + c := w64_sm (by omega) (by omega)
    rw [if_pos (by simpa using h), e2, e3, e4, idx_nat h hc.1, if_pos (by omega), if_neg (by omega)]
  · rw [if_neg (by simpa using h), if_pos (by omega)]
theorem rule_is (ok : Ok) {n : Nat} (s : Small n) (x : ByteArray) (i : Nat) : m_dfaRule n (stN x 0 i) = some (ruN x 0 i) := by
  have h := stN_in ok x 0 i
  unfold m_dfaRule ruN
  rw [has_is ok s h.2, Option.bind_some]
  by_cases hq : 0 ≤ stN x 0 i
  · rw [if_pos (by simpa using hq), if_pos ⟨hq, h.2⟩, if_neg (by omega)]
  · rw [if_neg (by simpa using hq), if_pos (by omega)]
theorem stN_succ (x : ByteArray) (i : Nat) : stN x 0 (i + 1) = if stN x 0 i < 0 then -1 else Args.N.getD (256 * (stN x 0 i).toNat + (byteAt x i).toNat) 0 := by
  conv => lhs; unfold stN
  rw [Nat.zero_add]
theorem run_loop (ok : Ok) (N : Nat) (x : ByteArray) (hx : x.size ≤ 1000) : ∀ (n i : Nat), i ≤ x.size → x.size - i < n → 0 ≤ stN x 0 i →
    iterM (B_dfaRun_1 N x ((x.size : Nat) : Int)) n (stN x 0 i, (i : Int)) = some (if stN x 0 x.size < 0 then .inl () else .inr (stN x 0 x.size)) := by
  intro n
  induction n with
  | zero => intro i h1 h2; omega
  | succ n ih =>
    intro i h1 h2 h0
    have hq := stN_in ok x 0 i
    have hN := ok.len
    have hle := ok.le
    by_cases hi : i < x.size
    · have hb := byte_in x i
      have e2 : w64 (stN x 0 i * 256) = 256 * stN x 0 i := by rw [w64_sm (by omega) (by omega)]; omega
      have e3 : IntKind.i64.wrap (byteAt x i) = byteAt x i := w64_sm (by omega) (by omega)
      have e4 : w64 (256 * stN x 0 i + byteAt x i) = 256 * stN x 0 i + byteAt x i := w64_sm (by omega) (by omega)
      have e5 : w64 ((i : Int) + 1) = ((i + 1 : Nat) : Int) := by rw [w64_sm (by omega) (by omega)]; omega
      have es : Args.N.getD (256 * (stN x 0 i).toNat + (byteAt x i).toNat) 0 = stN x 0 (i + 1) := by rw [stN_succ, if_neg (by omega)]
      have hB : B_dfaRun_1 N x ((x.size : Nat) : Int) (stN x 0 i, (i : Int)) = if stN x 0 (i + 1) < 0 then some (.inr (.inl ())) else some (.inl (stN x 0 (i + 1), ((i + 1 : Nat) : Int))) := by
        unfold B_dfaRun_1; dsimp only
        rw [if_pos (show (i : Int) < ((x.size : Nat) : Int) by omega), if_pos (show 0 ≤ (i : Int) ∧ (i : Int) < ((x.size : Nat) : Int) by omega), Int.toNat_natCast, e2, e3, e4, idx_nat h0 hb.1, es, e5, if_pos (by omega)]
      by_cases hd : stN x 0 (i + 1) < 0
      · rw [if_pos hd] at hB
        rw [iterM_out hB, if_pos (stN_dead hd _ (by omega))]
      · rw [if_neg hd] at hB
        rw [iterM_in hB, ih (i + 1) (by omega) (by omega) (by omega)]
    · obtain rfl : i = x.size := by omega
      refine (iterM_out ?_).trans (by rw [if_neg (by omega)])
      unfold B_dfaRun_1; dsimp only
      rw [if_neg (by omega)]
theorem run_is (ok : Ok) {n : Nat} (s : Small n) (x : ByteArray) (hx : x.size ≤ 1000) : m_dfaRun n x = some (ruN x 0 x.size) := by
  have hn := s.n
  have hp := ok.pos
  unfold m_dfaRun
  rw [checks ok s, Option.bind_some, if_pos rfl]
  have h := run_loop ok n x hx n 0 (Nat.zero_le _) (by omega) (by simp [stN])
  rw [show m_dfaRun_1 n x ((x.size : Nat) : Int) (0, 0) = _ from h]
  have hq := stN_in ok x 0 x.size
  unfold ruN
  by_cases hd : stN x 0 x.size < 0
  · rw [if_pos hd, if_pos hd]
  · rw [if_neg hd, if_neg hd]; dsimp only
    rw [if_pos ⟨by omega, hq.2⟩]
theorem steps_loop (ok : Ok) {N : Nat} (s : Small N) (x : ByteArray) (hx : x.size ≤ 40) (c : Int) : ∀ (n i : Nat), i ≤ x.size → x.size - i < n →
    iterM (B_viewportlaw04DfaSteps_1 N x c) n (stN x 0 i, (i : Int)) = some (stN x 0 x.size) := by
  intro n
  induction n with
  | zero => intro i h1 h2; omega
  | succ n ih =>
    intro i h1 h2
    have hq := stN_in ok x 0 i
    have hq2 := stN_in ok x 0 (i + 1)
    by_cases hi : i < x.size
    · have hb := byte_in x i
      have e5 : w64 ((i : Int) + 1) = ((i + 1 : Nat) : Int) := by rw [w64_sm (by omega) (by omega)]; omega
      have hB : B_viewportlaw04DfaSteps_1 N x c (stN x 0 i, (i : Int)) = some (.inl (stN x 0 (i + 1), ((i + 1 : Nat) : Int))) := by
        unfold B_viewportlaw04DfaSteps_1; dsimp only
        rw [if_pos (show (i : Int) < ((x.size : Nat) : Int) by omega), if_pos (show 0 ≤ (i : Int) ∧ (i : Int) ≤ ((x.size : Nat) : Int) by omega), if_pos (show 0 ≤ (i : Int) ∧ (i : Int) < ((x.size : Nat) : Int) by omega), Int.toNat_natCast, step_is ok s hq.2 hb, ← stN_succ, e5, len_is ok s]
        by_cases hc : (i : Int) = c
        · have hz : (x.extract 0 i).size = i := by rw [size_ext (by omega)]; omega
          have hr : ruN (x.extract 0 i) 0 i = ruN x 0 i := by unfold ruN; rw [stN_ext (by omega) i (by omega)]
          have hrun := run_is ok s (x.extract 0 i) (by omega)
          rw [hz, hr] at hrun
          rw [if_pos hc, hrun, Option.bind_some, rule_is ok s, Option.bind_some, if_pos rfl, Option.bind_some, if_neg (by omega), Option.bind_some, if_neg (by omega)]
        · rw [if_neg hc, Option.bind_some, if_neg (by omega), Option.bind_some, if_neg (by omega)]
      rw [iterM_in hB, ih (i + 1) (by omega) (by omega)]
    · obtain rfl : i = x.size := by omega
      refine iterM_out ?_
      unfold B_viewportlaw04DfaSteps_1; dsimp only
      rw [if_neg (by omega)]

theorem steps_true (x : ByteArray) (a : Int) : ∃ n, m_viewportlaw04DfaSteps n x a = some () := by
  refine ⟨3000000, ?_⟩
  unfold m_viewportlaw04DfaSteps m_viewportlaw04lives
  rw [Option.bind_some, light_ok, Option.bind_some]
  by_cases g1 : Args.R.length ≤ 24 ∧ Args.N.length ≤ 6144
  case neg => rw [if_neg (by simpa using g1)]
  rw [if_pos (by simpa using g1)]
  have s : Small 3000000 := ⟨by omega, by omega, by omega⟩
  by_cases g2 : ((x.size : Nat) : Int) > 40
  · rw [if_pos g2]
  rw [if_neg g2]
  obtain ⟨k, hk, hk2⟩ := check_ok s
  rw [hk, Option.bind_some]
  by_cases g4 : k = 0
  case neg => rw [if_neg g4]
  rw [if_pos g4]
  have ok := hk2.1 g4
  have hp := ok.pos
  have e1 : w64 (((x.size : Nat) : Int) + 1) = ((x.size : Nat) : Int) + 1 := w64_sm (by omega) (by omega)
  rw [e1, pick_ok (by omega) (by omega), Option.bind_some]
  have h := steps_loop ok s x (by omega) (a % (((x.size : Nat) : Int) + 1)) 3000000 0 (Nat.zero_le _) (by omega)
  rw [show m_viewportlaw04DfaSteps_1 3000000 x (a % (((x.size : Nat) : Int) + 1)) (0, 0) = _ from h, Option.bind_some, run_is ok s x (by omega), Option.bind_some, rule_is ok s, Option.bind_some, if_pos rfl, step_is ok s (by omega) (by omega), if_pos (by omega), Option.bind_some, if_pos rfl]

end Go.Proofs.YtilppdkfnfdjnaaDoor.dfaw
