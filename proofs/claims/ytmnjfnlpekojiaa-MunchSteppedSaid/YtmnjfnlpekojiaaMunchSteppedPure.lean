/-
  The pure side. No condition.
-/
import Derived.Test.YtmnjfnlpekojiaaMunchScanPure
import Derived.Test.YtmnjfnlpekojiaaMunchSteppedTold
import Derived.IntWalk
set_option linter.unusedSimpArgs false
set_option linter.unusedVariables false
set_option linter.unusedSectionVars false
set_option linter.unnecessarySimpa false
namespace Go.Proofs.Ytmnjfnlpekojiaa.munchw
open Go Go.Proofs.Ytmnjfnlpekojiaa Ax
variable [Args]


/-- a scan as far as it came, examination by examination -/
theorem ex_take (ok : Ok) {x : ByteArray} {fr : Nat} : ∀ (m p : Nat) (r t : Int) {P : Nat} {Q R T : Int}, 0 ≤ stN x fr p → fr + p ≤ x.size → ex x fr m ⟨p, stN x fr p, r, t, false⟩ = ⟨P, Q, R, T, true⟩ →
    ∀ k, (k < P - p → 0 ≤ stN x fr (p + k) ∧ fr + p + k ≤ x.size ∧ ∃ r' t', ex x fr k ⟨p, stN x fr p, r, t, false⟩ = ⟨p + k, stN x fr (p + k), r', t', false⟩) ∧ (P - p ≤ k → ex x fr k ⟨p, stN x fr p, r, t, false⟩ = ⟨P, Q, R, T, true⟩) := by
  intro m
  induction m with
  | zero => intro p r t P Q R T h0 h1 h2; cases h2
  | succ m ih =>
    intro p r t P Q R T h0 h1 h2 k
    have hlt := ex_lt (m + 1) _ _ _ _ h2
    cases k with
    | zero => exact ⟨fun _ => ⟨h0, by omega, r, t, rfl⟩, fun h => by omega⟩
    | succ k =>
      unfold ex at h2 ⊢
      simp only [] at h2 ⊢
      by_cases hend : fr + p = x.size
      · rw [if_pos hend] at h2 ⊢
        injection h2 with e1 e2 e3 e4 e5
        subst e1 e2 e3 e4
        exact ⟨fun h => by omega, fun _ => rfl⟩
      · rw [if_neg hend] at h2 ⊢
        have hst : Args.N.getD (256 * (stN x fr p).toNat + (byteAt x (fr + p)).toNat) 0 = stN x fr (p + 1) := by
          conv => rhs; unfold stN
          rw [if_neg (by omega)]
        rw [hst] at h2 ⊢
        by_cases hv : stN x fr (p + 1) < 0
        · rw [if_pos hv] at h2 ⊢
          injection h2 with e1 e2 e3 e4 e5
          subst e1 e2 e3 e4
          exact ⟨fun h => by omega, fun _ => rfl⟩
        · rw [if_neg hv] at h2 ⊢
          by_cases hr : 0 ≤ Args.R.getD (stN x fr (p + 1)).toNat 0
          · rw [if_pos hr] at h2 ⊢
            obtain ⟨g1, g2⟩ := ih (p + 1) _ _ (by omega) (by omega) h2 k
            refine ⟨fun h => ?_, fun h => g2 (by omega)⟩
            have := g1 (by omega)
            rwa [show p + 1 + k = p + (k + 1) from by omega, show fr + (p + 1) + k = fr + p + (k + 1) from by omega] at this
          · rw [if_neg hr] at h2 ⊢
            obtain ⟨g1, g2⟩ := ih (p + 1) _ _ (by omega) (by omega) h2 k
            refine ⟨fun h => ?_, fun h => g2 (by omega)⟩
            have := g1 (by omega)
            rwa [show p + 1 + k = p + (k + 1) from by omega, show fr + (p + 1) + k = fr + p + (k + 1) from by omega] at this
theorem ex_add {x : ByteArray} {fr : Nat} : ∀ (k p : Nat) (q r t : Int), (ex x fr k ⟨p, q, r, t, false⟩).d = false → ex x fr (k + 1) ⟨p, q, r, t, false⟩ = ex x fr 1 (ex x fr k ⟨p, q, r, t, false⟩) := by
  intro k
  induction k with
  | zero => intro p q r t _; rfl
  | succ k ih =>
    intro p q r t h
    have e : ∀ m, ex x fr (m + 1) ⟨p, q, r, t, false⟩ = if fr + p = x.size then ⟨p + 1, q, r, t, true⟩ else
        if Args.N.getD (256 * q.toNat + (byteAt x (fr + p)).toNat) 0 < 0 then ⟨p + 1, Args.N.getD (256 * q.toNat + (byteAt x (fr + p)).toNat) 0, r, t, true⟩
        else if 0 ≤ Args.R.getD (Args.N.getD (256 * q.toNat + (byteAt x (fr + p)).toNat) 0).toNat 0 then ex x fr m ⟨p + 1, Args.N.getD (256 * q.toNat + (byteAt x (fr + p)).toNat) 0, Args.R.getD (Args.N.getD (256 * q.toNat + (byteAt x (fr + p)).toNat) 0).toNat 0, ((fr + p + 1 : Nat) : Int), false⟩
        else ex x fr m ⟨p + 1, Args.N.getD (256 * q.toNat + (byteAt x (fr + p)).toNat) 0, r, t, false⟩ := fun m => by
      conv => lhs; unfold ex
    rw [e k] at h ⊢
    rw [e (k + 1)]
    by_cases hend : fr + p = x.size
    · rw [if_pos hend] at h; cases h
    · rw [if_neg hend] at h ⊢
      rw [if_neg hend]
      generalize Args.N.getD (256 * q.toNat + (byteAt x (fr + p)).toNat) 0 = v at h ⊢
      by_cases hv : v < 0
      · rw [if_pos hv] at h; cases h
      · rw [if_neg hv] at h ⊢
        rw [if_neg hv]
        by_cases hr : 0 ≤ Args.R.getD v.toNat 0
        · rw [if_pos hr] at h ⊢
          rw [if_pos hr]
          exact ih _ _ _ _ h
        · rw [if_neg hr] at h ⊢
          rw [if_neg hr]
          exact ih _ _ _ _ h
theorem m29o_eq (n : Nat) (sf sp sq sr st : Int) (sd : Bool) (x : ByteArray) (m : Int) : m29o n (([] : List Int) ++ Args.N) (([] : List Int) ++ Args.R) sf sp sq sr st sd x m = m29 n sf sp sq sr st sd x m := rfl
theorem new_ok (ok : Ok) {n : Nat} (s : Small n) : m13 n = some (([] : List Int) ++ Args.N, ([] : List Int) ++ Args.R) := by
  obtain ⟨c, hc, hc2⟩ := check_ok s
  have h1 := ok.pos
  have h2 := ok.len
  have h3 := s.hN
  have h4 := s.hR
  unfold m13 m24a m24b
  rw [hc, Option.bind_some, if_pos (hc2.2 ok), if_pos (by omega), if_pos (by omega), if_pos (by omega), Option.bind_some, if_pos (by omega), if_pos (by omega), if_pos (by omega), Option.bind_some]

/-- the scan's states -/
def cs (x : ByteArray) (a k : Nat) : Sc := ex x a k ⟨0, stN x a 0, -1, (a : Int), false⟩
theorem cs_ok (ok : Ok) {x : ByteArray} {a : Nat} (ha : a < x.size) {P : Nat} {q R T : Int} (h : scanF x a = ⟨P, q, R, T, true⟩) (k : Nat) :
    (k < P → 0 ≤ stN x a k ∧ a + k ≤ x.size ∧ ∃ r' t', cs x a k = ⟨k, stN x a k, r', t', false⟩) ∧ (P ≤ k → cs x a k = ⟨P, q, R, T, true⟩) := by
  obtain ⟨g1, g2⟩ := ex_take ok (x.size - a + 1) 0 (-1) (a : Int) (by simp [stN]) (by omega) h k
  refine ⟨fun hk => ?_, fun hk => g2 (by omega)⟩
  have := g1 (by omega)
  simp only [Nat.zero_add, Nat.add_zero] at this
  exact this
theorem step_loop (ok : Ok) {N : Nat} (s : Small N) {x : ByteArray} (hx : x.size ≤ 60) {a : Nat} (ha : a < x.size) {P : Nat} {q R T : Int} (h : scanF x a = ⟨P, q, R, T, true⟩) (hP : a + P ≤ x.size + 1) (u1 u2 u3 : Int) : ∀ (n k : Nat), k ≤ P → P - k < n →
    iterM (B4_1 N x (a : Int) u1 u2 u3 ((a + P : Nat) : Int) (([] : List Int) ++ Args.N) (([] : List Int) ++ Args.R) (a : Int) true) n (((cs x a k).p : Int), (cs x a k).q, (cs x a k).r, (cs x a k).t, (cs x a k).d, ((k + 1 : Nat) : Int)) = some ((P : Int), q, R, T, true) := by
  intro n
  induction n with
  | zero => intro k h1 h2; omega
  | succ n ih =>
    intro k h1 h2
    have eE : w64 (((a + P : Nat) : Int) - (a : Int)) = (P : Int) := by rw [w64_sm (by omega) (by omega)]; omega
    by_cases hlt : k < P
    · obtain ⟨l1, l2, r', t', hc⟩ := (cs_ok ok ha h k).1 hlt
      have hst := stN_in ok x a k
      have hex := exam_ok ok s (x := x) (by omega) (fr := a) (m := 1) (by omega) (p := k) (q := stN x a k) (r := r') (t := t') ⟨l1, hst.2, l2⟩
      have hadd : cs x a (k + 1) = ex x a 1 ⟨k, stN x a k, r', t', false⟩ := by
        have := ex_add (x := x) (fr := a) k 0 (stN x a 0) (-1) (a : Int) (by rw [show ex x a k _ = cs x a k from rfl, hc])
        rw [show ex x a k _ = cs x a k from rfl, hc] at this
        exact this
      rw [← hadd] at hex
      have e1 : w64 ((a : Int) + (k : Int)) = ((a + k : Nat) : Int) := by rw [w64_sm (by omega) (by omega)]; omega
      have e2 : w64 (((k + 1 : Nat) : Int) + 1) = ((k + 1 + 1 : Nat) : Int) := by rw [w64_sm (by omega) (by omega)]; omega
      have e3 : w64 ((a : Int) + ((k + 1 : Nat) : Int)) = ((a + (k + 1) : Nat) : Int) := by rw [w64_sm (by omega) (by omega)]; omega
      have hp : (cs x a (k + 1)).p = k + 1 ∧ (cs x a (k + 1)).d = decide (k + 1 = P) := by
        by_cases hq : k + 1 < P
        · obtain ⟨_, _, r2, t2, hc2⟩ := (cs_ok ok ha h (k + 1)).1 hq
          rw [hc2]; exact ⟨rfl, by simp; omega⟩
        · have := (cs_ok ok ha h (k + 1)).2 (by omega)
          rw [this]; exact ⟨by simp only []; omega, by simp; omega⟩
      have ihk := ih (k + 1) (by omega) (by omega)
      rw [iterM_in (s' := (((cs x a (k + 1)).p : Int), (cs x a (k + 1)).q, (cs x a (k + 1)).r, (cs x a (k + 1)).t, (cs x a (k + 1)).d, ((k + 1 + 1 : Nat) : Int)))]
      · exact ihk
      · rw [hc]
        unfold B4_1
        dsimp only
        rw [eE, if_pos (by omega)]
        unfold m15 m16 m17 m18 m25 m28
        simp only [Option.bind_some, Bool.false_eq_true, if_false]
        rw [if_pos trivial, if_neg (by omega), e1, if_neg (by omega), m29o_eq, show (1 : Int) = ((1 : Nat) : Int) from rfl, hex, Option.bind_some]
        unfold tupE
        simp only [Option.bind_some, if_true]
        rw [hp.1, hp.2, e3]
        by_cases hq : k + 1 = P
        · rw [if_pos (by omega), decide_eq_true hq]
          simp only [if_true]
          rw [show w64 (((k + 1 : Nat) : Int) + ((1 : Nat) : Int)) = _ from e2]
        · rw [if_neg (by omega), decide_eq_false hq]
          simp only [Bool.false_eq_true, if_false, if_true]
          rw [show w64 (((k + 1 : Nat) : Int) + ((1 : Nat) : Int)) = _ from e2]
    · obtain rfl : k = P := by omega
      refine iterM_out ?_
      have := (cs_ok ok ha h k).2 (Nat.le_refl _)
      rw [this]
      unfold B4_1
      dsimp only
      rw [eE, if_neg (by omega)]
theorem stepped_true (x : ByteArray) (a : Int) : ∃ n, m4 n x a = some true := by
  refine ⟨3000000, ?_⟩
  unfold m4 m7
  rw [Option.bind_some, light_ok, Option.bind_some]
  by_cases g1 : Args.R.length ≤ 24 ∧ Args.N.length ≤ 6144
  case neg => rw [if_neg (by simpa using g1)]
  rw [if_pos (by simpa using g1)]
  have s : Small 3000000 := ⟨by omega, by omega, by omega⟩
  by_cases g2 : ((x.size : Nat) : Int) > 60
  · rw [if_pos g2]
  rw [if_neg g2]
  by_cases g3 : ((x.size : Nat) : Int) = 0
  · rw [if_pos g3]
  rw [if_neg g3]
  obtain ⟨k, hk, hk2⟩ := refCheck_ok s
  rw [hk, Option.bind_some]
  by_cases g4 : k = 0
  case neg => rw [if_neg g4]
  rw [if_pos g4]
  have ok := hk2.1 g4
  have h4 := Int.emod_nonneg a (show ((x.size : Nat) : Int) ≠ 0 by omega)
  have h5 := Int.emod_lt_of_pos a (show 0 < ((x.size : Nat) : Int) by omega)
  rw [pick_ok (by omega) (by omega), Option.bind_some]
  obtain ⟨b, hb⟩ := Int.eq_ofNat_of_zero_le h4
  rw [hb] at h5 ⊢
  have hbx : b < x.size := by omega
  have hn := Next_ok ok s (x := x) (by omega) hbx
  obtain ⟨P, q, R, T, h1, h2, h3, h4, h5, h6⟩ := scanF_ok ok hbx
  rw [hn, Option.bind_some]
  dsimp only
  rw [new_ok ok s, Option.bind_some]
  dsimp only
  obtain ⟨t1, t2, t3, t4, t5, t6⟩ := nT_ok ok hbx
  have e1 : w64 (((x.size : Nat) : Int) + 1) = ((x.size : Nat) : Int) + 1 := w64_sm (by omega) (by omega)
  rw [if_pos rfl, e1, if_neg (by omega)]
  have hE : nE x b = ((b + P : Nat) : Int) := by unfold nE; rw [h1]
  have hl := step_loop ok s (x := x) (by omega) hbx h1 h3 (nR x b) (b : Int) (nT x b) 3000000 0 (Nat.zero_le _) (by omega)
  have hl : m4_1 3000000 x (b : Int) (nR x b) (b : Int) (nT x b) ((b + P : Nat) : Int) (([] : List Int) ++ Args.N) (([] : List Int) ++ Args.R) (b : Int) true (0, 0, -1, (b : Int), false, 1) = some ((P : Int), q, R, T, true) := hl
  rw [hE]
  unfold m14 m25 m26
  rw [Option.bind_some, if_neg (by omega), Option.bind_some, Option.bind_some]
  dsimp only
  rw [if_pos rfl, hl, Option.bind_some]
  dsimp only
  unfold m15 m25 m27 m28
  have e2 : w64 ((b : Int) + (P : Int)) = ((b + P : Nat) : Int) := by rw [w64_sm (by omega) (by omega)]; omega
  have e3 : w64 ((b : Int) + 1) = (b : Int) + 1 := w64_sm (by omega) (by omega)
  have hR : nR x b = R := by unfold nR; rw [h1]
  have hT : nT x b = if R < 0 then (b : Int) + 1 else T := by unfold nT; rw [h1]
  rw [hR, hT, Option.bind_some, if_pos rfl, Option.bind_some, e2, e3]
  by_cases hr : R < 0
  · rw [if_pos hr, if_pos hr, Option.bind_some, Option.bind_some]
    simp
  · rw [if_neg hr, if_neg hr, Option.bind_some, Option.bind_some]
    simp

end Go.Proofs.Ytmnjfnlpekojiaa.munchw
