/-
  The pure side. No condition.
-/
import Derived.Test.YtaompjplflaloaaMunchAllPure
import Derived.Test.YtaompjplflaloaaMunchCallsTold
import Derived.IntWalk
set_option linter.unusedSimpArgs false
set_option linter.unusedVariables false
set_option linter.unusedSectionVars false
set_option linter.unnecessarySimpa false
namespace Go.Proofs.Ytaompjplflaloaa.munchw
open Go Go.Proofs.Ytaompjplflaloaa Ax
variable [Args]


theorem ref_loop (ok : Ok) (N : Nat) {x : ByteArray} (hx : x.size ≤ 1000) {a : Nat} : ∀ (m n p : Nat) (q r t e : Int) {P : Nat} {Q R T : Int}, m ≤ n → 0 ≤ q → q < Args.R.length → a + p ≤ x.size → ex x a m ⟨p, q, r, t, false⟩ = ⟨P, Q, R, T, true⟩ →
    iterM (B_viewportref06Next_1 N x (a : Int)) n (r, (if r < 0 then (a : Int) + 1 else t), e, q, ((a + p : Nat) : Int)) = some (R, (if R < 0 then (a : Int) + 1 else T), ((a + P : Nat) : Int)) := by
  intro m
  induction m with
  | zero => intro n p q r t e P Q R T h1 h2 h3 h4 h5; cases h5
  | succ m ih =>
    intro n p q r t e P Q R T h1 h2 h3 h4 h5
    obtain ⟨n, rfl⟩ : ∃ k, n = k + 1 := ⟨n - 1, by omega⟩
    have hN := ok.len
    have hle := ok.le
    have e5 : w64 (((a + p : Nat) : Int) + 1) = ((a + (p + 1) : Nat) : Int) := by rw [w64_sm (by omega) (by omega)]; omega
    unfold ex at h5
    simp only [] at h5
    by_cases hend : a + p = x.size
    · rw [if_pos hend] at h5
      injection h5 with g1 g2 g3 g4 g5
      subst g1 g2 g3 g4
      refine iterM_out ?_
      unfold B_viewportref06Next_1
      dsimp only
      rw [if_pos (by omega), e5]
    · rw [if_neg hend] at h5
      have hb := byte_in x (a + p)
      have e2 : w64 (256 * q) = 256 * q := w64_sm (by omega) (by omega)
      have e3 : IntKind.i64.wrap (byteAt x (a + p)) = byteAt x (a + p) := w64_sm (by omega) (by omega)
      have e4 : w64 (256 * q + byteAt x (a + p)) = 256 * q + byteAt x (a + p) := w64_sm (by omega) (by omega)
      have hv := ok.next (256 * q.toNat + (byteAt x (a + p)).toNat) (by omega)
      have hB : B_viewportref06Next_1 N x (a : Int) (r, (if r < 0 then (a : Int) + 1 else t), e, q, ((a + p : Nat) : Int)) = if Args.N.getD (256 * q.toNat + (byteAt x (a + p)).toNat) 0 < 0 then some (.inr (r, (if r < 0 then (a : Int) + 1 else t), ((a + (p + 1) : Nat) : Int)))
          else if 0 ≤ Args.R.getD (Args.N.getD (256 * q.toNat + (byteAt x (a + p)).toNat) 0).toNat 0 then some (.inl (Args.R.getD (Args.N.getD (256 * q.toNat + (byteAt x (a + p)).toNat) 0).toNat 0, ((a + (p + 1) : Nat) : Int), ((a + (p + 1) : Nat) : Int), Args.N.getD (256 * q.toNat + (byteAt x (a + p)).toNat) 0, ((a + (p + 1) : Nat) : Int)))
          else some (.inl (r, (if r < 0 then (a : Int) + 1 else t), ((a + (p + 1) : Nat) : Int), Args.N.getD (256 * q.toNat + (byteAt x (a + p)).toNat) 0, ((a + (p + 1) : Nat) : Int))) := by
        unfold B_viewportref06Next_1
        dsimp only
        rw [if_neg (by omega), if_pos (by omega), Int.toNat_natCast, e2, e3, e4, e5, idx_nat h2 hb.1, if_pos (by omega)]
        generalize Args.N.getD (256 * q.toNat + (byteAt x (a + p)).toNat) 0 = v at hv ⊢
        by_cases hv0 : v < 0
        · rw [if_pos hv0, if_pos hv0]
        · rw [if_neg hv0, if_neg hv0, if_pos (by omega)]
      generalize Args.N.getD (256 * q.toNat + (byteAt x (a + p)).toNat) 0 = v at hv hB h5
      by_cases hv0 : v < 0
      · rw [if_pos hv0] at hB h5
        injection h5 with g1 g2 g3 g4 g5
        subst g1 g2 g3 g4
        exact iterM_out hB
      · rw [if_neg hv0] at hB h5
        by_cases hr : 0 ≤ Args.R.getD v.toNat 0
        · rw [if_pos hr] at hB h5
          rw [iterM_in hB]
          have := ih n (p + 1) v (Args.R.getD v.toNat 0) ((a + p + 1 : Nat) : Int) ((a + (p + 1) : Nat) : Int) (by omega) (by omega) (by omega) (by omega) h5
          rwa [if_neg (by omega)] at this
        · rw [if_neg hr] at hB h5
          rw [iterM_in hB]
          exact ih n (p + 1) v r t _ (by omega) (by omega) (by omega) (by omega) h5
theorem refNext_ok (ok : Ok) {n : Nat} (s : Small n) {x : ByteArray} (hx : x.size ≤ 1000) {a : Nat} (ha : a < x.size) : m_viewportref06Next n x (a : Int) = some (nR x a, (a : Int), nT x a, nE x a, true) := by
  obtain ⟨k, hk, hk2⟩ := refCheck_ok s
  have hn := s.n
  obtain ⟨P, q, R, T, h1, h2, h3, h4, h5, h6⟩ := scanF_ok ok ha
  have e1 : w64 ((a : Int) + 1) = (a : Int) + 1 := w64_sm (by omega) (by omega)
  have hl := ref_loop ok n hx (a := a) (x.size - a + 1) n 0 0 (-1) (a : Int) 0 (by omega) (by omega) (by have := ok.pos; omega) (by omega) h1
  rw [if_pos (by omega)] at hl
  unfold m_viewportref06Next
  rw [hk, Option.bind_some, if_pos (hk2.2 ok), if_neg (by omega), if_neg (by omega), e1]
  rw [show m_viewportref06Next_1 n x (a : Int) (-1, (a : Int) + 1, 0, 0, (a : Int)) = _ from hl, Option.bind_some]
  unfold nR nT nE
  rw [h1]
theorem both_loop (ok : Ok) {N : Nat} (s : Small N) {x : ByteArray} (hx : x.size ≤ 1000) : ∀ (n : Nat) (l : List Q4) (a : Nat), Tile x l a → x.size - a < n → ∃ l', iterM (B_munchAll_1 N x) n (l, (a : Int)) = some l' ∧ iterM (B_viewportref06All_1 N x) n (l, (a : Int)) = some (.inr l') := by
  intro n
  induction n with
  | zero => intro l a h1 h2; omega
  | succ n ih =>
    intro l a h1 h2
    have h3 := h1.2.1
    have h4 := h1.1
    by_cases hlt : a < x.size
    · obtain ⟨t1, t2, t3, t4, t5, t6⟩ := nT_ok ok hlt
      obtain ⟨l', g1, g2⟩ := ih (l ++ [qx x a]) (nTo x a) (h1.snoc ok hlt) (by omega)
      have e : (nR x a, (a : Int), nT x a, nE x a) = qx x a := by unfold qx; rw [t1]
      refine ⟨l', ?_, ?_⟩
      · rw [iterM_in (s' := (l ++ [qx x a], ((nTo x a : Nat) : Int)))]
        · exact g1
        · unfold B_munchAll_1
          dsimp only
          cases l with
          | nil =>
            dsimp only
            rw [if_pos (by omega), nextF ok s hx hlt, Option.bind_some]
            dsimp only
            rw [t1]; rfl
          | cons z t =>
            dsimp only
            rw [if_pos (by omega), nextF ok s hx hlt, Option.bind_some]
            dsimp only
            rw [e]
            have hw : w64 ((((((z :: t) ++ [qx x a])).length : Nat) : Int) - 1) = (((z :: t).length : Nat) : Int) := by
              simp only [List.length_append, List.length_cons, List.length_nil] at h4 ⊢
              rw [w64_sm (by omega) (by omega)]; omega
            rw [if_pos (by omega), hw, if_pos (by simp only [List.length_append, List.length_cons, List.length_nil]; omega), Int.toNat_natCast, getD_app_end]
            rfl
      · rw [iterM_in (s' := (l ++ [qx x a], ((nTo x a : Nat) : Int)))]
        · exact g2
        · unfold B_viewportref06All_1
          dsimp only
          cases l with
          | nil =>
            dsimp only
            rw [if_pos (by omega), refNext_ok ok s hx hlt, Option.bind_some]
            dsimp only
            rw [if_pos rfl, t1]; rfl
          | cons z t =>
            dsimp only
            rw [if_pos (by omega), refNext_ok ok s hx hlt, Option.bind_some]
            dsimp only
            rw [if_pos rfl, e, if_pos (by omega), t1]
    · obtain rfl : a = x.size := by omega
      refine ⟨l, iterM_out ?_, iterM_out ?_⟩
      · unfold B_munchAll_1
        dsimp only
        cases l with
        | nil => dsimp only; rw [if_neg (by omega)]
        | cons z t => dsimp only; rw [if_neg (by omega)]
      · unfold B_viewportref06All_1
        dsimp only
        cases l with
        | nil => dsimp only; rw [if_neg (by omega)]
        | cons z t => dsimp only; rw [if_neg (by omega)]
/-- both tell the same lexemes -/
theorem both_ok {n : Nat} (s : Small n) {x : ByteArray} (hx : x.size ≤ 1000) : ∃ l, m_munchAll n x = some l ∧ m_viewportref06All n x = some l ∧ l.length ≤ 1000000 := by
  obtain ⟨c, hc, hc2⟩ := check_ok s
  obtain ⟨k, hk, hk2⟩ := refCheck_ok s
  have hn := s.n
  by_cases ok : Ok
  · obtain ⟨l, h1, h2⟩ := both_loop ok s hx n [] 0 (Tile.nil x) (by omega)
    obtain ⟨l2, h3, h4⟩ := all_loop ok s hx n [] 0 (Tile.nil x) (by omega)
    rw [h1] at h3
    obtain rfl := Option.some.inj h3
    refine ⟨l, ?_, ?_, by have := h4.1; omega⟩
    · unfold m_munchAll
      rw [hc, Option.bind_some, if_pos (hc2.2 ok), show m_munchAll_1 n x (([] : List Q4), 0) = some l from h1, Option.bind_some]
      cases l <;> rfl
    · unfold m_viewportref06All
      rw [show m_viewportref06All_1 n x (([] : List Q4), 0) = some (.inr l) from h2]
      cases l <;> rfl
  · refine ⟨[], ?_, ?_, Nat.zero_le _⟩
    · unfold m_munchAll
      rw [hc, Option.bind_some, if_neg (fun h => ok (hc2.1 h))]
    · obtain ⟨n, rfl⟩ : ∃ j, n = j + 1 := ⟨n - 1, by omega⟩
      unfold m_viewportref06All m_viewportref06All_1
      have : iterM (B_viewportref06All_1 (n + 1) x) (n + 1) (([] : List Q4), 0) = some (.inl ()) ∨ iterM (B_viewportref06All_1 (n + 1) x) (n + 1) (([] : List Q4), 0) = some (.inr []) := by
        by_cases hz : (0 : Int) < ((x.size : Nat) : Int)
        · left
          refine iterM_out ?_
          unfold B_viewportref06All_1 m_viewportref06Next
          dsimp only
          rw [if_pos hz, hk, Option.bind_some, if_neg (fun h => ok (hk2.1 h)), Option.bind_some]
          dsimp only
          rw [if_neg (by simp)]
        · right
          refine iterM_out ?_
          unfold B_viewportref06All_1
          dsimp only
          rw [if_neg hz]
      rcases this with h | h <;> rw [h]
theorem same_c {N : Nat} (L : List Q4) (hl : L.length ≤ 1000000) : ∀ (n i : Nat), i ≤ L.length → L.length - i < n → iterM (B_viewportkitSameapiLexemec_1 N L L) n (i : Int) = some (.inr ()) := by
  intro n
  induction n with
  | zero => intro i h1 h2; omega
  | succ n ih =>
    intro i h1 h2
    by_cases hlt : i < L.length
    · have e2 : w64 ((i : Int) + 1) = ((i + 1 : Nat) : Int) := by rw [w64_sm (by omega) (by omega)]; omega
      rw [iterM_in (s' := ((i + 1 : Nat) : Int))]
      · exact ih (i + 1) (by omega) (by omega)
      · unfold B_viewportkitSameapiLexemec_1
        dsimp only
        rw [if_pos (by omega), if_pos (by omega), if_pos (by omega), e2]
        simp
    · obtain rfl : i = L.length := by omega
      refine iterM_out ?_
      unfold B_viewportkitSameapiLexemec_1
      dsimp only
      rw [if_neg (by omega)]
/-- one lexeme, told by both -/
theorem next_both {n : Nat} (s : Small n) {x : ByteArray} (hx : x.size ≤ 1000) (a : Int) : ∃ q : Q4, ∃ b : Bool, m_munchNext n x a = some (q.1, q.2.1, q.2.2.1, q.2.2.2, b) ∧ m_viewportref06Next n x a = some (q.1, q.2.1, q.2.2.1, q.2.2.2, b) := by
  obtain ⟨c, hc, hc2⟩ := check_ok s
  obtain ⟨k, hk, hk2⟩ := refCheck_ok s
  by_cases ok : Ok
  · by_cases h1 : a < 0
    · refine ⟨(0, 0, 0, 0), false, ?_, ?_⟩
      · unfold m_munchNext; rw [hc, Option.bind_some, if_pos (hc2.2 ok), if_pos h1]
      · unfold m_viewportref06Next; rw [hk, Option.bind_some, if_pos (hk2.2 ok), if_pos h1]
    · by_cases h2 : a ≥ ((x.size : Nat) : Int)
      · refine ⟨(0, 0, 0, 0), false, ?_, ?_⟩
        · unfold m_munchNext; rw [hc, Option.bind_some, if_pos (hc2.2 ok), if_neg h1, if_pos h2]
        · unfold m_viewportref06Next; rw [hk, Option.bind_some, if_pos (hk2.2 ok), if_neg h1, if_pos h2]
      · obtain ⟨b, rfl⟩ := Int.eq_ofNat_of_zero_le (by omega : 0 ≤ a)
        exact ⟨(nR x b, (b : Int), nT x b, nE x b), true, Next_ok ok s hx (by omega), refNext_ok ok s hx (by omega)⟩
  · refine ⟨(0, 0, 0, 0), false, ?_, ?_⟩
    · unfold m_munchNext; rw [hc, Option.bind_some, if_neg (fun h => ok (hc2.1 h))]
    · unfold m_viewportref06Next; rw [hk, Option.bind_some, if_neg (fun h => ok (hk2.1 h))]
theorem calls_true (x : ByteArray) (a : Int) : ∃ n, m_viewportlaw06MunchCalls n x a = some true := by
  refine ⟨3000000, ?_⟩
  unfold m_viewportlaw06MunchCalls m_viewportlaw06lives
  rw [Option.bind_some, light_ok, Option.bind_some]
  by_cases g1 : Args.R.length ≤ 24 ∧ Args.N.length ≤ 6144
  case neg => rw [if_neg (by simpa using g1)]
  rw [if_pos (by simpa using g1)]
  have s : Small 3000000 := ⟨by omega, by omega, by omega⟩
  by_cases g2 : ((x.size : Nat) : Int) > 60
  · rw [if_pos g2]
  rw [if_neg g2]
  obtain ⟨q, b, h1, h2⟩ := next_both s (x := x) (by omega) a
  obtain ⟨l, h3, h4, h5⟩ := both_ok s (x := x) (by omega)
  rw [h1, h2, Option.bind_some]
  dsimp only
  rw [Option.bind_some]
  dsimp only
  simp only [beq_self_eq_true, Bool.and_self, if_true]
  have hd : m_viewportkitSameapiLexemed 3000000 = some () := by
    unfold m_viewportkitSameapiLexemed m_viewportkitSameapiLexemed_1
    rw [show (3000000 : Nat) = 2999999 + 1 from rfl, iterM_out (r := ()) (by rfl)]
    rfl
  have key : ((m_munchAll 3000000 x).bind fun c10_ =>
                match c10_ with
                | [] =>
                  (m_viewportref06All 3000000 x).bind fun c11_ =>
                  match c11_ with
                  | [] =>
                    (m_viewportkitSameapiLexemed 3000000).bind fun _ =>
                    some true
                  | c11_a :: c11_t =>
                    (m_viewportkitSameapiLexemee 3000000 (c11_a :: c11_t)).bind fun c12_ =>
                    some c12_
                | c10_a :: c10_t =>
                  (m_viewportref06All 3000000 x).bind fun c11_ =>
                  match c11_ with
                  | [] =>
                    (m_viewportkitSameapiLexemef 3000000 (c10_a :: c10_t)).bind fun c12_ =>
                    some c12_
                  | c11_a :: c11_t =>
                    (m_viewportkitSameapiLexemec 3000000 (c10_a :: c10_t) (c11_a :: c11_t)).bind fun c12_ =>
                    some c12_) = some true := by
    rw [h3, h4, Option.bind_some]
    cases l with
    | nil =>
      dsimp only
      rw [Option.bind_some]
      dsimp only
      rw [hd]; rfl
    | cons z t =>
      dsimp only
      rw [Option.bind_some]
      dsimp only
      unfold m_viewportkitSameapiLexemec
      rw [if_pos rfl, show m_viewportkitSameapiLexemec_1 3000000 (z :: t) (z :: t) 0 = some (.inr ()) from same_c (N := 3000000) (z :: t) h5 3000000 0 (Nat.zero_le _) (by omega)]
      rfl
  cases b
  · simp only [Bool.false_eq_true, if_false]
    exact key
  · simp only [if_true]
    exact key

end Go.Proofs.Ytaompjplflaloaa.munchw
