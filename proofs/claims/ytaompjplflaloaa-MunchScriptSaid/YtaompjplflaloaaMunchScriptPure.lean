/-
  The pure side. No condition.
-/
import Derived.Test.YtaompjplflaloaaMunchSPure
import Derived.Test.YtaompjplflaloaaMunchScriptTold
import Derived.IntWalk
set_option linter.unusedSimpArgs false
set_option linter.unusedVariables false
set_option linter.unusedSectionVars false
set_option linter.unnecessarySimpa false
namespace Go.Proofs.Ytaompjplflaloaa.munchs
open Go Go.Proofs.Ytaompjplflaloaa Ax
variable [Args]


theorem m29o_eq (n : Nat) (sf sp sq sr st : Int) (sd : Bool) (x : ByteArray) (m : Int) : m_munchscanexamineo n (([] : List Int) ++ Args.N) (([] : List Int) ++ Args.R) sf sp sq sr st sd x m = m_munchscanexamine n sf sp sq sr st sd x m := rfl

/-! the two checks name the same error -/
theorem check_two {n : Nat} {k : Int} (h : m_dfaCheck n = some k) : k = 0 ∨ k = 2 := by
  unfold m_dfaCheck at h
  split at h
  · right; exact (Option.some.inj h).symm
  split at h
  · right; exact (Option.some.inj h).symm
  split at h
  · obtain ⟨a, _, h⟩ := Option.bind_eq_some_iff.1 h
    split at h
    · obtain ⟨b, _, h⟩ := Option.bind_eq_some_iff.1 h
      split at h
      · left; exact (Option.some.inj h).symm
      · right; exact (Option.some.inj h).symm
    · right; exact (Option.some.inj h).symm
  · right; exact (Option.some.inj h).symm
theorem refCheck_two {n : Nat} {k : Int} (h : m_viewportref04Check n = some k) : k = 0 ∨ k = 2 := by
  unfold m_viewportref04Check at h
  split at h
  · right; exact (Option.some.inj h).symm
  split at h
  · right; exact (Option.some.inj h).symm
  split at h
  · split at h
    · cases h
    · right; exact (Option.some.inj h).symm
    · split at h
      · cases h
      · right; exact (Option.some.inj h).symm
      · left; exact (Option.some.inj h).symm
  · right; exact (Option.some.inj h).symm
theorem news_ok (ok : Ok) {n : Nat} (s : Small n) : m_munchNews n = some (.inl (([] : List Int) ++ Args.N, ([] : List Int) ++ Args.R)) ∧ m_viewportref06New n = some (.inl ()) := by
  obtain ⟨c, hc, hc2⟩ := check_ok s
  obtain ⟨k, hk, hk2⟩ := refCheck_ok s
  have h1 := ok.pos
  have h2 := ok.len
  have h3 := s.hN
  have h4 := s.hR
  constructor
  · unfold m_munchNews m_slicesCloneintinta m_slicesCloneintintb
    rw [hc, Option.bind_some, if_pos (hc2.2 ok), if_pos (by omega), if_pos (by omega), if_pos (by omega), Option.bind_some, if_pos (by omega), if_pos (by omega), if_pos (by omega), Option.bind_some]
  · unfold m_viewportref06New
    rw [hk, Option.bind_some, if_pos (hk2.2 ok)]
theorem news_no (no : ¬ Ok) {n : Nat} (s : Small n) : m_munchNews n = some (.inr 2) ∧ m_viewportref06New n = some (.inr 2) := by
  obtain ⟨c, hc, hc2⟩ := check_ok s
  obtain ⟨k, hk, hk2⟩ := refCheck_ok s
  have hc0 : ¬ c = 0 := fun h => no (hc2.1 h)
  have hk0 : ¬ k = 0 := fun h => no (hk2.1 h)
  obtain rfl : c = 2 := (check_two hc).resolve_left hc0
  obtain rfl : k = 2 := (refCheck_two hk).resolve_left hk0
  constructor
  · unfold m_munchNews; rw [hc, Option.bind_some, if_neg hc0]
  · unfold m_viewportref06New; rw [hk, Option.bind_some, if_neg hk0]

/-! the program's scanner and the document's, side by side -/
structure Rel (sf sp sq sr st : Int) (sd on : Bool) (xr xf xt : Int) : Prop where
  off : on = false → sd = false
  f : on = true → xf = sf ∧ 0 ≤ sf
  r : on = true → xr = sr
  t : on = true → xt = if sr < 0 then w64 (sf + 1) else st
  p : on = true → 0 ≤ sp ∧ (sp = 0 ∨ sf + sp ≤ 61)
  q : on = true → sd = false → 0 ≤ sq ∧ sq < (Args.R.length : Nat)

theorem begin_rel (ok : Ok) (n : Nat) {sf sp sq sr st : Int} {sd on : Bool} {xr xf xt : Int} (xe a : Int) (h : Rel sf sp sq sr st sd on xr xf xt) :
    ∃ f p q r t d o r' f' t' e' k, m_munchScannerBegin n (([] : List Int) ++ Args.N) (([] : List Int) ++ Args.R) sf sp sq sr st sd on a = some (f, p, q, r, t, d, o, k) ∧
      m_viewportref06ScannerBegin n on sd sf sp sq xr xf xt xe a = some (o, d, f, p, q, r', f', t', e', k) ∧ Rel f p q r t d o r' f' t' := by
  unfold m_munchScannerBegin m_viewportref06ScannerBegin m_munchScannervalid m_munchbegin
  rw [Option.bind_some]
  by_cases ha : a < 0
  · rw [if_pos ha, if_pos ha]
    exact ⟨_, _, _, _, _, _, _, _, _, _, _, _, rfl, rfl, h⟩
  · rw [if_neg ha, if_neg ha, Option.bind_some]
    have h1 := ok.pos
    refine ⟨_, _, _, _, _, _, _, _, _, _, _, _, rfl, rfl, ⟨?_, ?_, ?_, ?_, ?_, ?_⟩⟩
    · intro h; cases h
    · intro _; exact ⟨rfl, by omega⟩
    · intro _; rfl
    · intro _; rw [if_pos (by omega)]
    · intro _; omega
    · intro _ _; omega

theorem lexeme_rel (n : Nat) {sf sp sq sr st : Int} {sd on : Bool} {xr xf xt : Int} (xe : Int) (h : Rel sf sp sq sr st sd on xr xf xt) :
    ∃ a b c e, m_munchScannerLexeme n (([] : List Int) ++ Args.N) (([] : List Int) ++ Args.R) sf sp sq sr st sd on = some (a, b, c, e, sd) ∧ m_viewportref06ScannerLexeme n on sd sf sp sq xr xf xt xe = some (a, b, c, e, sd) := by
  unfold m_munchScannerLexeme m_viewportref06ScannerLexeme m_munchScannervalid m_munchscanlexeme m_munchscanext
  rw [Option.bind_some]
  cases sd
  · have nf : ¬ (false = true) := by simp
    rw [if_neg nf, if_neg nf]
    exact ⟨_, _, _, _, rfl, rfl⟩
  · rw [if_pos rfl, if_pos rfl]
    have ho : on = true := by
      cases on
      · exact absurd (h.off rfl) (by simp)
      · rfl
    rw [h.r ho, (h.f ho).1, h.t ho, Option.bind_some]
    by_cases hr : sr < 0
    · rw [if_pos hr, if_pos hr]; exact ⟨_, _, _, _, rfl, rfl⟩
    · rw [if_neg hr, if_neg hr]; exact ⟨_, _, _, _, rfl, rfl⟩

theorem step_rel (ok : Ok) {n : Nat} (s : Small n) {x : ByteArray} (hx : x.size ≤ 60) {sf sp sq sr st : Int} {sd on : Bool} {xr xf xt : Int} (xe : Int) (h : Rel sf sp sq sr st sd on xr xf xt) :
    ∃ p q r t d r' t' k e, m_munchScannerStep n (([] : List Int) ++ Args.N) (([] : List Int) ++ Args.R) sf sp sq sr st sd on x = some (p, q, r, t, d, k, e) ∧
      m_viewportref06ScannerStep n on sd sf sp sq xr xf xt xe x = some (d, p, q, r', t', k, e) ∧ Rel sf p q r t d on r' xf t' := by
  unfold m_munchScannerStep m_viewportref06ScannerStep m_munchScannervalid m_munchscanext
  rw [Option.bind_some]
  cases on
  case false =>
    have nf : ¬ (false = true) := by simp
    rw [if_neg nf, if_neg nf]; exact ⟨_, _, _, _, _, _, _, _, _, rfl, rfl, h⟩
  rw [if_pos rfl, if_pos rfl]
  cases sd
  case true => rw [if_pos rfl, if_pos rfl]; exact ⟨_, _, _, _, _, _, _, _, _, rfl, rfl, h⟩
  have nf : ¬ (false = true) := by simp
  rw [if_neg nf, if_neg nf]
  by_cases g1 : sf ≥ ((x.size : Nat) : Int)
  · rw [if_pos g1, if_pos g1]; exact ⟨_, _, _, _, _, _, _, _, _, rfl, rfl, h⟩
  rw [if_neg g1, if_neg g1, Option.bind_some]
  obtain ⟨f1, f2⟩ := h.f rfl
  obtain ⟨p1, p2⟩ := h.p rfl
  obtain ⟨q1, q2⟩ := h.q rfl rfl
  have hr := h.r rfl
  have ht := h.t rfl
  have hN := ok.len
  have hle := ok.le
  obtain ⟨fr, rfl⟩ := Int.eq_ofNat_of_zero_le f2
  obtain ⟨p, rfl⟩ := Int.eq_ofNat_of_zero_le p1
  have e0 : w64 ((fr : Int) + (p : Int)) = ((fr + p : Nat) : Int) := by rw [w64_sm (by omega) (by omega)]; omega
  have e1 : w64 ((p : Int) + 1) = ((p + 1 : Nat) : Int) := by rw [w64_sm (by omega) (by omega)]; omega
  rw [e0]
  by_cases g2 : ((fr + p : Nat) : Int) > ((x.size : Nat) : Int)
  · rw [if_pos g2, if_pos g2]; exact ⟨_, _, _, _, _, _, _, _, _, rfl, rfl, h⟩
  rw [if_neg g2, if_neg g2, m29o_eq]
  have hex := exam_ok ok s (x := x) (by omega) (fr := fr) (m := 1) (by omega) (p := p) (q := sq) (r := sr) (t := st) ⟨q1, q2, by simp only []; omega⟩
  rw [show ((1 : Nat) : Int) = 1 from rfl] at hex
  rw [hex, Option.bind_some]
  by_cases hend : fr + p = x.size
  · have hxx : ex x fr 1 ⟨p, sq, sr, st, false⟩ = ⟨p + 1, sq, sr, st, true⟩ := by
      unfold ex; simp only []; rw [if_pos hend]
    rw [hxx, if_pos (show ((fr + p : Nat) : Int) = ((x.size : Nat) : Int) by omega), e1]
    refine ⟨_, _, _, _, _, _, _, _, _, rfl, rfl, ⟨?_, ?_, ?_, ?_, ?_, ?_⟩⟩
    · intro h; cases h
    · intro _; exact ⟨f1, f2⟩
    · intro _; exact hr
    · intro _; exact ht
    · intro _; constructor <;> simp only [] <;> omega
    · intro _ h; cases h
  · have hb := byte_in x (fr + p)
    have e2 : w64 (256 * sq) = 256 * sq := w64_sm (by omega) (by omega)
    have e3 : IntKind.i64.wrap (byteAt x (fr + p)) = byteAt x (fr + p) := w64_sm (by omega) (by omega)
    have e4 : w64 (256 * sq + byteAt x (fr + p)) = 256 * sq + byteAt x (fr + p) := w64_sm (by omega) (by omega)
    have e6 : w64 (((fr + p : Nat) : Int) + 1) = ((fr + p + 1 : Nat) : Int) := by rw [w64_sm (by omega) (by omega)]; omega
    have hv := ok.next (256 * sq.toNat + (byteAt x (fr + p)).toNat) (by omega)
    have hxx : ex x fr 1 ⟨p, sq, sr, st, false⟩ = if Args.N.getD (256 * sq.toNat + (byteAt x (fr + p)).toNat) 0 < 0 then ⟨p + 1, Args.N.getD (256 * sq.toNat + (byteAt x (fr + p)).toNat) 0, sr, st, true⟩
        else if 0 ≤ Args.R.getD (Args.N.getD (256 * sq.toNat + (byteAt x (fr + p)).toNat) 0).toNat 0 then ⟨p + 1, Args.N.getD (256 * sq.toNat + (byteAt x (fr + p)).toNat) 0, Args.R.getD (Args.N.getD (256 * sq.toNat + (byteAt x (fr + p)).toNat) 0).toNat 0, ((fr + p + 1 : Nat) : Int), false⟩
        else ⟨p + 1, Args.N.getD (256 * sq.toNat + (byteAt x (fr + p)).toNat) 0, sr, st, false⟩ := by
      conv => lhs; unfold ex
      simp only []
      rw [if_neg hend]
      rfl
    rw [if_neg (show ¬ ((fr + p : Nat) : Int) = ((x.size : Nat) : Int) by omega), if_pos (show 0 ≤ ((fr + p : Nat) : Int) ∧ ((fr + p : Nat) : Int) < ((x.size : Nat) : Int) by omega), Int.toNat_natCast, e1, e2, e3, e4, e6, if_pos (show 0 ≤ 256 * sq + byteAt x (fr + p) ∧ 256 * sq + byteAt x (fr + p) < ((Args.N.length : Nat) : Int) by omega), idx_nat q1 hb.1, hxx]
    generalize Args.N.getD (256 * sq.toNat + (byteAt x (fr + p)).toNat) 0 = v at hv ⊢
    by_cases hv0 : v < 0
    · rw [if_pos hv0, if_pos hv0]
      refine ⟨_, _, _, _, _, _, _, _, _, rfl, rfl, ⟨?_, ?_, ?_, ?_, ?_, ?_⟩⟩
      · intro h; cases h
      · intro _; exact ⟨f1, f2⟩
      · intro _; exact hr
      · intro _; exact ht
      · intro _; constructor <;> simp only [] <;> omega
      · intro _ h; cases h
    · rw [if_neg hv0, if_neg hv0, if_pos (show 0 ≤ v ∧ v < ((Args.R.length : Nat) : Int) by omega)]
      by_cases hr0 : 0 ≤ Args.R.getD v.toNat 0
      · rw [if_pos hr0, if_pos hr0]
        refine ⟨_, _, _, _, _, _, _, _, _, rfl, rfl, ⟨?_, ?_, ?_, ?_, ?_, ?_⟩⟩
        · intro h; cases h
        · intro _; exact ⟨f1, f2⟩
        · intro _; rfl
        · intro _; simp only []; rw [if_neg (by omega)]
        · intro _; constructor <;> simp only [] <;> omega
        · intro _ _; simp only []; omega
      · rw [if_neg hr0, if_neg hr0]
        refine ⟨_, _, _, _, _, _, _, _, _, rfl, rfl, ⟨?_, ?_, ?_, ?_, ?_, ?_⟩⟩
        · intro h; cases h
        · intro _; exact ⟨f1, f2⟩
        · intro _; exact hr
        · intro _; exact ht
        · intro _; constructor <;> simp only [] <;> omega
        · intro _ _; simp only []; omega
abbrev actS (i : Nat) : ByteArray := (Args.L.getD i (0, 0, ByteArray.empty)).2.2

theorem steps_loop (ok : Ok) {N : Nat} (s : Small N) {i : Nat} (hi : i < Args.L.length) (hx : (actS i).size ≤ 60) (c : Nat) (hc : c ≤ 200) (sf : Int) (on : Bool) (xf xe : Int) :
    ∀ (n j : Nat) (sp sq sr st : Int) (sd : Bool) (xr xt : Int), j ≤ c → c - j < n → Rel sf sp sq sr st sd on xr xf xt →
    ∃ p q r t d r' t', iterM (B_viewportlaw06MunchScript_2 N (([] : List Int) ++ Args.N) (([] : List Int) ++ Args.R) sf on on sf xf xe (i : Int) (c : Int)) n (sp, sq, sr, st, sd, sd, sp, sq, xr, xt, (j : Int)) = some (p, q, r, t, d, d, p, q, r', t') ∧ Rel sf p q r t d on r' xf t' := by
  intro n
  induction n with
  | zero => intro j sp sq sr st sd xr xt h1 h2; omega
  | succ n ih =>
    intro j sp sq sr st sd xr xt h1 h2 h
    by_cases hj : j < c
    · obtain ⟨p, q, r, t, d, r', t', k, e, g1, g2, g3⟩ := step_rel ok s hx xe h
      have e5 : w64 ((j : Int) + 1) = ((j + 1 : Nat) : Int) := by rw [w64_sm (by omega) (by omega)]; omega
      have hB : B_viewportlaw06MunchScript_2 N (([] : List Int) ++ Args.N) (([] : List Int) ++ Args.R) sf on on sf xf xe (i : Int) (c : Int) (sp, sq, sr, st, sd, sd, sp, sq, xr, xt, (j : Int)) =
          if k = true then some (.inr (p, q, r, t, d, d, p, q, r', t')) else if e = 0 then some (.inl (p, q, r, t, d, d, p, q, r', t', ((j + 1 : Nat) : Int))) else some (.inr (p, q, r, t, d, d, p, q, r', t')) := by
        unfold B_viewportlaw06MunchScript_2; dsimp only
        rw [if_pos (show (j : Int) < (c : Int) by omega), if_pos (show 0 ≤ (i : Int) ∧ (i : Int) < ((Args.L.length : Nat) : Int) by omega), Int.toNat_natCast, g1, Option.bind_some]
        dsimp only
        rw [g2, Option.bind_some]
        dsimp only
        rw [e5]
        cases k
        · have nf : ¬ (false = true) := by simp
          rw [if_neg nf, if_neg nf, if_neg nf, if_pos rfl]
        · rw [if_pos rfl, if_pos rfl, if_pos rfl, if_pos rfl]
      cases k
      · have nf : ¬ (false = true) := by simp
        rw [if_neg nf] at hB
        by_cases he : e = 0
        · rw [if_pos he] at hB
          rw [iterM_in hB]
          exact ih (j + 1) _ _ _ _ _ _ _ (by omega) (by omega) g3
        · rw [if_neg he] at hB
          exact ⟨p, q, r, t, d, r', t', iterM_out hB, g3⟩
      · rw [if_pos rfl] at hB
        exact ⟨p, q, r, t, d, r', t', iterM_out hB, g3⟩
    · refine ⟨sp, sq, sr, st, sd, xr, xt, iterM_out ?_, h⟩
      unfold B_viewportlaw06MunchScript_2; dsimp only
      rw [if_neg (by omega)]

theorem steps_ok (ok : Ok) {n : Nat} (s : Small n) {i : Nat} (hi : i < Args.L.length) (hx : (actS i).size ≤ 60) (c : Nat) (hc : c ≤ 200) {sf sp sq sr st : Int} {sd on : Bool} {xr xf xt : Int} (xe : Int) (h : Rel sf sp sq sr st sd on xr xf xt) :
    ∃ p q r t d r' t', m_viewportlaw06MunchScript_2 n (([] : List Int) ++ Args.N) (([] : List Int) ++ Args.R) sf on on sf xf xe (i : Int) (c : Int) (sp, sq, sr, st, sd, sd, sp, sq, xr, xt, 0) = some (p, q, r, t, d, d, p, q, r', t') ∧ Rel sf p q r t d on r' xf t' :=
  steps_loop ok s hi hx c hc sf on xf xe n 0 sp sq sr st sd xr xt (Nat.zero_le _) (by have := s.n; omega) h

theorem ext_ok (n : Nat) (L K : List Int) (sf sp sq sr st : Int) (sd on : Bool) : m_munchScannerExt n L K sf sp sq sr st sd on = some () := rfl
theorem steps_is (n : Nat) (L K : List Int) (sf sp sq sr st : Int) (sd on : Bool) : m_munchScannerSteps n L K sf sp sq sr st sd on = some () := rfl
theorem refext_ok (n : Nat) (rb rd : Bool) (ra rn rs xr xf xt xe : Int) : m_viewportref06ScannerExt n rb rd ra rn rs xr xf xt xe = some () := rfl
theorem same4 (a b c e : Int) : ¬ ((!((a == a) && ((b == b) && ((c == c) && ((e == e) && true))))) = true) := by simp

theorem act_ok (ok : Ok) {n : Nat} (s : Small n) (hL : Args.L.length ≤ 40) {i : Nat} (hi : i < Args.L.length) {sf sp sq sr st : Int} {sd on : Bool} {xr xf xt : Int} (xe : Int) (h : Rel sf sp sq sr st sd on xr xf xt) :
    B_viewportlaw06MunchScript_1 n (([] : List Int) ++ Args.N) (([] : List Int) ++ Args.R) (sf, sp, sq, sr, st, sd, on, on, sd, sf, sp, sq, xr, xf, xt, xe, (i : Int)) = some (.inr (.inl ())) ∨
    ∃ f p q r t d o r' f' t' e', B_viewportlaw06MunchScript_1 n (([] : List Int) ++ Args.N) (([] : List Int) ++ Args.R) (sf, sp, sq, sr, st, sd, on, on, sd, sf, sp, sq, xr, xf, xt, xe, (i : Int)) = some (.inl (f, p, q, r, t, d, o, o, d, f, p, q, r', f', t', e', ((i + 1 : Nat) : Int))) ∧ Rel f p q r t d o r' f' t' := by
  have e5 : w64 ((i : Int) + 1) = ((i + 1 : Nat) : Int) := by rw [w64_sm (by omega) (by omega)]; omega
  unfold B_viewportlaw06MunchScript_1; dsimp only
  rw [if_pos (show (i : Int) < ((Args.L.length : Nat) : Int) by omega), if_pos (show 0 ≤ (i : Int) ∧ (i : Int) < ((Args.L.length : Nat) : Int) by omega), Int.toNat_natCast, e5]
  by_cases hx : (((actS i).size : Nat) : Int) > 60
  · left; rw [if_pos hx]
  right
  rw [if_neg hx, pick_ok (by omega) (by omega), Option.bind_some]
  have h60 : (actS i).size ≤ 60 := by omega
  have nf : ¬ (false = true) := by simp
  by_cases k2 : (Args.L.getD i (0, 0, ByteArray.empty)).1 % 3 = 2
  · rw [if_pos k2, Option.bind_some, if_neg (by omega)]
    obtain ⟨p, q, r, t, d, r', t', g1, g2⟩ := steps_ok ok s hi h60 200 (by omega) xe h
    rw [show ((200 : Nat) : Int) = 200 from rfl] at g1
    obtain ⟨a, b, c, e, g3, g4⟩ := lexeme_rel n xe g2
    refine ⟨sf, p, q, r, t, d, on, r', xf, t', xe, ?_, g2⟩
    rw [g1, Option.bind_some]
    dsimp only
    rw [g3, Option.bind_some]
    dsimp only
    rw [g4, Option.bind_some]
    dsimp only
    rw [if_neg (same4 a b c e), ext_ok, Option.bind_some, refext_ok, Option.bind_some, if_pos rfl, steps_is, Option.bind_some, if_pos rfl]
    cases d
    · rw [if_neg nf, if_neg nf]
    · rw [if_pos rfl, if_pos rfl]
  · rw [if_neg k2, Option.bind_some]
    by_cases k0 : (Args.L.getD i (0, 0, ByteArray.empty)).1 % 3 = 0
    · rw [if_pos k0]
      obtain ⟨f, p, q, r, t, d, o, r', f', t', e', k, b1, b2, b3⟩ := begin_rel ok n xe (Args.L.getD i (0, 0, ByteArray.empty)).2.1 h
      rw [b1, Option.bind_some]
      dsimp only
      rw [b2, Option.bind_some]
      dsimp only
      rw [if_pos rfl]
      obtain ⟨p, q, r, t, d, r', t', g1, g2⟩ := steps_ok ok s hi h60 0 (by omega) e' b3
      rw [show ((0 : Nat) : Int) = 0 from rfl] at g1
      obtain ⟨a, b, c, e, g3, g4⟩ := lexeme_rel n e' g2
      refine ⟨f, p, q, r, t, d, o, r', f', t', e', ?_, g2⟩
      rw [g1, Option.bind_some]
      dsimp only
      rw [g3, Option.bind_some]
      dsimp only
      rw [g4, Option.bind_some]
      dsimp only
      rw [if_neg (same4 a b c e), ext_ok, Option.bind_some, refext_ok, Option.bind_some, if_pos rfl, steps_is, Option.bind_some, if_pos rfl]
      cases d
      · rw [if_neg nf, if_neg nf]
      · rw [if_pos rfl, if_pos rfl]
    · rw [if_neg k0]
      obtain ⟨p, q, r, t, d, r', t', g1, g2⟩ := steps_ok ok s hi h60 1 (by omega) xe h
      rw [show ((1 : Nat) : Int) = 1 from rfl] at g1
      obtain ⟨a, b, c, e, g3, g4⟩ := lexeme_rel n xe g2
      refine ⟨sf, p, q, r, t, d, on, r', xf, t', xe, ?_, g2⟩
      rw [g1, Option.bind_some]
      dsimp only
      rw [g3, Option.bind_some]
      dsimp only
      rw [g4, Option.bind_some]
      dsimp only
      rw [if_neg (same4 a b c e), ext_ok, Option.bind_some, refext_ok, Option.bind_some, if_pos rfl, steps_is, Option.bind_some, if_pos rfl]
      cases d
      · rw [if_neg nf, if_neg nf]
      · rw [if_pos rfl, if_pos rfl]

theorem acts_loop (ok : Ok) {N : Nat} (s : Small N) (hL : Args.L.length ≤ 40) : ∀ (n i : Nat) (sf sp sq sr st : Int) (sd on : Bool) (xr xf xt xe : Int), i ≤ Args.L.length → Args.L.length - i < n → Rel sf sp sq sr st sd on xr xf xt →
    ∃ o, iterM (B_viewportlaw06MunchScript_1 N (([] : List Int) ++ Args.N) (([] : List Int) ++ Args.R)) n (sf, sp, sq, sr, st, sd, on, on, sd, sf, sp, sq, xr, xf, xt, xe, (i : Int)) = some o := by
  intro n
  induction n with
  | zero => intro i sf sp sq sr st sd on xr xf xt xe h1 h2; omega
  | succ n ih =>
    intro i sf sp sq sr st sd on xr xf xt xe h1 h2 h
    by_cases hi : i < Args.L.length
    · rcases act_ok ok s hL hi xe h with g | ⟨f, p, q, r, t, d, o, r', f', t', e', g1, g2⟩
      · exact ⟨_, iterM_out g⟩
      · rw [iterM_in g1]
        exact ih (i + 1) _ _ _ _ _ _ _ _ _ _ _ (by omega) (by omega) g2
    · refine ⟨.inr (), iterM_out ?_⟩
      unfold B_viewportlaw06MunchScript_1; dsimp only
      rw [if_neg (by omega)]

theorem script_true : ∃ n, m_viewportlaw06MunchScript n = some () := by
  refine ⟨3000000, ?_⟩
  unfold m_viewportlaw06MunchScript m_viewportlaw06lives
  rw [Option.bind_some, light_ok, Option.bind_some]
  by_cases g1 : Args.R.length ≤ 24 ∧ Args.N.length ≤ 6144
  case neg => rw [if_neg (by simpa using g1)]
  rw [if_pos (by simpa using g1)]
  have s : Small 3000000 := ⟨by omega, by omega, by omega⟩
  by_cases g2 : ((Args.L.length : Nat) : Int) > 40
  · rw [if_pos g2]
  rw [if_neg g2]
  by_cases ok : Ok
  · obtain ⟨h1, h2⟩ := news_ok ok s
    rw [h1]; dsimp only
    rw [h2]; dsimp only
    obtain ⟨o, ho⟩ := acts_loop ok s (by omega) 3000000 0 0 0 0 0 0 false false 0 0 0 0 (Nat.zero_le _) (by omega) ⟨fun _ => rfl, fun h => Bool.noConfusion h, fun h => Bool.noConfusion h, fun h => Bool.noConfusion h, fun h => Bool.noConfusion h, fun h => Bool.noConfusion h⟩
    rw [show m_viewportlaw06MunchScript_1 3000000 (([] : List Int) ++ Args.N) (([] : List Int) ++ Args.R) (0, 0, 0, 0, 0, false, false, false, false, 0, 0, 0, 0, 0, 0, 0, 0) = some o from ho]
    rcases o with _ | _ <;> rfl
  · obtain ⟨h1, h2⟩ := news_no ok s
    rw [h1]; dsimp only
    rw [h2]; dsimp only
    rw [if_pos rfl]
    have h3 : m_viewportlaw06MunchScript_3 3000000 () = some () := by
      refine iterM_out ?_
      unfold B_viewportlaw06MunchScript_3; dsimp only
      by_cases hl : (0 : Int) < ((Args.L.length : Nat) : Int)
      · rw [if_pos hl]
      · rw [if_neg hl]
    rw [h3, Option.bind_some]

end Go.Proofs.Ytaompjplflaloaa.munchs
