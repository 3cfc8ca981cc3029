/-
  The pure side. No condition.
-/
import Derived.Test.YtaompjplflaloaaMunchPure
import Derived.IntWalk
set_option linter.unusedSimpArgs false
set_option linter.unusedVariables false
set_option linter.unusedSectionVars false
set_option linter.unnecessarySimpa false
namespace Go.Proofs.Ytaompjplflaloaa.munchw
open Go Go.Proofs.Ytaompjplflaloaa Ax
variable [Args]


theorem byteAt_left {a b : ByteArray} {i : Nat} (h : i < a.size) : byteAt (a ++ b) i = byteAt a i := by
  unfold byteAt
  rw [ByteArray.data_append]
  have h1 : i < a.data.size := h
  have h2 : i < (a.data ++ b.data).size := by simp; omega
  simp only [Array.getD_eq_getD_getElem?]
  rw [Array.getElem?_append_left h1]
theorem byteAt_right {a b : ByteArray} {i : Nat} : byteAt (a ++ b) (a.size + i) = byteAt b i := by
  unfold byteAt
  rw [ByteArray.data_append]
  have h0 : a.size = a.data.size := rfl
  simp only [Array.getD_eq_getD_getElem?]
  rw [Array.getElem?_append_right (by omega), h0, Nat.add_sub_cancel_left]

theorem ex_lt {x : ByteArray} {fr : Nat} : ∀ (m p : Nat) (q r t : Int) {P : Nat} {Q R T : Int}, ex x fr m ⟨p, q, r, t, false⟩ = ⟨P, Q, R, T, true⟩ → p < P := by
  intro m
  induction m with
  | zero => intro p q r t P Q R T h; cases h
  | succ m ih =>
    intro p q r t P Q R T h
    unfold ex at h
    simp only [] at h
    split at h
    · injection h with e; omega
    · split at h
      · injection h with e; omega
      · split at h
        · have := ih _ _ _ _ h; omega
        · have := ih _ _ _ _ h; omega
/-- bytes elsewhere do not matter -/
theorem ex_shift {x y : ByteArray} {fr fr' : Nat} : ∀ (m m' p : Nat) (q r t t' : Int) {P : Nat} {Q R T : Int}, fr + p ≤ x.size → t' - (fr' : Int) = t - (fr : Int) → ex x fr m ⟨p, q, r, t, false⟩ = ⟨P, Q, R, T, true⟩ →
    (∀ i, p ≤ i → i < P → fr + i < x.size → fr' + i < y.size ∧ byteAt y (fr' + i) = byteAt x (fr + i)) → (∀ j, P = j + 1 → fr + j = x.size → fr' + j = y.size) → P - p ≤ m' →
    ex y fr' m' ⟨p, q, r, t', false⟩ = ⟨P, Q, R, T + ((fr' : Int) - (fr : Int)), true⟩ := by
  intro m
  induction m with
  | zero => intro m' p q r t t' P Q R T h0 h1 h2; cases h2
  | succ m ih =>
    intro m' p q r t t' P Q R T h0 h1 h2 hl he hm
    have hlt := ex_lt (m + 1) _ _ _ _ h2
    obtain ⟨m', rfl⟩ : ∃ k, m' = k + 1 := ⟨m' - 1, by omega⟩
    unfold ex at h2 ⊢
    simp only [] at h2 ⊢
    by_cases hend : fr + p = x.size
    · rw [if_pos hend] at h2
      injection h2 with e1 e2 e3 e4 e5
      subst e1 e2 e3 e4
      rw [if_pos (he p rfl hend)]
      congr 1
      omega
    · rw [if_neg hend] at h2
      have hin : fr + p < x.size := by omega
      obtain ⟨b1, b2⟩ := hl p (Nat.le_refl _) hlt hin
      rw [if_neg (by omega), b2]
      generalize Args.N.getD (256 * q.toNat + (byteAt x (fr + p)).toNat) 0 = v at h2 ⊢
      by_cases hv : v < 0
      · rw [if_pos hv] at h2 ⊢
        injection h2 with e1 e2 e3 e4 e5
        subst e1 e2 e3 e4
        congr 1
        omega
      · rw [if_neg hv] at h2 ⊢
        by_cases hr : 0 ≤ Args.R.getD v.toNat 0
        · rw [if_pos hr] at h2 ⊢
          exact ih m' (p + 1) _ _ _ _ (by omega) (by omega) h2 (fun i hi => hl i (by omega)) he (by omega)
        · rw [if_neg hr] at h2 ⊢
          exact ih m' (p + 1) _ _ _ _ (by omega) h1 h2 (fun i hi => hl i (by omega)) he (by omega)

/-! the lexeme at a place, as a function -/
def scanF (x : ByteArray) (a : Nat) : Sc := ex x a (x.size - a + 1) ⟨0, 0, -1, (a : Int), false⟩
def nR (x : ByteArray) (a : Nat) : Int := (scanF x a).r
def nT (x : ByteArray) (a : Nat) : Int := if (scanF x a).r < 0 then (a : Int) + 1 else (scanF x a).t
def nE (x : ByteArray) (a : Nat) : Int := ((a + (scanF x a).p : Nat) : Int)
theorem scanF_ok (ok : Ok) {x : ByteArray} {a : Nat} (ha : a < x.size) : ∃ P q R T, scanF x a = ⟨P, q, R, T, true⟩ ∧ 0 < P ∧ a + P ≤ x.size + 1 ∧ Last x a (x.size - a) R T ∧ T ≤ ((a + P : Nat) : Int) ∧ (a + P ≤ x.size → stN x a P < 0) :=
  ex_ok ok x a (x.size - a + 1) 0 (-1) (a : Int) (by simp [stN]) (by omega) (by omega) (.inl ⟨rfl, rfl, fun i hi hj => by omega⟩)
theorem nextF (ok : Ok) {n : Nat} (s : Small n) {x : ByteArray} (hx : x.size ≤ 1000) {a : Nat} (ha : a < x.size) : m_munchnext n x (a : Int) = some (nR x a, nT x a, nE x a) := by
  have e1 : w64 (w64 (((x.size : Nat) : Int) - (a : Int)) + 1) = ((x.size - a + 1 : Nat) : Int) := by
    have e0 : w64 (((x.size : Nat) : Int) - (a : Int)) = ((x.size - a : Nat) : Int) := by rw [w64_sm (by omega) (by omega)]; omega
    rw [e0, w64_sm (by omega) (by omega)]; omega
  unfold m_munchnext m_munchbegin
  rw [Option.bind_some, e1]
  have hex := exam_ok ok s hx (fr := a) (m := x.size - a + 1) (by omega) (p := 0) (q := 0) (r := -1) (t := (a : Int)) ⟨by simp only []; omega, by have := ok.pos; simp only []; omega, by simp only []; omega⟩
  rw [show m_munchscanexamine n (a : Int) 0 0 (-1) (a : Int) false x ((x.size - a + 1 : Nat) : Int) = _ from hex, Option.bind_some]
  obtain ⟨P, q, R, T, h1, h2, h3, h4, h5, h6⟩ := scanF_ok ok ha
  unfold nR nT nE
  rw [show ex x a (x.size - a + 1) ⟨0, 0, -1, (a : Int), false⟩ = scanF x a from rfl, h1]
  unfold tupE
  dsimp only
  unfold m_munchscanlexeme m_munchscanext
  have e2 : w64 ((a : Int) + 1) = (a : Int) + 1 := w64_sm (by omega) (by omega)
  have e3 : w64 ((a : Int) + (P : Int)) = ((a + P : Nat) : Int) := by rw [w64_sm (by omega) (by omega)]; omega
  rw [Option.bind_some, e2, e3]
  by_cases hR : R < 0
  · rw [if_pos hR, if_pos hR]; rfl
  · rw [if_neg hR, if_neg hR]; rfl
/-- where it ends -/
def nTo (x : ByteArray) (a : Nat) : Nat := (nT x a).toNat
theorem nT_ok (ok : Ok) {x : ByteArray} {a : Nat} (ha : a < x.size) : nT x a = ((nTo x a : Nat) : Int) ∧ a < nTo x a ∧ nTo x a ≤ x.size ∧ (0 : Int) ≤ nE x a ∧ nE x a ≤ ((x.size : Nat) : Int) + 1 ∧ (a : Int) < nE x a := by
  obtain ⟨P, q, R, T, h1, h2, h3, h4, h5, h6⟩ := scanF_ok ok ha
  have e : nT x a = if R < 0 then (a : Int) + 1 else T := by unfold nT; rw [h1]
  have e2 : nE x a = ((a + P : Nat) : Int) := by unfold nE; rw [h1]
  unfold nTo
  rw [e, e2]
  rcases h4 with ⟨b, c, d⟩ | ⟨b, k, c, d, e, f, g, h⟩
  · rw [if_pos (by omega)]; omega
  · rw [if_neg (by omega)]; omega
/-- the same bytes: the same lexeme, elsewhere -/
theorem next_shift (ok : Ok) {x y : ByteArray} {a b : Nat} (ha : a < x.size) (hb : b < y.size)
    (hl : ∀ i : Nat, (a : Int) + (i : Int) < nE x a → a + i < x.size → b + i < y.size ∧ byteAt y (b + i) = byteAt x (a + i)) (he : ∀ j : Nat, nE x a = ((a + j : Nat) : Int) + 1 → a + j = x.size → b + j = y.size) :
    nR y b = nR x a ∧ nT y b = nT x a + ((b : Int) - (a : Int)) ∧ nE y b = nE x a + ((b : Int) - (a : Int)) := by
  obtain ⟨P, q, R, T, h1, h2, h3, h4, h5, h6⟩ := scanF_ok ok ha
  have e2 : nE x a = ((a + P : Nat) : Int) := by unfold nE; rw [h1]
  rw [e2] at hl he
  have hP : P ≤ y.size - b + 1 := by
    obtain ⟨j, rfl⟩ : ∃ j, P = j + 1 := ⟨P - 1, by omega⟩
    by_cases hj : a + j = x.size
    · have := he j (by omega) hj; omega
    · have := (hl j (by omega) (by omega)).1; omega
  have hs : scanF y b = ⟨P, q, R, T + ((b : Int) - (a : Int)), true⟩ :=
    ex_shift (x.size - a + 1) (y.size - b + 1) 0 0 (-1) (a : Int) (b : Int) (by omega) (by omega) h1 (fun i _ hi hx => hl i (by omega) hx) (fun j hj hx => he j (by omega) hx) (by omega)
  unfold nR nT nE
  rw [hs, h1]
  dsimp only
  by_cases hR : R < 0
  · rw [if_pos hR, if_pos hR]; exact ⟨rfl, by omega, by omega⟩
  · rw [if_neg hR, if_neg hR]; exact ⟨rfl, rfl, by omega⟩

theorem Next_ok (ok : Ok) {n : Nat} (s : Small n) {x : ByteArray} (hx : x.size ≤ 1000) {a : Nat} (ha : a < x.size) : m_munchNext n x (a : Int) = some (nR x a, (a : Int), nT x a, nE x a, true) := by
  obtain ⟨c, hc, hc2⟩ := check_ok s
  unfold m_munchNext
  rw [hc, Option.bind_some, if_pos (hc2.2 ok), if_neg (by omega), if_neg (by omega), nextF ok s hx ha, Option.bind_some]


end Go.Proofs.Ytaompjplflaloaa.munchw
