/-
  The pure side. No condition.
-/
import Derived.Test.YtagobfiiaaiblaaDoorCeaTold
import Derived.IntWalk
set_option linter.unusedSimpArgs false
set_option linter.unusedVariables false
set_option linter.unusedSectionVars false
set_option linter.unnecessarySimpa false
noncomputable section
namespace Go.Proofs.YtagobfiiaaiblaaDoor.cea01
open Go Go.Proofs.YtagobfiiaaiblaaDoor Ax
variable [Args]


theorem w64_id {x : Int} (h1 : -9223372036854775808 ≤ x) (h2 : x < 9223372036854775808) : w64 x = x := IntWalk.i64_in _ (by omega)
theorem w64_sm {x : Int} (h1 : -1000000000000 ≤ x) (h2 : x ≤ 1000000000000) : w64 x = x := w64_id (by omega) (by omega)
theorem w64_inc {i : Nat} (h : i ≤ 1000000000) : w64 ((i : Int) + 1) = ((i + 1 : Nat) : Int) := by rw [w64_sm (by omega) (by omega)]; rfl
/-! loops -/
theorem whileI {st ρ : Type} {B : st → Option (st ⊕ ρ)} (I : st → Prop) (μ : st → Nat) (Q : ρ → Prop) (h : ∀ s, I s → (∃ s', I s' ∧ μ s' < μ s ∧ B s = some (.inl s')) ∨ ∃ r, Q r ∧ B s = some (.inr r)) : ∀ (n : Nat) (s : st), I s → μ s < n → ∃ r, Q r ∧ iterM B n s = some r
 | 0, s, _, hm => absurd hm (Nat.not_lt_zero _)
 | n + 1, s, hi, hm => by
  rcases h s hi with ⟨s', h1, h2, h3⟩ | ⟨r, h1, h2⟩
  ·obtain ⟨r, q1, q2⟩ := whileI I μ Q h n s' h1 (by omega)
   exact ⟨r, q1, by rw [iterM_succ, h3]; exact q2⟩
  ·exact ⟨r, h1, by rw [iterM_succ, h2]; rfl⟩
theorem hoare {σ st ρ : Type} {B : st → Option (st ⊕ ρ)} (S : σ → Int → st) (I : Nat → σ → Prop) (Q : ρ → Prop) (len : Nat)
  (h1 : ∀ (i : Nat) (s : σ), i < len → I i s → (∃ s', I (i + 1) s' ∧ B (S s (i : Int)) = some (.inl (S s' ((i + 1 : Nat) : Int)))) ∨ ∃ r, Q r ∧ B (S s (i : Int)) = some (.inr r))
  (h2 : ∀ s, I len s → ∃ r, Q r ∧ B (S s (len : Int)) = some (.inr r)) : ∀ (n i : Nat) (s : σ), i ≤ len → I i s → len - i < n → ∃ r, Q r ∧ iterM B n (S s (i : Int)) = some r
 | 0, i, s, _, _, hm => absurd hm (Nat.not_lt_zero _)
 | n + 1, i, s, hl, hi, hm => by
  have main : (∃ s', i < len ∧ I (i + 1) s' ∧ B (S s (i : Int)) = some (.inl (S s' ((i + 1 : Nat) : Int)))) ∨ ∃ r, Q r ∧ B (S s (i : Int)) = some (.inr r) := by
   by_cases hlt : i < len
   ·rcases h1 i s hlt hi with ⟨s', a, b⟩ | h
    ·exact .inl ⟨s', hlt, a, b⟩
    ·exact .inr h
   ·obtain rfl : i = len := by omega
    exact .inr (h2 s hi)
  rcases main with ⟨s', g0, g1, g3⟩ | ⟨r, g1, g2⟩
  ·obtain ⟨r, q1, q2⟩ := hoare S I Q len h1 h2 n (i + 1) s' (by omega) g1 (by omega)
   exact ⟨r, q1, by rw [iterM_succ, g3]; exact q2⟩
  ·exact ⟨r, g1, by rw [iterM_succ, g2]; rfl⟩
/-- a search: the first place that is not so ends it -/
theorem scan {β γ : Type} {B : Int → Option (Int ⊕ (β ⊕ γ))} (len : Nat) (p : Nat → Bool) (a : β) (c : γ)
  (h1 : ∀ i : Nat, i < len → B (i : Int) = some (if p i = true then .inl ((i + 1 : Nat) : Int) else .inr (.inl a))) (h2 : B (len : Int) = some (.inr (.inr c))) (n : Nat) (hn : len < n) :
  iterM B n 0 = some (if (List.range len).all p = true then .inr c else .inl a) := by
 obtain ⟨r, q1, q2⟩ := hoare (B := B) (σ := Unit) (fun _ i => i) (fun i _ => ∀ j, j < i → p j = true) (fun r => r = if (List.range len).all p = true then .inr c else .inl a) len
  (fun i s hi hI => by
   by_cases hp : p i = true
   ·refine .inl ⟨(), fun j hj => ?_, by rw [h1 i hi, if_pos hp]⟩
    rcases Nat.lt_or_ge j i with h | h
    ·exact hI j h
    ·obtain rfl : j = i := by omega
     exact hp
   ·refine .inr ⟨.inl a, ?_, by rw [h1 i hi, if_neg hp]⟩
    rw [if_neg]
    intro hall
    exact hp (List.all_eq_true.1 hall i (List.mem_range.2 hi)))
  (fun s hI => ⟨.inr c, by rw [if_pos (List.all_eq_true.2 fun j hj => hI j (List.mem_range.1 hj))], h2⟩) n 0 () (Nat.zero_le _) (fun j hj => absurd hj (Nat.not_lt_zero _)) (by omega)
 rw [show (0 : Int) = ((0 : Nat) : Int) from rfl, q2, q1]
theorem all_range {α : Type} {l : List α} {d : α} {p : α → Bool} : (List.range l.length).all (fun i => p (l.getD i d)) = l.all p := by
 rw [Bool.eq_iff_iff, List.all_eq_true, List.all_eq_true]
 constructor
 ·intro h x hx
  obtain ⟨i, hi, rfl⟩ := List.mem_iff_getElem.1 hx
  have := h i (List.mem_range.2 hi)
  simpa [List.getD_eq_getElem?_getD, hi] using this
 ·intro h i hi
  have hi := List.mem_range.1 hi
  have := h l[i] (List.getElem_mem hi)
  simpa [List.getD_eq_getElem?_getD, hi] using this
theorem getD_mem {α : Type} {l : List α} {i : Nat} {d : α} (h : i < l.length) : l.getD i d ∈ l := by
 rw [List.getD_eq_getElem?_getD, List.getElem?_eq_getElem h]; exact List.getElem_mem h
theorem mem_getD {α : Type} {l : List α} {x : α} (d : α) (h : x ∈ l) : ∃ i, i < l.length ∧ l.getD i d = x := by
 obtain ⟨i, hi, rfl⟩ := List.mem_iff_getElem.1 h
 exact ⟨i, hi, by simp [List.getD_eq_getElem?_getD, hi]⟩
theorem getD_set {α : Type} {l : List α} {i j : Nat} {x d : α} (h : i < l.length) : (l.set i x).getD j d = if j = i then x else l.getD j d := by
 simp only [List.getD_eq_getElem?_getD, List.getElem?_set]
 by_cases hj : i = j
 ·subst hj; simp [h]
 ·rw [if_neg hj, if_neg (Ne.symm hj)]
theorem count_set_lt {L : List Bool} {i : Nat} (h : i < L.length) (hf : ¬ L.getD i false = true) : (L.set i true).count false < L.count false := by
 have h0 : L[i] = false := by simpa [List.getD_eq_getElem?_getD, h] using hf
 have hc := List.count_set (l := L) (a := true) (b := false) (i := i) h
 have hp : 0 < L.count false := List.count_pos_iff.2 (h0 ▸ List.getElem_mem h)
 rw [h0] at hc
 simp at hc
 omega


/-! bits -/
def one (f : Nat) : BitVec 64 := BitVec.twoPow 64 f
theorem one_get {f i : Nat} (hf : f < 64) : (one f).getLsbD i = decide (i = f) := by
 unfold one
 rw [BitVec.getLsbD_twoPow]
 by_cases h : f = i
 ·subst h; simp [hf]
 ·simp [h, Ne.symm h]
theorem u64w (m : BitVec 64) : IntKind.u64.wrap ((m.toNat : Nat) : Int) = ((m.toNat : Nat) : Int) := IntWalk.u64_in _ (by have := m.isLt; omega)
theorem ofI (m : BitVec 64) : BitVec.ofInt 64 ((m.toNat : Nat) : Int) = m := by
 rw [BitVec.ofInt_natCast, BitVec.ofNat_toNat, BitVec.setWidth_eq]
theorem ban (x y : BitVec 64) : bAnd .u64 ((x.toNat : Nat) : Int) ((y.toNat : Nat) : Int) = (((x &&& y).toNat : Nat) : Int) := by
 unfold bAnd
 rw [show IntKind.u64.bits = 64 from rfl, ofI, ofI, u64w]
theorem bor (x y : BitVec 64) : bOr .u64 ((x.toNat : Nat) : Int) ((y.toNat : Nat) : Int) = (((x ||| y).toNat : Nat) : Int) := by
 unfold bOr
 rw [show IntKind.u64.bits = 64 from rfl, ofI, ofI, u64w]
theorem bann (x y : BitVec 64) : bAndNot .u64 ((x.toNat : Nat) : Int) ((y.toNat : Nat) : Int) = (((x &&& ~~~y).toNat : Nat) : Int) := by
 unfold bAndNot
 rw [show IntKind.u64.bits = 64 from rfl, ofI, ofI, u64w]
theorem shl1 {f : Nat} (hf : f < 64) : shlV .u64 (1 : Int) (f : Int) = (((one f).toNat : Nat) : Int) := by
 unfold shlV one
 rw [show IntKind.u64.bits = 64 from rfl, Int.toNat_natCast, show min f 64 = f by omega, BitVec.toNat_twoPow]
 have h1 : 2 ^ f < 2 ^ 64 := Nat.pow_lt_pow_right (by omega) hf
 rw [Nat.mod_eq_of_lt h1, show (1 : Int) * 2 ^ f = ((2 ^ f : Nat) : Int) by simp]
 generalize 2 ^ f = q at h1 ⊢
 exact IntWalk.u64_in _ (by omega)
theorem shr1 {f : Nat} (hf : f < 64) (m : BitVec 64) : shrV .u64 ((m.toNat : Nat) : Int) (f : Int) = (((m >>> f).toNat : Nat) : Int) := by
 unfold shrV
 rw [show IntKind.u64.bits = 64 from rfl, Int.toNat_natCast, show min f 64 = f by omega, BitVec.toNat_ushiftRight, Nat.shiftRight_eq_div_pow]
 rw [show ((2 : Int) ^ f) = ((2 ^ f : Nat) : Int) by simp, Int.fdiv_eq_ediv_of_nonneg _ (Int.natCast_nonneg _)]
 exact (Int.natCast_ediv _ _).symm
theorem bit1 {f : Nat} (hf : f < 64) (m : BitVec 64) : (bAnd .u64 (shrV .u64 ((m.toNat : Nat) : Int) (f : Int)) (1 : Int) = (1 : Int)) ↔ m.getLsbD f = true := by
 rw [shr1 hf, show (1 : Int) = (((1#64).toNat : Nat) : Int) from rfl, ban]
 rw [Int.ofNat_inj, BitVec.toNat_inj]
 constructor
 ·intro h
  have := congrArg (fun b => b.getLsbD 0) h
  simpa using this
 ·intro h
  apply BitVec.eq_of_getLsbD_eq
  intro i hi
  by_cases e : i = 0
  ·subst e; simpa using h
  ·simp [BitVec.getLsbD_one, e]

theorem toBV {x : Int} (h : (Lit.int .u64 x).wf = true) : ∃ X : BitVec 64, x = ((X.toNat : Nat) : Int) := by
 simp only [Lit.wf, Bool.and_eq_true, decide_eq_true_eq] at h
 have h1 : (0 : Int) ≤ x := h.1
 have h2 : x ≤ (18446744073709551615 : Int) := h.2
 refine ⟨BitVec.ofNat 64 x.toNat, ?_⟩
 rw [BitVec.toNat_ofNat, Nat.mod_eq_of_lt (by omega)]
 omega
theorem bnot (x : BitVec 64) : bNot .u64 ((x.toNat : Nat) : Int) = (((~~~x).toNat : Nat) : Int) := by
 unfold bNot bXor
 rw [show IntKind.u64.bits = 64 from rfl, ofI, show (if IntKind.u64.signed = true then (-1 : Int) else IntKind.u64.max) = (((BitVec.allOnes 64).toNat : Nat) : Int) from rfl, ofI, u64w, BitVec.allOnes_xor]
theorem inj64 {x y : BitVec 64} : (((x.toNat : Nat) : Int) = ((y.toNat : Nat) : Int)) ↔ x = y := by
 rw [Int.ofNat_inj, BitVec.toNat_inj]
/-! the least bit -/
def least (X : BitVec 64) (t : Nat) : Prop := t < 64 ∧ X.getLsbD t = true ∧ ∀ j, j < t → X.getLsbD j = false
theorem exists_least {X : BitVec 64} (h : X ≠ 0#64) : ∃ t, least X t := by
 have h1 : ∃ t, t < 64 ∧ X.getLsbD t = true := Classical.byContradiction fun hn => h (by
  apply BitVec.eq_of_getLsbD_eq
  intro i hi
  cases hb : X.getLsbD i with
  | false => simp
  | true => exact absurd ⟨i, hi, hb⟩ hn)
 have main : ∀ n, (∃ t, t < n ∧ t < 64 ∧ X.getLsbD t = true) → ∃ t, least X t := by
  intro n
  induction n with
  | zero => rintro ⟨t, h, _⟩; omega
  | succ n ih =>
   rintro ⟨t, ht, h2, h3⟩
   by_cases hs : ∃ s, s < n ∧ s < 64 ∧ X.getLsbD s = true
   ·exact ih hs
   ·refine ⟨t, h2, h3, fun j hj => ?_⟩
    cases hb : X.getLsbD j with
    | false => rfl
    | true => exact absurd ⟨j, by omega, by omega, hb⟩ hs
 obtain ⟨t, h2, h3⟩ := h1
 exact main 64 ⟨t, h2, h2, h3⟩
theorem neg_bit {X : BitVec 64} {t : Nat} (h : least X t) : X &&& -X = one t := by
 apply BitVec.eq_of_getLsbD_eq
 intro i hi
 rw [BitVec.getLsbD_and, BitVec.getLsbD_neg, one_get h.1]
 by_cases e : i = t
 ·subst e
  rw [h.2.1]
  simp [hi]
  exact fun j hj => h.2.2 j hj
 ·rcases Nat.lt_or_ge i t with c | c
  ·simp [h.2.2 i c, e]
  ·have : ∃ j, j < i ∧ X.getLsbD j = true := ⟨t, by omega, h.2.1⟩
   simp [e, this, hi]
theorem sub_bit {X : BitVec 64} {t : Nat} (h : least X t) : X &&& (X - 1#64) = X &&& ~~~one t := by
 have e : X - 1#64 = ~~~(-X) := by rw [BitVec.not_neg]
 rw [e]
 apply BitVec.eq_of_getLsbD_eq
 intro i hi
 have h2 := congrArg (fun b : BitVec 64 => b.getLsbD i) (neg_bit h)
 simp only [BitVec.getLsbD_and] at h2
 rw [BitVec.getLsbD_and, BitVec.getLsbD_not, BitVec.getLsbD_and, BitVec.getLsbD_not, ← h2]
 cases X.getLsbD i <;> simp [hi]
theorem wrapU (x : Int) : IntKind.u64.wrap x = x % 18446744073709551616 := by simp [IntKind.wrap, IntKind.bits, IntKind.signed]
theorem neg_int (X : BitVec 64) : IntKind.u64.wrap ((0 : Int) - ((X.toNat : Nat) : Int)) = (((-X).toNat : Nat) : Int) := by
 rw [BitVec.toNat_neg, wrapU]
 have := X.isLt
 omega
theorem dec_int {X : BitVec 64} (h : X ≠ 0#64) : IntKind.u64.wrap (((X.toNat : Nat) : Int) - 1) = (((X - 1#64).toNat : Nat) : Int) := by
 have h0 : X.toNat ≠ 0 := fun e => h (BitVec.eq_of_toNat_eq (by rw [e]; rfl))
 have := X.isLt
 rw [BitVec.toNat_sub, wrapU, show (1#64).toNat = 1 from rfl]
 omega
def tzI (t : Nat) : Nat := 2 ^ t * 285870213051353865 % 18446744073709551616 / 288230376151711744
def tzP (t : Nat) : Bool := Nat.blt (tzI t) 64 && (match tb_deBruijn64tab.getD (tzI t) 0 with | .ofNat k => Nat.beq k t | _ => false)
theorem tz_tab0 : (List.range 64).all tzP = true := by decide +kernel
theorem tz_tab {t : Nat} (h : t < 64) : tzI t < 64 ∧ tb_deBruijn64tab.getD (tzI t) 0 = (t : Int) := by
 have h1 := List.all_eq_true.1 tz_tab0 t (List.mem_range.2 h)
 unfold tzP at h1
 rw [Bool.and_eq_true] at h1
 refine ⟨by simpa [Nat.blt_eq] using h1.1, ?_⟩
 have h2 := h1.2
 split at h2
 ·rename_i k hk; rw [hk, Nat.eq_of_beq_eq_true h2]; rfl
 ·cases h2
theorem one_nat {t : Nat} (h : t < 64) : (one t).toNat = 2 ^ t := by
 unfold one
 rw [BitVec.toNat_twoPow, Nat.mod_eq_of_lt (Nat.pow_lt_pow_right (by omega) h)]
theorem tz_int (p : Nat) : Int.fdiv (IntKind.u64.wrap ((p : Int) * 285870213051353865)) 288230376151711744 = ((p * 285870213051353865 % 18446744073709551616 / 288230376151711744 : Nat) : Int) := by
 rw [wrapU, Int.fdiv_eq_ediv_of_nonneg _ (by omega)]
 omega
theorem q1 {t : Nat} {X : BitVec 64} (h : least X t) : X ≠ 0#64 := fun e => by have := h.2.1; rw [e] at this; simp at this
theorem q2 {X : BitVec 64} (h0 : X ≠ 0#64) : ¬ (((X.toNat : Nat) : Int) = 0) := fun e => h0 (BitVec.eq_of_toNat_eq (by rw [BitVec.toNat_zero]; omega))
theorem q3 {t : Nat} (h : t < 64) : Int.fdiv (IntKind.u64.wrap (((2 ^ t : Nat) : Int) * 285870213051353865)) 288230376151711744 = ((tzI t : Nat) : Int) := tz_int (2 ^ t)
theorem q4 {n t : Nat} {X : BitVec 64} (h : least X t) (hz : ¬ (((X.toNat : Nat) : Int) = 0)) : m_bitsTrailingZeros64q1 n ((X.toNat : Nat) : Int) = ((some (IntKind.u64.wrap (((2 ^ t : Nat) : Int) * (285870213051353865 : Int)))).bind fun c2_ =>
  if 0 ≤ (Int.fdiv c2_ 288230376151711744) ∧ (Int.fdiv c2_ 288230376151711744) < ((64 : Nat) : Int) then
   some (IntKind.i64.wrap ((tb_deBruijn64tab).getD ((Int.fdiv c2_ 288230376151711744)).toNat 0))
  else none) := by
 unfold m_bitsTrailingZeros64q1
 rw [if_neg hz, neg_int, ban, neg_bit h, one_nat h.1]
theorem q6 {c q K : Int} {t : Nat} {tb : List Int} (e2 : Int.fdiv c K = q) (h0 : 0 ≤ q) (h1 : q < 64) (ht : t < 64) (h2 : tb.getD q.toNat 0 = (t : Int)) : (if 0 ≤ (Int.fdiv c K) ∧ (Int.fdiv c K) < ((64 : Nat) : Int) then some (IntKind.i64.wrap (tb.getD ((Int.fdiv c K)).toNat 0)) else none) = some (t : Int) := by
 rw [e2, if_pos (by omega), h2]
 exact congrArg some (w64_sm (by omega) (by omega))
theorem q7 {c : Int} {q t : Nat} (e2 : Int.fdiv c 288230376151711744 = (q : Int)) (h1 : q < 64) (ht : t < 64) (h2 : tb_deBruijn64tab.getD q 0 = (t : Int)) : ((some c).bind fun c2_ =>
  if 0 ≤ (Int.fdiv c2_ 288230376151711744) ∧ (Int.fdiv c2_ 288230376151711744) < ((64 : Nat) : Int) then
   some (IntKind.i64.wrap ((tb_deBruijn64tab).getD ((Int.fdiv c2_ 288230376151711744)).toNat 0))
  else none) = some (t : Int) := q6 e2 (by omega) (by omega) ht (by rw [Int.toNat_natCast]; exact h2)
theorem q5 {p q t : Nat} (e2 : Int.fdiv (IntKind.u64.wrap ((p : Int) * 285870213051353865)) 288230376151711744 = (q : Int)) (h1 : q < 64) (ht : t < 64) (h2 : tb_deBruijn64tab.getD q 0 = (t : Int)) : ((some (IntKind.u64.wrap ((p : Int) * (285870213051353865 : Int)))).bind fun c2_ =>
  if 0 ≤ (Int.fdiv c2_ 288230376151711744) ∧ (Int.fdiv c2_ 288230376151711744) < ((64 : Nat) : Int) then
   some (IntKind.i64.wrap ((tb_deBruijn64tab).getD ((Int.fdiv c2_ 288230376151711744)).toNat 0))
  else none) = some (t : Int) := q7 e2 h1 ht h2
theorem tz_ok {n t : Nat} {X : BitVec 64} (h : least X t) : m_bitsTrailingZeros64q1 n ((X.toNat : Nat) : Int) = some (t : Int) := by
 obtain ⟨h1, h2⟩ := tz_tab h.1
 rw [q4 h (q2 (q1 h))]
 exact q5 (q3 h.1) h1 h.1 h2


/-! how many bits, by adding side by side -/
def val : List Nat → Nat
 | [] => 0
 | d :: l => d + 256 * val l
theorem land_split {a m b k : Nat} (ha : a < 256) (hm : m < 256) : (a + 256 * b) &&& (m + 256 * k) = (a &&& m) + 256 * (b &&& k) := by
 have h1 : a &&& m < 256 := Nat.lt_of_le_of_lt Nat.and_le_left ha
 apply Nat.eq_of_testBit_eq
 intro i
 rw [Nat.testBit_and, show a + 256 * b = 2 ^ 8 * b + a by omega, show m + 256 * k = 2 ^ 8 * k + m by omega, show (a &&& m) + 256 * (b &&& k) = 2 ^ 8 * (b &&& k) + (a &&& m) by omega,
  Nat.testBit_two_pow_mul_add _ ha, Nat.testBit_two_pow_mul_add _ hm, Nat.testBit_two_pow_mul_add _ h1]
 split
 ·rw [Nat.testBit_and]
 ·rw [Nat.testBit_and]
def bytesOK (l : List Nat) : Prop := ∀ d ∈ l, d < 256
def rep (l : List Nat) (m : Nat) : List Nat := l.map fun _ => m
def f1 (d : Nat) : Nat := ((d / 2) &&& 0x55) + (d &&& 0x55)
def f2 (d : Nat) : Nat := ((d / 4) &&& 0x33) + (d &&& 0x33)
def f3 (d : Nat) : Nat := (d / 16 + d) &&& 0x0f
theorem step1 : ∀ l : List Nat, bytesOK l → (val l / 2 &&& val (rep l 0x55)) = val (l.map fun d => (d / 2) &&& 0x55) ∧ (val l &&& val (rep l 0x55)) = val (l.map fun d => d &&& 0x55)
 | [], _ => ⟨rfl, rfl⟩
 | d :: l, h => by
  obtain ⟨i1, i2⟩ := step1 l fun x hx => h x (List.mem_cons_of_mem _ hx)
  have hd := h d (List.mem_cons_self ..)
  constructor
  ·show (d + 256 * val l) / 2 &&& (0x55 + 256 * val (rep l 0x55)) = ((d / 2) &&& 0x55) + 256 * val (l.map fun d => (d / 2) &&& 0x55)
   rw [show (d + 256 * val l) / 2 = (d / 2 + 128 * (val l % 2)) + 256 * (val l / 2) by omega, land_split (by omega) (by omega), i1]
   congr 1
   have : ∀ d : Fin 256, ∀ b : Fin 2, (d.val / 2 + 128 * b.val) &&& 0x55 = (d.val / 2) &&& 0x55 := by decide +kernel
   exact this ⟨d, hd⟩ ⟨val l % 2, by omega⟩
  ·show (d + 256 * val l) &&& (0x55 + 256 * val (rep l 0x55)) = (d &&& 0x55) + 256 * val (l.map fun d => d &&& 0x55)
   rw [land_split hd (by omega), i2]
theorem step2 : ∀ l : List Nat, bytesOK l → (val l / 4 &&& val (rep l 0x33)) = val (l.map fun d => (d / 4) &&& 0x33) ∧ (val l &&& val (rep l 0x33)) = val (l.map fun d => d &&& 0x33)
 | [], _ => ⟨rfl, rfl⟩
 | d :: l, h => by
  obtain ⟨i1, i2⟩ := step2 l fun x hx => h x (List.mem_cons_of_mem _ hx)
  have hd := h d (List.mem_cons_self ..)
  constructor
  ·show (d + 256 * val l) / 4 &&& (0x33 + 256 * val (rep l 0x33)) = ((d / 4) &&& 0x33) + 256 * val (l.map fun d => (d / 4) &&& 0x33)
   rw [show (d + 256 * val l) / 4 = (d / 4 + 64 * (val l % 4)) + 256 * (val l / 4) by omega, land_split (by omega) (by omega), i1]
   congr 1
   have : ∀ d : Fin 256, ∀ b : Fin 4, (d.val / 4 + 64 * b.val) &&& 0x33 = (d.val / 4) &&& 0x33 := by decide +kernel
   exact this ⟨d, hd⟩ ⟨val l % 4, by omega⟩
  ·show (d + 256 * val l) &&& (0x33 + 256 * val (rep l 0x33)) = (d &&& 0x33) + 256 * val (l.map fun d => d &&& 0x33)
   rw [land_split hd (by omega), i2]
theorem val_add {f g : Nat → Nat} : ∀ l : List Nat, val (l.map f) + val (l.map g) = val (l.map fun d => f d + g d)
 | [] => rfl
 | d :: l => by
  have := val_add (f := f) (g := g) l
  show f d + 256 * val (l.map f) + (g d + 256 * val (l.map g)) = f d + g d + 256 * val (l.map fun d => f d + g d)
  omega
/-- nibbles are at most 4 -/
def nibOK (d : Nat) : Prop := d / 16 ≤ 4 ∧ d % 16 ≤ 4
theorem nib (d : Nat) (h : d < 256) : f1 d < 256 ∧ nibOK (f2 (f1 d)) := by
 have : ∀ d : Fin 256, f1 d.val < 256 ∧ f2 (f1 d.val) / 16 ≤ 4 ∧ f2 (f1 d.val) % 16 ≤ 4 := by decide +kernel
 exact this ⟨d, h⟩
theorem val_mod : ∀ l : List Nat, (∀ d ∈ l, nibOK d) → val l % 16 ≤ 4
 | [], _ => by show 0 % 16 ≤ 4; decide
 | d :: l, h => by
  have := (h d (List.mem_cons_self ..)).2
  show (d + 256 * val l) % 16 ≤ 4
  omega
theorem step3 : ∀ l : List Nat, (∀ d ∈ l, nibOK d) → ((val l / 16 + val l) &&& val (rep l 0x0f)) = val (l.map f3)
 | [], _ => rfl
 | d :: l, h => by
  have ih := step3 l fun x hx => h x (List.mem_cons_of_mem _ hx)
  have hm := val_mod l fun x hx => h x (List.mem_cons_of_mem _ hx)
  obtain ⟨h1, h2⟩ := h d (List.mem_cons_self ..)
  show ((d + 256 * val l) / 16 + (d + 256 * val l)) &&& (0x0f + 256 * val (rep l 0x0f)) = f3 d + 256 * val (l.map f3)
  rw [show (d + 256 * val l) / 16 + (d + 256 * val l) = (d / 16 + 16 * (val l % 16) + d) + 256 * (val l / 16 + val l) by omega, land_split (by omega) (by omega), ih]
  congr 1
  have : ∀ d : Fin 80, ∀ b : Fin 5, (d.val / 16 + 16 * b.val + d.val) &&& 0x0f = f3 d.val := by decide +kernel
  exact this ⟨d, by omega⟩ ⟨val l % 16, by omega⟩
def pop8 (d : Nat) : Nat := f3 (f2 (f1 d))
theorem pop8_le (d : Nat) (h : d < 256) : pop8 d ≤ 8 := by
 have : ∀ d : Fin 256, pop8 d.val ≤ 8 := by decide +kernel
 exact this ⟨d, h⟩
theorem pop8_bits (d : Nat) (h : d < 256) : pop8 d = ((List.range 8).map fun i => (d.testBit i).toNat).sum := by
 have : ∀ d : Fin 256, pop8 d.val = ((List.range 8).map fun i => (d.val.testBit i).toNat).sum := by decide +kernel
 exact this ⟨d, h⟩
/-- the last sums -/
theorem dv {w r : Nat} (h : w < 256) : (w + 256 * r) / 256 = r := by omega
theorem ad {w r v q : Nat} : (w + 256 * r) + (v + 256 * q) = (w + v) + 256 * (r + q) := by omega
theorem d2 (z : Nat) : z / 65536 = z / 256 / 256 := by omega
theorem d4 (z : Nat) : z / 4294967296 = z / 256 / 256 / 256 / 256 := by omega
theorem lt8 {a b c d e f g h : Nat} (ha : a ≤ 64) (hb : b ≤ 64) (hc : c ≤ 64) (hd : d ≤ 64) (he : e ≤ 64) (hf : f ≤ 64) (hg : g ≤ 64) (hh : h ≤ 64) : val [a, b, c, d, e, f, g, h] < 18446744073709551616 := by
 show a + 256 * (b + 256 * (c + 256 * (d + 256 * (e + 256 * (f + 256 * (g + 256 * (h + 256 * 0))))))) < _
 have h1 : g + 256 * (h + 256 * 0) ≤ 16448 := by omega
 have h2 : f + 256 * (g + 256 * (h + 256 * 0)) ≤ 4210752 := by omega
 have h3 : e + 256 * (f + 256 * (g + 256 * (h + 256 * 0))) ≤ 1077952576 := by omega
 generalize e + 256 * (f + 256 * (g + 256 * (h + 256 * 0))) = r at h3
 have h4 : d + 256 * r ≤ 275955859520 := by omega
 generalize d + 256 * r = q at h4
 have h5 : c + 256 * q ≤ 70644700037184 := by omega
 generalize c + 256 * q = p at h5
 have h6 : b + 256 * p ≤ 18085043209519168 := by omega
 generalize b + 256 * p = o at h6
 omega
theorem last {a b c d e f g h : Nat} (ha : a ≤ 8) (hb : b ≤ 8) (hc : c ≤ 8) (hd : d ≤ 8) (he : e ≤ 8) (hf : f ≤ 8) (hg : g ≤ 8) (hh : h ≤ 8) {z1 z2 z3 : Nat}
  (h1 : z1 = val [a, b, c, d, e, f, g, h] + val [a, b, c, d, e, f, g, h] / 256) (h2 : z2 = z1 + z1 / 65536) (h3 : z3 = z2 + z2 / 4294967296) : z1 < 18446744073709551616 ∧ z2 < 18446744073709551616 ∧ z3 < 18446744073709551616 ∧ z3 % 128 = a + b + c + d + e + f + g + h := by
 have q1 : val [a, b, c, d, e, f, g, h] / 256 = val [b, c, d, e, f, g, h, 0] := dv (by omega)
 have e1 : z1 = val [a + b, b + c, c + d, d + e, e + f, f + g, g + h, h] := by
  rw [h1, q1]
  simp only [val, ad]
 have q2 : z1 / 65536 = val [c + d, d + e, e + f, f + g, g + h, h, 0, 0] := by
  rw [d2, e1]
  simp only [val]
  rw [dv (by omega), dv (by omega)]
 have e2 : z2 = val [a + b + (c + d), b + c + (d + e), c + d + (e + f), d + e + (f + g), e + f + (g + h), f + g + h, g + h, h] := by
  rw [h2, q2, e1]
  simp only [val, ad]
  rfl
 have q3 : z2 / 4294967296 = val [e + f + (g + h), f + g + h, g + h, h, 0, 0, 0, 0] := by
  rw [d4, e2]
  simp only [val]
  rw [dv (by omega), dv (by omega), dv (by omega), dv (by omega)]
 have e3 : z3 = val [a + b + (c + d) + (e + f + (g + h)), b + c + (d + e) + (f + g + h), c + d + (e + f) + (g + h), d + e + (f + g) + h, e + f + (g + h), f + g + h, g + h, h] := by
  rw [h3, q3, e2]
  simp only [val, ad]
  rfl
 refine ⟨by rw [e1]; exact lt8 (by omega) (by omega) (by omega) (by omega) (by omega) (by omega) (by omega) (by omega), by rw [e2]; exact lt8 (by omega) (by omega) (by omega) (by omega) (by omega) (by omega) (by omega) (by omega), by rw [e3]; exact lt8 (by omega) (by omega) (by omega) (by omega) (by omega) (by omega) (by omega) (by omega), ?_⟩
 rw [e3]
 show (a + b + (c + d) + (e + f + (g + h)) + 256 * _) % 128 = _
 omega
/-! OnesCount64 -/
theorem band_nat {p q : Nat} (hp : p < 18446744073709551616) (hq : q < 18446744073709551616) : bAnd .u64 ((p : Nat) : Int) ((q : Nat) : Int) = ((p &&& q : Nat) : Int) := by
 have h := ban (BitVec.ofNat 64 p) (BitVec.ofNat 64 q)
 rw [BitVec.toNat_and, BitVec.toNat_ofNat, BitVec.toNat_ofNat, Nat.mod_eq_of_lt hp, Nat.mod_eq_of_lt hq] at h
 exact h
theorem wrap_nat {p : Nat} (hp : p < 18446744073709551616) : IntKind.u64.wrap ((p : Nat) : Int) = ((p : Nat) : Int) := by rw [wrapU]; omega
theorem fdiv_nat (p q : Nat) : Int.fdiv ((p : Nat) : Int) ((q : Nat) : Int) = ((p / q : Nat) : Int) := by
 rw [Int.fdiv_eq_ediv_of_nonneg _ (Int.natCast_nonneg _)]; rfl
theorem low7 {p : Nat} : bAnd .i64 (IntKind.i64.wrap ((p : Nat) : Int)) 127 = ((p % 128 : Nat) : Int) := by
 unfold bAnd
 rw [show IntKind.i64.bits = 64 from rfl, BitVec.toNat_and, BitVec.toNat_ofInt, show (BitVec.ofInt 64 127).toNat = 2 ^ 7 - 1 from rfl, Nat.and_two_pow_sub_one_eq_mod]
 have e : (IntKind.i64.wrap ((p : Nat) : Int) % ((2 ^ 64 : Nat) : Int)).toNat % 2 ^ 7 = p % 128 := by rw [IntKind.wrap_i64]; omega
 rw [e]
 exact w64_sm (by omega) (by omega)
def bytesOf (x : Nat) : List Nat := [x % 256, x / 256 % 256, x / 256 / 256 % 256, x / 256 / 256 / 256 % 256, x / 256 / 256 / 256 / 256 % 256, x / 256 / 256 / 256 / 256 / 256 % 256, x / 256 / 256 / 256 / 256 / 256 / 256 % 256, x / 256 / 256 / 256 / 256 / 256 / 256 / 256 % 256]
theorem val_bytes {x : Nat} (h : x < 18446744073709551616) : val (bytesOf x) = x := by
 have s : ∀ x q : Nat, q = x / 256 → x % 256 + 256 * q = x := fun x q e => by omega
 have h7 : x / 256 / 256 / 256 / 256 / 256 / 256 / 256 / 256 = 0 := by omega
 show x % 256 + 256 * (x / 256 % 256 + 256 * (x / 256 / 256 % 256 + 256 * (x / 256 / 256 / 256 % 256 + 256 * (x / 256 / 256 / 256 / 256 % 256 + 256 * (x / 256 / 256 / 256 / 256 / 256 % 256 + 256 * (x / 256 / 256 / 256 / 256 / 256 / 256 % 256 + 256 * (x / 256 / 256 / 256 / 256 / 256 / 256 / 256 % 256 + 256 * 0))))))) = x
 rw [s _ 0 h7.symm, s _ _ rfl, s _ _ rfl, s _ _ rfl, s _ _ rfl, s _ _ rfl, s _ _ rfl, s _ _ rfl]
theorem bytes_ok (x : Nat) : bytesOK (bytesOf x) := fun d h => by
 simp only [bytesOf, List.mem_cons, List.not_mem_nil, or_false] at h
 rcases h with rfl | rfl | rfl | rfl | rfl | rfl | rfl | rfl <;> omega
def bit (X : BitVec 64) (i : Nat) : Nat := (X.getLsbD i).toNat
def popc (X : BitVec 64) : Nat := ((List.range 64).map (bit X)).sum
theorem byte_bits (X : BitVec 64) (j : Nat) : pop8 (X.toNat / 2 ^ (8 * j) % 256) = ((List.range 8).map fun i => bit X (8 * j + i)).sum := by
 rw [pop8_bits _ (by omega)]
 congr 1
 apply List.map_congr_left
 intro i hi
 have hi := List.mem_range.1 hi
 unfold bit
 congr 1
 rw [show (256 : Nat) = 2 ^ 8 from rfl, Nat.testBit_mod_two_pow, Nat.testBit_div_two_pow, decide_eq_true hi, Bool.true_and, BitVec.getLsbD, Nat.add_comm i (8 * j)]
theorem range64 (f : Nat → Nat) : ((List.range 64).map f).sum = ((List.range 8).map fun i => f (8 * 0 + i)).sum + (((List.range 8).map fun i => f (8 * 1 + i)).sum + (((List.range 8).map fun i => f (8 * 2 + i)).sum + (((List.range 8).map fun i => f (8 * 3 + i)).sum + (((List.range 8).map fun i => f (8 * 4 + i)).sum + (((List.range 8).map fun i => f (8 * 5 + i)).sum + (((List.range 8).map fun i => f (8 * 6 + i)).sum + ((List.range 8).map fun i => f (8 * 7 + i)).sum)))))) := by
 have e : List.range 64 = (List.range 8).map (fun i => 8 * 0 + i) ++ ((List.range 8).map (fun i => 8 * 1 + i) ++ ((List.range 8).map (fun i => 8 * 2 + i) ++ ((List.range 8).map (fun i => 8 * 3 + i) ++ ((List.range 8).map (fun i => 8 * 4 + i) ++ ((List.range 8).map (fun i => 8 * 5 + i) ++ ((List.range 8).map (fun i => 8 * 6 + i) ++ (List.range 8).map (fun i => 8 * 7 + i))))))) := by decide +kernel
 rw [e]
 simp only [List.map_append, List.sum_append_nat, List.map_map]
 rfl
theorem popc_bytes (X : BitVec 64) : ((bytesOf X.toNat).map pop8).sum = popc X := by
 unfold popc
 rw [range64, ← byte_bits, ← byte_bits, ← byte_bits, ← byte_bits, ← byte_bits, ← byte_bits, ← byte_bits, ← byte_bits]
 have d : ∀ x a b : Nat, x / 2 ^ a / 256 = x / 2 ^ (a + 8) := fun x a b => by rw [Nat.div_div_eq_div_mul, Nat.pow_add]
 have e1 : X.toNat / 256 = X.toNat / 2 ^ (8 * 1) := rfl
 show pop8 (X.toNat % 256) + (pop8 (X.toNat / 256 % 256) + (pop8 (X.toNat / 256 / 256 % 256) + (pop8 (X.toNat / 256 / 256 / 256 % 256) + (pop8 (X.toNat / 256 / 256 / 256 / 256 % 256) + (pop8 (X.toNat / 256 / 256 / 256 / 256 / 256 % 256) + (pop8 (X.toNat / 256 / 256 / 256 / 256 / 256 / 256 % 256) + (pop8 (X.toNat / 256 / 256 / 256 / 256 / 256 / 256 / 256 % 256) + 0))))))) = _
 rw [e1, d _ _ 0, d _ _ 0, d _ _ 0, d _ _ 0, d _ _ 0, d _ _ 0, Nat.add_zero, show X.toNat / 2 ^ (8 * 0) = X.toNat by simp]
 rfl
theorem val_lt : ∀ l : List Nat, bytesOK l → val l < 256 ^ l.length
 | [], _ => by show 0 < 1; decide
 | d :: l, h => by
  have ih := val_lt l fun x hx => h x (List.mem_cons_of_mem _ hx)
  have hd := h d (List.mem_cons_self ..)
  show d + 256 * val l < 256 ^ (l.length + 1)
  rw [Nat.pow_succ]
  omega
theorem val64 {l : List Nat} (h : bytesOK l) (hl : l.length = 8) : val l < 18446744073709551616 := by
 have := val_lt l h
 rw [hl] at this
 exact this
theorem ones1 {x l : Nat} {M : Nat} (hx : x < 18446744073709551616) (hM : M < 18446744073709551616) {K : Nat} (hl : (x / K &&& M) + (x &&& M) = l) (h : l < 18446744073709551616) (hK : 0 < K) : IntKind.u64.wrap (bAnd .u64 (Int.fdiv ((x : Nat) : Int) ((K : Nat) : Int)) ((M : Nat) : Int) + bAnd .u64 ((x : Nat) : Int) ((M : Nat) : Int)) = ((l : Nat) : Int) := by
 have h1 : x / K < 18446744073709551616 := Nat.lt_of_le_of_lt (Nat.div_le_self _ _) hx
 rw [fdiv_nat, band_nat h1 hM, band_nat hx hM, ← hl, show (((x / K &&& M : Nat) : Int) + ((x &&& M : Nat) : Int)) = (((x / K &&& M) + (x &&& M) : Nat) : Int) by omega]
 exact wrap_nat (by omega)
theorem sh_nat {p K : Nat} {r : Nat} (h : r = p + p / K) (hr : r < 18446744073709551616) : IntKind.u64.wrap (((p : Nat) : Int) + Int.fdiv ((p : Nat) : Int) ((K : Nat) : Int)) = ((r : Nat) : Int) := by
 rw [fdiv_nat, show ((p : Nat) : Int) + ((p / K : Nat) : Int) = ((p + p / K : Nat) : Int) by omega, ← h]
 exact wrap_nat hr
theorem ones_run {n : Nat} {x c1 c2 c3 z1 z2 z3 : Nat} (h1 : IntKind.u64.wrap (bAnd .u64 (Int.fdiv ((x : Nat) : Int) 2) 6148914691236517205 + bAnd .u64 ((x : Nat) : Int) 6148914691236517205) = ((c1 : Nat) : Int))
  (h2 : IntKind.u64.wrap (bAnd .u64 (Int.fdiv ((c1 : Nat) : Int) 4) 3689348814741910323 + bAnd .u64 ((c1 : Nat) : Int) 3689348814741910323) = ((c2 : Nat) : Int))
  (h3 : bAnd .u64 (IntKind.u64.wrap (Int.fdiv ((c2 : Nat) : Int) 16 + ((c2 : Nat) : Int))) 1085102592571150095 = ((c3 : Nat) : Int))
  (h4 : IntKind.u64.wrap (((c3 : Nat) : Int) + Int.fdiv ((c3 : Nat) : Int) 256) = ((z1 : Nat) : Int)) (h5 : IntKind.u64.wrap (((z1 : Nat) : Int) + Int.fdiv ((z1 : Nat) : Int) 65536) = ((z2 : Nat) : Int))
  (h6 : IntKind.u64.wrap (((z2 : Nat) : Int) + Int.fdiv ((z2 : Nat) : Int) 4294967296) = ((z3 : Nat) : Int)) : m_bitsOnesCount64q1 n ((x : Nat) : Int) = some ((z3 % 128 : Nat) : Int) := by
 unfold m_bitsOnesCount64q1
 rw [h1, Option.bind_some, h2, Option.bind_some, h3, Option.bind_some, h4, h5, Option.bind_some, h6, Option.bind_some, low7]
theorem val_le {m : Nat} : ∀ l : List Nat, (∀ d ∈ l, d ≤ m) → val l ≤ val (rep l m)
 | [], _ => Nat.le_refl _
 | d :: l, h => by
  have ih := val_le l fun x hx => h x (List.mem_cons_of_mem _ hx)
  have hd := h d (List.mem_cons_self ..)
  show d + 256 * val l ≤ m + 256 * val (rep l m)
  omega
theorem ones3 {c2 c3 M : Nat} (h2 : c2 ≤ 4919131752989213764) (hM : M < 18446744073709551616) (s5 : (c2 / 16 + c2 &&& M) = c3) : bAnd .u64 (IntKind.u64.wrap (Int.fdiv ((c2 : Nat) : Int) ((16 : Nat) : Int) + ((c2 : Nat) : Int))) ((M : Nat) : Int) = ((c3 : Nat) : Int) := by
 have h := wrap_nat (p := c2 / 16 + c2) (by omega)
 rw [fdiv_nat, show (((c2 / 16 : Nat) : Int) + ((c2 : Nat) : Int)) = ((c2 / 16 + c2 : Nat) : Int) by omega, h, band_nat (by omega) hM, s5]
theorem c55 : val [0x55, 0x55, 0x55, 0x55, 0x55, 0x55, 0x55, 0x55] = 6148914691236517205 := by decide +kernel
theorem c33 : val [0x33, 0x33, 0x33, 0x33, 0x33, 0x33, 0x33, 0x33] = 3689348814741910323 := by decide +kernel
theorem c0f : val [0x0f, 0x0f, 0x0f, 0x0f, 0x0f, 0x0f, 0x0f, 0x0f] = 1085102592571150095 := by decide +kernel
theorem c44 : val [68, 68, 68, 68, 68, 68, 68, 68] = 4919131752989213764 := by decide +kernel
theorem rep8 {a b c d e f g h m : Nat} : rep [a, b, c, d, e, f, g, h] m = [m, m, m, m, m, m, m, m] := rfl
theorem val_arg {l l' : List Nat} {v : Nat} (h : l = l') (h2 : val l' = v) : val l = v := by rw [h, h2]
theorem ones_end {n x c1 c2 c3 s : Nat} (hx : x < 18446744073709551616) (v1 : c1 < 18446744073709551616) (v2 : c2 < 18446744073709551616) (w2 : c2 ≤ 4919131752989213764)
  (e1 : (x / 2 &&& 6148914691236517205) + (x &&& 6148914691236517205) = c1) (e2 : (c1 / 4 &&& 3689348814741910323) + (c1 &&& 3689348814741910323) = c2) (s5 : (c2 / 16 + c2 &&& 1085102592571150095) = c3)
  (q : ∀ z1 z2 z3, z1 = c3 + c3 / 256 → z2 = z1 + z1 / 65536 → z3 = z2 + z2 / 4294967296 → z1 < 18446744073709551616 ∧ z2 < 18446744073709551616 ∧ z3 < 18446744073709551616 ∧ z3 % 128 = s) : m_bitsOnesCount64q1 n ((x : Nat) : Int) = some ((s : Nat) : Int) := by
 obtain ⟨q1, q2, q3, q4⟩ := q _ _ _ rfl rfl rfl
 have k1 := ones1 (K := 2) (M := 6148914691236517205) hx (by omega) e1 v1 (by omega)
 have k2 := ones1 (K := 4) (M := 3689348814741910323) v1 (by omega) e2 v2 (by omega)
 have k3 := ones3 (M := 1085102592571150095) w2 (by omega) s5
 have k4 := sh_nat (K := 256) rfl q1
 have k5 := sh_nat (K := 65536) rfl q2
 have k6 := sh_nat (K := 4294967296) rfl q3
 rw [show ((2 : Nat) : Int) = 2 from rfl, show ((6148914691236517205 : Nat) : Int) = 6148914691236517205 from rfl] at k1
 rw [show ((4 : Nat) : Int) = 4 from rfl, show ((3689348814741910323 : Nat) : Int) = 3689348814741910323 from rfl] at k2
 rw [show ((16 : Nat) : Int) = 16 from rfl, show ((1085102592571150095 : Nat) : Int) = 1085102592571150095 from rfl] at k3
 rw [show ((256 : Nat) : Int) = 256 from rfl] at k4
 rw [show ((65536 : Nat) : Int) = 65536 from rfl] at k5
 rw [show ((4294967296 : Nat) : Int) = 4294967296 from rfl] at k6
 rw [ones_run k1 k2 k3 k4 k5 k6, q4]
theorem ones_list {n x : Nat} {l : List Nat} (hx : x < 18446744073709551616) (hv : val l = x) (hb : bytesOK l) {b0 b1 b2 b3 b4 b5 b6 b7 : Nat} (hl : l = [b0, b1, b2, b3, b4, b5, b6, b7]) : m_bitsOnesCount64q1 n ((x : Nat) : Int) = some (((l.map pop8).sum : Nat) : Int) := by
 obtain ⟨s1, s2⟩ := step1 _ hb
 have hb1 : bytesOK (l.map f1) := fun d hd => by
  obtain ⟨c, hc, rfl⟩ := List.mem_map.1 hd
  exact (nib c (hb c hc)).1
 obtain ⟨s3, s4⟩ := step2 _ hb1
 have hn : ∀ d ∈ (l.map f1).map f2, nibOK d := fun d hd => by
  obtain ⟨c, hc, rfl⟩ := List.mem_map.1 hd
  obtain ⟨b, hb', rfl⟩ := List.mem_map.1 hc
  exact (nib b (hb b hb')).2
 have hb2 : bytesOK ((l.map f1).map f2) := fun d hd => by
  obtain ⟨h1, h2⟩ := hn d hd
  omega
 have s5 := step3 _ hn
 have a1 := val_add (f := fun d => (d / 2) &&& 0x55) (g := fun d => d &&& 0x55) l
 have a2 := val_add (f := fun d => (d / 4) &&& 0x33) (g := fun d => d &&& 0x33) (l.map f1)
 have m1 : val (rep l 0x55) = 6148914691236517205 := val_arg (by rw [hl]; exact rep8) c55
 have m2 : val (rep (l.map f1) 0x33) = 3689348814741910323 := val_arg (by rw [hl]; exact rep8) c33
 have m3 : val (rep ((l.map f1).map f2) 0x0f) = 1085102592571150095 := val_arg (by rw [hl]; exact rep8) c0f
 have m4 : val (rep ((l.map f1).map f2) 68) = 4919131752989213764 := val_arg (by rw [hl]; exact rep8) c44
 rw [m1] at s1 s2
 rw [m2] at s3 s4
 rw [m3] at s5
 have w2 := val_le (m := 68) ((l.map f1).map f2) fun d hd => by
  obtain ⟨h1, h2⟩ := hn d hd
  omega
 rw [m4] at w2
 have v1 := val64 hb1 (by rw [hl]; rfl)
 have v2 := val64 hb2 (by rw [hl]; rfl)
 have e3 : ((l.map f1).map f2).map f3 = l.map pop8 := by rw [List.map_map, List.map_map]; rfl
 rw [e3] at s5
 have e1 : (x / 2 &&& 6148914691236517205) + (x &&& 6148914691236517205) = val (l.map f1) := by rw [← hv, s1, s2, a1]; rfl
 have e2 : (val (l.map f1) / 4 &&& 3689348814741910323) + (val (l.map f1) &&& 3689348814741910323) = val ((l.map f1).map f2) := by rw [s3, s4, a2]; rfl
 have hle : ∀ d ∈ l, pop8 d ≤ 8 := fun d hd => pop8_le d (hb d hd)
 refine ones_end hx v1 v2 w2 e1 e2 s5 fun z1 z2 z3 h1 h2 h3 => ?_
 subst hl
 have q := last (hle b0 (by simp)) (hle b1 (by simp)) (hle b2 (by simp)) (hle b3 (by simp)) (hle b4 (by simp)) (hle b5 (by simp)) (hle b6 (by simp)) (hle b7 (by simp)) h1 h2 h3
 refine ⟨q.1, q.2.1, q.2.2.1, q.2.2.2.trans ?_⟩
 show _ = pop8 b0 + (pop8 b1 + (pop8 b2 + (pop8 b3 + (pop8 b4 + (pop8 b5 + (pop8 b6 + (pop8 b7 + 0)))))))
 omega
theorem ones_ok {n : Nat} (X : BitVec 64) : m_bitsOnesCount64q1 n ((X.toNat : Nat) : Int) = some ((popc X : Nat) : Int) := by
 have h := ones_list (n := n) X.isLt (val_bytes X.isLt) (bytes_ok X.toNat) rfl
 rw [popc_bytes] at h
 exact h


abbrev I (x : BitVec 64) : Int := ((x.toNat : Nat) : Int)
structure C4 where
 a : BitVec 64
 b : BitVec 64
 c : BitVec 64
 d : BitVec 64
namespace C4
def w (X : C4) : Nat → BitVec 64
 | 0 => X.a
 | 1 => X.b
 | 2 => X.c
 | _ => X.d
def mem (X : C4) (i : Nat) : Bool := (X.w (i / 64)).getLsbD (i % 64)
def or (X Y : C4) : C4 := ⟨X.a ||| Y.a, X.b ||| Y.b, X.c ||| Y.c, X.d ||| Y.d⟩
def and (X Y : C4) : C4 := ⟨X.a &&& Y.a, X.b &&& Y.b, X.c &&& Y.c, X.d &&& Y.d⟩
def not (X : C4) : C4 := ⟨~~~X.a, ~~~X.b, ~~~X.c, ~~~X.d⟩
def len (X : C4) : Nat := popc X.a + popc X.b + popc X.c + popc X.d
def zero : C4 := ⟨0, 0, 0, 0⟩
def add (X : C4) (i : Nat) : C4 := match i / 64 with
 | 0 => ⟨X.a ||| one (i % 64), X.b, X.c, X.d⟩
 | 1 => ⟨X.a, X.b ||| one (i % 64), X.c, X.d⟩
 | 2 => ⟨X.a, X.b, X.c ||| one (i % 64), X.d⟩
 | _ => ⟨X.a, X.b, X.c, X.d ||| one (i % 64)⟩
theorem ext' {X Y : C4} (h : ∀ i, i < 256 → X.mem i = Y.mem i) : X = Y := by
 have hw : ∀ k, k < 4 → X.w k = Y.w k := fun k hk => by
  apply BitVec.eq_of_getLsbD_eq
  intro i hi
  have := h (64 * k + i) (by omega)
  unfold mem at this
  rw [show (64 * k + i) / 64 = k by omega, show (64 * k + i) % 64 = i by omega] at this
  exact this
 have h0 : X.a = Y.a := hw 0 (by omega)
 have h1 : X.b = Y.b := hw 1 (by omega)
 have h2 : X.c = Y.c := hw 2 (by omega)
 have h3 : X.d = Y.d := hw 3 (by omega)
 cases X; cases Y
 simp only at h0 h1 h2 h3
 rw [h0, h1, h2, h3]
theorem mem_or (X Y : C4) (i : Nat) : (X.or Y).mem i = (X.mem i || Y.mem i) := by
 unfold mem
 have : (X.or Y).w (i / 64) = X.w (i / 64) ||| Y.w (i / 64) := by
  unfold w; split <;> rfl
 rw [this, BitVec.getLsbD_or]
theorem mem_zero (i : Nat) : zero.mem i = false := by
 unfold mem
 have : zero.w (i / 64) = 0#64 := by unfold w; split <;> rfl
 rw [this, BitVec.getLsbD_zero]
theorem mem_add (X : C4) {i j : Nat} (hi : i < 256) (hj : j < 256) : (X.add i).mem j = (X.mem j || decide (j = i)) := by
 unfold mem
 have hw : (X.add i).w (j / 64) = if j / 64 = i / 64 then X.w (j / 64) ||| one (i % 64) else X.w (j / 64) := by
  have h1 : i / 64 < 4 := by omega
  have h2 : j / 64 < 4 := by omega
  unfold add w
  generalize i / 64 = p at h1
  generalize j / 64 = q at h2
  obtain rfl | rfl | rfl | rfl : p = 0 ∨ p = 1 ∨ p = 2 ∨ p = 3 := by omega
  all_goals
   obtain rfl | rfl | rfl | rfl : q = 0 ∨ q = 1 ∨ q = 2 ∨ q = 3 := by omega
  all_goals rfl
 rw [hw]
 by_cases h : j / 64 = i / 64
 ·rw [if_pos h, BitVec.getLsbD_or, one_get (by omega)]
  congr 1
  have : (j % 64 = i % 64) ↔ j = i := by omega
  exact decide_eq_decide.2 this
 ·rw [if_neg h, decide_eq_false (by intro e; exact h (by rw [e])), Bool.or_false]
end C4
theorem bq64 {b : Nat} (h : b < 256) : IntKind.u8.wrap (Int.tdiv (b : Int) (64 : Int)) = ((b / 64 : Nat) : Int) := by
 rw [show Int.tdiv (b : Int) (64 : Int) = ((b / 64 : Nat) : Int) from rfl]
 simp [IntKind.wrap, IntKind.bits, IntKind.signed]
 omega
theorem bm64 {b : Nat} : Int.tmod (b : Int) (64 : Int) = ((b % 64 : Nat) : Int) := rfl
theorem has_ok {n b : Nat} (X : C4) (h : b < 256) : m_classHasq1 n (I X.a) (I X.b) (I X.c) (I X.d) (b : Int) = some (X.mem b) := by
 unfold m_classHasq1
 have hq : b / 64 < 4 := by omega
 have hr : b % 64 < 64 := by omega
 rw [bq64 h, bm64]
 unfold C4.mem
 generalize b / 64 = q at hq ⊢
 generalize b % 64 = r at hr ⊢
 rw [if_pos (by omega), if_pos ⟨by omega, by omega⟩, if_pos (by rw [Int.toNat_natCast]; exact hq), Option.bind_some, if_pos (by omega), Option.bind_some, Int.toNat_natCast]
 have hg : [I X.a, I X.b, I X.c, I X.d].getD q 0 = I (X.w q) := by
  obtain rfl | rfl | rfl | rfl : q = 0 ∨ q = 1 ∨ q = 2 ∨ q = 3 := by omega
  all_goals rfl
 rw [hg]
 by_cases hb : (X.w q).getLsbD r = true
 ·rw [if_pos ((bit1 hr _).2 hb), hb]
 ·rw [if_neg (fun e => hb ((bit1 hr _).1 e)), Bool.eq_false_iff.2 hb]
theorem u8_id {b : Nat} (h : b < 256) : IntKind.u8.wrap (b : Int) = (b : Int) := by
 simp [IntKind.wrap, IntKind.bits, IntKind.signed]; omega
theorem i64_id {b : Nat} (h : b < 1000) : IntKind.i64.wrap (b : Int) = (b : Int) := w64_sm (by omega) (by omega)
/-! how many -/
theorem sum2 {f g h k : Nat → Nat} (e : ∀ i, f i + g i = h i + k i) : ∀ l : List Nat, (l.map f).sum + (l.map g).sum = (l.map h).sum + (l.map k).sum
 | [] => rfl
 | i :: l => by
  have := sum2 e l
  have := e i
  simp only [List.map_cons, List.sum_cons]
  omega
theorem popc2 (X Y : BitVec 64) : popc (X ||| Y) + popc (X &&& Y) = popc X + popc Y := sum2 (fun i => by
 unfold bit
 rw [BitVec.getLsbD_or, BitVec.getLsbD_and]
 cases X.getLsbD i <;> cases Y.getLsbD i <;> rfl) _
theorem popc_le (X : BitVec 64) : popc X ≤ 64 := by
 have h : ∀ l : List Nat, (l.map (bit X)).sum ≤ l.length := fun l => by
  induction l with
  | nil => exact Nat.le_refl _
  | cons i l ih =>
   have : bit X i ≤ 1 := by unfold bit; cases X.getLsbD i <;> decide
   simp only [List.map_cons, List.sum_cons, List.length_cons]
   omega
 have := h (List.range 64)
 rw [List.length_range] at this
 exact this
theorem len_le (X : C4) : X.len ≤ 256 := by
 have := popc_le X.a
 have := popc_le X.b
 have := popc_le X.c
 have := popc_le X.d
 unfold C4.len
 omega
theorem len_ok {n : Nat} (X : C4) : m_classLenq1 n (I X.a) (I X.b) (I X.c) (I X.d) = some ((X.len : Nat) : Int) := by
 have := popc_le X.a
 have := popc_le X.b
 have := popc_le X.c
 have := popc_le X.d
 unfold m_classLenq1 C4.len
 rw [ones_ok, ones_ok, ones_ok, ones_ok]
 simp only [Option.bind_some]
 generalize popc X.a = p at *
 generalize popc X.b = q at *
 generalize popc X.c = r at *
 generalize popc X.d = s at *
 rw [w64_sm (x := (0 : Int) + (p : Int)) (by omega) (by omega), w64_sm (x := (0 : Int) + (p : Int) + (q : Int)) (by omega) (by omega), w64_sm (x := (0 : Int) + (p : Int) + (q : Int) + (r : Int)) (by omega) (by omega), w64_sm (by omega) (by omega)]
 congr 1
 omega
theorem len2 (X Y : C4) : (X.or Y).len + (X.and Y).len = X.len + Y.len := by
 have := popc2 X.a Y.a
 have := popc2 X.b Y.b
 have := popc2 X.c Y.c
 have := popc2 X.d Y.d
 unfold C4.len C4.or C4.and
 simp only
 omega


/-! the bits, one after another -/
theorem filter_least {p : Nat → Bool} {t : Nat} (hp : p t = true) (h0 : ∀ j, j < t → p j = false) : ∀ l : List Nat, l.Pairwise (· < ·) → t ∈ l → l.filter p = t :: l.filter (fun j => p j && !decide (j = t))
 | [], _, h => absurd h (List.not_mem_nil)
 | a :: l, hs, h => by
  have hs' := List.pairwise_cons.1 hs
  by_cases e : a = t
  ·subst e
   rw [List.filter_cons_of_pos hp, List.filter_cons_of_neg (by simp)]
   congr 1
   apply List.filter_congr
   intro j hj
   have : a < j := hs'.1 j hj
   rw [decide_eq_false (by omega)]
   simp
  ·have hm : t ∈ l := by
    rcases List.mem_cons.1 h with h | h
    ·exact absurd h.symm e
    ·exact h
   have hlt : a < t := hs'.1 t hm
   rw [List.filter_cons_of_neg (by rw [h0 a hlt]; simp), List.filter_cons_of_neg (by rw [h0 a hlt]; simp)]
   exact filter_least hp h0 l hs'.2 hm
def bitsN (X : BitVec 64) : List Nat := (List.range 64).filter fun i => X.getLsbD i
theorem bits_least {X : BitVec 64} {t : Nat} (h : least X t) : bitsN X = t :: bitsN (X &&& ~~~one t) := by
 unfold bitsN
 rw [filter_least h.2.1 h.2.2 _ List.pairwise_lt_range (List.mem_range.2 h.1)]
 congr 1
 apply List.filter_congr
 intro j hj
 have hj := List.mem_range.1 hj
 rw [BitVec.getLsbD_and, BitVec.getLsbD_not, one_get h.1, decide_eq_true hj, Bool.true_and]
theorem bits_zero : bitsN 0#64 = [] := by
 unfold bitsN
 rw [List.filter_eq_nil_iff]
 intro a _
 rw [BitVec.getLsbD_zero]
 simp
theorem bits_le (X : BitVec 64) : (bitsN X).length ≤ 64 := by
 have := List.length_filter_le (fun i => X.getLsbD i) (List.range 64)
 rw [List.length_range] at this
 exact this
def elsW (k : Nat) (X : BitVec 64) : List Int := (bitsN X).map fun t => ((64 * k + t : Nat) : Int)
theorem elsW_len (k : Nat) (X : BitVec 64) : (elsW k X).length ≤ 64 := by unfold elsW; rw [List.length_map]; exact bits_le X
namespace C4
def els (X : C4) : List Int := elsW 0 X.a ++ (elsW 1 X.b ++ (elsW 2 X.c ++ elsW 3 X.d))
def txt (X : C4) : ByteArray := txtOf X.els
theorem els_len (X : C4) : X.els.length ≤ 256 := by
 have := elsW_len 0 X.a
 have := elsW_len 1 X.b
 have := elsW_len 2 X.c
 have := elsW_len 3 X.d
 unfold els
 simp only [List.length_append]
 omega
end C4
theorem mem_bits {X : BitVec 64} {t : Nat} : t ∈ bitsN X ↔ t < 64 ∧ X.getLsbD t = true := by
 unfold bitsN
 rw [List.mem_filter, List.mem_range]
theorem mem_els1 {k : Nat} {X : BitVec 64} {z : Int} : z ∈ elsW k X ↔ ∃ t, t < 64 ∧ X.getLsbD t = true ∧ z = ((64 * k + t : Nat) : Int) := by
 unfold elsW
 rw [List.mem_map]
 constructor
 ·rintro ⟨t, h, rfl⟩
  obtain ⟨h1, h2⟩ := mem_bits.1 h
  exact ⟨t, h1, h2, rfl⟩
 ·rintro ⟨t, h1, h2, rfl⟩
  exact ⟨t, mem_bits.2 ⟨h1, h2⟩, rfl⟩
theorem mem_w {X : C4} {k t : Nat} (ht : t < 64) : X.mem (64 * k + t) = (X.w k).getLsbD t := by
 unfold C4.mem
 rw [show (64 * k + t) / 64 = k by omega, show (64 * k + t) % 64 = t by omega]
theorem mem_els {X : C4} {z : Int} : z ∈ X.els ↔ ∃ i : Nat, i < 256 ∧ X.mem i = true ∧ z = (i : Int) := by
 unfold C4.els
 rw [List.mem_append, List.mem_append, List.mem_append, mem_els1, mem_els1, mem_els1, mem_els1]
 constructor
 ·rintro (⟨t, h1, h2, h3⟩ | ⟨t, h1, h2, h3⟩ | ⟨t, h1, h2, h3⟩ | ⟨t, h1, h2, h3⟩)
  ·exact ⟨64 * 0 + t, by omega, by rw [mem_w h1]; exact h2, h3⟩
  ·exact ⟨64 * 1 + t, by omega, by rw [mem_w h1]; exact h2, h3⟩
  ·exact ⟨64 * 2 + t, by omega, by rw [mem_w h1]; exact h2, h3⟩
  ·exact ⟨64 * 3 + t, by omega, by rw [mem_w h1]; exact h2, h3⟩
 ·rintro ⟨i, h1, h2, h3⟩
  have e : i = 64 * (i / 64) + i % 64 := by omega
  have ht : i % 64 < 64 := by omega
  rw [e, mem_w ht] at h2
  rw [e] at h3
  have hk : i / 64 = 0 ∨ i / 64 = 1 ∨ i / 64 = 2 ∨ i / 64 = 3 := by omega
  rcases hk with k | k | k | k <;> rw [k] at h2 h3
  ·exact .inl ⟨_, ht, h2, h3⟩
  ·exact .inr (.inl ⟨_, ht, h2, h3⟩)
  ·exact .inr (.inr (.inl ⟨_, ht, h2, h3⟩))
  ·exact .inr (.inr (.inr ⟨_, ht, h2, h3⟩))


theorem toC4 {x y z w : Int} (h1 : (Lit.int .u64 x).wf = true) (h2 : (Lit.int .u64 y).wf = true) (h3 : (Lit.int .u64 z).wf = true) (h4 : (Lit.int .u64 w).wf = true) : ∃ X : C4, x = I X.a ∧ y = I X.b ∧ z = I X.c ∧ w = I X.d := by
 obtain ⟨a, ha⟩ := toBV h1
 obtain ⟨b, hb⟩ := toBV h2
 obtain ⟨c, hc⟩ := toBV h3
 obtain ⟨d, hd⟩ := toBV h4
 exact ⟨⟨a, b, c, d⟩, ha, hb, hc, hd⟩
theorem els_ok (X : C4) : ∀ z ∈ X.els, 0 ≤ z ∧ z < 256 := fun z hz => by
 obtain ⟨i, h1, _, rfl⟩ := mem_els.1 hz
 omega
namespace C4
theorem mem_and (X Y : C4) (i : Nat) : (X.and Y).mem i = (X.mem i && Y.mem i) := by
 unfold mem
 have : (X.and Y).w (i / 64) = X.w (i / 64) &&& Y.w (i / 64) := by
  unfold w; split <;> rfl
 rw [this, BitVec.getLsbD_and]
theorem mem_not (X : C4) (i : Nat) : X.not.mem i = !X.mem i := by
 unfold mem
 have : X.not.w (i / 64) = ~~~ X.w (i / 64) := by
  unfold w; split <;> rfl
 rw [this, BitVec.getLsbD_not, decide_eq_true (by omega), Bool.true_and]
def cnt (X : C4) (b : Nat) : Nat := ((List.range b).map fun j => (X.mem j).toNat).sum
theorem cnt_succ (X : C4) (b : Nat) : X.cnt (b + 1) = X.cnt b + (X.mem b).toNat := by
 unfold cnt
 rw [List.range_succ, List.map_append, List.sum_append_nat]
 rfl
theorem cnt_le (X : C4) : ∀ b, X.cnt b ≤ b
 | 0 => Nat.le_refl _
 | b + 1 => by
  have := cnt_le X b
  rw [cnt_succ]
  cases X.mem b <;> simp <;> omega
end C4
theorem range256 (f : Nat → Nat) : ((List.range 256).map f).sum = ((List.range 64).map fun i => f (64 * 0 + i)).sum + (((List.range 64).map fun i => f (64 * 1 + i)).sum + (((List.range 64).map fun i => f (64 * 2 + i)).sum + ((List.range 64).map fun i => f (64 * 3 + i)).sum)) := by
 have e : List.range 256 = (List.range 64).map (fun i => 64 * 0 + i) ++ ((List.range 64).map (fun i => 64 * 1 + i) ++ ((List.range 64).map (fun i => 64 * 2 + i) ++ (List.range 64).map (fun i => 64 * 3 + i))) := by decide +kernel
 rw [e]
 simp only [List.map_append, List.sum_append_nat, List.map_map]
 rfl
theorem popc_mem (X : C4) (k : Nat) : ((List.range 64).map fun i => (X.mem (64 * k + i)).toNat).sum = popc (X.w k) := by
 unfold popc
 congr 1
 apply List.map_congr_left
 intro i hi
 have hi := List.mem_range.1 hi
 unfold bit
 rw [mem_w hi]
theorem cnt_len (X : C4) : X.cnt 256 = X.len := by
 unfold C4.cnt C4.len
 rw [range256, popc_mem, popc_mem, popc_mem, popc_mem]
 show popc X.a + (popc X.b + (popc X.c + popc X.d)) = _
 omega
theorem filter_sum (p : Nat → Bool) : ∀ l : List Nat, (l.filter p).length = (l.map fun i => (p i).toNat).sum
 | [] => rfl
 | a :: l => by
  have := filter_sum p l
  rw [List.filter_cons, List.map_cons, List.sum_cons]
  cases p a <;> simp <;> omega
theorem els_size (X : C4) : X.els.length = X.len := by
 have h : ∀ k Y, (elsW k Y).length = popc Y := fun k Y => by
  unfold elsW bitsN popc bit
  rw [List.length_map, filter_sum]
 unfold C4.els C4.len
 simp only [List.length_append, h]
 omega
/-! the bytes rise -/
theorem elsW_rise (k : Nat) (X : BitVec 64) : (elsW k X).Pairwise (· < ·) := by
 unfold elsW
 rw [List.pairwise_map]
 have : (bitsN X).Pairwise (· < ·) := List.Pairwise.filter _ List.pairwise_lt_range
 exact this.imp fun h => by omega
theorem elsW_rng {k : Nat} {X : BitVec 64} {z : Int} (h : z ∈ elsW k X) : ((64 * k : Nat) : Int) ≤ z ∧ z < ((64 * k + 64 : Nat) : Int) := by
 obtain ⟨t, h1, _, rfl⟩ := mem_els1.1 h
 omega
theorem els_rise (X : C4) : X.els.Pairwise (· < ·) := by
 unfold C4.els
 refine List.pairwise_append.2 ⟨elsW_rise _ _, List.pairwise_append.2 ⟨elsW_rise _ _, List.pairwise_append.2 ⟨elsW_rise _ _, elsW_rise _ _, ?_⟩, ?_⟩, ?_⟩
 ·intro a ha b hb
  have := elsW_rng ha
  have := elsW_rng hb
  omega
 ·intro a ha b hb
  have := elsW_rng ha
  rcases List.mem_append.1 hb with hb | hb
  ·have := elsW_rng hb
   omega
  ·have := elsW_rng hb
   omega
 ·intro a ha b hb
  have := elsW_rng ha
  rcases List.mem_append.1 hb with hb | hb
  ·have := elsW_rng hb
   omega
  ·rcases List.mem_append.1 hb with hb | hb
   ·have := elsW_rng hb
    omega
   ·have := elsW_rng hb
    omega
theorem rise_at {l : List Int} (h : l.Pairwise (· < ·)) {i : Nat} (hi : i + 1 < l.length) : l.getD i 0 < l.getD (i + 1) 0 := by
 have := List.pairwise_iff_getElem.1 h i (i + 1) (by omega) hi (by omega)
 rw [List.getD_eq_getElem?_getD, List.getD_eq_getElem?_getD, List.getElem?_eq_getElem hi, List.getElem?_eq_getElem (by omega)]
 exact this


/-! all bytes, one after another -/
theorem step_facts {k : Nat} (hk : k < 4) {Y : BitVec 64} (c : ¬ Y = 0#64) : ∃ t, least Y t ∧ t < 64 ∧ w64 ((k : Int) * 64) = ((64 * k : Nat) : Int) ∧ w64 (((64 * k : Nat) : Int) + (t : Int)) = ((64 * k + t : Nat) : Int) ∧ bAnd .u64 (I Y) (IntKind.u64.wrap (I Y - 1)) = I (Y &&& ~~~one t) ∧ elsW k Y = ((64 * k + t : Nat) : Int) :: elsW k (Y &&& ~~~one t)
  ∧ (bitsN (BitVec.ofInt 64 (I (Y &&& ~~~one t)))).length < (bitsN (BitVec.ofInt 64 (I Y))).length := by
 obtain ⟨t, ht⟩ := exists_least c
 have ht64 := ht.1
 refine ⟨t, ht, ht64, ?_, ?_, ?_, ?_, ?_⟩
 ·rw [w64_sm (by omega) (by omega)]; omega
 ·rw [w64_sm (by omega) (by omega)]; omega
 ·rw [dec_int c, ban, sub_bit ht]
 ·unfold elsW
  rw [bits_least ht, List.map_cons]
 ·rw [ofI, ofI, bits_least ht, List.length_cons]
  omega
theorem each_ok {n k : Nat} {f : Bool} {A B C D : Int} (hk : k < 4) (hn : 100 < n) (L : List Int) (X : BitVec 64) (hL : L.length + (elsW k X).length ≤ 256) : m_classEach1q1_1 n f A B C D (k : Int) (L, I X) = some (.inl (L ++ elsW k X)) := by
 obtain ⟨r, hr, he⟩ := whileI (B := B_classEach1q1_1 n f A B C D (k : Int)) (fun st => ∃ (M : List Int) (Y : BitVec 64), st = (M, I Y) ∧ M ++ elsW k Y = L ++ elsW k X) (fun st => (bitsN (BitVec.ofInt 64 st.2)).length) (fun r => r = .inl (L ++ elsW k X))
  (by
   rintro _ ⟨M, Y, rfl, h1⟩
   unfold B_classEach1q1_1
   by_cases c : Y = 0#64
   ·subst c
    refine .inr ⟨.inl M, ?_, ?_⟩
    ·rw [← h1]
     unfold elsW
     rw [bits_zero, List.map_nil, List.append_nil]
    ·cases M with
     | nil => simp only []; rw [if_pos (show I 0#64 = 0 from rfl)]
     | cons a M => simp only []; rw [if_pos (show I 0#64 = 0 from rfl)]
   ·obtain ⟨t, ht, ht64, hw, hw2, hd, hs, hm⟩ := step_facts hk c
    have hlen : M.length < 256 := by
     have h2 := congrArg List.length h1
     rw [List.length_append, List.length_append, hs, List.length_cons] at h2
     omega
    refine .inl ⟨(M ++ [((64 * k + t : Nat) : Int)], I (Y &&& ~~~one t)), ⟨_, _, rfl, ?_⟩, hm, ?_⟩
    ·rw [← h1, hs, List.append_assoc]
     rfl
    ·cases M with
     | nil =>
      simp only []
      rw [if_neg (q2 c), tz_ok ht, Option.bind_some, hw, hw2, Option.bind_some, u8_id (by omega), hd]
      rfl
     | cons a M =>
      simp only []
      rw [if_neg (q2 c), tz_ok ht, Option.bind_some, hw, hw2, Option.bind_some, u8_id (by omega), hd]
      unfold m_viewportlaw01all_111010y2
      rw [if_neg (by omega), if_pos (by omega)]) n (L, I X) ⟨L, X, rfl, rfl⟩ (by
      show (bitsN (BitVec.ofInt 64 (I X))).length < n
      have := bits_le X
      rw [ofI]
      omega)
 unfold m_classEach1q1_1
 rw [he, hr]
theorem same_list {α β : Type} {l : List α} {F : List α → β} : (match l with | [] => F [] | a :: t => F (a :: t)) = F l := by cases l <;> rfl
theorem each1_ok {n : Nat} (hn : 100 < n) (X : C4) : m_classEach1q1 n false (I X.a) (I X.b) (I X.c) (I X.d) = some (.inl X.els) := by
 have h0 := elsW_len 0 X.a
 have h1 := elsW_len 1 X.b
 have h2 := elsW_len 2 X.c
 have h3 := elsW_len 3 X.d
 have e0 := each_ok (n := n) (k := 0) (f := false) (A := I X.a) (B := I X.b) (C := I X.c) (D := I X.d) (by omega) hn [] X.a (by simp only [List.length_nil]; omega)
 have e1 := fun L hL => each_ok (n := n) (k := 1) (f := false) (A := I X.a) (B := I X.b) (C := I X.c) (D := I X.d) (by omega) hn L X.b hL
 have e2 := fun L hL => each_ok (n := n) (k := 2) (f := false) (A := I X.a) (B := I X.b) (C := I X.c) (D := I X.d) (by omega) hn L X.c hL
 have e3 := fun L hL => each_ok (n := n) (k := 3) (f := false) (A := I X.a) (B := I X.b) (C := I X.c) (D := I X.d) (by omega) hn L X.d hL
 have q3 : ∀ L : List Int, L.length ≤ 192 → (match m_classEach1q1_1 n false (I X.a) (I X.b) (I X.c) (I X.d) 3 (L, I X.d) with
   | none => (none : Option (List Int ⊕ List Int))
   | some (.inl c4_) =>
    match c4_ with
    | [] => some (.inl ([] : List (Int)))
    | c4_a :: c4_t => some (.inl (c4_a :: c4_t))
   | some (.inr c4_) => some (.inr c4_)) = some (.inl (L ++ elsW 3 X.d)) := fun L hL => by
  have := e3 L (by omega)
  rw [show (((3 : Nat) : Int)) = 3 from rfl] at this
  rw [this]
  simp only []
  cases L ++ elsW 3 X.d <;> rfl
 unfold m_classEach1q1 C4.els
 rw [show (((0 : Nat) : Int)) = 0 from rfl] at e0
 rw [e0, List.nil_append]
 simp only []
 have f1 := e1 (elsW 0 X.a) (by omega)
 rw [show (((1 : Nat) : Int)) = 1 from rfl] at f1
 have f2 := e2 (elsW 0 X.a ++ elsW 1 X.b) (by rw [List.length_append]; omega)
 rw [show (((2 : Nat) : Int)) = 2 from rfl] at f2
 have f3 := q3 (elsW 0 X.a ++ elsW 1 X.b ++ elsW 2 X.c) (by rw [List.length_append, List.length_append]; omega)
 rw [List.append_assoc, List.append_assoc] at f3
 rw [← List.append_assoc] at f3
 have g3 : ∀ l : List Int, l = elsW 0 X.a ++ elsW 1 X.b ++ elsW 2 X.c → (match m_classEach1q1_1 n false (I X.a) (I X.b) (I X.c) (I X.d) 3 (l, I X.d) with
   | none => (none : Option (List Int ⊕ List Int))
   | some (.inl c4_) =>
    match c4_ with
    | [] => some (.inl ([] : List (Int)))
    | c4_a :: c4_t => some (.inl (c4_a :: c4_t))
   | some (.inr c4_) => some (.inr c4_)) = some (.inl (elsW 0 X.a ++ (elsW 1 X.b ++ (elsW 2 X.c ++ elsW 3 X.d)))) := fun l hl => by
  have := q3 l (by rw [hl, List.length_append, List.length_append]; omega)
  rw [this, hl, List.append_assoc, List.append_assoc]
 have g2 : ∀ l : List Int, l = elsW 0 X.a ++ elsW 1 X.b → m_classEach1q1_1 n false (I X.a) (I X.b) (I X.c) (I X.d) 2 (l, I X.c) = some (.inl (l ++ elsW 2 X.c)) := fun l hl => by rw [hl]; exact f2
 cases h0c : elsW 0 X.a with
 | nil =>
  simp only []
  rw [h0c] at f1 g2 g3
  rw [f1]
  simp only []
  cases h1c : elsW 1 X.b with
  | nil =>
   rw [h1c] at g2 g3
   have := g2 [] rfl
   simp only [List.append_nil, List.nil_append] at this g3 ⊢
   rw [this]
   simp only []
   cases h2c : elsW 2 X.c with
   | nil => have g := g3 [] h2c.symm; rw [h2c] at g; exact g
   | cons a l => have g := g3 (a :: l) h2c.symm; rw [h2c] at g; exact g
  | cons b m =>
   rw [h1c] at g2 g3
   have := g2 (b :: m) rfl
   simp only [List.append_nil, List.nil_append] at this g3 ⊢
   rw [this]
   simp only [List.cons_append]
   exact g3 _ rfl
 | cons a l =>
  simp only []
  rw [h0c] at f1 g2 g3
  rw [f1]
  simp only [List.cons_append]
  have := g2 (a :: (l ++ elsW 1 X.b)) rfl
  rw [this]
  simp only [List.cons_append]
  exact g3 _ rfl
theorem all_ok {n : Nat} (hn : 100 < n) (X : C4) : m_viewportlaw01allq1 n (I X.a) (I X.b) (I X.c) (I X.d) = some (X.els, true) := by
 unfold m_viewportlaw01allq1 m_classEachq1
 rw [Option.bind_some, each1_ok hn]
 simp only []
 cases X.els <;> rfl
/-! none at all -/
theorem once {n : Nat} {a b c d : Int} {f : Bool} {v w x y k z : Int} (hn : 0 < n) (hz : ∃ Z : BitVec 64, z = I Z) (hk : ∃ j : Nat, j < 4 ∧ k = (j : Int)) : ∃ r, m_classEach1q2_1 n a b c d 0 f 0 v w x y k z () = some r := by
 obtain ⟨m, rfl⟩ : ∃ m, n = m + 1 := ⟨n - 1, by omega⟩
 obtain ⟨Z, rfl⟩ := hz
 obtain ⟨j, hj, rfl⟩ := hk
 unfold m_classEach1q2_1
 rw [iterM_succ]
 unfold B_classEach1q2_1
 simp only []
 by_cases c : Z = 0#64
 ·subst c
  rw [if_pos (show I 0#64 = 0 from rfl)]
  exact ⟨_, rfl⟩
 ·obtain ⟨t, ht, ht64, hw, hw2, hd, hs, hm⟩ := step_facts hj c
  rw [if_neg (q2 c), tz_ok ht, Option.bind_some, hw, hw2, Option.bind_some]
  unfold m_viewportlaw01ClassEach_111010y1
  rw [if_pos rfl]
  exact ⟨_, rfl⟩
theorem none_ok {n : Nat} (hn : 0 < n) (X : C4) {a b c d : Int} {f : Bool} : ∃ r, m_classEach1q2 n a b c d 0 f 0 (I X.a) (I X.b) (I X.c) (I X.d) = some r := by
 unfold m_classEach1q2
 obtain ⟨r0, h0⟩ := once (n := n) (a := a) (b := b) (c := c) (d := d) (f := f) (v := I X.a) (w := I X.b) (x := I X.c) (y := I X.d) (k := 0) (z := I X.a) hn ⟨_, rfl⟩ ⟨0, by omega, rfl⟩
 obtain ⟨r1, h1⟩ := once (n := n) (a := a) (b := b) (c := c) (d := d) (f := f) (v := I X.a) (w := I X.b) (x := I X.c) (y := I X.d) (k := 1) (z := I X.b) hn ⟨_, rfl⟩ ⟨1, by omega, rfl⟩
 obtain ⟨r2, h2⟩ := once (n := n) (a := a) (b := b) (c := c) (d := d) (f := f) (v := I X.a) (w := I X.b) (x := I X.c) (y := I X.d) (k := 2) (z := I X.c) hn ⟨_, rfl⟩ ⟨2, by omega, rfl⟩
 obtain ⟨r3, h3⟩ := once (n := n) (a := a) (b := b) (c := c) (d := d) (f := f) (v := I X.a) (w := I X.b) (x := I X.c) (y := I X.d) (k := 3) (z := I X.d) hn ⟨_, rfl⟩ ⟨3, by omega, rfl⟩
 rw [h0]
 rcases r0 with r0 | r0
 ·simp only []
  rw [h1]
  rcases r1 with r1 | r1
  ·simp only []
   rw [h2]
   rcases r2 with r2 | r2
   ·simp only []
    rw [h3]
    rcases r3 with r3 | r3 <;> exact ⟨_, rfl⟩
   ·exact ⟨_, rfl⟩
  ·exact ⟨_, rfl⟩
 ·exact ⟨_, rfl⟩
/-! up to the place that is picked -/
theorem upto {n k P : Nat} (hk : k < 4) (hn : 100 < n) (X : C4) {f : Bool} {v w x y : Int} (pre post : List Int) (Z : BitVec 64) (hF : X.els = pre ++ (elsW k Z ++ post)) (hp : pre.length ≤ P) :
  ∃ r : Int ⊕ Int, ((r = .inl (((pre ++ elsW k Z).length : Nat) : Int) ∧ (pre ++ elsW k Z).length ≤ P) ∨ r = .inr (P : Int)) ∧ m_classEach1q3_1 n (I X.a) (I X.b) (I X.c) (I X.d) (P : Int) f X.els v w x y (k : Int) (((pre.length : Nat) : Int), I Z) = some r := by
 have hlen := X.els_len
 obtain ⟨r, hr, he⟩ := whileI (B := B_classEach1q3_1 n (I X.a) (I X.b) (I X.c) (I X.d) (P : Int) f X.els v w x y (k : Int)) (fun st => ∃ (M : List Int) (Y : BitVec 64), st = (((M.length : Nat) : Int), I Y) ∧ M ++ elsW k Y = pre ++ elsW k Z ∧ M.length ≤ P) (fun st => (bitsN (BitVec.ofInt 64 st.2)).length)
  (fun r => (r = .inl (((pre ++ elsW k Z).length : Nat) : Int) ∧ (pre ++ elsW k Z).length ≤ P) ∨ r = .inr (P : Int))
  (by
   rintro _ ⟨M, Y, rfl, h1, h2⟩
   unfold B_classEach1q3_1
   simp only []
   by_cases c : Y = 0#64
   ·subst c
    have e : M = pre ++ elsW k Z := by
     rw [← h1]
     unfold elsW
     rw [bits_zero, List.map_nil, List.append_nil]
    exact .inr ⟨.inl ((M.length : Nat) : Int), .inl ⟨by rw [e], by rw [← e]; exact h2⟩, by rw [if_pos (show I 0#64 = 0 from rfl)]⟩
   ·obtain ⟨t, ht, ht64, hw, hw2, hd, hs, hm⟩ := step_facts hk c
    have hF2 : X.els = M ++ (((64 * k + t : Nat) : Int) :: (elsW k (Y &&& ~~~one t) ++ post)) := by
     rw [hF, ← List.append_assoc, ← h1, hs, List.append_assoc]
     rfl
    have hML : M.length < X.els.length := by
     rw [hF2, List.length_append, List.length_cons]
     omega
    have hg : X.els.getD M.length 0 = ((64 * k + t : Nat) : Int) := by
     rw [hF2, List.getD_eq_getElem?_getD, List.getElem?_append_right (Nat.le_refl _), Nat.sub_self]
     rfl
    have hmem : X.mem (64 * k + t) = true := by
     obtain ⟨i, _, h4, h5⟩ := mem_els.1 (show ((64 * k + t : Nat) : Int) ∈ X.els by rw [← hg]; exact getD_mem hML)
     rw [Int.ofNat_inj.1 h5]
     exact h4
    rw [if_neg (q2 c), tz_ok ht, Option.bind_some, hw, hw2, Option.bind_some, u8_id (by omega), hd]
    unfold m_viewportlaw01ClassEach_111010y2
    by_cases hP : M.length = P
    ·rw [if_pos (by omega)]
     exact .inr ⟨.inr ((M.length : Nat) : Int), .inr (by rw [hP]), rfl⟩
    ·have e2 : w64 (((M.length : Nat) : Int) + 1) = (((M ++ [((64 * k + t : Nat) : Int)]).length : Nat) : Int) := by
      rw [w64_inc (by omega), List.length_append]
      rfl
     refine .inl ⟨((((M ++ [((64 * k + t : Nat) : Int)]).length : Nat) : Int), I (Y &&& ~~~one t)), ⟨_, _, rfl, ?_, ?_⟩, hm, ?_⟩
     ·rw [← h1, hs, List.append_assoc]
      rfl
     ·rw [List.length_append, List.length_singleton]
      omega
     ·rw [if_neg (by omega), if_pos (by omega), Option.bind_some, Int.toNat_natCast, hg, if_pos rfl, has_ok X (by omega), hmem, Option.bind_some, if_pos rfl, e2]
      by_cases h0 : M.length = 0
      ·rw [if_neg (by omega)]
      ·have hw3 : w64 (((M.length : Nat) : Int) - 1) = ((M.length - 1 : Nat) : Int) := by
        rw [w64_sm (by omega) (by omega)]
        omega
       have hri := rise_at (els_rise X) (i := M.length - 1) (by omega)
       rw [show M.length - 1 + 1 = M.length by omega, hg] at hri
       rw [if_pos (by omega), hw3, if_pos (by omega), Option.bind_some, Int.toNat_natCast, if_neg (by omega)]) n (((pre.length : Nat) : Int), I Z) ⟨pre, Z, rfl, rfl, hp⟩ (by
      show (bitsN (BitVec.ofInt 64 (I Z))).length < n
      have := bits_le Z
      rw [ofI]
      omega)
 unfold m_classEach1q3_1
 exact ⟨r, hr, he⟩
theorem upto4 {n P : Nat} (hn : 100 < n) (X : C4) {f : Bool} (hP : P ≤ X.els.length) : m_classEach1q3 n (I X.a) (I X.b) (I X.c) (I X.d) (P : Int) f X.els 0 (I X.a) (I X.b) (I X.c) (I X.d) = some (.inl (P : Int)) ∨ m_classEach1q3 n (I X.a) (I X.b) (I X.c) (I X.d) (P : Int) f X.els 0 (I X.a) (I X.b) (I X.c) (I X.d) = some (.inr (P : Int)) := by
 unfold m_classEach1q3
 obtain ⟨r0, h0, g0⟩ := upto (n := n) (k := 0) (P := P) (f := f) (v := I X.a) (w := I X.b) (x := I X.c) (y := I X.d) (by omega) hn X [] (elsW 1 X.b ++ (elsW 2 X.c ++ elsW 3 X.d)) X.a rfl (Nat.zero_le _)
 have g0 : m_classEach1q3_1 n (I X.a) (I X.b) (I X.c) (I X.d) (P : Int) f X.els (I X.a) (I X.b) (I X.c) (I X.d) 0 (0, I X.a) = some r0 := g0
 rw [g0]
 rcases h0 with ⟨rfl, h0⟩ | rfl
 ·rw [List.nil_append] at h0 ⊢
  obtain ⟨r1, h1, g1⟩ := upto (n := n) (k := 1) (P := P) (f := f) (v := I X.a) (w := I X.b) (x := I X.c) (y := I X.d) (by omega) hn X (elsW 0 X.a) (elsW 2 X.c ++ elsW 3 X.d) X.b rfl h0
  have g1 : m_classEach1q3_1 n (I X.a) (I X.b) (I X.c) (I X.d) (P : Int) f X.els (I X.a) (I X.b) (I X.c) (I X.d) 1 ((((elsW 0 X.a).length : Nat) : Int), I X.b) = some r1 := g1
  simp only []
  rw [g1]
  rcases h1 with ⟨rfl, h1⟩ | rfl
  ·obtain ⟨r2, h2, g2⟩ := upto (n := n) (k := 2) (P := P) (f := f) (v := I X.a) (w := I X.b) (x := I X.c) (y := I X.d) (by omega) hn X (elsW 0 X.a ++ elsW 1 X.b) (elsW 3 X.d) X.c (by rw [List.append_assoc]; rfl) h1
   have g2 : m_classEach1q3_1 n (I X.a) (I X.b) (I X.c) (I X.d) (P : Int) f X.els (I X.a) (I X.b) (I X.c) (I X.d) 2 ((((elsW 0 X.a ++ elsW 1 X.b).length : Nat) : Int), I X.c) = some r2 := g2
   simp only []
   rw [g2]
   rcases h2 with ⟨rfl, h2⟩ | rfl
   ·obtain ⟨r3, h3, g3⟩ := upto (n := n) (k := 3) (P := P) (f := f) (v := I X.a) (w := I X.b) (x := I X.c) (y := I X.d) (by omega) hn X (elsW 0 X.a ++ elsW 1 X.b ++ elsW 2 X.c) [] X.d (by rw [List.append_assoc, List.append_assoc, List.append_nil]; rfl) h2
    have g3 : m_classEach1q3_1 n (I X.a) (I X.b) (I X.c) (I X.d) (P : Int) f X.els (I X.a) (I X.b) (I X.c) (I X.d) 3 ((((elsW 0 X.a ++ elsW 1 X.b ++ elsW 2 X.c).length : Nat) : Int), I X.d) = some r3 := g3
    simp only []
    rw [g3]
    rcases h3 with ⟨rfl, h3⟩ | rfl
    ·have e : (elsW 0 X.a ++ elsW 1 X.b ++ elsW 2 X.c ++ elsW 3 X.d).length = X.els.length := by
      unfold C4.els
      simp only [List.append_assoc]
     rw [e] at h3
     refine .inl ?_
     simp only []
     rw [e, show X.els.length = P by omega]
    ·exact .inr rfl
   ·exact .inr rfl
  ·exact .inr rfl
 ·exact .inr rfl
theorem pick_ok {n L : Nat} (hL : L ≤ 1000) (g : Int) : ∃ P : Nat, P ≤ L ∧ m_viewportkitPickq1 n g ((L + 1 : Nat) : Int) = some (P : Int) := by
 unfold m_viewportkitPickq1
 rw [if_neg (by omega), if_pos (by omega)]
 have h1 : Int.tmod g ((L + 1 : Nat) : Int) < ((L + 1 : Nat) : Int) := Int.tmod_lt_of_pos _ (by omega)
 have h2 : -((L + 1 : Nat) : Int) < Int.tmod g ((L + 1 : Nat) : Int) := Int.lt_tmod_of_pos _ (by omega)
 generalize Int.tmod g ((L + 1 : Nat) : Int) = z at h1 h2
 by_cases h : z < 0
 ·rw [if_pos h, w64_sm (by omega) (by omega)]
  exact ⟨(z + ((L + 1 : Nat) : Int)).toNat, by omega, congrArg some (by omega)⟩
 ·rw [if_neg h]
  exact ⟨z.toNat, by omega, congrArg some (by omega)⟩
theorem law_ok {n : Nat} (hn : 2000 < n) (X : C4) (g : Int) : m_viewportlaw01ClassEach n (I X.a) (I X.b) (I X.c) (I X.d) g = some () := by
 unfold m_viewportlaw01ClassEach m_viewportlaw01lives m_classEachq1
 rw [Option.bind_some, all_ok (by omega), Option.bind_some]
 have hl := els_size X
 have hle := X.els_len
 have hu := fun P hP => upto4 (n := n) (P := P) (by omega) X (f := false) hP
 simp only []
 generalize X.els = F at hl hle hu
 cases F with
 | nil =>
  simp only [List.length_nil] at hl
  simp only []
  obtain ⟨P, h1, h2⟩ := pick_ok (n := n) (L := 0) (by omega) g
  obtain rfl : P = 0 := by omega
  have h2 : m_viewportkitPickq1 n g 1 = some 0 := h2
  obtain ⟨r, hr⟩ := none_ok (n := n) (by omega) X (a := I X.a) (b := I X.b) (c := I X.c) (d := I X.d) (f := false)
  rw [if_pos trivial, len_ok, Option.bind_some, if_pos (by omega), h2, Option.bind_some, Option.bind_some, hr]
  rcases r with r | r <;> rfl
 | cons a F =>
  simp only []
  rw [if_pos trivial, len_ok, Option.bind_some, if_pos (by rw [hl]), Option.bind_some, w64_inc (by omega)]
  obtain ⟨P, h1, h2⟩ := pick_ok (n := n) (L := (a :: F).length) (by omega) g
  rw [h2, Option.bind_some, Option.bind_some]
  rcases hu P h1 with h | h
  ·rw [h]
   simp only []
   rw [if_pos trivial]
  ·rw [h]
   simp only []
   rw [if_pos trivial]
theorem classEach_true (g00 g01 g02 g03 g1 : Int) (h00 : (Lit.int .u64 g00).wf = true) (h01 : (Lit.int .u64 g01).wf = true) (h02 : (Lit.int .u64 g02).wf = true) (h03 : (Lit.int .u64 g03).wf = true) (h1 : (Lit.int .i64 g1).wf = true) : ∃ n, m_viewportlaw01ClassEach n g00 g01 g02 g03 g1 = some () := by
 obtain ⟨A, rfl, rfl, rfl, rfl⟩ := toC4 h00 h01 h02 h03
 exact ⟨2001, law_ok (by omega) A g1⟩

end Go.Proofs.YtagobfiiaaiblaaDoor.cea01
