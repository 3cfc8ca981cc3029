/-
  The pure side. No condition.
-/
import Derived.Test.YtkmebhpbfgffbaaGreatTghPure
import Derived.IntWalk
set_option linter.unusedSimpArgs false
set_option linter.unusedVariables false
set_option linter.unusedSectionVars false
set_option linter.unnecessarySimpa false
namespace Go.Proofs.YtkmebhpbfgffbaaGreat.tghw
open Go Go.Proofs.YtkmebhpbfgffbaaGreat Ax
variable [Args]


/-! a part's end, its kids' ends, its parent -/
theorem Ks.uniq {i e f : Nat} (h : Ks i 0 (i + 1) (atF i) e) (g : Ks i 0 (i + 1) (atF i) f) (hi : i < Args.A.length) : e = f := by
 obtain ⟨K, hK⟩ := bound_kd
 have a1 := endOf (n := Args.A.length + K + 20) hK h hi (by omega)
 have a2 := endOf (n := Args.A.length + K + 20) hK g hi (by omega)
 rw [a1] at a2
 have := Option.some.inj a2
 omega
theorem Ks.kid2 {i k next e : Nat} {a : Int} (h : Ks i k next a e) : ∀ q, k ≤ q → q < (kd i).length → ∃ c f : Nat, (kd i).getD q 0 = (c : Int) ∧ next ≤ c ∧ c < Args.A.length ∧ Ks c 0 (c + 1) (atF c) f ∧ f ≤ e ∧ (q + 1 < (kd i).length → (kd i).getD (q + 1) 0 = (f : Int)) ∧ (q + 1 = (kd i).length → f = e) := by
 induction h with
 | done hk => exact fun q h1 h2 => by omega
 | @kid i k next e' e a hk hv hn ha h1 h2 ih1 ih2 =>
  intro q h3 h4
  have l1 := h1.lt
  have l2 := h2.lt
  by_cases e1 : q = k
  ·subst e1
   refine ⟨next, e', hv, Nat.le_refl _, hn, h1, l2, fun hq => ?_, fun hq => ?_⟩
   ·cases h2 with
    | done hk' => omega
    | kid hk' hv' => exact hv'
   ·cases h2 with
    | done _ _ => rfl
    | kid hk' => omega
  ·obtain ⟨c, f, g1, g2, g3, g4, g5, g6, g7⟩ := ih2 q (by omega) h4
   exact ⟨c, f, g1, by omega, g3, g4, g5, g6, g7⟩
theorem Ks.par {i k next e : Nat} {a : Int} (h : Ks i k next a e) : i < next → i < Args.A.length → ∀ j : Nat, next ≤ j → j < e → ∃ p : Nat, p < j ∧ p < Args.A.length ∧ (j : Int) ∈ kd p := by
 induction h with
 | done => exact fun _ _ j h1 h2 => absurd h1 (by omega)
 | @kid i k next e' e a hk hv hn ha h1 h2 ih1 ih2 =>
  intro hi hiL j h3 h4
  have l1 := h1.lt
  by_cases e1 : j = next
  ·subst e1; exact ⟨i, hi, hiL, by rw [← hv]; exact getD_mem hk⟩
  ·rcases Nat.lt_or_ge j e' with h5 | h5
   ·exact ih1 (by omega) hn j (by omega) h5
   ·exact ih2 (by omega) hiL j h5 h4
theorem setK_get {i : Int} {c : Nat} : ∀ {ks : List Int} {L : List Int}, (∀ k ∈ ks, 0 ≤ k) → c < L.length → (setK L i ks).getD c 0 = if (c : Int) ∈ ks then i else L.getD c 0
 | [], L, _, _ => by rw [if_neg (by simp)]; rfl
 | k :: ks, L, hk, hc => by
  have ih := setK_get (i := i) (c := c) (ks := ks) (L := L.set k.toNat i) (fun k h => hk k (List.mem_cons_of_mem _ h)) (by rw [List.length_set]; exact hc)
  have h0 := hk k (List.mem_cons_self ..)
  show (setK (L.set k.toNat i) i ks).getD c 0 = _
  rw [ih]
  by_cases h1 : (c : Int) ∈ ks
  ·rw [if_pos h1, if_pos (List.mem_cons_of_mem _ h1)]
  ·rw [if_neg h1]
   by_cases h2 : (c : Int) = k
   ·subst h2
    rw [if_pos (List.mem_cons_self ..), Int.toNat_natCast, getD_set hc, if_pos rfl]
   ·rw [if_neg (fun h => by rcases List.mem_cons.1 h with h | h; exact h2 h; exact h1 h)]
    rcases Nat.lt_or_ge k.toNat L.length with h3 | h3
    ·rw [getD_set h3, if_neg (by omega)]
    ·rw [List.set_eq_of_length_le h3]
theorem kd_nat (hT : Tree) {n : Nat} (hn : n < Args.A.length) : ∀ k ∈ kd n, ∃ c : Nat, k = c ∧ n < c := fun k hk => by
 obtain ⟨q, hq, rfl⟩ := mem_getD 0 hk
 obtain ⟨c, e, h3, _⟩ := hT.kid hn hq
 exact ⟨c, e, h3⟩
theorem parN_mem (hT : Tree) {c : Nat} (hc : c < Args.A.length) : ∀ n, n ≤ Args.A.length → (∃ p : Nat, p < n ∧ (c : Int) ∈ kd p) → ∃ p : Nat, (parN n par0).getD c 0 = (p : Int) ∧ p < n ∧ (c : Int) ∈ kd p
 | 0, _, ⟨p, h, _⟩ => absurd h (Nat.not_lt_zero _)
 | n + 1, hn, ⟨p, h1, h2⟩ => by
  have h0 : par0.length = Args.A.length := by unfold par0; rw [List.length_set, List.length_replicate]
  have hg := setK_get (i := (n : Int)) (c := c) (ks := kd n) (L := parN n par0) (fun k hk => by obtain ⟨d, e, _⟩ := kd_nat hT (by omega : n < Args.A.length) k hk; omega) (by rw [parN_len, h0]; exact hc)
  show ∃ p : Nat, (setK (parN n par0) (n : Int) (kd n)).getD c 0 = (p : Int) ∧ _
  rw [hg]
  by_cases h : (c : Int) ∈ kd n
  ·rw [if_pos h]; exact ⟨n, rfl, Nat.lt_succ_self _, h⟩
  ·rw [if_neg h]
   have : p ≠ n := fun e => h (e ▸ h2)
   obtain ⟨q, g1, g2, g3⟩ := parN_mem hT hc n (by omega) ⟨p, by omega, h2⟩
   exact ⟨q, g1, by omega, g3⟩
theorem par_end (hT : Tree) {c f : Nat} (h0 : 0 < c) (hc : c < Args.A.length) (hf : Ks c 0 (c + 1) (atF c) f) : ∃ p e : Nat, parL.getD c 0 = (p : Int) ∧ p < c ∧ Ks p 0 (p + 1) (atF p) e ∧ f ≤ e := by
 obtain ⟨p, h1, h2, h3⟩ := hT.ks.par (Nat.zero_lt_one) hT.pos c h0 hc
 obtain ⟨p, g1, g2, g3⟩ := parN_mem hT hc Args.A.length (Nat.le_refl _) ⟨p, h2, h3⟩
 obtain ⟨e, k1, k2, k3⟩ := hT.end g2
 obtain ⟨q, hq, hqc⟩ := mem_getD 0 g3
 obtain ⟨c', f', m1, m2, m3, m4, m5, _, _⟩ := k1.kid2 q (Nat.zero_le _) hq
 have : c' = c := by omega
 subst this
 have := Ks.uniq hf m4 hc
 exact ⟨p, e, g1, by omega, k1, by omega⟩
theorem climbF_end (hT : Tree) : ∀ (t i f : Nat), i < Args.A.length → Ks i 0 (i + 1) (atF i) f → ∃ k e : Nat, climbF parL t (i : Int) = k ∧ k ≤ i ∧ Ks k 0 (k + 1) (atF k) e ∧ f ≤ e
 | 0, i, f, hi, hf => ⟨i, f, rfl, Nat.le_refl _, hf, Nat.le_refl _⟩
 | t + 1, i, f, hi, hf => by
  unfold climbF
  by_cases h0 : (i : Int) > 0
  ·rw [if_pos h0, Int.toNat_natCast]
   obtain ⟨p, e, h1, h2, h3, h4⟩ := par_end hT (by omega) hi hf
   rw [h1]
   obtain ⟨k, e2, g1, g2, g3, g4⟩ := climbF_end hT t p e (by omega) h3
   exact ⟨k, e2, g1, by omega, g3, by omega⟩
  ·rw [if_neg h0]; exact ⟨i, f, rfl, Nat.le_refl _, hf, Nat.le_refl _⟩
theorem climbF_neg {L : List Int} {i : Int} (h : ¬ i > 0) : ∀ t, climbF L t i = i
 | 0 => rfl
 | t + 1 => by unfold climbF; rw [if_neg h]
theorem climbF_add {L : List Int} : ∀ (s t : Nat) (i : Int), climbF L (s + t) i = climbF L t (climbF L s i)
 | 0, t, i => by rw [Nat.zero_add]; rfl
 | s + 1, t, i => by
  rw [show s + 1 + t = (s + t) + 1 by omega]
  by_cases h : i > 0
  ·have e : ∀ t, climbF L (t + 1) i = climbF L t (L.getD i.toNat 0) := fun t => by
    show (if i > 0 then climbF L t (L.getD i.toNat 0) else i) = _
    rw [if_pos h]
   rw [e, e, climbF_add s t]
  ·rw [climbF_neg h, climbF_neg h, climbF_neg h]

/-! what the job met -/
def bitF (a0 : Int) (i : Nat) : Int := bAnd .u64 (shrV .u64 (pt i).2.2.2.2.2.2.2 a0) 1
theorem and1 (x : Int) : bAnd .u64 x 1 = 0 ∨ bAnd .u64 x 1 = 1 := by
 unfold bAnd
 have h : (BitVec.ofInt IntKind.u64.bits x &&& BitVec.ofInt IntKind.u64.bits 1).toNat = (BitVec.ofInt IntKind.u64.bits x).toNat % 2 := by
  rw [BitVec.toNat_and]
  have : (BitVec.ofInt IntKind.u64.bits 1).toNat = 1 := by decide
  rw [this, Nat.and_one_is_mod]
 rw [h]
 rcases Nat.mod_two_eq_zero_or_one (BitVec.ofInt IntKind.u64.bits x).toNat with h | h <;> rw [h]
 ·exact .inl (by decide)
 ·exact .inr (by decide)
def Mets (a0 : Int) (i : Nat) : Prop := bitF a0 i = 1
theorem bit0 {a0 : Int} {i : Nat} : bitF a0 i = 0 ↔ ¬ Mets a0 i := by
 unfold Mets
 rcases and1 (shrV .u64 (pt i).2.2.2.2.2.2.2 a0) with h | h
 ·have h : bitF a0 i = 0 := h
  rw [h]; exact ⟨fun _ => by decide, fun _ => rfl⟩
 ·have h : bitF a0 i = 1 := h
  rw [h]; exact ⟨fun h => absurd h (by decide), fun h => absurd rfl h⟩
structure Seen (a0 : Int) (n : Nat) (x y : Int) (z : Bool) : Prop where
 no : z = false → ∀ j, j < n → ¬ Mets a0 j
 yes : z = true → ∃ f l : Nat, x = f ∧ y = l ∧ f < n ∧ l < n ∧ Mets a0 f ∧ Mets a0 l ∧ ∀ j, j < n → Mets a0 j → f ≤ j ∧ j ≤ l
theorem search_spec {n : Nat} {a0 a1 a2 a3 a4 : Int} (hL : Args.A.length ≤ 1000000) (hn : Args.A.length < n) (h0 : 0 ≤ a0) : ∃ x y z, m_targetsearchForq1 n a0 a1 a2 a3 a4 = some (x, y, z) ∧ Seen a0 Args.A.length x y z := by
 obtain ⟨r, hr, h⟩ := hoare (B := B_targetsearchForq1_1 n a0 a1 a2 a3 a4 (Args.A.length : Int)) (σ := Int × Int × Bool) (fun s i => (s.1, s.2.1, s.2.2, i)) (fun i s => Seen a0 i s.1 s.2.1 s.2.2) (fun r => Seen a0 Args.A.length r.1 r.2.1 r.2.2) Args.A.length
  (fun i s hi hI => by
   obtain ⟨x, y, b⟩ := s
   dsimp only at hI
   refine .inl ?_
   unfold B_targetsearchForq1_1
   dsimp only
   rw [if_pos (by omega), if_pos (by omega), w64_inc (by omega)]
   simp only [Option.bind_some, Int.toNat_natCast]
   rw [if_pos h0]
   by_cases hb : bitF a0 i = 0
   ·rw [if_pos (show bAnd .u64 (shrV .u64 (Args.A.getD i (0, 0, 0, 0, 0, 0, nl0, 0)).2.2.2.2.2.2.2 a0) 1 = 0 from hb)]
    have hm := bit0.1 hb
    refine ⟨(x, y, b), ⟨fun hz j hj => ?_, fun hz => ?_⟩, rfl⟩
    ·by_cases e : j = i
     ·subst e; exact hm
     ·exact hI.no hz j (by omega)
    ·obtain ⟨f, l, h1, h2, h3, h4, h5, h6, h7⟩ := hI.yes hz
     refine ⟨f, l, h1, h2, by omega, by omega, h5, h6, fun j hj hmj => ?_⟩
     by_cases e : j = i
     ·subst e; exact absurd hmj hm
     ·exact h7 j (by omega) hmj
   ·rw [if_neg (show ¬ bAnd .u64 (shrV .u64 (Args.A.getD i (0, 0, 0, 0, 0, 0, nl0, 0)).2.2.2.2.2.2.2 a0) 1 = 0 from hb)]
    have hm : Mets a0 i := Classical.not_not.1 (fun h => hb (bit0.2 h))
    cases b with
    | true =>
     rw [if_pos rfl]
     obtain ⟨f, l, h1, h2, h3, h4, h5, h6, h7⟩ := hI.yes rfl
     refine ⟨(x, (i : Int), true), ⟨(fun hz => by cases hz), fun _ => ⟨f, i, h1, rfl, by omega, by omega, h5, hm, fun j hj hmj => ?_⟩⟩, rfl⟩
     by_cases e : j = i
     ·subst e; omega
     ·have := h7 j (by omega) hmj; omega
    | false =>
     rw [if_neg (by decide)]
     refine ⟨((i : Int), (i : Int), true), ⟨(fun hz => by cases hz), fun _ => ⟨i, i, rfl, rfl, by omega, by omega, hm, hm, fun j hj hmj => ?_⟩⟩, rfl⟩
     by_cases e : j = i
     ·subst e; omega
     ·exact absurd hmj (hI.no rfl j (by omega)))
  (fun s hI => by
   obtain ⟨x, y, b⟩ := s
   unfold B_targetsearchForq1_1
   dsimp only
   rw [if_neg (by omega)]
   exact ⟨(x, y, b), hI, rfl⟩) n 0 (0, 0, false) (Nat.zero_le _) ⟨fun _ j hj => absurd hj (Nat.not_lt_zero _), fun h => by cases h⟩ (by omega)
 obtain ⟨x, y, z⟩ := r
 refine ⟨x, y, z, ?_, hr⟩
 unfold m_targetsearchForq1
 have h : m_targetsearchForq1_1 n a0 a1 a2 a3 a4 (Args.A.length : Int) (0, 0, false, 0) = some (x, y, z) := h
 rw [h]
 rfl
def Hold (a0 a1 a2 : Int) (i e : Nat) : Prop := a1 ≤ a2 ∧ atF i ≤ a1 ∧ a2 ≤ toF i ∧ ∀ j, j < Args.A.length → Mets a0 j → i ≤ j ∧ j < e
def inner (i : Nat) : Prop := (pt i).2.1 = 1 ∨ (pt i).2.1 = 2
theorem holds_spec {n : Nat} {a0 a1 a2 a3 a4 x y : Int} {z : Bool} {i e : Nat} (hS : Seen a0 Args.A.length x y z) (hi : i < Args.A.length) : ∃ b, m_targetsearchholdsq1 n a0 a1 a2 a3 a4 x y z (i : Int) (e : Int) = some b ∧ (b = true ↔ inner i ∧ Hold a0 a1 a2 i e) := by
 have fin : inner i → ∃ b, (if a1 > a2 then some false else if a1 < (pt i).2.2.1 then some false else if a2 > (pt i).2.2.2.2.1 then some false else if z = true then (if x ≥ (i : Int) then (if y < (e : Int) then some true else some false) else some false) else some true) = some b ∧ (b = true ↔ inner i ∧ Hold a0 a1 a2 i e) := by
  intro hin
  by_cases c1 : a1 > a2
  ·rw [if_pos c1]; exact ⟨_, rfl, fun h => by (cases h), fun h => by (have := h.2.1; omega)⟩
  rw [if_neg c1]
  by_cases c2 : a1 < (pt i).2.2.1
  ·rw [if_pos c2]; exact ⟨_, rfl, fun h => by (cases h), fun h => by (have : (pt i).2.2.1 ≤ a1 := h.2.2.1; omega)⟩
  rw [if_neg c2]
  by_cases c3 : a2 > (pt i).2.2.2.2.1
  ·rw [if_pos c3]; exact ⟨_, rfl, fun h => by (cases h), fun h => by (have : a2 ≤ (pt i).2.2.2.2.1 := h.2.2.2.1; omega)⟩
  rw [if_neg c3]
  have g1 : atF i ≤ a1 := by show (pt i).2.2.1 ≤ a1; omega
  have g2 : a2 ≤ toF i := by show a2 ≤ (pt i).2.2.2.2.1; omega
  cases z with
  | false =>
   rw [if_neg (by decide)]
   exact ⟨_, rfl, fun _ => ⟨hin, by omega, g1, g2, fun j hj hm => absurd hm (hS.no rfl j hj)⟩, fun _ => rfl⟩
  | true =>
   rw [if_pos rfl]
   obtain ⟨f, l, rfl, rfl, h3, h4, h5, h6, h7⟩ := hS.yes rfl
   by_cases c5 : (f : Int) ≥ (i : Int)
   ·rw [if_pos c5]
    by_cases c6 : (l : Int) < (e : Int)
    ·rw [if_pos c6]
     exact ⟨_, rfl, fun _ => ⟨hin, by omega, g1, g2, fun j hj hm => by have := h7 j hj hm; omega⟩, fun _ => rfl⟩
    ·rw [if_neg c6]
     exact ⟨_, rfl, fun h => by (cases h), fun h => by (have := h.2.2.2.2 l h4 h6; omega)⟩
   ·rw [if_neg c5]
    exact ⟨_, rfl, fun h => by (cases h), fun h => by (have := h.2.2.2.2 f h3 h5; omega)⟩
 unfold m_targetsearchholdsq1 m_partsInnerq1
 rw [if_pos (by omega)]
 simp only [Option.bind_some, Int.toNat_natCast]
 by_cases k1 : (pt i).2.1 = 1
 ·rw [if_pos (show (Args.A.getD i (0, 0, 0, 0, 0, 0, nl0, 0)).2.1 = 1 from k1)]
  simp only [Option.bind_some]
  rw [if_pos trivial]; exact fin (.inl k1)
 ·rw [if_neg (show ¬ (Args.A.getD i (0, 0, 0, 0, 0, 0, nl0, 0)).2.1 = 1 from k1)]
  by_cases k2 : (pt i).2.1 = 2
  ·rw [if_pos (show (Args.A.getD i (0, 0, 0, 0, 0, 0, nl0, 0)).2.1 = 2 from k2)]
   simp only [Option.bind_some]
   rw [if_pos trivial]; exact fin (.inr k2)
  ·rw [if_neg (show ¬ (Args.A.getD i (0, 0, 0, 0, 0, 0, nl0, 0)).2.1 = 2 from k2)]
   simp only [Option.bind_some]
   rw [if_neg (by decide)]
   exact ⟨_, rfl, fun h => by (cases h), fun h => by (rcases h.1 with h | h; exact absurd h k1; exact absurd h k2)⟩
theorem base2_spec {n i e : Nat} {a0 a1 a2 a3 a4 x y : Int} {z : Bool} (hT : Tree) (hS : Seen a0 Args.A.length x y z) (hi : i < Args.A.length) (hn : (kd i).length < n) (he : Ks i 0 (i + 1) (atF i) e) : ∃ r, m_targetBaseq1_2 n a0 a1 a2 a3 a4 x y z (i : Int) (e : Int) (pt i).2.2.2.2.2.2.1 ((kd i).length : Int) 0 = some r ∧ (∀ c f, r = .inl (c, f) → ∃ k g : Nat, c = k ∧ f = g ∧ i < k ∧ k < Args.A.length ∧ Ks k 0 (k + 1) (atF k) g ∧ Hold a0 a1 a2 k g) ∧ (∀ u, r = .inr u → ∀ q, q < (kd i).length → ∀ c f : Nat, (kd i).getD q 0 = (c : Int) → Ks c 0 (c + 1) (atF c) f → ¬ (inner c ∧ Hold a0 a1 a2 c f)) := by
 have hkl := kd_le i
 obtain ⟨r, q1, h⟩ := hoare (B := B_targetBaseq1_2 n a0 a1 a2 a3 a4 x y z (i : Int) (e : Int) (pt i).2.2.2.2.2.2.1 ((kd i).length : Int)) (σ := Unit) (fun _ q => q) (fun q _ => ∀ q', q' < q → ∀ c f : Nat, (kd i).getD q' 0 = (c : Int) → Ks c 0 (c + 1) (atF c) f → ¬ (inner c ∧ Hold a0 a1 a2 c f)) (fun r => (∀ c f, r = .inl (c, f) → ∃ k g : Nat, c = k ∧ f = g ∧ i < k ∧ k < Args.A.length ∧ Ks k 0 (k + 1) (atF k) g ∧ Hold a0 a1 a2 k g) ∧ (∀ u, r = .inr u → ∀ q, q < (kd i).length → ∀ c f : Nat, (kd i).getD q 0 = (c : Int) → Ks c 0 (c + 1) (atF c) f → ¬ (inner c ∧ Hold a0 a1 a2 c f))) (kd i).length
  (fun q s hq hI => by
   obtain ⟨c, f, h1, h2, h3, h4, h5, h6, h7⟩ := he.kid2 q (Nat.zero_le _) hq
   have hB : B_targetBaseq1_2 n a0 a1 a2 a3 a4 x y z (i : Int) (e : Int) (pt i).2.2.2.2.2.2.1 ((kd i).length : Int) (q : Int) = (some ((kd i).getD q 0)).bind fun y' => if w64 ((q : Int) + 1) < (((kd i).length : Nat) : Int) then (if 0 ≤ w64 ((q : Int) + 1) ∧ w64 ((q : Int) + 1) < (((kd i).length : Nat) : Int) then (if (w64 ((q : Int) + 1)).toNat < (kd i).length then (some ((kd i).getD (w64 ((q : Int) + 1)).toNat 0)).bind fun z' => (m_targetsearchholdsq1 n a0 a1 a2 a3 a4 x y z y' z').bind fun b => if b = true then some (.inr (.inl (y', z'))) else some (.inl (w64 ((q : Int) + 1))) else none) else none) else (m_targetsearchholdsq1 n a0 a1 a2 a3 a4 x y z y' (e : Int)).bind fun b => if b = true then some (.inr (.inl (y', (e : Int)))) else some (.inl (w64 ((q : Int) + 1))) := by
    unfold B_targetBaseq1_2
    dsimp only
    rw [if_pos (by omega), if_pos (show (0 : Int) ≤ (q : Int) ∧ (q : Int) < (((pt i).2.2.2.2.2.2.1.l.length : Nat) : Int) from ⟨Int.natCast_nonneg _, Int.ofNat_lt.2 hq⟩), if_pos (show ((q : Int)).toNat < (pt i).2.2.2.2.2.2.1.l.length from by rw [Int.toNat_natCast]; exact hq)]
    simp only [Int.toNat_natCast]
    rfl
   have hB2 : B_targetBaseq1_2 n a0 a1 a2 a3 a4 x y z (i : Int) (e : Int) (pt i).2.2.2.2.2.2.1 ((kd i).length : Int) (q : Int) = (m_targetsearchholdsq1 n a0 a1 a2 a3 a4 x y z (c : Int) (f : Int)).bind fun b => if b = true then some (.inr (.inl ((c : Int), (f : Int)))) else some (.inl (((q + 1 : Nat)) : Int)) := by
    rw [hB, h1, w64_inc' (by omega)]
    simp only [Option.bind_some, Int.toNat_natCast]
    by_cases c1 : (((q + 1 : Nat)) : Int) < (((kd i).length : Nat) : Int)
    ·rw [if_pos c1, if_pos (by omega), if_pos (by omega), h6 (by omega)]
    ·rw [if_neg c1, ← h7 (by omega)]
   rw [hB2]
   obtain ⟨b, hb, hbs⟩ := holds_spec (n := n) (a1 := a1) (a2 := a2) (a3 := a3) (a4 := a4) (e := f) hS h3
   rw [hb]
   simp only [Option.bind_some]
   cases b with
   | true =>
    rw [if_pos rfl]
    refine .inr ⟨_, ⟨fun c' f' hh => ?_, fun u hh => by cases hh⟩, rfl⟩
    obtain ⟨rfl, rfl⟩ := Prod.mk.inj (Sum.inl.inj hh)
    exact ⟨c, f, rfl, rfl, by omega, h3, h4, (hbs.1 rfl).2⟩
   | false =>
    rw [if_neg (by decide)]
    refine .inl ⟨(), fun q' hq' c' f' e1 e2 => ?_, rfl⟩
    by_cases e3 : q' = q
    ·subst e3
     have : c' = c := by omega
     subst this
     have := Ks.uniq h4 e2 h3
     subst this
     exact fun hh => by have := hbs.2 hh; cases this
    ·exact hI q' (by omega) c' f' e1 e2)
  (fun s hI => by
   unfold B_targetBaseq1_2
   dsimp only
   rw [if_neg (by omega)]
   exact ⟨.inr (), ⟨fun c f h => by (cases h), fun u _ => hI⟩, rfl⟩) n 0 () (Nat.zero_le _) (fun q' h => absurd h (Nat.not_lt_zero _)) (by omega)
 exact ⟨r, h, q1⟩
theorem base1_spec {n K : Nat} {a0 a1 a2 a3 a4 x y : Int} {z : Bool} (hT : Tree) (hS : Seen a0 Args.A.length x y z) (hK : ∀ j, (kd j).length ≤ K) (hn : Args.A.length + K < n) : ∃ b e : Nat, m_targetBaseq1_1 n a0 a1 a2 a3 a4 x y z (0, (Args.A.length : Int)) = some (b : Int) ∧ b < Args.A.length ∧ Ks b 0 (b + 1) (atF b) e ∧ (0 < b → Hold a0 a1 a2 b e) ∧ (∀ q, q < (kd b).length → ∀ c f : Nat, (kd b).getD q 0 = (c : Int) → Ks c 0 (c + 1) (atF c) f → ¬ (inner c ∧ Hold a0 a1 a2 c f)) := by
 have hpos := hT.pos
 obtain ⟨r, ⟨b, e, rfl, hb⟩, h⟩ := whileI (B := B_targetBaseq1_1 n a0 a1 a2 a3 a4 x y z) (fun s => ∃ i e : Nat, s.1 = i ∧ s.2 = e ∧ i < Args.A.length ∧ Ks i 0 (i + 1) (atF i) e ∧ (0 < i → Hold a0 a1 a2 i e)) (fun s => Args.A.length - s.1.toNat) (fun r => ∃ b e : Nat, r = (b : Int) ∧ b < Args.A.length ∧ Ks b 0 (b + 1) (atF b) e ∧ (0 < b → Hold a0 a1 a2 b e) ∧ (∀ q, q < (kd b).length → ∀ c f : Nat, (kd b).getD q 0 = (c : Int) → Ks c 0 (c + 1) (atF c) f → ¬ (inner c ∧ Hold a0 a1 a2 c f)))
  (fun s hI => by
   obtain ⟨a, e'⟩ := s
   obtain ⟨i, e, e1, e2, hi, he, hh⟩ := hI
   dsimp only at e1 e2
   subst e1
   subst e2
   have hk := hK i
   obtain ⟨r, h1, h2, h3⟩ := base2_spec (n := n) (a1 := a1) (a2 := a2) (a3 := a3) (a4 := a4) hT hS hi (by omega) he
   have hB : B_targetBaseq1_1 n a0 a1 a2 a3 a4 x y z ((i : Int), (e : Int)) = match m_targetBaseq1_2 n a0 a1 a2 a3 a4 x y z (i : Int) (e : Int) (pt i).2.2.2.2.2.2.1 ((kd i).length : Int) 0 with
     | none => none
     | some (.inl (c, f)) => some (.inl (c, f))
     | some (.inr _) => some (.inr (i : Int)) := by
    unfold B_targetBaseq1_1
    dsimp only
    rw [if_pos (by omega)]
    simp only [Option.bind_some, Int.toNat_natCast]
    rfl
   rw [hB, h1]
   rcases r with ⟨c, f⟩ | u
   ·obtain ⟨k, g, rfl, rfl, g1, g2, g3, g4⟩ := h2 c f rfl
    exact .inl ⟨((k : Int), (g : Int)), ⟨k, g, rfl, rfl, g2, g3, fun _ => g4⟩, by dsimp only; omega, rfl⟩
   ·exact .inr ⟨_, ⟨i, e, rfl, hi, he, hh, h3 u rfl⟩, rfl⟩) n (0, (Args.A.length : Int)) ⟨0, Args.A.length, rfl, rfl, hpos, hT.ks, fun h => absurd h (Nat.lt_irrefl _)⟩ (by dsimp only; omega)
 exact ⟨b, e, h, hb⟩
theorem base_spec {n K : Nat} {a0 a1 a2 a3 : Int} (hT : Tree) (hr : (pt 0).2.1 = 1) (hK : ∀ j, (kd j).length ≤ K) (hn : Args.A.length + K < n) : ∃ b e : Nat, (∀ a4, m_targetBaseq1 n a0 a1 a2 a3 a4 = some (b : Int)) ∧ b < Args.A.length ∧ Ks b 0 (b + 1) (atF b) e ∧ (0 < b → (0 ≤ a0 ∧ a0 ≤ 63) ∧ Hold a0 a1 a2 b e) ∧ (0 ≤ a0 ∧ a0 ≤ 63 → ∀ q, q < (kd b).length → ∀ c f : Nat, (kd b).getD q 0 = (c : Int) → Ks c 0 (c + 1) (atF c) f → ¬ (inner c ∧ Hold a0 a1 a2 c f)) := by
 have hpos := hT.pos
 have hmax := hT.max
 unfold m_targetBaseq1
 rw [rooted_ok hT (by omega) hr]
 simp only [Option.bind_some]
 by_cases c1 : a0 < 0
 ·exact ⟨0, Args.A.length, (fun a4 => by rw [if_pos trivial, if_pos c1]; rfl), hpos, hT.ks, fun h => absurd h (Nat.lt_irrefl _), fun h => by omega⟩
 by_cases c2 : a0 > 63
 ·exact ⟨0, Args.A.length, (fun a4 => by rw [if_pos trivial, if_neg c1, if_pos c2]; rfl), hpos, hT.ks, fun h => absurd h (Nat.lt_irrefl _), fun h => by omega⟩
 obtain ⟨x, y, z, hs, hS⟩ := search_spec (n := n) (a0 := a0) (a1 := a1) (a2 := a2) (a3 := a3) (a4 := 0) (by omega) (by omega) (by omega)
 obtain ⟨b, e, hb, hlt, h1, h2, h3⟩ := base1_spec (n := n) (a1 := a1) (a2 := a2) (a3 := a3) (a4 := 0) hT hS hK hn
 refine ⟨b, e, fun a4 => ?_, hlt, h1, fun h => ⟨by omega, h2 h⟩, fun _ => h3⟩
 rw [if_pos trivial, if_neg c1, if_neg c2]
 have e1 : m_targetsearchForq1 n a0 a1 a2 a3 a4 = m_targetsearchForq1 n a0 a1 a2 a3 0 := rfl
 rw [e1, hs]
 simp only [Option.bind_some]
 have e2 : m_targetBaseq1_1 n a0 a1 a2 a3 a4 x y z (0, (Args.A.length : Int)) = m_targetBaseq1_1 n a0 a1 a2 a3 0 x y z (0, (Args.A.length : Int)) := rfl
 rw [e2, hb]
 rfl


/-! TargetHolds -/
theorem ne_consI {L : List Int} (h : 0 < L.length) : ∃ a t, L = a :: t := by
 cases L with
 | nil => simp at h
 | cons a t => exact ⟨a, t, rfl⟩
theorem lightP_ok {n : Nat} (hL : Args.A.length ≤ 1000000 ∨ True) (hn : 200 < n) : ∃ b, m_viewportkitLightPartsq1 n 100 = some b ∧ (b = true → Args.A.length ≤ 100) := by
 obtain ⟨r, -, h⟩ := whileI (B := B_viewportkitLightPartsq1_1 n 100) (fun s => ∃ i : Nat, s.2 = i ∧ i ≤ 101) (fun s => 101 - s.2.toNat) (fun r => True)
  (fun s hI => by
   obtain ⟨x, q⟩ := s
   obtain ⟨i, rfl, hi⟩ := hI
   unfold B_viewportkitLightPartsq1_1
   dsimp only
   by_cases c1 : (i : Int) < ((Args.A.length : Nat) : Int)
   ·rw [if_pos c1]
    by_cases c2 : (i : Int) ≤ 100
    ·rw [if_pos c2, if_pos (by omega), w64_inc (by omega)]
     simp only [Option.bind_some]
     generalize Args.A.getD ((i : Int)).toNat (0, 0, 0, 0, 0, 0, nl0, 0) = p
     by_cases d1 : p.2.2.1 > 1048576
     ·rw [if_pos d1]; exact .inr ⟨_, trivial, rfl⟩
     rw [if_neg d1]
     by_cases d2 : p.2.2.2.2.1 > 1048576
     ·rw [if_pos d2]; exact .inr ⟨_, trivial, rfl⟩
     rw [if_neg d2]
     by_cases d3 : p.2.2.2.2.2.1 > 1048576
     ·rw [if_pos d3]; exact .inr ⟨_, trivial, rfl⟩
     rw [if_neg d3]
     by_cases d4 : p.2.2.1 < -1048576
     ·rw [if_pos d4]; exact .inr ⟨_, trivial, rfl⟩
     rw [if_neg d4]
     by_cases d5 : p.2.2.2.2.1 < -1048576
     ·rw [if_pos d5]; exact .inr ⟨_, trivial, rfl⟩
     rw [if_neg d5]
     by_cases d6 : p.2.2.2.2.2.1 < -1048576
     ·rw [if_pos d6]; exact .inr ⟨_, trivial, rfl⟩
     rw [if_neg d6]
     exact .inl ⟨(_, ((i + 1 : Nat) : Int)), ⟨i + 1, rfl, by omega⟩, by dsimp only; omega, rfl⟩
    ·rw [if_neg c2]; exact .inr ⟨_, trivial, rfl⟩
   ·rw [if_neg c1]; exact .inr ⟨_, trivial, rfl⟩) n (0, 0) ⟨0, rfl, by omega⟩ (by dsimp only; omega)
 unfold m_viewportkitLightPartsq1 m_viewportkitLightPartsq1_1
 rw [h]
 rcases r with r | r
 ·exact ⟨_, rfl, fun h => by cases h⟩
 ·dsimp only
  by_cases c1 : ((Args.A.length : Nat) : Int) ≤ 100
  ·rw [if_pos c1]
   split
   ·exact ⟨_, rfl, fun _ => by omega⟩
   ·exact ⟨_, rfl, fun h => by cases h⟩
  ·rw [if_neg c1]; exact ⟨_, rfl, fun h => by cases h⟩
theorem refEnd {n K i e : Nat} (hK : ∀ j, (kd j).length ≤ K) (hn : Args.A.length + K + 20 < n) (hc : m_viewportref16Checkq1 n = some 0) (he : Ks i 0 (i + 1) (atF i) e) (hi : i < Args.A.length) : m_viewportref16Endq1 n (i : Int) = some (e : Int) := by
 unfold m_viewportref16Endq1 m_viewportref16isq1
 rw [hc]
 simp only [Option.bind_some]
 rw [if_pos trivial, if_pos (by omega), if_pos (by omega)]
 simp only [Option.bind_some]
 rw [if_pos trivial, endOf hK he hi (by omega)]
 rfl

def inJ (a0 : Int) (i e j : Nat) : Bool := if bitF a0 j = 1 then decide (i ≤ j ∧ j < e) else true
theorem done_spec {n K i e : Nat} {a0 a1 a2 a3 a4 : Int} (hT : Tree) (hK : ∀ j, (kd j).length ≤ K) (hn : Args.A.length + K + 20 < n) (hck : m_viewportref16Checkq1 n = some 0) (hi : i < Args.A.length) (he : Ks i 0 (i + 1) (atF i) e) : ∃ b, m_viewportref20Doneq1 n (i : Int) a0 a1 a2 a3 a4 = some b ∧ (b = true ↔ (0 ≤ a0 ∧ a0 ≤ 63) ∧ Hold a0 a1 a2 i e) := by
 have hmax := hT.max
 unfold m_viewportref20Doneq1 m_viewportref20slotq1
 rw [hck]
 simp only [Option.bind_some]
 rw [if_pos trivial, if_neg (by omega), if_neg (by omega)]
 by_cases s1 : a0 ≥ 0
 ·by_cases s2 : a0 ≤ 63
  ·rw [if_pos s1, if_pos s2]
   simp only [Option.bind_some]
   rw [if_pos trivial, if_pos (by omega)]
   simp only [Int.toNat_natCast]
   by_cases c1 : a1 < atF i
   ·rw [if_pos (show a1 < (Args.A.getD i (0, 0, 0, 0, 0, 0, nl0, 0)).2.2.1 from c1)]
    exact ⟨_, rfl, fun h => by (cases h), fun h => by (have := h.2.2.1; omega)⟩
   rw [if_neg (show ¬ a1 < (Args.A.getD i (0, 0, 0, 0, 0, 0, nl0, 0)).2.2.1 from c1)]
   by_cases c2 : a2 > toF i
   ·rw [if_pos (show a2 > (Args.A.getD i (0, 0, 0, 0, 0, 0, nl0, 0)).2.2.2.2.1 from c2)]
    exact ⟨_, rfl, fun h => by (cases h), fun h => by (have := h.2.2.2.1; omega)⟩
   rw [if_neg (show ¬ a2 > (Args.A.getD i (0, 0, 0, 0, 0, 0, nl0, 0)).2.2.2.2.1 from c2)]
   by_cases c3 : a1 > a2
   ·rw [if_pos c3]
    exact ⟨_, rfl, fun h => by (cases h), fun h => by (have := h.2.1; omega)⟩
   rw [if_neg c3, refEnd hK hn hck he hi]
   simp only [Option.bind_some]
   have hw : IntKind.u64.wrap a0 = a0 := IntWalk.u64_in _ ⟨s1, by omega⟩
   have hs := scan (B := B_viewportref20Doneq1_1 n (i : Int) a0 a1 a2 a3 a4 (e : Int)) Args.A.length (inJ a0 i e) () ()
    (fun j hj => by
     unfold B_viewportref20Doneq1_1
     dsimp only
     rw [if_pos (by omega), if_pos (by omega), hw, w64_inc (by omega)]
     simp only [Option.bind_some, Int.toNat_natCast]
     rw [if_pos s1]
     unfold inJ
     by_cases hb : bitF a0 j = 1
     ·rw [if_pos (show bAnd .u64 (shrV .u64 (Args.A.getD j (0, 0, 0, 0, 0, 0, nl0, 0)).2.2.2.2.2.2.2 a0) 1 = 1 from hb), if_pos hb]
      by_cases d1 : j < i
      ·rw [if_pos (by omega), if_neg (by simp; omega)]
      ·rw [if_neg (by omega)]
       by_cases d2 : j ≥ e
       ·rw [if_pos (by omega), if_neg (by simp; omega)]
       ·rw [if_neg (by omega), if_pos (by simp; omega)]
     ·rw [if_neg (show ¬ bAnd .u64 (shrV .u64 (Args.A.getD j (0, 0, 0, 0, 0, 0, nl0, 0)).2.2.2.2.2.2.2 a0) 1 = 1 from hb), if_neg hb, if_pos rfl])
    (by
     unfold B_viewportref20Doneq1_1
     dsimp only
     rw [if_neg (by omega)]) n (by omega)
   unfold m_viewportref20Doneq1_1
   rw [hs]
   have hall : (List.range Args.A.length).all (inJ a0 i e) = true ↔ ∀ j, j < Args.A.length → Mets a0 j → i ≤ j ∧ j < e := by
    rw [List.all_eq_true]
    constructor
    ·intro h j hj hm
     have := h j (List.mem_range.2 hj)
     unfold inJ at this
     rw [if_pos (show bitF a0 j = 1 from hm)] at this
     exact of_decide_eq_true this
    ·intro h j hj
     unfold inJ
     by_cases hb : bitF a0 j = 1
     ·rw [if_pos hb]
      exact decide_eq_true (h j (List.mem_range.1 hj) hb)
     ·rw [if_neg hb]
   by_cases ha : (List.range Args.A.length).all (inJ a0 i e) = true
   ·rw [if_pos ha]
    exact ⟨_, rfl, fun _ => ⟨⟨s1, s2⟩, by omega, by omega, by omega, hall.1 ha⟩, fun _ => rfl⟩
   ·rw [if_neg ha]
    exact ⟨_, rfl, fun h => by (cases h), fun h => absurd (hall.2 h.2.2.2.2) ha⟩
  ·rw [if_pos s1, if_neg s2]
   simp only [Option.bind_some]
   rw [if_neg (by decide)]
   exact ⟨_, rfl, fun h => by (cases h), fun h => absurd h.1.2 s2⟩
 ·rw [if_neg s1]
  simp only [Option.bind_some]
  rw [if_neg (by decide)]
  exact ⟨_, rfl, fun h => by (cases h), fun h => absurd h.1.1 s1⟩
theorem target_spec {n K : Nat} {a0 a1 a2 a3 up : Int} {t b : Nat} (hT : Tree) (hr : (pt 0).2.1 = 1) (hK : ∀ j, (kd j).length ≤ K) (hn : Args.A.length + K + 300 < n) (hb : ∀ a4, m_targetBaseq1 n a0 a1 a2 a3 a4 = some (b : Int)) (hlt : b < Args.A.length) (ht : t < 200) : m_targetTargetq1 n a0 a1 a2 a3 (t : Int) up = some (if (t : Int) ≥ up then 0 else climbF parL t (b : Int)) := by
 have hpos := hT.pos
 unfold m_targetTargetq1
 rw [rooted_ok hT (by omega) hr]
 simp only [Option.bind_some]
 by_cases hu : (t : Int) ≥ up
 ·rw [if_pos trivial, if_pos hu, if_pos hu]
 rw [if_pos trivial, if_neg hu, if_neg hu, prgPar hT hK (by omega)]
 simp only [Option.bind_some]
 have hc := climb_ok (n := n) hT b t hlt (by omega) (by omega)
 rw [hb]
 simp only [Option.bind_some]
 rw [hc]
 rfl
theorem pick20 {n : Nat} {g : Int} : ∃ p : Nat, m_viewportkitPickq1 n g 20 = some (p : Int) ∧ p < 20 := by
 unfold m_viewportkitPickq1
 rw [if_neg (by omega), if_pos (by omega)]
 have h1 : (-20 : Int) < Int.tmod g 20 := Int.lt_tmod_of_pos g (by omega)
 have h2 : Int.tmod g 20 < 20 := Int.tmod_lt_of_pos g (by omega)
 generalize Int.tmod g 20 = x at *
 by_cases c : x < 0
 ·rw [if_pos c, w64_sm (by omega) (by omega)]
  exact ⟨(x + 20).toNat, by rw [Int.toNat_of_nonneg (by omega)], by omega⟩
 ·rw [if_neg c]
  exact ⟨x.toNat, by rw [Int.toNat_of_nonneg (by omega)], by omega⟩
theorem lawLoop {n K b : Nat} {a0 a1 a2 a3 a4 g2 g3 g4 : Int} (hT : Tree) (hK : ∀ j, (kd j).length ≤ K) (hn : Args.A.length + K + 20 < n) (hck : m_viewportref16Checkq1 n = some 0) (hb : b < Args.A.length) (hno : 0 ≤ a0 ∧ a0 ≤ 63 → ∀ q, q < (kd b).length → ∀ c f : Nat, (kd b).getD q 0 = (c : Int) → Ks c 0 (c + 1) (atF c) f → ¬ (inner c ∧ Hold a0 a1 a2 c f)) : m_viewportlaw25TargetHolds_1 n g2 g3 g4 a0 a1 a2 a3 a4 (b : Int) 0 = some () := by
 have hkl := kd_le b
 have hkb := hK b
 obtain ⟨e, he, h1, h2⟩ := hT.end hb
 obtain ⟨r, -, h⟩ := hoare (B := B_viewportlaw25TargetHolds_1 n g2 g3 g4 a0 a1 a2 a3 a4 (b : Int)) (σ := Unit) (fun _ q => q) (fun q _ => True) (fun r => True) (kd b).length
  (fun q s hq _ => by
   obtain ⟨c, f, k1, k2, k3, k4, k5, k6, k7⟩ := he.kid2 q (Nat.zero_le _) hq
   refine .inl ⟨(), trivial, ?_⟩
   unfold B_viewportlaw25TargetHolds_1
   dsimp only
   rw [if_pos (by omega)]
   simp only [Option.bind_some, Int.toNat_natCast]
   rw [if_pos (show (q : Int) < ((((Args.A.getD b (0, 0, 0, 0, 0, 0, nl0, 0)).2.2.2.2.2.2.1.l.length : Nat)) : Int) from Int.ofNat_lt.2 hq), if_pos (show (0 : Int) ≤ (q : Int) ∧ (q : Int) < ((((Args.A.getD b (0, 0, 0, 0, 0, 0, nl0, 0)).2.2.2.2.2.2.1.l.length : Nat)) : Int) from ⟨Int.natCast_nonneg _, Int.ofNat_lt.2 hq⟩), if_pos (show q < (Args.A.getD b (0, 0, 0, 0, 0, 0, nl0, 0)).2.2.2.2.2.2.1.l.length from hq), show (Args.A.getD b (0, 0, 0, 0, 0, 0, nl0, 0)).2.2.2.2.2.2.1.l.getD q 0 = (c : Int) from k1, if_pos (by omega), w64_inc' (by omega)]
   simp only [Int.toNat_natCast]
   by_cases hk : (pt c).2.1 = 2
   ·rw [if_pos (show (Args.A.getD c (0, 0, 0, 0, 0, 0, nl0, 0)).2.1 = 2 from hk)]
    obtain ⟨d, hd, hds⟩ := done_spec (n := n) (a0 := a0) (a1 := a1) (a2 := a2) (a3 := a3) (a4 := a4) hT hK hn hck k3 k4
    rw [hd]
    simp only [Option.bind_some]
    cases d with
    | true => exact absurd ⟨.inr hk, (hds.1 rfl).2⟩ (hno (hds.1 rfl).1 q hq c f k1 k4)
    | false => rw [if_neg (by decide)]
   ·rw [if_neg (show ¬ (Args.A.getD c (0, 0, 0, 0, 0, 0, nl0, 0)).2.1 = 2 from hk)])
  (fun s _ => by
   unfold B_viewportlaw25TargetHolds_1
   dsimp only
   rw [if_pos (by omega)]
   simp only [Option.bind_some, Int.toNat_natCast]
   rw [if_neg (show ¬ ((kd b).length : Int) < ((((Args.A.getD b (0, 0, 0, 0, 0, 0, nl0, 0)).2.2.2.2.2.2.1.l.length : Nat)) : Int) from Int.lt_irrefl _)]
   exact ⟨_, trivial, rfl⟩) n 0 () (Nat.zero_le _) trivial (by omega)
 exact h
theorem targetHolds_true (g10 g110 g111 g12 g13 g2 g3 g4 : Int) : ∃ n, m_viewportlaw25TargetHolds n g10 g110 g111 g12 g13 g2 g3 g4 = some () := by
 obtain ⟨K, hK⟩ := bound_kd
 refine ⟨1000 + Args.A.length + K, ?_⟩
 generalize hn : 1000 + Args.A.length + K = n
 unfold m_viewportlaw25TargetHolds m_viewportlaw25lives m_viewportlaw25lightq1
 simp only [Option.bind_some]
 obtain ⟨b, e1, h1⟩ := lightP_ok (n := n) (.inr trivial) (by omega)
 rw [e1]
 simp only [Option.bind_some]
 cases b with
 | false => rw [if_neg (by decide)]
 | true =>
  have hL := h1 rfl
  rw [if_pos rfl]
  obtain ⟨c, e2, h2⟩ := refCheck_ok (n := n) hK (by omega) (by omega)
  rw [e2]
  simp only [Option.bind_some]
  by_cases c0 : ¬ c = 0
  ·rw [if_neg c0]
  obtain rfl := Decidable.not_not.1 c0
  have hT := h2 rfl
  have hpos := hT.pos
  rw [if_pos rfl, if_pos (by omega)]
  by_cases hr : (pt 0).2.1 = 1
  ·rw [if_pos (show (Args.A.getD ((0 : Int)).toNat (0, 0, 0, 0, 0, 0, nl0, 0)).2.1 = 1 from hr)]
   obtain ⟨b, e, hb, hlt, hbe, hho, hno⟩ := base_spec (n := n) (a0 := g10) (a1 := g110) (a2 := g111) (a3 := g12) hT hr hK (by omega)
   have hloop := lawLoop (n := n) (a0 := g10) (a1 := g110) (a2 := g111) (a3 := g12) (a4 := g13) (g2 := g2) (g3 := g3) (g4 := g4) hT hK (by omega) e2 hlt hno
   obtain ⟨p, hp, hp20⟩ := pick20 (n := n) (g := g3)
   obtain ⟨q, hq, hq20⟩ := pick20 (n := n) (g := g4)
   obtain ⟨lo, hlo, hlo1⟩ : ∃ lo : Nat, minB (p : Int) (q : Int) = (lo : Int) ∧ lo ≤ p ∧ lo ≤ q ∧ (lo = p ∨ lo = q) := by
    by_cases h : (q : Int) < (p : Int)
    ·exact ⟨q, by show (if (q : Int) < (p : Int) then (q : Int) else (p : Int)) = _; rw [if_pos h], by omega, by omega, .inr rfl⟩
    ·exact ⟨p, by show (if (q : Int) < (p : Int) then (q : Int) else (p : Int)) = _; rw [if_neg h], by omega, by omega, .inl rfl⟩
   obtain ⟨hi, hhi, hhi1⟩ : ∃ hi : Nat, maxB (p : Int) (q : Int) = (hi : Int) ∧ p ≤ hi ∧ q ≤ hi ∧ hi < 20 := by
    by_cases h : (q : Int) > (p : Int)
    ·exact ⟨q, by show (if (q : Int) > (p : Int) then (q : Int) else (p : Int)) = _; rw [if_pos h], by omega, by omega, by omega⟩
    ·exact ⟨p, by show (if (q : Int) > (p : Int) then (q : Int) else (p : Int)) = _; rw [if_neg h], by omega, by omega, by omega⟩
   have tx := target_spec (up := g2) (t := lo) hT hr hK (show Args.A.length + K + 300 < n by omega) hb hlt (by omega)
   have ty := target_spec (up := g2) (t := hi) hT hr hK (show Args.A.length + K + 300 < n by omega) hb hlt (by omega)
   have key : ∃ kx ky ey : Nat, (if (lo : Int) ≥ g2 then 0 else climbF parL lo (b : Int)) = (kx : Int) ∧ (if (hi : Int) ≥ g2 then 0 else climbF parL hi (b : Int)) = (ky : Int) ∧ ky ≤ kx ∧ ky < Args.A.length ∧ Ks ky 0 (ky + 1) (atF ky) ey ∧ kx < ey ∧ ((hi : Int) < g2 ∨ ky = 0) := by
    obtain ⟨kx, ex, x1, x2, x3, x4⟩ := climbF_end hT lo b e hlt hbe
    have xl := x3.lt
    by_cases u1 : (hi : Int) ≥ g2
    ·by_cases u2 : (lo : Int) ≥ g2
     ·exact ⟨0, 0, Args.A.length, by rw [if_pos u2]; rfl, by rw [if_pos u1]; rfl, Nat.le_refl _, hpos, hT.ks, hpos, .inr rfl⟩
     ·exact ⟨kx, 0, Args.A.length, by rw [if_neg u2]; exact x1, by rw [if_pos u1]; rfl, Nat.zero_le _, hpos, hT.ks, by omega, .inr rfl⟩
    ·obtain ⟨ky, ey, y1, y2, y3, y4⟩ := climbF_end hT (hi - lo) kx ex (by omega) x3
     have ha := climbF_add (L := parL) lo (hi - lo) (b : Int)
     rw [show lo + (hi - lo) = hi by omega, x1, y1] at ha
     exact ⟨kx, ky, ey, by rw [if_neg (by omega)]; exact x1, by rw [if_neg u1]; exact ha, y2, by omega, y3, by omega, .inl (by omega)⟩
   obtain ⟨kx, ky, ey, hx, hy, l1, l2, l3, l4, l5⟩ := key
   rw [hx] at tx
   rw [hy] at ty
   have hend := refEnd hK (show Args.A.length + K + 20 < n by omega) e2 l3 l2
   have fin : ((m_viewportlaw25TargetHolds_1 n g2 g3 g4 g10 g110 g111 g12 g13 (b : Int) 0).bind fun _ =>
         (m_viewportkitPickq1 n g3 20).bind fun c16_ =>
         (m_viewportkitPickq1 n g4 20).bind fun c17_ =>
         (m_targetTargetq1 n g10 g110 g111 g12 (minB c16_ c17_) g2).bind fun c18_ =>
         (m_viewportkitPickq1 n g3 20).bind fun c19_ =>
         (m_viewportkitPickq1 n g4 20).bind fun c20_ =>
         (m_targetTargetq1 n g10 g110 g111 g12 (maxB c19_ c20_) g2).bind fun c21_ =>
         if c21_ ≥ (0 : Int) then
          if c21_ ≤ c18_ then
           (m_viewportref16Endq1 n c21_).bind fun c24_ =>
           if c18_ < c24_ then
            if (maxB c19_ c20_) < g2 then
             some ()
            else
             if c21_ = (0 : Int) then
              some ()
             else
              none
           else
            none
          else
           none
         else
          none) = some () := by
    rw [hloop, hp, hq]
    simp only [Option.bind_some]
    rw [hlo, hhi, tx, ty]
    simp only [Option.bind_some]
    rw [if_pos (by omega), if_pos (by omega), hend]
    simp only [Option.bind_some]
    rw [if_pos (by omega)]
    by_cases u : (hi : Int) < g2
    ·rw [if_pos u]
    ·rw [if_neg u, if_pos (by omega)]
   rw [hb]
   simp only [Option.bind_some]
   rw [if_neg (by omega), if_neg (by omega)]
   by_cases b0 : (b : Int) > 0
   ·rw [if_pos b0]
    obtain ⟨d, hd, hds⟩ := done_spec (n := n) (a0 := g10) (a1 := g110) (a2 := g111) (a3 := g12) (a4 := g13) hT hK (by omega) e2 hlt hbe
    rw [hd]
    simp only [Option.bind_some]
    rw [if_pos (hds.2 (hho (by omega)))]
    exact fin
   ·rw [if_neg b0]
    exact fin
  ·rw [if_neg (show ¬ (Args.A.getD ((0 : Int)).toNat (0, 0, 0, 0, 0, 0, nl0, 0)).2.1 = 1 from hr)]

end Go.Proofs.YtkmebhpbfgffbaaGreat.tghw
