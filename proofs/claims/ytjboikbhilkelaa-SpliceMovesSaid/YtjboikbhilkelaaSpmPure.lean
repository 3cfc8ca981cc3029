/-
  The pure side. No condition.
-/
import Derived.Test.YtjboikbhilkelaaSpmBTold
import Derived.IntWalk
set_option linter.unusedSimpArgs false
set_option linter.unusedVariables false
set_option linter.unusedSectionVars false
set_option linter.unnecessarySimpa false
namespace Go.Proofs.Ytjboikbhilkelaa.spm
open Go Go.Proofs.Ytjboikbhilkelaa Ax
variable [Args]


theorem w64_id {x : Int} (h1 : -9223372036854775808 ≤ x) (h2 : x < 9223372036854775808) : w64 x = x := IntWalk.i64_in _ (by omega)
theorem w64_sm {x : Int} (h1 : -1000000000000 ≤ x) (h2 : x ≤ 1000000000000) : w64 x = x := w64_id (by omega) (by omega)
theorem w64_inc {i : Nat} (h : i ≤ 1000000000) : w64 ((i : Int) + 1) = ((i + 1 : Nat) : Int) := by rw [w64_sm (by omega) (by omega)]; rfl
/-! loops -/
theorem whileI {st ρ : Type} {B : st → Option (st ⊕ ρ)} (I : st → Prop) (μ : st → Nat) (Q : ρ → Prop) (h : ∀ s, I s → (∃ s', I s' ∧ μ s' < μ s ∧ B s = some (.inl s')) ∨ ∃ r, Q r ∧ B s = some (.inr r)) : ∀ (n : Nat) (s : st), I s → μ s < n → ∃ r, Q r ∧ iterM B n s = some r
 | 0, s, _, hm => absurd hm (Nat.not_lt_zero _)
 | n + 1, s, hi, hm => by
  rcases h s hi with ⟨s', h1, h2, h3⟩ | ⟨r, h1, h2⟩
  ·obtain ⟨r, q1, q2⟩ := whileI I μ Q h n s' h1 (by omega)
   exact ⟨r, q1, by rw [iterM_succ, h3]; exact q2⟩
  ·exact ⟨r, h1, by rw [iterM_succ, h2]; rfl⟩
theorem hoare {σ st ρ : Type} {B : st → Option (st ⊕ ρ)} (S : σ → Int → st) (I : Nat → σ → Prop) (Q : ρ → Prop) (len : Nat)
  (h1 : ∀ (i : Nat) (s : σ), i < len → I i s → (∃ s', I (i + 1) s' ∧ B (S s (i : Int)) = some (.inl (S s' ((i + 1 : Nat) : Int)))) ∨ ∃ r, Q r ∧ B (S s (i : Int)) = some (.inr r))
  (h2 : ∀ s, I len s → ∃ r, Q r ∧ B (S s (len : Int)) = some (.inr r)) : ∀ (n i : Nat) (s : σ), i ≤ len → I i s → len - i < n → ∃ r, Q r ∧ iterM B n (S s (i : Int)) = some r
 | 0, i, s, _, _, hm => absurd hm (Nat.not_lt_zero _)
 | n + 1, i, s, hl, hi, hm => by
  have main : (∃ s', i < len ∧ I (i + 1) s' ∧ B (S s (i : Int)) = some (.inl (S s' ((i + 1 : Nat) : Int)))) ∨ ∃ r, Q r ∧ B (S s (i : Int)) = some (.inr r) := by
   by_cases hlt : i < len
   ·rcases h1 i s hlt hi with ⟨s', a, b⟩ | h
    ·exact .inl ⟨s', hlt, a, b⟩
    ·exact .inr h
   ·obtain rfl : i = len := by omega
    exact .inr (h2 s hi)
  rcases main with ⟨s', g0, g1, g3⟩ | ⟨r, g1, g2⟩
  ·obtain ⟨r, q1, q2⟩ := hoare S I Q len h1 h2 n (i + 1) s' (by omega) g1 (by omega)
   exact ⟨r, q1, by rw [iterM_succ, g3]; exact q2⟩
  ·exact ⟨r, g1, by rw [iterM_succ, g2]; rfl⟩
/-- a search: the first place that is not so ends it -/
theorem scan {β γ : Type} {B : Int → Option (Int ⊕ (β ⊕ γ))} (len : Nat) (p : Nat → Bool) (a : β) (c : γ)
  (h1 : ∀ i : Nat, i < len → B (i : Int) = some (if p i = true then .inl ((i + 1 : Nat) : Int) else .inr (.inl a))) (h2 : B (len : Int) = some (.inr (.inr c))) (n : Nat) (hn : len < n) :
  iterM B n 0 = some (if (List.range len).all p = true then .inr c else .inl a) := by
 obtain ⟨r, q1, q2⟩ := hoare (B := B) (σ := Unit) (fun _ i => i) (fun i _ => ∀ j, j < i → p j = true) (fun r => r = if (List.range len).all p = true then .inr c else .inl a) len
  (fun i s hi hI => by
   by_cases hp : p i = true
   ·refine .inl ⟨(), fun j hj => ?_, by rw [h1 i hi, if_pos hp]⟩
    rcases Nat.lt_or_ge j i with h | h
    ·exact hI j h
    ·obtain rfl : j = i := by omega
     exact hp
   ·refine .inr ⟨.inl a, ?_, by rw [h1 i hi, if_neg hp]⟩
    rw [if_neg]
    intro hall
    exact hp (List.all_eq_true.1 hall i (List.mem_range.2 hi)))
  (fun s hI => ⟨.inr c, by rw [if_pos (List.all_eq_true.2 fun j hj => hI j (List.mem_range.1 hj))], h2⟩) n 0 () (Nat.zero_le _) (fun j hj => absurd hj (Nat.not_lt_zero _)) (by omega)
 rw [show (0 : Int) = ((0 : Nat) : Int) from rfl, q2, q1]
theorem all_range {α : Type} {l : List α} {d : α} {p : α → Bool} : (List.range l.length).all (fun i => p (l.getD i d)) = l.all p := by
 rw [Bool.eq_iff_iff, List.all_eq_true, List.all_eq_true]
 constructor
 ·intro h x hx
  obtain ⟨i, hi, rfl⟩ := List.mem_iff_getElem.1 hx
  have := h i (List.mem_range.2 hi)
  simpa [List.getD_eq_getElem?_getD, hi] using this
 ·intro h i hi
  have hi := List.mem_range.1 hi
  have := h l[i] (List.getElem_mem hi)
  simpa [List.getD_eq_getElem?_getD, hi] using this
theorem getD_mem {α : Type} {l : List α} {i : Nat} {d : α} (h : i < l.length) : l.getD i d ∈ l := by
 rw [List.getD_eq_getElem?_getD, List.getElem?_eq_getElem h]; exact List.getElem_mem h
theorem mem_getD {α : Type} {l : List α} {x : α} (d : α) (h : x ∈ l) : ∃ i, i < l.length ∧ l.getD i d = x := by
 obtain ⟨i, hi, rfl⟩ := List.mem_iff_getElem.1 h
 exact ⟨i, hi, by simp [List.getD_eq_getElem?_getD, hi]⟩
theorem getD_set {α : Type} {l : List α} {i j : Nat} {x d : α} (h : i < l.length) : (l.set i x).getD j d = if j = i then x else l.getD j d := by
 simp only [List.getD_eq_getElem?_getD, List.getElem?_set]
 by_cases hj : i = j
 ·subst hj; simp [h]
 ·rw [if_neg hj, if_neg (Ne.symm hj)]
theorem count_set_lt {L : List Bool} {i : Nat} (h : i < L.length) (hf : ¬ L.getD i false = true) : (L.set i true).count false < L.count false := by
 have h0 : L[i] = false := by simpa [List.getD_eq_getElem?_getD, h] using hf
 have hc := List.count_set (l := L) (a := true) (b := false) (i := i) h
 have hp : 0 < L.count false := List.count_pos_iff.2 (h0 ▸ List.getElem_mem h)
 rw [h0] at hc
 simp at hc
 omega


/-! trees: how parts lie -/
abbrev P8 := Int × Int × Int × Int × Int × Int × NL × Int
def d8 : P8 := (0, 0, 0, 0, 0, 0, nl0, 0)
def pt (i : Nat) : P8 := Args.A.getD i (0, 0, 0, 0, 0, 0, nl0, 0)
def kd (i : Nat) : List Int := (pt i).2.2.2.2.2.2.1.l
def atF (i : Nat) : Int := (pt i).2.2.1
def toF (i : Nat) : Int := (pt i).2.2.2.2.1
theorem kd_le (i : Nat) : (kd i).length ≤ 9223372036854775807 := (pt i).2.2.2.2.2.2.1.le
theorem w64_inc' {i : Nat} (h : i < 9223372036854775807) : w64 ((i : Int) + 1) = ((i + 1 : Nat) : Int) := by
 rw [w64_id (by omega) (by omega)]; rfl
theorem bound_all {α : Type} (f : α → Nat) : ∀ l : List α, ∃ K, ∀ x ∈ l, f x ≤ K
 | [] => ⟨0, fun x h => by cases h⟩
 | a :: l => by
  obtain ⟨K, hK⟩ := bound_all f l
  refine ⟨max (f a) K, fun x hx => ?_⟩
  rcases List.mem_cons.1 hx with rfl | hx
  ·exact Nat.le_max_left _ _
  ·exact Nat.le_trans (hK x hx) (Nat.le_max_right _ _)
theorem bound_kd : ∃ K, ∀ i, (kd i).length ≤ K := by
 obtain ⟨K, hK⟩ := bound_all (fun x : P8 => x.2.2.2.2.2.2.1.l.length) Args.A
 refine ⟨K, fun i => ?_⟩
 rcases Nat.lt_or_ge i Args.A.length with h | h
 ·exact hK (pt i) (getD_mem h)
 ·have : pt i = d8 := by unfold pt; rw [List.getD_eq_getElem?_getD, List.getElem?_eq_none h]; rfl
  unfold kd; rw [this]; exact Nat.zero_le _
/-- the kids of i from the k-th on begin at 'next', no earlier than 'a', and end ahead of e -/
inductive Ks : Nat → Nat → Nat → Int → Nat → Prop
 | done {i k next : Nat} {a : Int} (hk : k = (kd i).length) (ha : a ≤ toF i) : Ks i k next a next
 | kid {i k next e' e : Nat} {a : Int} (hk : k < (kd i).length) (hv : (kd i).getD k 0 = (next : Int)) (hn : next < Args.A.length) (ha : a ≤ atF next) (h1 : Ks next 0 (next + 1) (atF next) e') (h2 : Ks i (k + 1) e' (toF next) e) : Ks i k next a e
theorem Ks.lt {i k next e : Nat} {a : Int} (h : Ks i k next a e) : next ≤ e := by
 induction h with
 | done => exact Nat.le_refl _
 | kid _ _ _ _ _ _ ih1 ih2 => omega
theorem Ks.len {i k next e : Nat} {a : Int} (h : Ks i k next a e) : k ≤ (kd i).length := by
 cases h with
 | done hk => omega
 | kid hk => omega
theorem Ks.hi {i k next e : Nat} {a : Int} (h : Ks i k next a e) : next ≤ Args.A.length → e ≤ Args.A.length := by
 induction h with
 | done => exact id
 | kid hk hv hn ha _ _ ih1 ih2 => exact fun _ => ih2 (ih1 (by omega))
/-- every part in it is a tree of its own -/
theorem Ks.cover {i k next e : Nat} {a : Int} (h : Ks i k next a e) : ∀ j, next ≤ j → j < e → ∃ f, f ≤ e ∧ Ks j 0 (j + 1) (atF j) f := by
 induction h with
 | done => exact fun j h1 h2 => absurd h1 (by omega)
 | @kid i k next e' e a hk hv hn ha h1 h2 ih1 ih2 =>
  intro j h3 h4
  have l2 := h2.lt
  by_cases e1 : j = next
  ·subst e1; exact ⟨e', l2, h1⟩
  ·rcases Nat.lt_or_ge j e' with h5 | h5
   ·obtain ⟨f, g1, g2⟩ := ih1 j (by omega) h5
    exact ⟨f, by omega, g2⟩
   ·exact ih2 j h5 h4
/-- where kids lie -/
theorem Ks.kids {i k next e : Nat} {a : Int} (h : Ks i k next a e) : ∀ q, k ≤ q → q < (kd i).length → ∃ c : Nat, (kd i).getD q 0 = (c : Int) ∧ next ≤ c ∧ c < e ∧ c < Args.A.length := by
 induction h with
 | done hk => exact fun q h1 h2 => by omega
 | @kid i k next e' e a hk hv hn ha h1 h2 ih1 ih2 =>
  intro q h3 h4
  have l1 := h1.lt
  have l2 := h2.lt
  by_cases e1 : q = k
  ·subst e1; exact ⟨next, hv, Nat.le_refl _, by omega, hn⟩
  ·obtain ⟨c, g1, g2, g3, g4⟩ := ih2 q (by omega) h4
   exact ⟨c, g1, by omega, g3, g4⟩
theorem Ks.mono {i k next e : Nat} {a : Int} (h : Ks i k next a e) (hs : ∀ j, j < Args.A.length → atF j ≤ toF j) : a ≤ toF i := by
 induction h with
 | done _ ha => exact ha
 | @kid i k next e' e a hk hv hn ha h1 h2 ih1 ih2 =>
  have := hs next hn
  omega

/-! the document's end -/
theorem end_ok : ∀ (n i : Nat) (K : Nat), (∀ j, (kd j).length ≤ K) → i < Args.A.length → Args.A.length - i + K + 10 < n → ∃ r, m_Rendq1 n (i : Int) = some r ∧ (0 ≤ r → ∃ e : Nat, r = e ∧ Ks i 0 (i + 1) (atF i) e)
 | 0, i, K, hK, hi, hn => absurd hn (Nat.not_lt_zero _)
 | n + 1, i, K, hK, hi, hn => by
  have hrec : ∀ j : Nat, i < j → j < Args.A.length → ∃ r, m_Rendq1 n (j : Int) = some r ∧ (0 ≤ r → ∃ e : Nat, r = e ∧ Ks j 0 (j + 1) (atF j) e) := fun j h1 h2 => end_ok n j K hK h2 (by omega)
  have hkl := kd_le i
  have loop : ∀ (f k : Nat) (next : Int) (a : Int), k ≤ (kd i).length → (i : Int) < next → (kd i).length - k < f →
    ∃ r, iterM (B_Rendq1_1 (m_Rendq1 n) n (i : Int)) f (next, a, (k : Int)) = some r ∧ (r = .inl () ∨ ∃ (e : Nat) (b : Int), r = .inr ((e : Int), b) ∧ (b ≤ toF i → ∃ q : Nat, next = q ∧ Ks i k q a e)) := by
   intro f
   induction f with
   | zero => intro k next a _ _ h; exact absurd h (Nat.not_lt_zero _)
   | succ f ih =>
    intro k next a hk hnx hf
    rw [iterM_succ]
    unfold B_Rendq1_1
    dsimp only
    rw [if_pos (by omega)]
    simp only [Option.bind_some, Int.toNat_natCast]
    change ∃ r, ((if (k : Int) < ((((kd i).length : Nat)) : Int) then _ else _ : Option _).bind _) = some r ∧ _
    by_cases hlt : k < (kd i).length
    ·rw [if_pos (by omega)]
     change ∃ r, ((if 0 ≤ (k : Int) ∧ (k : Int) < (((kd i).length : Nat) : Int) then (if k < (kd i).length then (if (kd i).getD k 0 = next then _ else _) else _) else _ : Option _).bind _) = some r ∧ _
     rw [if_pos (by omega), if_pos hlt]
     by_cases hv : (kd i).getD k 0 = next
     ·rw [if_pos hv]
      by_cases hN : next ≥ ((Args.A.length : Nat) : Int)
      ·rw [if_pos hN]
       exact ⟨_, rfl, .inl rfl⟩
      ·rw [if_neg hN, if_pos (by omega)]
       obtain ⟨q, rfl⟩ : ∃ q : Nat, next = q := ⟨next.toNat, by omega⟩
       simp only [Int.toNat_natCast]
       change ∃ r, ((if atF q < a then _ else _ : Option _).bind _) = some r ∧ _
       by_cases ha : atF q < a
       ·rw [if_pos ha]; exact ⟨_, rfl, .inl rfl⟩
       ·rw [if_neg ha]
        obtain ⟨r, e1, e2⟩ := hrec q (by omega) (by omega)
        rw [e1]
        simp only [Option.bind_some]
        by_cases hr : r < 0
        ·rw [if_pos hr]; exact ⟨_, rfl, .inl rfl⟩
        ·rw [if_neg hr]
         obtain ⟨e', rfl, hks⟩ := e2 (by omega)
         have l1 := hks.lt
         rw [w64_inc' (by omega)]
         simp only [Option.bind_some]
         obtain ⟨r2, g1, g2⟩ := ih (k + 1) (e' : Int) (toF q) (by omega) (by omega) (by omega)
         refine ⟨r2, g1, ?_⟩
         rcases g2 with g2 | ⟨e, b, g3, g4⟩
         ·exact .inl g2
         ·refine .inr ⟨e, b, g3, fun hb => ?_⟩
          obtain ⟨q', h1, h2⟩ := g4 hb
          obtain rfl : e' = q' := by omega
          exact ⟨q, rfl, .kid hlt hv (by omega) (by omega) hks h2⟩
     ·rw [if_neg hv]; exact ⟨_, rfl, .inl rfl⟩
    ·rw [if_neg (by omega)]
     refine ⟨_, rfl, .inr ⟨next.toNat, a, ?_, fun hb => ⟨next.toNat, by omega, .done (by omega) hb⟩⟩⟩
     rw [Int.toNat_of_nonneg (by omega)]
  show ∃ r, s_Rendq1 (m_Rendq1 n) n (i : Int) = some r ∧ _
  unfold s_Rendq1 m_Rendq1_1
  rw [if_pos (by omega)]
  simp only [Option.bind_some, Int.toNat_natCast]
  rw [w64_inc' (by have := Args.hA; omega)]
  obtain ⟨r, e1, e2⟩ := loop n 0 ((i + 1 : Nat) : Int) (atF i) (Nat.zero_le _) (by omega) (by have := hK i; omega)
  have e1 : iterM (B_Rendq1_1 (m_Rendq1 n) n (i : Int)) n (((i + 1 : Nat) : Int), (Args.A.getD i (0, 0, 0, 0, 0, 0, nl0, 0)).2.2.1, 0) = some r := e1
  rw [e1]
  rcases e2 with rfl | ⟨e, b, rfl, e3⟩
  ·exact ⟨_, rfl, fun h => absurd h (by decide)⟩
  ·change ∃ r, (if b > toF i then some (-1) else some (e : Int)) = some r ∧ _
   by_cases hb : b > toF i
   ·rw [if_pos hb]; exact ⟨_, rfl, fun h => absurd h (by decide)⟩
   ·rw [if_neg hb]
    refine ⟨_, rfl, fun _ => ⟨e, rfl, ?_⟩⟩
    obtain ⟨q, h1, h2⟩ := e3 (by omega)
    obtain rfl : i + 1 = q := by omega
    exact h2


/-! parts that may be -/
structure SP (a1 a2 a3 a4 a5 : Int) (len : Nat) : Prop where
 k1 : 1 ≤ a1
 k6 : a1 ≤ 6
 a0 : 0 ≤ a2
 at_ : a2 ≤ a4
 lk : a2 < a5
 tok : (a1 = 3 ∨ a1 = 5 ∨ a1 = 6) → a2 ≤ a3 ∧ a3 ≤ a4
 non : (a1 = 1 ∨ a1 = 2 ∨ a1 = 4) → a3 = a2
 mis : a1 = 4 → a2 = a4
 leaf : a1 ≠ 1 → a1 ≠ 2 → len = 0
theorem leaf_ok (n : Nat) (a : Int) : m_Rleafq1 n a = some (if a = 1 then false else if a = 2 then false else true) := by
 unfold m_Rleafq1
 repeat' split
 all_goals rfl
theorem bare_ok' (n : Nat) (a0 a1 a2 a3 a4 a5 : Int) (a6 : NL) (a7 : Int) (o : Option Bool) (h : m_Rbareq1 n a0 a1 a2 a3 a4 a5 a6 a7 = o) : o = some false ∨ (o = some true ∧ SP a1 a2 a3 a4 a5 a6.l.length) := by
 unfold m_Rbareq1 at h
 simp only [leaf_ok, Option.bind_some] at h
 have leaf : ∀ o, (if (if a1 = 1 then false else if a1 = 2 then false else true) = true then if ((a6.l.length : Nat) : Int) = 0 then some true else some false else some true) = o → o = some false ∨ (o = some true ∧ (a1 ≠ 1 → a1 ≠ 2 → a6.l.length = 0)) := by
  intro o h
  by_cases c1 : a1 = 1
  ·rw [if_pos c1, if_neg (by decide)] at h
   exact .inr ⟨h.symm, fun h => absurd c1 h⟩
  rw [if_neg c1] at h
  by_cases c2 : a1 = 2
  ·rw [if_pos c2, if_neg (by decide)] at h
   exact .inr ⟨h.symm, fun _ h => absurd c2 h⟩
  rw [if_neg c2, if_pos rfl] at h
  by_cases cl : ((a6.l.length : Nat) : Int) = 0
  ·rw [if_pos cl] at h
   exact .inr ⟨h.symm, fun _ _ => by omega⟩
  ·rw [if_neg cl] at h
   exact .inl h.symm
 by_cases c1 : a1 < 1
 ·rw [if_pos c1] at h; exact .inl h.symm
 rw [if_neg c1] at h
 by_cases c2 : a1 > 6
 ·rw [if_pos c2] at h; exact .inl h.symm
 rw [if_neg c2] at h
 by_cases c3 : a2 < 0
 ·rw [if_pos c3] at h; exact .inl h.symm
 rw [if_neg c3] at h
 by_cases c4 : a2 > a4
 ·rw [if_pos c4] at h; exact .inl h.symm
 rw [if_neg c4] at h
 by_cases c5 : a5 ≤ a2
 ·rw [if_pos c5] at h; exact .inl h.symm
 rw [if_neg c5] at h
 have tok : ∀ (g : Option Bool) (k : a1 = 3 ∨ a1 = 5 ∨ a1 = 6), (if a3 < a2 then some false else if a3 > a4 then some false else if a1 = 4 then g else (if (if a1 = 1 then false else if a1 = 2 then false else true) = true then if ((a6.l.length : Nat) : Int) = 0 then some true else some false else some true)) = o → o = some false ∨ (o = some true ∧ SP a1 a2 a3 a4 a5 a6.l.length) := by
  intro g k h
  by_cases d1 : a3 < a2
  ·rw [if_pos d1] at h; exact .inl h.symm
  rw [if_neg d1] at h
  by_cases d2 : a3 > a4
  ·rw [if_pos d2] at h; exact .inl h.symm
  rw [if_neg d2, if_neg (by omega)] at h
  rcases leaf o h with h | ⟨h, hl⟩
  ·exact .inl h
  ·exact .inr ⟨h, by omega, by omega, by omega, by omega, by omega, fun _ => by omega, fun _ => by omega, fun _ => by omega, hl⟩
 by_cases k3 : a1 = 3
 ·rw [if_pos k3] at h; exact tok _ (by omega) h
 rw [if_neg k3] at h
 by_cases k5 : a1 = 5
 ·rw [if_pos k5] at h; exact tok _ (by omega) h
 rw [if_neg k5] at h
 by_cases k6 : a1 = 6
 ·rw [if_pos k6] at h; exact tok _ (by omega) h
 rw [if_neg k6] at h
 by_cases d3 : ¬ a3 = a2
 ·rw [if_neg d3] at h; exact .inl h.symm
 have d3 := Decidable.not_not.1 d3
 rw [if_pos d3] at h
 by_cases k4 : a1 = 4
 ·rw [if_pos k4] at h
  by_cases d4 : a2 = a4
  ·rw [if_pos d4] at h
   rcases leaf o h with h | ⟨h, hl⟩
   ·exact .inl h
   ·exact .inr ⟨h, by omega, by omega, by omega, by omega, by omega, fun _ => by omega, fun _ => by omega, fun _ => by omega, hl⟩
  ·rw [if_neg d4] at h; exact .inl h.symm
 ·rw [if_neg k4] at h
  rcases leaf o h with h | ⟨h, hl⟩
  ·exact .inl h
  ·exact .inr ⟨h, by omega, by omega, by omega, by omega, by omega, fun _ => by omega, fun _ => by omega, fun _ => by omega, hl⟩
theorem bare_ok (n : Nat) (a0 a1 a2 a3 a4 a5 : Int) (a6 : NL) (a7 : Int) : ∃ b, m_Rbareq1 n a0 a1 a2 a3 a4 a5 a6 a7 = some b ∧ (b = true → SP a1 a2 a3 a4 a5 a6.l.length) := by
 rcases bare_ok' n a0 a1 a2 a3 a4 a5 a6 a7 _ rfl with h | ⟨h, h2⟩
 ·exact ⟨false, h, fun h => by cases h⟩
 ·exact ⟨true, h, fun _ => h2⟩
/-! a tree that may be -/
def SPi (i : Nat) : Prop := SP (pt i).2.1 (pt i).2.2.1 (pt i).2.2.2.1 (pt i).2.2.2.2.1 (pt i).2.2.2.2.2.1 (kd i).length
structure Tree : Prop where
 pos : 0 < Args.A.length
 max : Args.A.length ≤ 524288
 sp : ∀ i, i < Args.A.length → SPi i
 root : ∀ i, 0 < i → i < Args.A.length → (pt i).2.1 ≠ 1
 ks : Ks 0 0 1 (atF 0) Args.A.length
theorem check1_ok {n : Nat} (hn : Args.A.length < n) (hL : Args.A.length ≤ 1000000) : ∃ r, m_RCheckq1_1 n 0 = some r ∧ (r = .inr () → ∀ i, i < Args.A.length → SPi i ∧ (0 < i → (pt i).2.1 ≠ 1)) := by
 obtain ⟨r, q1, q2⟩ := hoare (B := B_RCheckq1_1 n) (σ := Unit) (fun _ i => i) (fun i _ => ∀ j, j < i → SPi j ∧ (0 < j → (pt j).2.1 ≠ 1)) (fun r => r = .inr () → ∀ i, i < Args.A.length → SPi i ∧ (0 < i → (pt i).2.1 ≠ 1)) Args.A.length
  (fun i s hi hI => by
   obtain ⟨b, e1, e2⟩ := bare_ok n (pt i).1 (pt i).2.1 (pt i).2.2.1 (pt i).2.2.2.1 (pt i).2.2.2.2.1 (pt i).2.2.2.2.2.1 (pt i).2.2.2.2.2.2.1 (pt i).2.2.2.2.2.2.2
   have hB : B_RCheckq1_1 n (i : Int) = ((m_Rbareq1 n (pt i).1 (pt i).2.1 (pt i).2.2.1 (pt i).2.2.2.1 (pt i).2.2.2.2.1 (pt i).2.2.2.2.2.1 (pt i).2.2.2.2.2.2.1 (pt i).2.2.2.2.2.2.2).bind fun y => if y = true then (if (i : Int) > 0 then (if (pt i).2.1 = 1 then some (.inr (.inl ())) else some (.inl (w64 ((i : Int) + 1)))) else some (.inl (w64 ((i : Int) + 1)))) else some (.inr (.inl ()))) := by
    unfold B_RCheckq1_1
    dsimp only
    rw [if_pos (by omega), if_pos (by omega)]
    simp only [Option.bind_some, Int.toNat_natCast]
    rfl
   rw [hB]
   rw [e1, w64_inc (by omega)]
   simp only [Option.bind_some]
   cases b with
   | false =>
    rw [if_neg (by decide)]
    exact .inr ⟨.inl (), (fun h => by cases h), rfl⟩
   | true =>
    have hsp : SPi i := e2 rfl
    rw [if_pos rfl]
    have go : (0 < i → (pt i).2.1 ≠ 1) → ∀ j, j < i + 1 → SPi j ∧ (0 < j → (pt j).2.1 ≠ 1) := fun h j hj => by
     rcases Nat.lt_or_ge j i with h1 | h1
     ·exact hI j h1
     ·obtain rfl : j = i := by omega
      exact ⟨hsp, h⟩
    by_cases c1 : (i : Int) > 0
    ·rw [if_pos c1]
     by_cases c2 : (pt i).2.1 = 1
     ·rw [if_pos c2]
      exact .inr ⟨.inl (), (fun h => by cases h), rfl⟩
     ·rw [if_neg c2]
      exact .inl ⟨(), go fun _ => c2, rfl⟩
    ·rw [if_neg c1]
     exact .inl ⟨(), go fun h => absurd h (by omega), rfl⟩)
  (fun s hI => by
   unfold B_RCheckq1_1
   dsimp only
   rw [if_neg (by omega)]
   exact ⟨_, fun _ => hI, rfl⟩) n 0 () (Nat.zero_le _) (fun j hj => absurd hj (Nat.not_lt_zero _)) (by omega)
 exact ⟨r, q2, q1⟩
/-- the document's check ends, and tells a tree -/
theorem refCheck_ok {n K : Nat} (hK : ∀ j, (kd j).length ≤ K) (hn : Args.A.length + K + 20 < n) (hL : Args.A.length ≤ 1000000) : ∃ c, m_RCheckq1 n = some c ∧ (c = 0 → Tree) := by
 unfold m_RCheckq1
 by_cases c1 : ((Args.A.length : Nat) : Int) > 524288
 ·rw [if_pos c1]; exact ⟨_, rfl, fun h => absurd h (by decide)⟩
 rw [if_neg c1]
 obtain ⟨r, e1, e2⟩ := check1_ok (n := n) (by omega) hL
 rw [e1]
 rcases r with r | r
 ·exact ⟨_, rfl, fun h => absurd h (by decide)⟩
 ·dsimp only
  have e2 := e2 rfl
  by_cases c2 : ((Args.A.length : Nat) : Int) = 0
  ·rw [if_pos c2]; exact ⟨_, rfl, fun h => absurd h (by decide)⟩
  rw [if_neg c2]
  obtain ⟨q, g1, g2⟩ := end_ok n 0 K hK (by omega) (by omega)
  have g1 : m_Rendq1 n 0 = some q := g1
  rw [g1]
  simp only [Option.bind_some]
  by_cases c3 : q = ((Args.A.length : Nat) : Int)
  ·rw [if_pos c3]
   refine ⟨_, rfl, fun _ => ?_⟩
   obtain ⟨e, h1, h2⟩ := g2 (by omega)
   obtain rfl : e = Args.A.length := by omega
   exact ⟨by omega, by omega, fun i hi => (e2 i hi).1, fun i h0 hi => (e2 i hi).2 h0, h2⟩
  ·rw [if_neg c3]; exact ⟨_, rfl, fun h => absurd h (by decide)⟩


/-! where a part ends -/
theorem Ks.run {K i k next e : Nat} {a : Int} (hK : ∀ j, (kd j).length ≤ K) (h : Ks i k next a e) : i < next → i < Args.A.length → ∀ n f, Args.A.length - i + K + 9 < n → (kd i).length - k < f → ∃ b, b ≤ toF i ∧ iterM (B_Rendq1_1 (m_Rendq1 n) n (i : Int)) f ((next : Int), a, (k : Int)) = some (.inr ((e : Int), b)) := by
 induction h with
 | @done i k next a hk ha =>
  intro hin hi n f hn hf
  obtain ⟨f, rfl⟩ : ∃ g, f = g + 1 := ⟨f - 1, by omega⟩
  refine ⟨a, ha, ?_⟩
  rw [iterM_succ]
  unfold B_Rendq1_1
  dsimp only
  rw [if_pos (by omega)]
  simp only [Option.bind_some, Int.toNat_natCast]
  rw [if_neg (show ¬ (k : Int) < ((((Args.A.getD i (0, 0, 0, 0, 0, 0, nl0, 0)).2.2.2.2.2.2.1.l.length : Nat)) : Int) from fun hc => absurd (show k < (kd i).length from Int.ofNat_lt.1 hc) (by omega))]
  rfl
 | @kid i k next e' e a hk hv hn' ha h1 h2 ih1 ih2 =>
  intro hin hi n f hn hf
  obtain ⟨f, rfl⟩ : ∃ g, f = g + 1 := ⟨f - 1, by omega⟩
  have hkl := kd_le i
  have l1 := h1.lt
  obtain ⟨m, rfl⟩ : ∃ m, n = m + 1 := ⟨n - 1, by omega⟩
  obtain ⟨b1, hb1, e1⟩ := ih1 (by omega) hn' m m (by omega) (by have := hK next; omega)
  have hrec : m_Rendq1 (m + 1) (next : Int) = some (e' : Int) := by
   show s_Rendq1 (m_Rendq1 m) m (next : Int) = _
   unfold s_Rendq1 m_Rendq1_1
   rw [if_pos (by omega)]
   simp only [Option.bind_some, Int.toNat_natCast]
   rw [w64_inc' (by have := Args.hA; omega)]
   have e1 : iterM (B_Rendq1_1 (m_Rendq1 m) m (next : Int)) m (((next + 1 : Nat) : Int), (Args.A.getD next (0, 0, 0, 0, 0, 0, nl0, 0)).2.2.1, 0) = some (.inr ((e' : Int), b1)) := e1
   rw [e1]
   dsimp only
   rw [if_neg (show ¬ b1 > (Args.A.getD next (0, 0, 0, 0, 0, 0, nl0, 0)).2.2.2.2.1 from fun hc => absurd (show b1 > toF next from hc) (by omega))]
  obtain ⟨b, hb, e2⟩ := ih2 (by omega) hi (m + 1) f hn (by omega)
  refine ⟨b, hb, ?_⟩
  rw [iterM_succ]
  have hB : B_Rendq1_1 (m_Rendq1 (m + 1)) (m + 1) (i : Int) ((next : Int), a, (k : Int)) = some (.inl ((e' : Int), toF next, ((k + 1 : Nat) : Int))) := by
   unfold B_Rendq1_1
   dsimp only
   rw [if_pos (by omega)]
   simp only [Option.bind_some, Int.toNat_natCast]
   rw [if_pos (show (k : Int) < ((((Args.A.getD i (0, 0, 0, 0, 0, 0, nl0, 0)).2.2.2.2.2.2.1.l.length : Nat)) : Int) from Int.ofNat_lt.2 hk), if_pos (show (0 : Int) ≤ (k : Int) ∧ (k : Int) < ((((Args.A.getD i (0, 0, 0, 0, 0, 0, nl0, 0)).2.2.2.2.2.2.1.l.length : Nat)) : Int) from ⟨Int.natCast_nonneg _, Int.ofNat_lt.2 hk⟩), if_pos (show k < (Args.A.getD i (0, 0, 0, 0, 0, 0, nl0, 0)).2.2.2.2.2.2.1.l.length from hk), if_pos (show (Args.A.getD i (0, 0, 0, 0, 0, 0, nl0, 0)).2.2.2.2.2.2.1.l.getD k 0 = (next : Int) from hv), if_neg (by omega), if_pos (by omega), if_neg (show ¬ (Args.A.getD next (0, 0, 0, 0, 0, 0, nl0, 0)).2.2.1 < a from fun hc => absurd (show atF next < a from hc) (by omega)), hrec]
   simp only [Option.bind_some]
   rw [if_neg (by omega), w64_inc' (by omega)]
   rfl
  rw [hB]
  exact e2
theorem endOf {K i e : Nat} (hK : ∀ j, (kd j).length ≤ K) (h : Ks i 0 (i + 1) (atF i) e) (hi : i < Args.A.length) {n : Nat} (hn : Args.A.length - i + K + 10 < n) : m_Rendq1 n (i : Int) = some (e : Int) := by
 obtain ⟨m, rfl⟩ : ∃ m, n = m + 1 := ⟨n - 1, by omega⟩
 obtain ⟨b1, hb1, e1⟩ := h.run hK (by omega) hi m m (by omega) (by have := hK i; omega)
 show s_Rendq1 (m_Rendq1 m) m (i : Int) = _
 unfold s_Rendq1 m_Rendq1_1
 rw [if_pos (by omega)]
 simp only [Option.bind_some, Int.toNat_natCast]
 rw [w64_inc' (by have := Args.hA; omega)]
 have e1 : iterM (B_Rendq1_1 (m_Rendq1 m) m (i : Int)) m (((i + 1 : Nat) : Int), (Args.A.getD i (0, 0, 0, 0, 0, 0, nl0, 0)).2.2.1, 0) = some (.inr ((e : Int), b1)) := e1
 rw [e1]
 dsimp only
 rw [if_neg (show ¬ b1 > (Args.A.getD i (0, 0, 0, 0, 0, 0, nl0, 0)).2.2.2.2.1 from fun hc => absurd (show b1 > toF i from hc) (by omega))]
theorem Tree.end (hT : Tree) {i : Nat} (hi : i < Args.A.length) : ∃ e, Ks i 0 (i + 1) (atF i) e ∧ i < e ∧ e ≤ Args.A.length := by
 rcases Nat.eq_zero_or_pos i with rfl | h0
 ·exact ⟨_, hT.ks, hi, Nat.le_refl _⟩
 ·obtain ⟨f, h1, h⟩ := hT.ks.cover i (by omega) hi
  have := h.lt
  exact ⟨f, h, by omega, h1⟩
theorem Tree.kid (hT : Tree) {i q : Nat} (hi : i < Args.A.length) (hq : q < (kd i).length) : ∃ c : Nat, (kd i).getD q 0 = (c : Int) ∧ i < c ∧ c < Args.A.length := by
 obtain ⟨f, h, _⟩ := hT.end hi
 obtain ⟨c, h1, h2, h3, h4⟩ := h.kids q (Nat.zero_le _) hq
 exact ⟨c, h1, by omega, h4⟩
/-- the last kid ends where the part does -/
theorem Ks.last {i k next e : Nat} {a : Int} (h : Ks i k next a e) : k < (kd i).length → ∃ c : Nat, (kd i).getD ((kd i).length - 1) 0 = (c : Int) ∧ next ≤ c ∧ c < Args.A.length ∧ Ks c 0 (c + 1) (atF c) e := by
 induction h with
 | done hk => exact fun h => absurd h (by omega)
 | @kid i k next e' e a hk hv hn ha h1 h2 ih1 ih2 =>
  intro _
  have l1 := h1.lt
  by_cases hl : k + 1 < (kd i).length
  ·obtain ⟨c, g1, g2, g3, g4⟩ := ih2 hl
   exact ⟨c, g1, by omega, g3, g4⟩
  ·have hk1 : (kd i).length - 1 = k := by omega
   rw [hk1]
   cases h2 with
   | done _ _ => exact ⟨next, hv, Nat.le_refl _, hn, h1⟩
   | kid hk' => omega
theorem Ks.none {i next e : Nat} {a : Int} (h : Ks i 0 next a e) (h0 : (kd i).length = 0) : e = next := by
 cases h with
 | done _ _ => rfl
 | kid hk => omega


/-! a list whose rows are the tree's, but for Met; the kids' slices lie elsewhere -/
structure Sm (L : List P8) : Prop where
 len : L.length = Args.A.length
 row : ∀ i, i < Args.A.length → ∃ (k : NL) (m : Int), L.getD i (0, 0, 0, 0, 0, 0, nl0, 0) = ((pt i).1, (pt i).2.1, (pt i).2.2.1, (pt i).2.2.2.1, (pt i).2.2.2.2.1, (pt i).2.2.2.2.2.1, k, m) ∧ k.l = kd i
theorem end2B {rec1 : Int → Option Int} {rec2 : List P8 → Nat → Nat → Int → Option Int} {n c : Nat} {L : List P8} (hS : Sm L) (hr : ∀ x, rec2 L Args.A.length c x = rec1 x) (i : Int) (st : Int × Int × Int) : B_Rendq2_1 rec2 n L Args.A.length c i st = B_Rendq1_1 rec1 n i st := by
 obtain ⟨x1, x2, x3⟩ := st
 dsimp only [B_Rendq2_1, B_Rendq1_1]
 by_cases h : 0 ≤ i ∧ i < (Args.A.length : Int)
 ·have hl := hS.len
  obtain ⟨k, m, e1, e2⟩ := hS.row i.toNat (by omega)
  rw [if_pos h, if_pos h, if_pos (by omega), e1]
  dsimp only [Option.bind_some]
  rw [e2]
  show _ = (if x3 < ((kd i.toNat).length : Int) then _ else _)
  by_cases h3 : x3 < ((kd i.toNat).length : Int)
  ·rw [if_pos h3, if_pos h3]
   show _ = (if 0 ≤ x3 ∧ x3 < ((kd i.toNat).length : Int) then _ else _)
   by_cases h4 : 0 ≤ x3 ∧ x3 < ((kd i.toNat).length : Int)
   ·rw [if_pos h4, if_pos h4]
    show _ = (if x3.toNat < (kd i.toNat).length then _ else _)
    have h8 : x3.toNat < (kd i.toNat).length := by omega
    rw [if_pos h8, if_pos h8]
    show (if (kd i.toNat).getD x3.toNat 0 = x1 then _ else _) = (if (kd i.toNat).getD x3.toNat 0 = x1 then _ else _)
    by_cases h5 : (kd i.toNat).getD x3.toNat 0 = x1
    ·rw [if_pos h5, if_pos h5]
     by_cases h6 : x1 ≥ (Args.A.length : Int)
     ·rw [if_pos h6, if_pos h6]
     ·rw [if_neg h6, if_neg h6]
      by_cases h7 : 0 ≤ x1 ∧ x1 < (Args.A.length : Int)
      ·obtain ⟨k', m', e1', e2'⟩ := hS.row x1.toNat (by omega)
       rw [if_pos h7, if_pos h7, if_pos (by omega), e1', hr]
       rfl
      ·rw [if_neg h7, if_neg h7]
    ·rw [if_neg h5, if_neg h5]
   ·rw [if_neg h4, if_neg h4]
  ·rw [if_neg h3, if_neg h3]
 ·rw [if_neg h, if_neg h]
theorem end2 {c : Nat} {L : List P8} (hS : Sm L) : ∀ (n : Nat) (x : Int), m_Rendq2 n L Args.A.length c x = m_Rendq1 n x
 | 0, x => rfl
 | n + 1, x => by
  show s_Rendq2 _ n L _ c x = s_Rendq1 _ n x
  have hB : ∀ i, B_Rendq2_1 (m_Rendq2 n) n L Args.A.length c i = B_Rendq1_1 (m_Rendq1 n) n i := fun i => funext fun st => end2B hS (end2 hS n) i st
  unfold s_Rendq2 s_Rendq1 m_Rendq2_1 m_Rendq1_1
  by_cases h : 0 ≤ x ∧ x < (Args.A.length : Int)
  ·have hl := hS.len
   obtain ⟨k, m, e1, e2⟩ := hS.row x.toNat (by omega)
   rw [if_pos h, if_pos h, if_pos (by omega), e1, hB]
   rfl
  ·rw [if_neg h, if_neg h]
theorem bare_eq (n : Nat) (a0 a1 a2 a3 a4 a5 : Int) (a6 b6 : NL) (a7 b7 : Int) (h : a6.l.length = b6.l.length) : m_Rbareq1 n a0 a1 a2 a3 a4 a5 a6 a7 = m_Rbareq1 n a0 a1 a2 a3 a4 a5 b6 b7 := by
 unfold m_Rbareq1
 rw [h]
theorem check2B {n c : Nat} {L : List P8} (hS : Sm L) (x : Int) : B_RCheckq2_1 n L Args.A.length c x = B_RCheckq1_1 n x := by
 dsimp only [B_RCheckq2_1, B_RCheckq1_1]
 by_cases h : x < (Args.A.length : Int)
 ·rw [if_pos h, if_pos h]
  by_cases h' : 0 ≤ x ∧ x < (Args.A.length : Int)
  ·have hl := hS.len
   obtain ⟨k, m, e1, e2⟩ := hS.row x.toNat (by omega)
   rw [if_pos h', if_pos h', if_pos (by omega), e1]
   dsimp only [Option.bind_some]
   rw [bare_eq n _ _ _ _ _ _ k (pt x.toNat).2.2.2.2.2.2.1 m (pt x.toNat).2.2.2.2.2.2.2 (by rw [e2]; rfl)]
   rfl
  ·rw [if_neg h', if_neg h']
 ·rw [if_neg h, if_neg h]
theorem check2 {n c : Nat} {L : List P8} (hS : Sm L) : m_RCheckq2 n L Args.A.length c = m_RCheckq1 n := by
 unfold m_RCheckq2 m_RCheckq1 m_RCheckq2_1 m_RCheckq1_1
 rw [show B_RCheckq2_1 n L Args.A.length c = B_RCheckq1_1 n from funext fun x => check2B hS x, end2 hS]


/-! the program's copy -/
theorem ext_getD {L M : List Int} (hl : L.length = M.length) (h : ∀ j, j < M.length → L.getD j 0 = M.getD j 0) : L = M := by
 apply List.ext_getElem hl
 intro j h1 h2
 have := h j h2
 simpa [List.getD_eq_getElem?_getD, h1, h2] using this
theorem eachI {n : Nat} {x : NL} (hx : x.l.length ≤ 1000000) (hn : x.l.length < n) : m_eIq1 n x = some (if x.l = [] then .inl () else .inr (x.l, x.l.length)) := by
 unfold m_eIq1
 by_cases h0 : x.l = []
 ·rw [if_pos h0, if_pos (by rw [h0]; rfl)]
 ·have hp : 0 < x.l.length := List.length_pos_iff.2 h0
  rw [if_neg h0, if_neg (by omega), if_pos (by omega), if_pos (by omega), Int.toNat_natCast]
  obtain ⟨r, q1, q2⟩ := hoare (B := B_eIq1_1 n x.l.length x (x.l.length : Int)) (σ := List Int) (fun L i => (L, i)) (fun i L => L.length = x.l.length ∧ ∀ j, j < i → L.getD j 0 = x.l.getD j 0) (fun r => r = x.l) x.l.length
   (fun i L hi hI => by
    obtain ⟨hL, hI⟩ := hI
    refine .inl ⟨L.set i (x.l.getD i 0), ⟨by rw [List.length_set, hL], fun j hj => ?_⟩, ?_⟩
    ·rw [getD_set (by omega)]
     by_cases e : j = i
     ·rw [if_pos e, e]
     ·rw [if_neg e]; exact hI j (by omega)
    ·unfold B_eIq1_1
     dsimp only
     rw [if_pos (by omega), if_pos (by omega), Int.toNat_natCast, if_pos hi]
     simp only [Option.bind_some, m_treeCopy11q1]
     rw [if_pos (by omega), if_pos (by omega), w64_inc (by omega)])
   (fun L hI => by
    refine ⟨L, ext_getD hI.1 hI.2, ?_⟩
    unfold B_eIq1_1
    dsimp only
    rw [if_neg (by omega)])
   n 0 (List.replicate x.l.length 0) (Nat.zero_le _) ⟨List.length_replicate, fun j hj => by omega⟩ (by omega)
  show ((iterM _ n (_, ((0 : Nat) : Int))).bind _) = _
  rw [q2, q1]
  rfl
theorem moved_ok {n : Nat} (a0 a1 a2 a3 a4 a5 : Int) {x : NL} (a7 : Int) (hx : x.l.length ≤ 1000000) (hn : x.l.length < n) : ∃ k, m_treeCopy1q1 n a0 a1 a2 a3 a4 a5 x a7 = some k ∧ k.l = x.l := by
 unfold m_treeCopy1q1 m_treemovedq1
 rw [eachI hx hn]
 by_cases h0 : x.l = []
 ·rw [if_pos h0]
  exact ⟨nl0, rfl, h0.symm⟩
 ·rw [if_neg h0]
  dsimp only
  rw [if_pos rfl, dif_pos x.le]
  exact ⟨_, rfl, rfl⟩
/-- rows that are the tree's, Met by Met -/
structure Sf (f : Nat → Int) (L : List P8) : Prop where
 len : L.length = Args.A.length
 row : ∀ i, i < Args.A.length → ∃ k : NL, L.getD i (0, 0, 0, 0, 0, 0, nl0, 0) = ((pt i).1, (pt i).2.1, (pt i).2.2.1, (pt i).2.2.2.1, (pt i).2.2.2.2.1, (pt i).2.2.2.2.2.1, k, f i) ∧ k.l = kd i
theorem Sf.sm {f : Nat → Int} {L : List P8} (h : Sf f L) : Sm L := ⟨h.len, fun i hi => by obtain ⟨k, a, b⟩ := h.row i hi; exact ⟨k, _, a, b⟩⟩
def metF (i : Nat) : Int := (pt i).2.2.2.2.2.2.2
theorem copy_ok {n : Nat} (hA : 0 < Args.A.length) (hL : Args.A.length ≤ 1000000) (hk : ∀ i, (kd i).length ≤ Args.A.length) (hn : Args.A.length < n) : ∃ L, m_treeCopyq1 n = some (L, Args.A.length) ∧ Sf metF L := by
 unfold m_treeCopyq1 m_ePq1
 rw [if_neg (by omega), if_pos (by omega), if_pos (by omega), Int.toNat_natCast]
 obtain ⟨r, q1, q2⟩ := hoare (B := B_ePq1_1 n Args.A.length (Args.A.length : Int)) (σ := List P8) (fun L i => (L, i))
  (fun i L => L.length = Args.A.length ∧ ∀ j, j < i → ∃ k : NL, L.getD j (0, 0, 0, 0, 0, 0, nl0, 0) = ((pt j).1, (pt j).2.1, (pt j).2.2.1, (pt j).2.2.2.1, (pt j).2.2.2.2.1, (pt j).2.2.2.2.2.1, k, metF j) ∧ k.l = kd j) (fun r => Sf metF r) Args.A.length
  (fun i L hi hI => by
   obtain ⟨hL', hI⟩ := hI
   obtain ⟨k, e1, e2⟩ := moved_ok (n := n) (pt i).1 (pt i).2.1 (pt i).2.2.1 (pt i).2.2.2.1 (pt i).2.2.2.2.1 (pt i).2.2.2.2.2.1 (x := (pt i).2.2.2.2.2.2.1) (pt i).2.2.2.2.2.2.2 (Nat.le_trans (hk i) hL) (Nat.lt_of_le_of_lt (hk i) hn)
   refine .inl ⟨L.set i ((pt i).1, (pt i).2.1, (pt i).2.2.1, (pt i).2.2.2.1, (pt i).2.2.2.2.1, (pt i).2.2.2.2.2.1, k, metF i), ⟨by rw [List.length_set, hL'], fun j hj => ?_⟩, ?_⟩
   ·rw [getD_set (by omega)]
    by_cases e : j = i
    ·rw [if_pos e, e]; exact ⟨k, rfl, e2⟩
    ·rw [if_neg e]; exact hI j (by omega)
   ·unfold B_ePq1_1
    dsimp only
    rw [if_pos (by omega), if_pos (by omega), Int.toNat_natCast]
    show ((some (pt i)).bind _) = _
    dsimp only [Option.bind_some]
    rw [e1]
    dsimp only [Option.bind_some]
    rw [if_pos (by omega), if_pos (by omega), w64_inc (by omega)]
    rfl)
  (fun L hI => by
   refine ⟨L, ⟨hI.1, hI.2⟩, ?_⟩
   unfold B_ePq1_1
   dsimp only
   rw [if_neg (by omega)])
  n 0 (List.replicate Args.A.length (0, 0, 0, 0, 0, 0, nl0, 0)) (Nat.zero_le _) ⟨List.length_replicate, fun j hj => by omega⟩ (by omega)
 refine ⟨r, ?_, q1⟩
 have q2 : m_ePq1_1 n Args.A.length (Args.A.length : Int) (List.replicate Args.A.length (0, 0, 0, 0, 0, 0, nl0, 0), 0) = some r := q2
 rw [q2]
 rfl


/-! bits -/
def one (f : Nat) : BitVec 64 := BitVec.twoPow 64 f
theorem one_get {f i : Nat} (hf : f < 64) : (one f).getLsbD i = decide (i = f) := by
 unfold one
 rw [BitVec.getLsbD_twoPow]
 by_cases h : f = i
 ·subst h; simp [hf]
 ·simp [h, Ne.symm h]
theorem u64w (m : BitVec 64) : IntKind.u64.wrap ((m.toNat : Nat) : Int) = ((m.toNat : Nat) : Int) := IntWalk.u64_in _ (by have := m.isLt; omega)
theorem ofI (m : BitVec 64) : BitVec.ofInt 64 ((m.toNat : Nat) : Int) = m := by
 rw [BitVec.ofInt_natCast, BitVec.ofNat_toNat, BitVec.setWidth_eq]
theorem ban (x y : BitVec 64) : bAnd .u64 ((x.toNat : Nat) : Int) ((y.toNat : Nat) : Int) = (((x &&& y).toNat : Nat) : Int) := by
 unfold bAnd
 rw [show IntKind.u64.bits = 64 from rfl, ofI, ofI, u64w]
theorem bor (x y : BitVec 64) : bOr .u64 ((x.toNat : Nat) : Int) ((y.toNat : Nat) : Int) = (((x ||| y).toNat : Nat) : Int) := by
 unfold bOr
 rw [show IntKind.u64.bits = 64 from rfl, ofI, ofI, u64w]
theorem bann (x y : BitVec 64) : bAndNot .u64 ((x.toNat : Nat) : Int) ((y.toNat : Nat) : Int) = (((x &&& ~~~y).toNat : Nat) : Int) := by
 unfold bAndNot
 rw [show IntKind.u64.bits = 64 from rfl, ofI, ofI, u64w]
theorem shl1 {f : Nat} (hf : f < 64) : shlV .u64 (1 : Int) (f : Int) = (((one f).toNat : Nat) : Int) := by
 unfold shlV one
 rw [show IntKind.u64.bits = 64 from rfl, Int.toNat_natCast, show min f 64 = f by omega, BitVec.toNat_twoPow]
 have h1 : 2 ^ f < 2 ^ 64 := Nat.pow_lt_pow_right (by omega) hf
 rw [Nat.mod_eq_of_lt h1, show (1 : Int) * 2 ^ f = ((2 ^ f : Nat) : Int) by simp]
 generalize 2 ^ f = q at h1 ⊢
 exact IntWalk.u64_in _ (by omega)
theorem shr1 {f : Nat} (hf : f < 64) (m : BitVec 64) : shrV .u64 ((m.toNat : Nat) : Int) (f : Int) = (((m >>> f).toNat : Nat) : Int) := by
 unfold shrV
 rw [show IntKind.u64.bits = 64 from rfl, Int.toNat_natCast, show min f 64 = f by omega, BitVec.toNat_ushiftRight, Nat.shiftRight_eq_div_pow]
 rw [show ((2 : Int) ^ f) = ((2 ^ f : Nat) : Int) by simp, Int.fdiv_eq_ediv_of_nonneg _ (Int.natCast_nonneg _)]
 exact (Int.natCast_ediv _ _).symm
theorem bit1 {f : Nat} (hf : f < 64) (m : BitVec 64) : (bAnd .u64 (shrV .u64 ((m.toNat : Nat) : Int) (f : Int)) (1 : Int) = (1 : Int)) ↔ m.getLsbD f = true := by
 rw [shr1 hf, show (1 : Int) = (((1#64).toNat : Nat) : Int) from rfl, ban]
 rw [Int.ofNat_inj, BitVec.toNat_inj]
 constructor
 ·intro h
  have := congrArg (fun b => b.getLsbD 0) h
  simpa using this
 ·intro h
  apply BitVec.eq_of_getLsbD_eq
  intro i hi
  by_cases e : i = 0
  ·subst e; simpa using h
  ·simp [BitVec.getLsbD_one, e]
def gvB (f t : Nat) (m : BitVec 64) : BitVec 64 := if m.getLsbD f = true then (m &&& ~~~one f) ||| one t else m
def clB (f : Nat) (m : BitVec 64) : BitVec 64 := m &&& ~~~one f
theorem gv_same {f : Nat} (hf : f < 64) (m : BitVec 64) : gvB f f m = m := by
 unfold gvB
 split
 ·rename_i h
  apply BitVec.eq_of_getLsbD_eq
  intro i hi
  simp only [BitVec.getLsbD_or, BitVec.getLsbD_and, BitVec.getLsbD_not, one_get hf]
  by_cases e : i = f
  ·subst e; simp [h, hi]
  ·simp [e, hi]
 ·rfl
theorem gv_from {f t : Nat} (hf : f < 64) (ht : t < 64) (hne : f ≠ t) (m : BitVec 64) : gvB f t m &&& one f = 0#64 := by
 apply BitVec.eq_of_getLsbD_eq
 intro i hi
 unfold gvB
 by_cases e : i = f
 ·subst e
  split
  ·simp only [BitVec.getLsbD_and, BitVec.getLsbD_or, BitVec.getLsbD_not, one_get hf, one_get ht]
   simp [hi, hne]
  ·rename_i h; simp [h]
 ·simp [one_get hf, e]
theorem gv_rest {f t : Nat} (hf : f < 64) (ht : t < 64) (m : BitVec 64) : gvB f t m &&& ~~~(one f ||| one t) = m &&& ~~~(one f ||| one t) := by
 apply BitVec.eq_of_getLsbD_eq
 intro i hi
 unfold gvB
 split
 ·simp only [BitVec.getLsbD_or, BitVec.getLsbD_and, BitVec.getLsbD_not, one_get hf, one_get ht]
  by_cases e : i = f <;> by_cases e' : i = t <;> simp [e, e', hi]
 ·rfl
theorem zero_iff {x : BitVec 64} : x = 0#64 ↔ ∀ i, i < 64 → x.getLsbD i = false := by
 constructor
 ·rintro rfl i _; simp
 ·intro h; apply BitVec.eq_of_getLsbD_eq; intro i hi; rw [h i hi]; simp
theorem gv_to {f t : Nat} (hf : f < 64) (ht : t < 64) (hne : f ≠ t) (m : BitVec 64) : (gvB f t m &&& one t = 0#64) ↔ (m &&& (one f ||| one t) = 0#64) := by
 rw [zero_iff, zero_iff]
 unfold gvB
 constructor
 ·intro h i hi
  split at h
  ·have := h t ht
   simp only [BitVec.getLsbD_and, BitVec.getLsbD_or, BitVec.getLsbD_not, one_get hf, one_get ht] at this
   simp at this
  ·rename_i hn
   have := h t ht
   simp only [BitVec.getLsbD_and, BitVec.getLsbD_or, one_get hf, one_get ht] at this ⊢
   by_cases e : i = f
   ·subst e; simp [hn]
   ·by_cases e' : i = t
    ·subst e'; simpa using this
    ·simp [e, e']
 ·intro h i hi
  have h1 := h f hf
  have h2 := h t ht
  simp only [BitVec.getLsbD_and, BitVec.getLsbD_or, one_get hf, one_get ht] at h1 h2
  have h1 : m.getLsbD f = false := by simpa using h1
  have h2 : m.getLsbD t = false := by simpa using h2
  rw [if_neg (by rw [h1]; decide)]
  simp only [BitVec.getLsbD_and, one_get ht]
  by_cases e : i = t
  ·subst e; simp [h2]
  ·simp [e]

end Go.Proofs.Ytjboikbhilkelaa.spm
