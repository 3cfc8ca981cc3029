/-
  The pure side. No condition.
-/
import Derived.Test.YtlfcfopohlhlfaaScaBTold
import Derived.IntWalk
set_option linter.unusedSimpArgs false
set_option linter.unusedVariables false
set_option linter.unusedSectionVars false
set_option linter.unnecessarySimpa false
noncomputable section
namespace Go.Proofs.Ytlfcfopohlhlfaa.sca26
open Go Go.Proofs.Ytlfcfopohlhlfaa Ax
variable [Args]


theorem w64_id {x : Int} (h1 : -9223372036854775808 ≤ x) (h2 : x < 9223372036854775808) : w64 x = x := IntWalk.i64_in _ (by omega)
theorem qpl_ {x : Int} (h1 : -1000000000000 ≤ x) (h2 : x ≤ 1000000000000) : w64 x = x := w64_id (by omega) (by omega)
theorem w64_inc {i : Nat} (h : i ≤ 1000000000) : w64 ((i : Int) + 1) = ((i + 1 : Nat) : Int) := by rw [qpl_ (by omega) (by omega)]; rfl
theorem whileI {st ρ : Type} {B : st → Option (st ⊕ ρ)} (I : st → Prop) (μ : st → Nat) (Q : ρ → Prop) (h : ∀ s, I s → (∃ s', I s' ∧ μ s' < μ s ∧ B s = some (.inl s')) ∨ ∃ r, Q r ∧ B s = some (.inr r)) : ∀ (n : Nat) (s : st), I s → μ s < n → ∃ r, Q r ∧ iterM B n s = some r
 | 0, s, _, hm => absurd hm (Nat.not_lt_zero _)
 | n + 1, s, hi, hm => by
  rcases h s hi with ⟨s', h1, h2, h3⟩ | ⟨r, h1, h2⟩
  ·obtain ⟨r, q1, q2⟩ := whileI I μ Q h n s' h1 (by omega)
   exact ⟨r, q1, by rw [qb1_, h3]; exact q2⟩
  ·exact ⟨r, h1, by rw [qb1_, h2]; rfl⟩
theorem hoare {σ st ρ : Type} {B : st → Option (st ⊕ ρ)} (S : σ → Int → st) (I : Nat → σ → Prop) (Q : ρ → Prop) (len : Nat)
  (h1 : ∀ (i : Nat) (s : σ), i < len → I i s → (∃ s', I (i + 1) s' ∧ B (S s (i : Int)) = some (.inl (S s' ((i + 1 : Nat) : Int)))) ∨ ∃ r, Q r ∧ B (S s (i : Int)) = some (.inr r))
  (h2 : ∀ s, I len s → ∃ r, Q r ∧ B (S s (len : Int)) = some (.inr r)) : ∀ (n i : Nat) (s : σ), i ≤ len → I i s → len - i < n → ∃ r, Q r ∧ iterM B n (S s (i : Int)) = some r
 | 0, i, s, _, _, hm => absurd hm (Nat.not_lt_zero _)
 | n + 1, i, s, hl, hi, hm => by
  have main : (∃ s', i < len ∧ I (i + 1) s' ∧ B (S s (i : Int)) = some (.inl (S s' ((i + 1 : Nat) : Int)))) ∨ ∃ r, Q r ∧ B (S s (i : Int)) = some (.inr r) := by
   by_cases hlt : i < len
   ·rcases h1 i s hlt hi with ⟨s', a, b⟩ | h
    ·exact .inl ⟨s', hlt, a, b⟩
    ·exact .inr h
   ·obtain rfl : i = len := by omega
    exact .inr (h2 s hi)
  rcases main with ⟨s', g0, g1, g3⟩ | ⟨r, g1, g2⟩
  ·obtain ⟨r, q1, q2⟩ := hoare S I Q len h1 h2 n (i + 1) s' (by omega) g1 (by omega)
   exact ⟨r, q1, by rw [qb1_, g3]; exact q2⟩
  ·exact ⟨r, g1, by rw [qb1_, g2]; rfl⟩
theorem scan {β γ : Type} {B : Int → Option (Int ⊕ (β ⊕ γ))} (len : Nat) (p : Nat → Bool) (a : β) (c : γ)
  (h1 : ∀ i : Nat, i < len → B (i : Int) = some (if p i = true then .inl ((i + 1 : Nat) : Int) else .inr (.inl a))) (h2 : B (len : Int) = some (.inr (.inr c))) (n : Nat) (hn : len < n) :
  iterM B n 0 = some (if (List.range len).all p = true then .inr c else .inl a) := by
 obtain ⟨r, q1, q2⟩ := hoare (B := B) (σ := Unit) (fun _ i => i) (fun i _ => ∀ j, j < i → p j = true) (fun r => r = if (List.range len).all p = true then .inr c else .inl a) len
  (fun i s hi hI => by
   by_cases hp : p i = true
   ·refine .inl ⟨(), fun j hj => ?_, by rw [h1 i hi, if_pos hp]⟩
    rcases Nat.lt_or_ge j i with h | h
    ·exact hI j h
    ·obtain rfl : j = i := by omega
     exact hp
   ·refine .inr ⟨.inl a, ?_, by rw [h1 i hi, if_neg hp]⟩
    rw [if_neg]
    intro hall
    exact hp (List.all_eq_true.1 hall i (List.mem_range.2 hi)))
  (fun s hI => ⟨.inr c, by rw [if_pos (List.all_eq_true.2 fun j hj => hI j (List.mem_range.1 hj))], h2⟩) n 0 () (Nat.zero_le _) (fun j hj => absurd hj (Nat.not_lt_zero _)) (by omega)
 rw [show (0 : Int) = ((0 : Nat) : Int) from rfl, q2, q1]
theorem getD_mem {α : Type} {l : List α} {i : Nat} {d : α} (h : i < l.length) : l.getD i d ∈ l := by
 rw [List.getD_eq_getElem?_getD, List.getElem?_eq_getElem h]; exact List.getElem_mem h
theorem qwk_ {α : Type} {l : List α} {x : α} (d : α) (h : x ∈ l) : ∃ i, i < l.length ∧ l.getD i d = x := by
 obtain ⟨i, hi, rfl⟩ := List.mem_iff_getElem.1 h
 exact ⟨i, hi, by simp [List.getD_eq_getElem?_getD, hi]⟩
theorem getD_set {α : Type} {l : List α} {i j : Nat} {x d : α} (h : i < l.length) : (l.set i x).getD j d = if j = i then x else l.getD j d := by
 simp only [List.getD_eq_getElem?_getD, List.getElem?_set]
 by_cases hj : i = j
 ·subst hj; simp [h]
 ·rw [if_neg hj, if_neg (Ne.symm hj)]
class Cur where
 x : WL rw_iiiiiiLu

section
variable [Cur]

abbrev P8 := Int × Int × Int × Int × Int × Int × NL × Int
def d8 : P8 := (0, 0, 0, 0, 0, 0, nl0, 0)
def pt (i : Nat) : P8 := Cur.x.l.getD i (0, 0, 0, 0, 0, 0, nl0, 0)
def kd (i : Nat) : List Int := (pt i).2.2.2.2.2.2.1.l
def atF (i : Nat) : Int := (pt i).2.2.1
def toF (i : Nat) : Int := (pt i).2.2.2.2.1
theorem kd_le (i : Nat) : (kd i).length ≤ 140737488355328 := (pt i).2.2.2.2.2.2.1.le
theorem w64_inc' {i : Nat} (h : i < 9223372036854775807) : w64 ((i : Int) + 1) = ((i + 1 : Nat) : Int) := by
 rw [w64_id (by omega) (by omega)]; rfl
theorem bound_all {α : Type} (f : α → Nat) : ∀ l : List α, ∃ K, ∀ x ∈ l, f x ≤ K
 | [] => ⟨0, fun x h => by cases h⟩
 | a :: l => by
  obtain ⟨K, hK⟩ := bound_all f l
  refine ⟨max (f a) K, fun x hx => ?_⟩
  rcases List.mem_cons.1 hx with rfl | hx
  ·exact Nat.le_max_left _ _
  ·exact Nat.le_trans (hK x hx) (Nat.le_max_right _ _)
theorem bound_kd : ∃ K, ∀ i, (kd i).length ≤ K := by
 obtain ⟨K, hK⟩ := bound_all (fun x : P8 => x.2.2.2.2.2.2.1.l.length) Cur.x.l
 refine ⟨K, fun i => ?_⟩
 rcases Nat.lt_or_ge i Cur.x.l.length with h | h
 ·exact hK (pt i) (getD_mem h)
 ·have : pt i = d8 := by unfold pt; rw [List.getD_eq_getElem?_getD, List.getElem?_eq_none h]; rfl
  unfold kd; rw [this]; exact Nat.zero_le _
inductive Ks : Nat → Nat → Nat → Int → Nat → Prop
 | done {i k next : Nat} {a : Int} (hk : k = (kd i).length) (ha : a ≤ toF i) : Ks i k next a next
 | kid {i k next e' e : Nat} {a : Int} (hk : k < (kd i).length) (hv : (kd i).getD k 0 = (next : Int)) (hn : next < Cur.x.l.length) (ha : a ≤ atF next) (h1 : Ks next 0 (next + 1) (atF next) e') (h2 : Ks i (k + 1) e' (toF next) e) : Ks i k next a e
theorem Ks.lt {i k next e : Nat} {a : Int} (h : Ks i k next a e) : next ≤ e := by
 induction h with
 | done => exact Nat.le_refl _
 | kid _ _ _ _ _ _ ih1 ih2 => omega
theorem Ks.len {i k next e : Nat} {a : Int} (h : Ks i k next a e) : k ≤ (kd i).length := by
 cases h with
 | done hk => omega
 | kid hk => omega
theorem Ks.hi {i k next e : Nat} {a : Int} (h : Ks i k next a e) : next ≤ Cur.x.l.length → e ≤ Cur.x.l.length := by
 induction h with
 | done => exact id
 | kid hk hv hn ha _ _ ih1 ih2 => exact fun _ => ih2 (ih1 (by omega))
theorem Ks.cover {i k next e : Nat} {a : Int} (h : Ks i k next a e) : ∀ j, next ≤ j → j < e → ∃ f, f ≤ e ∧ Ks j 0 (j + 1) (atF j) f := by
 induction h with
 | done => exact fun j h1 h2 => absurd h1 (by omega)
 | @kid i k next e' e a hk hv hn ha h1 h2 ih1 ih2 =>
  intro j h3 h4
  have l2 := h2.lt
  by_cases e1 : j = next
  ·subst e1; exact ⟨e', l2, h1⟩
  ·rcases Nat.lt_or_ge j e' with h5 | h5
   ·obtain ⟨f, g1, g2⟩ := ih1 j (by omega) h5
    exact ⟨f, by omega, g2⟩
   ·exact ih2 j h5 h4
theorem Ks.kids {i k next e : Nat} {a : Int} (h : Ks i k next a e) : ∀ q, k ≤ q → q < (kd i).length → ∃ c : Nat, (kd i).getD q 0 = (c : Int) ∧ next ≤ c ∧ c < e ∧ c < Cur.x.l.length := by
 induction h with
 | done hk => exact fun q h1 h2 => by omega
 | @kid i k next e' e a hk hv hn ha h1 h2 ih1 ih2 =>
  intro q h3 h4
  have l1 := h1.lt
  have l2 := h2.lt
  by_cases e1 : q = k
  ·subst e1; exact ⟨next, hv, Nat.le_refl _, by omega, hn⟩
  ·obtain ⟨c, g1, g2, g3, g4⟩ := ih2 q (by omega) h4
   exact ⟨c, g1, by omega, g3, g4⟩
theorem Ks.mono {i k next e : Nat} {a : Int} (h : Ks i k next a e) (hs : ∀ j, j < Cur.x.l.length → atF j ≤ toF j) : a ≤ toF i := by
 induction h with
 | done _ ha => exact ha
 | @kid i k next e' e a hk hv hn ha h1 h2 ih1 ih2 =>
  have := hs next hn
  omega

theorem end_ok : ∀ (n i : Nat) (K : Nat), (∀ j, (kd j).length ≤ K) → i < Cur.x.l.length → Cur.x.l.length - i + K + 10 < n → ∃ r, qd_ n Cur.x (i : Int) = some r ∧ (0 ≤ r → ∃ e : Nat, r = e ∧ Ks i 0 (i + 1) (atF i) e)
 | 0, i, K, hK, hi, hn => absurd hn (Nat.not_lt_zero _)
 | n + 1, i, K, hK, hi, hn => by
  have hrec : ∀ j : Nat, i < j → j < Cur.x.l.length → ∃ r, qd_ n Cur.x (j : Int) = some r ∧ (0 ≤ r → ∃ e : Nat, r = e ∧ Ks j 0 (j + 1) (atF j) e) := fun j h1 h2 => end_ok n j K hK h2 (by omega)
  have hkl := kd_le i
  have loop : ∀ (f k : Nat) (next : Int) (a : Int), k ≤ (kd i).length → (i : Int) < next → (kd i).length - k < f →
    ∃ r, iterM (qg_ (qd_ n) n Cur.x (i : Int)) f (next, a, (k : Int)) = some r ∧ (r = .inl () ∨ ∃ (e : Nat) (b : Int), r = .inr ((e : Int), b) ∧ (b ≤ toF i → ∃ q : Nat, next = q ∧ Ks i k q a e)) := by
   intro f
   induction f with
   | zero => intro k next a _ _ h; exact absurd h (Nat.not_lt_zero _)
   | succ f ih =>
    intro k next a hk hnx hf
    rw [qb1_]
    unfold qg_
    dsimp only
    rw [if_pos (by omega)]
    simp only [Option.bind_some, Int.toNat_natCast]
    change ∃ r, ((if (k : Int) < ((((kd i).length : Nat)) : Int) then _ else _ : Option _).bind _) = some r ∧ _
    by_cases hlt : k < (kd i).length
    ·rw [if_pos (by omega)]
     change ∃ r, ((if 0 ≤ (k : Int) ∧ (k : Int) < (((kd i).length : Nat) : Int) then (if k < (kd i).length then (if (kd i).getD k 0 = next then _ else _) else _) else _ : Option _).bind _) = some r ∧ _
     rw [if_pos (by omega), if_pos hlt]
     by_cases hv : (kd i).getD k 0 = next
     ·rw [if_pos hv]
      by_cases hN : next ≥ ((Cur.x.l.length : Nat) : Int)
      ·rw [if_pos hN]
       exact ⟨_, rfl, .inl rfl⟩
      ·rw [if_neg hN, if_pos (by omega)]
       obtain ⟨q, rfl⟩ : ∃ q : Nat, next = q := ⟨next.toNat, by omega⟩
       simp only [Int.toNat_natCast]
       change ∃ r, ((if atF q < a then _ else _ : Option _).bind _) = some r ∧ _
       by_cases ha : atF q < a
       ·rw [if_pos ha]; exact ⟨_, rfl, .inl rfl⟩
       ·rw [if_neg ha]
        obtain ⟨r, e1, e2⟩ := hrec q (by omega) (by omega)
        rw [e1]
        simp only [Option.bind_some]
        by_cases hr : r < 0
        ·rw [if_pos hr]; exact ⟨_, rfl, .inl rfl⟩
        ·rw [if_neg hr]
         obtain ⟨e', rfl, hks⟩ := e2 (by omega)
         have l1 := hks.lt
         rw [w64_inc' (by omega)]
         simp only [Option.bind_some]
         obtain ⟨r2, g1, g2⟩ := ih (k + 1) (e' : Int) (toF q) (by omega) (by omega) (by omega)
         refine ⟨r2, g1, ?_⟩
         rcases g2 with g2 | ⟨e, b, g3, g4⟩
         ·exact .inl g2
         ·refine .inr ⟨e, b, g3, fun hb => ?_⟩
          obtain ⟨q', h1, h2⟩ := g4 hb
          obtain rfl : e' = q' := by omega
          exact ⟨q, rfl, .kid hlt hv (by omega) (by omega) hks h2⟩
     ·rw [if_neg hv]; exact ⟨_, rfl, .inl rfl⟩
    ·rw [if_neg (by omega)]
     refine ⟨_, rfl, .inr ⟨next.toNat, a, ?_, fun hb => ⟨next.toNat, by omega, .done (by omega) hb⟩⟩⟩
     rw [Int.toNat_of_nonneg (by omega)]
  show ∃ r, qbn_ (qd_ n) n Cur.x (i : Int) = some r ∧ _
  unfold qbn_ qck_
  rw [if_pos (by omega)]
  simp only [Option.bind_some, Int.toNat_natCast]
  rw [w64_inc' (by have := Cur.x.le; omega)]
  obtain ⟨r, e1, e2⟩ := loop n 0 ((i + 1 : Nat) : Int) (atF i) (Nat.zero_le _) (by omega) (by have := hK i; omega)
  have e1 : iterM (qg_ (qd_ n) n Cur.x (i : Int)) n (((i + 1 : Nat) : Int), (Cur.x.l.getD i (0, 0, 0, 0, 0, 0, nl0, 0)).2.2.1, 0) = some r := e1
  rw [e1]
  rcases e2 with rfl | ⟨e, b, rfl, e3⟩
  ·exact ⟨_, rfl, fun h => absurd h (by decide)⟩
  ·change ∃ r, (if b > toF i then some (-1) else some (e : Int)) = some r ∧ _
   by_cases hb : b > toF i
   ·rw [if_pos hb]; exact ⟨_, rfl, fun h => absurd h (by decide)⟩
   ·rw [if_neg hb]
    refine ⟨_, rfl, fun _ => ⟨e, rfl, ?_⟩⟩
    obtain ⟨q, h1, h2⟩ := e3 (by omega)
    obtain rfl : i + 1 = q := by omega
    exact h2
end

section
variable [Cur]

structure SP (a1 a2 a3 a4 a5 : Int) (len : Nat) : Prop where
 k1 : 1 ≤ a1
 k6 : a1 ≤ 6
 a0 : 0 ≤ a2
 at_ : a2 ≤ a4
 lk : a2 < a5
 tok : (a1 = 3 ∨ a1 = 5 ∨ a1 = 6) → a2 ≤ a3 ∧ a3 ≤ a4
 non : (a1 = 1 ∨ a1 = 2 ∨ a1 = 4) → a3 = a2
 mis : a1 = 4 → a2 = a4
 leaf : a1 ≠ 1 → a1 ≠ 2 → len = 0
theorem leaf_ok (n : Nat) (a : Int) : qm_ n a = some (if a = 1 then false else if a = 2 then false else true) := by
 unfold qm_
 repeat' split
 all_goals rfl
theorem bare_ok' (n : Nat) (a0 a1 a2 a3 a4 a5 : Int) (a6 : NL) (a7 : Int) (o : Option Bool) (h : qz_ n a0 a1 a2 a3 a4 a5 a6 a7 = o) : o = some false ∨ (o = some true ∧ SP a1 a2 a3 a4 a5 a6.l.length) := by
 unfold qz_ at h
 simp only [leaf_ok, Option.bind_some] at h
 have leaf : ∀ o, (if (if a1 = 1 then false else if a1 = 2 then false else true) = true then if ((a6.l.length : Nat) : Int) = 0 then some true else some false else some true) = o → o = some false ∨ (o = some true ∧ (a1 ≠ 1 → a1 ≠ 2 → a6.l.length = 0)) := by
  intro o h
  by_cases c1 : a1 = 1
  ·rw [if_pos c1, if_neg (by decide)] at h
   exact .inr ⟨h.symm, fun h => absurd c1 h⟩
  rw [if_neg c1] at h
  by_cases c2 : a1 = 2
  ·rw [if_pos c2, if_neg (by decide)] at h
   exact .inr ⟨h.symm, fun _ h => absurd c2 h⟩
  rw [if_neg c2, if_pos rfl] at h
  by_cases cl : ((a6.l.length : Nat) : Int) = 0
  ·rw [if_pos cl] at h
   exact .inr ⟨h.symm, fun _ _ => by omega⟩
  ·rw [if_neg cl] at h
   exact .inl h.symm
 by_cases c1 : a1 < 1
 ·rw [if_pos c1] at h; exact .inl h.symm
 rw [if_neg c1] at h
 by_cases c2 : a1 > 6
 ·rw [if_pos c2] at h; exact .inl h.symm
 rw [if_neg c2] at h
 by_cases c3 : a2 < 0
 ·rw [if_pos c3] at h; exact .inl h.symm
 rw [if_neg c3] at h
 by_cases c4 : a2 > a4
 ·rw [if_pos c4] at h; exact .inl h.symm
 rw [if_neg c4] at h
 by_cases c5 : a5 ≤ a2
 ·rw [if_pos c5] at h; exact .inl h.symm
 rw [if_neg c5] at h
 have tok : ∀ (g : Option Bool) (k : a1 = 3 ∨ a1 = 5 ∨ a1 = 6), (if a3 < a2 then some false else if a3 > a4 then some false else if a1 = 4 then g else (if (if a1 = 1 then false else if a1 = 2 then false else true) = true then if ((a6.l.length : Nat) : Int) = 0 then some true else some false else some true)) = o → o = some false ∨ (o = some true ∧ SP a1 a2 a3 a4 a5 a6.l.length) := by
  intro g k h
  by_cases d1 : a3 < a2
  ·rw [if_pos d1] at h; exact .inl h.symm
  rw [if_neg d1] at h
  by_cases d2 : a3 > a4
  ·rw [if_pos d2] at h; exact .inl h.symm
  rw [if_neg d2, if_neg (by omega)] at h
  rcases leaf o h with h | ⟨h, hl⟩
  ·exact .inl h
  ·exact .inr ⟨h, by omega, by omega, by omega, by omega, by omega, fun _ => by omega, fun _ => by omega, fun _ => by omega, hl⟩
 by_cases k3 : a1 = 3
 ·rw [if_pos k3] at h; exact tok _ (by omega) h
 rw [if_neg k3] at h
 by_cases k5 : a1 = 5
 ·rw [if_pos k5] at h; exact tok _ (by omega) h
 rw [if_neg k5] at h
 by_cases k6 : a1 = 6
 ·rw [if_pos k6] at h; exact tok _ (by omega) h
 rw [if_neg k6] at h
 by_cases d3 : ¬ a3 = a2
 ·rw [if_neg d3] at h; exact .inl h.symm
 have d3 := Decidable.not_not.1 d3
 rw [if_pos d3] at h
 by_cases k4 : a1 = 4
 ·rw [if_pos k4] at h
  by_cases d4 : a2 = a4
  ·rw [if_pos d4] at h
   rcases leaf o h with h | ⟨h, hl⟩
   ·exact .inl h
   ·exact .inr ⟨h, by omega, by omega, by omega, by omega, by omega, fun _ => by omega, fun _ => by omega, fun _ => by omega, hl⟩
  ·rw [if_neg d4] at h; exact .inl h.symm
 ·rw [if_neg k4] at h
  rcases leaf o h with h | ⟨h, hl⟩
  ·exact .inl h
  ·exact .inr ⟨h, by omega, by omega, by omega, by omega, by omega, fun _ => by omega, fun _ => by omega, fun _ => by omega, hl⟩
theorem bare_ok (n : Nat) (a0 a1 a2 a3 a4 a5 : Int) (a6 : NL) (a7 : Int) : ∃ b, qz_ n a0 a1 a2 a3 a4 a5 a6 a7 = some b ∧ (b = true → SP a1 a2 a3 a4 a5 a6.l.length) := by
 rcases bare_ok' n a0 a1 a2 a3 a4 a5 a6 a7 _ rfl with h | ⟨h, h2⟩
 ·exact ⟨false, h, fun h => by cases h⟩
 ·exact ⟨true, h, fun _ => h2⟩
theorem sound_ok (n : Nat) (a0 a1 a2 a3 a4 a5 : Int) (a6 : NL) (a7 : Int) (h : SP a1 a2 a3 a4 a5 a6.l.length) : qd9_ n a0 a1 a2 a3 a4 a5 a6 a7 = some true := by
 obtain ⟨h1, h2, h3, h4, h5, h6, h7, h8, h9⟩ := h
 unfold qd9_
 rw [if_neg (by omega), if_neg (by omega), if_neg (by omega)]
 by_cases c1 : a1 = 1
 ·rw [if_pos c1, if_pos (h7 (by omega))]
 rw [if_neg c1]
 by_cases c2 : a1 = 2
 ·rw [if_pos c2, if_pos (h7 (by omega))]
 rw [if_neg c2]
 have hl := h9 c1 c2
 by_cases c4 : a1 = 4
 ·have := h8 c4
  rw [if_pos c4, if_pos (h7 (by omega)), if_pos (by omega), if_pos (by omega)]
 rw [if_neg c4]
 have ht := h6 (by omega)
 by_cases c3 : a1 = 3
 ·rw [if_pos c3, if_pos (by omega), if_pos (by omega), if_pos (by omega)]
 rw [if_neg c3]
 by_cases c5 : a1 = 5
 ·rw [if_pos c5, if_pos (by omega), if_pos (by omega), if_pos (by omega)]
 rw [if_neg c5, if_pos (by omega), if_pos (by omega), if_pos (by omega), if_pos (by omega)]

def SPi (i : Nat) : Prop := SP (pt i).2.1 (pt i).2.2.1 (pt i).2.2.2.1 (pt i).2.2.2.2.1 (pt i).2.2.2.2.2.1 (kd i).length
structure Tree : Prop where
 pos : 0 < Cur.x.l.length
 max : Cur.x.l.length ≤ 524288
 sp : ∀ i, i < Cur.x.l.length → SPi i
 root : ∀ i, 0 < i → i < Cur.x.l.length → (pt i).2.1 ≠ 1
 ks : Ks 0 0 1 (atF 0) Cur.x.l.length
theorem check1_ok {n : Nat} (hn : Cur.x.l.length < n) (hL : Cur.x.l.length ≤ 1000000) : ∃ r, qcv_ n Cur.x 0 = some r ∧ (r = .inr () → ∀ i, i < Cur.x.l.length → SPi i ∧ (0 < i → (pt i).2.1 ≠ 1)) := by
 obtain ⟨r, q1, q2⟩ := hoare (B := qh_ n Cur.x) (σ := Unit) (fun _ i => i) (fun i _ => ∀ j, j < i → SPi j ∧ (0 < j → (pt j).2.1 ≠ 1)) (fun r => r = .inr () → ∀ i, i < Cur.x.l.length → SPi i ∧ (0 < i → (pt i).2.1 ≠ 1)) Cur.x.l.length
  (fun i s hi hI => by
   obtain ⟨b, e1, e2⟩ := bare_ok n (pt i).1 (pt i).2.1 (pt i).2.2.1 (pt i).2.2.2.1 (pt i).2.2.2.2.1 (pt i).2.2.2.2.2.1 (pt i).2.2.2.2.2.2.1 (pt i).2.2.2.2.2.2.2
   have hB : qh_ n Cur.x (i : Int) = ((qz_ n (pt i).1 (pt i).2.1 (pt i).2.2.1 (pt i).2.2.2.1 (pt i).2.2.2.2.1 (pt i).2.2.2.2.2.1 (pt i).2.2.2.2.2.2.1 (pt i).2.2.2.2.2.2.2).bind fun y => if y = true then (if (i : Int) > 0 then (if (pt i).2.1 = 1 then some (.inr (.inl ())) else some (.inl (w64 ((i : Int) + 1)))) else some (.inl (w64 ((i : Int) + 1)))) else some (.inr (.inl ()))) := by
    unfold qh_
    dsimp only
    rw [if_pos (by omega), if_pos (by omega)]
    simp only [Option.bind_some, Int.toNat_natCast]
    rfl
   rw [hB]
   rw [e1, w64_inc (by omega)]
   simp only [Option.bind_some]
   cases b with
   | false =>
    rw [if_neg (by decide)]
    exact .inr ⟨.inl (), (fun h => by cases h), rfl⟩
   | true =>
    have hsp : SPi i := e2 rfl
    rw [if_pos rfl]
    have go : (0 < i → (pt i).2.1 ≠ 1) → ∀ j, j < i + 1 → SPi j ∧ (0 < j → (pt j).2.1 ≠ 1) := fun h j hj => by
     rcases Nat.lt_or_ge j i with h1 | h1
     ·exact hI j h1
     ·obtain rfl : j = i := by omega
      exact ⟨hsp, h⟩
    by_cases c1 : (i : Int) > 0
    ·rw [if_pos c1]
     by_cases c2 : (pt i).2.1 = 1
     ·rw [if_pos c2]
      exact .inr ⟨.inl (), (fun h => by cases h), rfl⟩
     ·rw [if_neg c2]
      exact .inl ⟨(), go fun _ => c2, rfl⟩
    ·rw [if_neg c1]
     exact .inl ⟨(), go fun h => absurd h (by omega), rfl⟩)
  (fun s hI => by
   unfold qh_
   dsimp only
   rw [if_neg (by omega)]
   exact ⟨_, fun _ => hI, rfl⟩) n 0 () (Nat.zero_le _) (fun j hj => absurd hj (Nat.not_lt_zero _)) (by omega)
 exact ⟨r, q2, q1⟩
theorem refCheck_ok {n K : Nat} (hK : ∀ j, (kd j).length ≤ K) (hn : Cur.x.l.length + K + 20 < n) (hL : Cur.x.l.length ≤ 1000000) : ∃ c, qf_ n Cur.x = some c ∧ (c = 0 → Tree) := by
 unfold qf_
 by_cases c1 : ((Cur.x.l.length : Nat) : Int) > 524288
 ·rw [if_pos c1]; exact ⟨_, rfl, fun h => absurd h (by decide)⟩
 rw [if_neg c1]
 obtain ⟨r, e1, e2⟩ := check1_ok (n := n) (by omega) hL
 rw [e1]
 rcases r with r | r
 ·exact ⟨_, rfl, fun h => absurd h (by decide)⟩
 ·dsimp only
  have e2 := e2 rfl
  by_cases c2 : ((Cur.x.l.length : Nat) : Int) = 0
  ·rw [if_pos c2]; exact ⟨_, rfl, fun h => absurd h (by decide)⟩
  rw [if_neg c2]
  obtain ⟨q, g1, g2⟩ := end_ok n 0 K hK (by omega) (by omega)
  have g1 : qd_ n Cur.x 0 = some q := g1
  rw [g1]
  simp only [Option.bind_some]
  by_cases c3 : q = ((Cur.x.l.length : Nat) : Int)
  ·rw [if_pos c3]
   refine ⟨_, rfl, fun _ => ?_⟩
   obtain ⟨e, h1, h2⟩ := g2 (by omega)
   obtain rfl : e = Cur.x.l.length := by omega
   exact ⟨by omega, by omega, fun i hi => (e2 i hi).1, fun i h0 hi => (e2 i hi).2 h0, h2⟩
  ·rw [if_neg c3]; exact ⟨_, rfl, fun h => absurd h (by decide)⟩
end

section
variable [Cur]

abbrev E3 := Int × Int × Int
abbrev OSt := List E3 × Nat × Int
def Rch (n : Nat) (x y : OSt) (m : Nat) : Prop := ∀ f, iterM (qb_ n Cur.x (Cur.x.l.length : Int)) (f + m) x = iterM (qb_ n Cur.x (Cur.x.l.length : Int)) f y
theorem Rch.refl (n : Nat) (x : OSt) : Rch n x x 0 := fun _ => rfl
theorem Rch.step {n : Nat} {x y z : OSt} {m : Nat} (h : qb_ n Cur.x (Cur.x.l.length : Int) x = some (.inl y)) (k : Rch n y z m) : Rch n x z (m + 1) := fun f => by
 rw [← Nat.add_assoc, qb1_, h]
 exact k f
theorem Rch.trans {n : Nat} {x y z : OSt} {m k : Nat} (h : Rch n x y m) (j : Rch n y z k) : Rch n x z (m + k) := fun f => by
 have := h (f + k)
 rw [show f + k + m = f + (m + k) by omega] at this
 rw [this, j f]
theorem take_last {S : List E3} {s : Nat} {R : List E3} {x : E3} (hs : s ≤ S.length) (h : S.take s = R ++ [x]) : s = R.length + 1 ∧ S.getD R.length (0, 0, 0) = x ∧ S.take R.length = R := by
 have hl := congrArg List.length h
 rw [List.length_take, Nat.min_eq_left hs, List.length_append, List.length_singleton] at hl
 subst hl
 refine ⟨rfl, ?_, ?_⟩
 ·have h2 : (S.take (R.length + 1))[R.length]? = (R ++ [x])[R.length]? := by rw [h]
  rw [List.getElem?_take_of_lt (Nat.lt_succ_self _), List.getElem?_append_right (Nat.le_refl _), Nat.sub_self] at h2
  rw [List.getD_eq_getElem?_getD, h2]; rfl
 ·have h2 := congrArg (List.take R.length) h
  rw [List.take_take, Nat.min_eq_left (Nat.le_succ _), List.take_left] at h2
  exact h2
theorem take_set {S : List E3} {R : List E3} {y : E3} (hs : R.length < S.length) (h : S.take R.length = R) : (S.set R.length y).take (R.length + 1) = R ++ [y] := by
 rw [List.take_add_one, List.take_set_of_le (Nat.le_refl _), h, List.getElem?_set_self hs]; rfl
theorem take_set0 {S : List E3} {R : List E3} {y : E3} (h : S.take R.length = R) : (S.set R.length y).take R.length = R := by
 rw [List.take_set_of_le (Nat.le_refl _), h]
theorem ne_cons {S : List E3} (h : 0 < S.length) : ∃ a t, S = a :: t := by
 cases S with
 | nil => simp at h
 | cons a t => exact ⟨a, t, rfl⟩
theorem inB {n i p k s : Nat} {a : Int} {S R : List E3} (h0 : 0 < i) (hi : i < Cur.x.l.length) (hL : Cur.x.l.length ≤ 1000000) (hs : s ≤ S.length) (h : S.take s = R ++ [((p : Int), (k : Int), a)]) (hp : p < Cur.x.l.length) (hk : k < (kd p).length) (hv : (kd p).getD k 0 = (i : Int)) (ha : a ≤ atF i) (ht : toF i ≤ toF p) (hR : R.length ≤ 1000000) :
  ∃ S' s', qb_ n Cur.x (Cur.x.l.length : Int) (S, s, (i : Int)) = some (.inl (S', s', ((i + 1 : Nat) : Int))) ∧ s' ≤ S'.length ∧ 0 < S'.length ∧ S'.take s' = (if k + 1 < (kd p).length then R ++ [((p : Int), ((k + 1 : Nat) : Int), toF i)] else R) ++ (if 0 < (kd i).length then [((i : Int), 0, atF i)] else []) := by
 obtain ⟨rfl, hx, hR0⟩ := take_last hs h
 have hkl := kd_le p
 have hw : w64 (((R.length + 1 : Nat) : Int) - 1) = ((R.length : Nat) : Int) := by rw [qpl_ (by omega) (by omega)]; omega
 have hw2 : w64 ((i : Int) + 1) = ((i + 1 : Nat) : Int) := w64_inc (by omega)
 have hw3 : w64 ((k : Int) + 1) = ((k + 1 : Nat) : Int) := w64_inc' (by omega)
 obtain ⟨b, T, rfl⟩ := ne_cons (S := S) (by omega)
 have e1 : qb_ n Cur.x (Cur.x.l.length : Int) (b :: T, R.length + 1, (i : Int)) =
   (if (w64 ((k : Int) + 1)) = (((kd p).length : Nat) : Int) then
    if (((kd i).length : Nat) : Int) > 0 then
     if R.length ≤ ((b :: T).set R.length ((p : Int), w64 ((k : Int) + 1), toF i)).length then
      if (R.length + 1) * 24 ≤ 140737488355328 then
       some (.inl (List.take R.length ((b :: T).set R.length ((p : Int), w64 ((k : Int) + 1), toF i)) ++ [((i : Int), 0, atF i)], (List.take R.length ((b :: T).set R.length ((p : Int), w64 ((k : Int) + 1), toF i)) ++ [((i : Int), (0 : Int), atF i)]).length, w64 ((i : Int) + 1)))
      else none
     else none
    else some (.inl ((b :: T).set R.length ((p : Int), w64 ((k : Int) + 1), toF i), R.length, w64 ((i : Int) + 1)))
   else
    if (((kd i).length : Nat) : Int) > 0 then
     if R.length + 1 ≤ ((b :: T).set R.length ((p : Int), w64 ((k : Int) + 1), toF i)).length then
      if (R.length + 1 + 1) * 24 ≤ 140737488355328 then
       some (.inl (List.take (R.length + 1) ((b :: T).set R.length ((p : Int), w64 ((k : Int) + 1), toF i)) ++ [((i : Int), 0, atF i)], (List.take (R.length + 1) ((b :: T).set R.length ((p : Int), w64 ((k : Int) + 1), toF i)) ++ [((i : Int), (0 : Int), atF i)]).length, w64 ((i : Int) + 1)))
      else none
     else none
    else some (.inl ((b :: T).set R.length ((p : Int), w64 ((k : Int) + 1), toF i), R.length + 1, w64 ((i : Int) + 1)))) := by
  unfold qb_
  dsimp only
  rw [if_pos (by omega), if_pos (by omega)]
  simp only [Option.bind_some, Int.toNat_natCast]
  rw [if_pos (by omega), if_neg (by omega), hw]
  simp only [Int.toNat_natCast]
  rw [if_pos (by omega), if_pos (by omega), hx]
  simp only [Option.bind_some, Int.toNat_natCast]
  rw [if_pos (by omega)]
  have hk2 : ((0 : Int) ≤ (k : Int) ∧ (k : Int) < (((Cur.x.l.getD p (0, 0, 0, 0, 0, 0, nl0, 0)).2.2.2.2.2.2.1.l.length : Nat) : Int)) := ⟨by omega, by have : k < (Cur.x.l.getD p (0, 0, 0, 0, 0, 0, nl0, 0)).2.2.2.2.2.2.1.l.length := hk; omega⟩
  rw [if_pos hk2, if_pos (show k < (Cur.x.l.getD p (0, 0, 0, 0, 0, 0, nl0, 0)).2.2.2.2.2.2.1.l.length from hk)]
  have hv2 : (Cur.x.l.getD p (0, 0, 0, 0, 0, 0, nl0, 0)).2.2.2.2.2.2.1.l.getD k 0 = (i : Int) := hv
  rw [hv2]
  simp only [Option.bind_some]
  rw [if_pos trivial, if_neg (show ¬ (Cur.x.l.getD i (0, 0, 0, 0, 0, 0, nl0, 0)).2.2.1 < a from fun h => absurd (show atF i < a from h) (by omega)), if_neg (show ¬ (Cur.x.l.getD i (0, 0, 0, 0, 0, 0, nl0, 0)).2.2.2.2.1 > (Cur.x.l.getD p (0, 0, 0, 0, 0, 0, nl0, 0)).2.2.2.2.1 from fun h => absurd (show toF i > toF p from h) (by omega)), if_pos (show (0 : Int) ≤ ((R.length : Nat) : Int) ∧ ((R.length : Nat) : Int) ≤ ((R.length + 1 : Nat) : Int) by omega)]
  rfl
 rw [e1, hw2, hw3]
 by_cases c1 : ((k + 1 : Nat) : Int) = (((kd p).length : Nat) : Int)
 ·rw [if_pos c1, if_neg (show ¬ k + 1 < (kd p).length by omega)]
  have ht0 := take_set0 (y := ((p : Int), ((k + 1 : Nat) : Int), toF i)) hR0
  by_cases c2 : (((kd i).length : Nat) : Int) > 0
  ·rw [if_pos c2, if_pos (show 0 < (kd i).length by omega), if_pos (by rw [List.length_set]; omega), if_pos (by omega), ht0]
   exact ⟨_, _, rfl, Nat.le_refl _, by simp, by rw [List.take_length]⟩
  ·rw [if_neg c2, if_neg (show ¬ 0 < (kd i).length by omega), List.append_nil]
   exact ⟨_, _, rfl, by rw [List.length_set]; omega, by rw [List.length_set]; omega, ht0⟩
 ·rw [if_neg c1, if_pos (show k + 1 < (kd p).length by omega)]
  have ht1 := take_set (y := ((p : Int), ((k + 1 : Nat) : Int), toF i)) (by omega) hR0
  by_cases c2 : (((kd i).length : Nat) : Int) > 0
  ·rw [if_pos c2, if_pos (show 0 < (kd i).length by omega), if_pos (by rw [List.length_set]; omega), if_pos (by omega), ht1]
   exact ⟨_, _, rfl, Nat.le_refl _, by simp, by rw [List.take_length]⟩
  ·rw [if_neg c2, if_neg (show ¬ 0 < (kd i).length by omega), List.append_nil]
   exact ⟨_, _, rfl, by rw [List.length_set]; omega, by rw [List.length_set]; omega, ht1⟩
theorem Ks.sim {n i k next e : Nat} {a : Int} (h : Ks i k next a e) (hL : Cur.x.l.length ≤ 1000000) (hs : ∀ j, j < Cur.x.l.length → atF j ≤ toF j) : i < next → i < Cur.x.l.length → ∀ (S : List E3) (s : Nat) (R : List E3), R.length + 1 ≤ next → 0 < S.length → s ≤ S.length → S.take s = (if k < (kd i).length then R ++ [((i : Int), (k : Int), a)] else R) →
  ∃ S' s', s' ≤ S'.length ∧ 0 < S'.length ∧ S'.take s' = R ∧ Rch n (S, s, (next : Int)) (S', s', (e : Int)) (e - next) := by
 induction h with
 | @done i k next a hk ha =>
  intro _ hi S s R hR h0 hs h
  rw [if_neg (by omega)] at h
  exact ⟨S, s, hs, h0, h, by rw [Nat.sub_self]; exact Rch.refl n _⟩
 | @kid i k next e' e a hk hv hn ha h1 h2 ih1 ih2 =>
  intro hin hi S s R hR h0 hs' h
  rw [if_pos hk] at h
  have l1 := h1.lt
  have l2 := h2.lt
  have hm := h2.mono hs
  obtain ⟨S1, s1, b1, b2, b3, b4⟩ := inB (n := n) (by omega) hn hL hs' h hi hk hv ha hm (by omega)
  obtain ⟨S2, s2, c1, c2, c3, c4⟩ := ih1 (by omega) hn S1 s1 (if k + 1 < (kd i).length then R ++ [((i : Int), ((k + 1 : Nat) : Int), toF next)] else R) (by split <;> simp <;> omega) b3 b2 (by
   rw [b4]
   by_cases hz : 0 < (kd next).length
   ·rw [if_pos hz, if_pos hz]; rfl
   ·rw [if_neg hz, if_neg hz, List.append_nil])
  obtain ⟨S3, s3, d1, d2, d3, d4⟩ := ih2 (by omega) hi S2 s2 R (by omega) c2 c1 c3
  refine ⟨S3, s3, d1, d2, d3, ?_⟩
  have := (Rch.step b1 c4).trans d4
  rwa [show e' - (next + 1) + 1 + (e - e') = e - next by omega] at this
theorem inOrder_ok {n : Nat} (hT : Tree) (hn : Cur.x.l.length < n) : qex_ n Cur.x = some true := by
 have hL : Cur.x.l.length ≤ 1000000 := by have := hT.max; omega
 have hs : ∀ j, j < Cur.x.l.length → atF j ≤ toF j := fun j hj => (hT.sp j hj).at_
 have hpos := hT.pos
 have hw : w64 ((0 : Int) + 1) = ((0 + 1 : Nat) : Int) := by decide
 unfold qex_ qfo_
 obtain ⟨m, rfl⟩ : ∃ m, n = m + 1 := ⟨n - 1, by omega⟩
 rw [qb1_]
 have hB0 : qb_ (m + 1) Cur.x (Cur.x.l.length : Int) ([], 0, 0) = if (((kd 0).length : Nat) : Int) > 0 then some (.inl ([(0, 0, atF 0)], 1, w64 ((0 : Int) + 1))) else some (.inl ([], 0, w64 ((0 : Int) + 1))) := by
  unfold qb_
  dsimp only
  rw [if_pos (by omega), if_pos (by omega)]
  simp only [Option.bind_some]
  rw [if_neg (by omega)]
  rfl
 rw [hB0, hw]
 by_cases hz : 0 < (kd 0).length
 ·rw [if_pos (by omega)]
  simp only [Option.bind_some]
  obtain ⟨S, s, h1, h2, h3, h4⟩ := hT.ks.sim (n := m + 1) hL hs (by omega) hpos [(0, 0, atF 0)] 1 [] (by simp) (by simp) (by simp) (by rw [if_pos hz]; rfl)
  have h4 := h4 (m - (Cur.x.l.length - 1))
  rw [show m - (Cur.x.l.length - 1) + (Cur.x.l.length - (0 + 1)) = m by omega] at h4
  have h4 : iterM (qb_ (m + 1) Cur.x (Cur.x.l.length : Int)) m ([(0, 0, atF 0)], 1, ((0 + 1 : Nat) : Int)) = _ := h4
  rw [h4]
  obtain ⟨q, hq⟩ : ∃ q, m - (Cur.x.l.length - 1) = q + 1 := ⟨m - (Cur.x.l.length - 1) - 1, by omega⟩
  rw [hq, qb1_]
  have hs0 : s = 0 := by
   have := congrArg List.length h3
   rw [List.length_take, List.length_nil] at this
   omega
  subst hs0
  obtain ⟨b, T, rfl⟩ := ne_cons h2
  have : qb_ (m + 1) Cur.x (Cur.x.l.length : Int) (b :: T, 0, (Cur.x.l.length : Int)) = some (.inr (.inr (b :: T, 0))) := by
   unfold qb_
   dsimp only
   rw [if_neg (by omega)]
  rw [this]
  rfl
 ·rw [if_neg (by omega)]
  simp only [Option.bind_some]
  have h1 : Cur.x.l.length = 1 := by
   have hh := hT.ks
   generalize Cur.x.l.length = N at hh
   cases hh with
   | done => rfl
   | kid hk => omega
  obtain ⟨q, rfl⟩ : ∃ q, m = q + 1 := ⟨m - 1, by omega⟩
  rw [qb1_]
  have : qb_ (q + 1 + 1) Cur.x (Cur.x.l.length : Int) ([], 0, ((0 + 1 : Nat) : Int)) = some (.inr (.inr ([], 0))) := by
   unfold qb_
   dsimp only
   rw [if_neg (by omega)]
  rw [this]
  rfl
theorem check_ok {n : Nat} (hT : Tree) (hn : Cur.x.l.length < n) : qea_ n Cur.x = some 0 := by
 have hpos := hT.pos
 have hmax := hT.max
 unfold qea_
 rw [if_neg (by omega), if_neg (by omega), inOrder_ok hT hn]
 simp only [Option.bind_some]
 rw [if_pos trivial]
 obtain ⟨r, rfl, q2⟩ := hoare (B := qca_ n Cur.x (Cur.x.l.length : Int)) (σ := Unit) (fun _ i => i) (fun i _ => True) (fun r => r = .inr ()) Cur.x.l.length
  (fun i s hi hI => by
   have hsp := sound_ok n (pt i).1 (pt i).2.1 (pt i).2.2.1 (pt i).2.2.2.1 (pt i).2.2.2.2.1 (pt i).2.2.2.2.2.1 (pt i).2.2.2.2.2.2.1 (pt i).2.2.2.2.2.2.2 (hT.sp i hi)
   have hB : qca_ n Cur.x (Cur.x.l.length : Int) (i : Int) = ((qd9_ n (pt i).1 (pt i).2.1 (pt i).2.2.1 (pt i).2.2.2.1 (pt i).2.2.2.2.1 (pt i).2.2.2.2.2.1 (pt i).2.2.2.2.2.2.1 (pt i).2.2.2.2.2.2.2).bind fun y => if y = true then (if (pt i).2.1 = 1 then (if (i : Int) > 0 then some (.inr (.inl ())) else some (.inl (w64 ((i : Int) + 1)))) else some (.inl (w64 ((i : Int) + 1)))) else some (.inr (.inl ()))) := by
    unfold qca_
    dsimp only
    rw [if_pos (by omega), if_pos (by omega)]
    simp only [Option.bind_some, Int.toNat_natCast]
    rfl
   rw [hB, hsp, w64_inc (by omega)]
   simp only [Option.bind_some]
   rw [if_pos trivial]
   by_cases c1 : (pt i).2.1 = 1
   ·rw [if_pos c1, if_neg (show ¬ (i : Int) > 0 from fun h => hT.root i (by omega) hi c1)]
    exact .inl ⟨(), trivial, rfl⟩
   ·rw [if_neg c1]
    exact .inl ⟨(), trivial, rfl⟩)
  (fun s hI => by
   unfold qca_
   dsimp only
   rw [if_neg (by omega)]
   exact ⟨_, rfl, rfl⟩) n 0 () (Nat.zero_le _) trivial (by omega)
 have q2 : qha_ n Cur.x (Cur.x.l.length : Int) 0 = some (.inr ()) := q2
 rw [q2]
end

section
variable [Cur]

theorem sound_tells' (n : Nat) (a0 a1 a2 a3 a4 a5 : Int) (a6 : NL) (a7 : Int) (o : Option Bool) (h : qd9_ n a0 a1 a2 a3 a4 a5 a6 a7 = o) : o = some false ∨ (o = some true ∧ SP a1 a2 a3 a4 a5 a6.l.length) := by
 unfold qd9_ at h
 by_cases c1 : a2 < 0
 ·rw [if_pos c1] at h; exact .inl h.symm
 rw [if_neg c1] at h
 by_cases c2 : a2 > a4
 ·rw [if_pos c2] at h; exact .inl h.symm
 rw [if_neg c2] at h
 by_cases c3 : a5 ≤ a2
 ·rw [if_pos c3] at h; exact .inl h.symm
 rw [if_neg c3] at h
 have leaf : ∀ (h : (if ((a6.l.length : Nat) : Int) = 0 then some true else some false) = o), o = some false ∨ (o = some true ∧ a6.l.length = 0) := by
  intro h
  by_cases c : ((a6.l.length : Nat) : Int) = 0
  ·rw [if_pos c] at h; exact .inr ⟨h.symm, by omega⟩
  ·rw [if_neg c] at h; exact .inl h.symm
 have tok : ∀ (k : a1 = 3 ∨ a1 = 5 ∨ a1 = 6) (h : (if a3 ≥ a2 then (if a3 ≤ a4 then (if ((a6.l.length : Nat) : Int) = 0 then some true else some false) else some false) else some false) = o), o = some false ∨ (o = some true ∧ SP a1 a2 a3 a4 a5 a6.l.length) := by
  intro k h
  by_cases d1 : a3 ≥ a2
  ·rw [if_pos d1] at h
   by_cases d2 : a3 ≤ a4
   ·rw [if_pos d2] at h
    rcases leaf h with h | ⟨h, hl⟩
    ·exact .inl h
    ·exact .inr ⟨h, by omega, by omega, by omega, by omega, by omega, fun _ => by omega, fun _ => by omega, fun _ => by omega, fun _ _ => hl⟩
   ·rw [if_neg d2] at h; exact .inl h.symm
  ·rw [if_neg d1] at h; exact .inl h.symm
 by_cases k1 : a1 = 1
 ·rw [if_pos k1] at h
  by_cases d : a3 = a2
  ·rw [if_pos d] at h; exact .inr ⟨h.symm, by omega, by omega, by omega, by omega, by omega, fun _ => by omega, fun _ => by omega, fun _ => by omega, fun h => absurd k1 h⟩
  ·rw [if_neg d] at h; exact .inl h.symm
 rw [if_neg k1] at h
 by_cases k2 : a1 = 2
 ·rw [if_pos k2] at h
  by_cases d : a3 = a2
  ·rw [if_pos d] at h; exact .inr ⟨h.symm, by omega, by omega, by omega, by omega, by omega, fun _ => by omega, fun _ => by omega, fun _ => by omega, fun _ h => absurd k2 h⟩
  ·rw [if_neg d] at h; exact .inl h.symm
 rw [if_neg k2] at h
 by_cases k4 : a1 = 4
 ·rw [if_pos k4] at h
  by_cases d : a3 = a2
  ·rw [if_pos d] at h
   by_cases d2 : a4 = a2
   ·rw [if_pos d2] at h
    rcases leaf h with h | ⟨h, hl⟩
    ·exact .inl h
    ·exact .inr ⟨h, by omega, by omega, by omega, by omega, by omega, fun _ => by omega, fun _ => by omega, fun _ => by omega, fun _ _ => hl⟩
   ·rw [if_neg d2] at h; exact .inl h.symm
  ·rw [if_neg d] at h; exact .inl h.symm
 rw [if_neg k4] at h
 by_cases k3 : a1 = 3
 ·rw [if_pos k3] at h; exact tok (by omega) h
 rw [if_neg k3] at h
 by_cases k5 : a1 = 5
 ·rw [if_pos k5] at h; exact tok (by omega) h
 rw [if_neg k5] at h
 by_cases k6 : a1 = 6
 ·rw [if_pos k6] at h; exact tok (by omega) h
 rw [if_neg k6] at h
 exact .inl h.symm
theorem sound_tells (n : Nat) (a0 a1 a2 a3 a4 a5 : Int) (a6 : NL) (a7 : Int) : ∃ b, qd9_ n a0 a1 a2 a3 a4 a5 a6 a7 = some b ∧ (b = true → SP a1 a2 a3 a4 a5 a6.l.length) := by
 rcases sound_tells' n a0 a1 a2 a3 a4 a5 a6 a7 _ rfl with h | ⟨h, h2⟩
 ·exact ⟨false, h, fun h => by cases h⟩
 ·exact ⟨true, h, fun _ => h2⟩
def nxt (R : List E3) (p k i : Nat) : List E3 := (if 0 < (kd i).length then [((i : Int), 0, atF i)] else []) ++ ((if k + 1 < (kd p).length then [((p : Int), ((k + 1 : Nat) : Int), toF i)] else []) ++ R)
inductive Ok : List E3 → Nat → Prop
 | fin : Ok [] Cur.x.l.length
 | step {R : List E3} {p k i : Nat} {a : Int} (hi : i < Cur.x.l.length) (hv : (kd p).getD k 0 = (i : Int)) (ha : a ≤ atF i) (ht : toF i ≤ toF p) (h : Ok (nxt R p k i) (i + 1)) : Ok (((p : Int), (k : Int), a) :: R) i
def Opn (L : List E3) : Prop := ∀ x ∈ L, ∃ (p k : Nat) (a : Int), x = ((p : Int), (k : Int), a) ∧ p < Cur.x.l.length ∧ k < (kd p).length
theorem opn_nxt {R : List E3} {p k i : Nat} {a : Int} (h : Opn (((p : Int), (k : Int), a) :: R)) (hi : i < Cur.x.l.length) : Opn (nxt R p k i) := by
 obtain ⟨p', k', a', e, h1, h2⟩ := h _ (List.mem_cons_self ..)
 obtain ⟨e1, e2, e3⟩ : (p : Int) = p' ∧ (k : Int) = k' ∧ a = a' := by injection e with e1 e2; injection e2 with e2 e3; exact ⟨e1, e2, e3⟩
 obtain rfl : p = p' := by omega
 intro x hx
 unfold nxt at hx
 rcases List.mem_append.1 hx with hx | hx
 ·by_cases c : 0 < (kd i).length
  ·rw [if_pos c] at hx
   obtain rfl := List.mem_singleton.1 hx
   exact ⟨i, 0, atF i, rfl, hi, c⟩
  ·rw [if_neg c] at hx; cases hx
 ·rcases List.mem_append.1 hx with hx | hx
  ·by_cases c : k + 1 < (kd p).length
   ·rw [if_pos c] at hx
    obtain rfl := List.mem_singleton.1 hx
    exact ⟨p, k + 1, toF i, rfl, h1, c⟩
   ·rw [if_neg c] at hx; cases hx
  ·exact h x (List.mem_cons_of_mem _ hx)
theorem inV {n i p k s : Nat} {a : Int} {S R : List E3} (h0 : 0 < i) (hi : i < Cur.x.l.length) (hL : Cur.x.l.length ≤ 1000000) (hs : s ≤ S.length) (h : S.take s = R ++ [((p : Int), (k : Int), a)]) (hp : p < Cur.x.l.length) (hk : k < (kd p).length) (hR : R.length ≤ 1000000) :
  qb_ n Cur.x (Cur.x.l.length : Int) (S, s, (i : Int)) = some (.inr (.inl ())) ∨ ((kd p).getD k 0 = (i : Int) ∧ a ≤ atF i ∧ toF i ≤ toF p) := by
 obtain ⟨rfl, hx, hR0⟩ := take_last hs h
 have hkl := kd_le p
 have hw : w64 (((R.length + 1 : Nat) : Int) - 1) = ((R.length : Nat) : Int) := by rw [qpl_ (by omega) (by omega)]; omega
 obtain ⟨b, T, rfl⟩ := ne_cons (S := S) (by omega)
 by_cases c : (kd p).getD k 0 = (i : Int) ∧ a ≤ atF i ∧ toF i ≤ toF p
 ·exact .inr c
 ·left
  unfold qb_
  dsimp only
  rw [if_pos (by omega), if_pos (by omega)]
  simp only [Option.bind_some, Int.toNat_natCast]
  rw [if_pos (by omega), if_neg (by omega), hw]
  simp only [Int.toNat_natCast]
  rw [if_pos (by omega), if_pos (by omega), hx]
  simp only [Option.bind_some, Int.toNat_natCast]
  rw [if_pos (by omega)]
  have hk2 : ((0 : Int) ≤ (k : Int) ∧ (k : Int) < (((Cur.x.l.getD p (0, 0, 0, 0, 0, 0, nl0, 0)).2.2.2.2.2.2.1.l.length : Nat) : Int)) := ⟨by omega, by have : k < (Cur.x.l.getD p (0, 0, 0, 0, 0, 0, nl0, 0)).2.2.2.2.2.2.1.l.length := hk; omega⟩
  rw [if_pos hk2, if_pos (show k < (Cur.x.l.getD p (0, 0, 0, 0, 0, 0, nl0, 0)).2.2.2.2.2.2.1.l.length from hk)]
  by_cases c1 : (kd p).getD k 0 = (i : Int)
  ·rw [if_pos (show (Cur.x.l.getD p (0, 0, 0, 0, 0, 0, nl0, 0)).2.2.2.2.2.2.1.l.getD k 0 = (i : Int) from c1)]
   by_cases c2 : a ≤ atF i
   ·have c3 : ¬ toF i ≤ toF p := fun h => c ⟨c1, c2, h⟩
    rw [if_neg (show ¬ (Cur.x.l.getD i (0, 0, 0, 0, 0, 0, nl0, 0)).2.2.1 < a from fun h => absurd (show atF i < a from h) (by omega)), if_pos (show (Cur.x.l.getD i (0, 0, 0, 0, 0, 0, nl0, 0)).2.2.2.2.1 > (Cur.x.l.getD p (0, 0, 0, 0, 0, 0, nl0, 0)).2.2.2.2.1 from (by have : ¬ toF i ≤ toF p := c3; show toF i > toF p; omega))]
   ·rw [if_pos (show (Cur.x.l.getD i (0, 0, 0, 0, 0, 0, nl0, 0)).2.2.1 < a from (by show atF i < a; omega))]
  ·rw [if_neg (show ¬ (Cur.x.l.getD p (0, 0, 0, 0, 0, 0, nl0, 0)).2.2.2.2.2.2.1.l.getD k 0 = (i : Int) from c1)]
def good (r : Unit ⊕ (List E3 × Nat)) : Prop := ∃ S s, r = .inr (S, s) ∧ (S = [] ∨ s = 0)
def inRes (o : Option (Unit ⊕ (List E3 × Nat))) : Option Bool := match o with
 | none => none
 | some (.inl _) => some false
 | some (.inr (c1_0, c1_1)) => match c1_0 with
  | [] => some true
  | c1_0a :: c1_0t => if ((c1_1 : Nat) : Int) = (0 : Int) then some true else some false
theorem inRun {n : Nat} (hL : Cur.x.l.length ≤ 1000000) : ∀ (f i : Nat) (S : List E3) (s : Nat) (L : List E3), Cur.x.l.length - i < f → 0 < i → i ≤ Cur.x.l.length → s ≤ S.length → S.take s = L.reverse → L.length ≤ i → Opn L → ∃ r, iterM (qb_ n Cur.x (Cur.x.l.length : Int)) f (S, s, (i : Int)) = some r ∧ (good r → Ok L i)
 | 0, i, S, s, L, h, _, _, _, _, _, _ => absurd h (Nat.not_lt_zero _)
 | f + 1, i, S, s, L, hf, h0, hi, hs, hS, hl, hO => by
  rw [qb1_]
  by_cases hN : i = Cur.x.l.length
  ·have hB : qb_ n Cur.x (Cur.x.l.length : Int) (S, s, (i : Int)) = some (.inr (.inr (S, match S with | [] => 0 | _ :: _ => s))) := by
    unfold qb_
    cases S with
    | nil => dsimp only; rw [if_neg (by omega)]
    | cons b T => dsimp only; rw [if_neg (by omega)]
   rw [hB]
   refine ⟨_, rfl, fun ⟨S', s', e, h⟩ => ?_⟩
   injection e with e
   injection e with e1 e2
   subst e1
   have : L = [] := by
    cases S with
    | nil => rw [List.take_nil] at hS; exact List.reverse_eq_nil_iff.1 hS.symm
    | cons b T =>
     rcases h with h | h
     ·cases h
     ·rw [← e2] at h
      have h : s = 0 := h
      subst h
      exact List.reverse_eq_nil_iff.1 hS.symm
   rw [this, hN]
   exact .fin
  ·have hi' : i < Cur.x.l.length := by omega
   cases L with
   | nil =>
    have hB : qb_ n Cur.x (Cur.x.l.length : Int) (S, s, (i : Int)) = some (.inr (.inl ())) := by
     unfold qb_
     cases S with
     | nil => dsimp only; rw [if_pos (by omega), if_pos (by omega)]; simp only [Option.bind_some]; rw [if_pos (by omega)]
     | cons b T =>
      have : s = 0 := by
       have := congrArg List.length hS
       rw [List.length_take, List.reverse_nil, List.length_nil] at this
       simp at this
       exact this
      dsimp only; rw [if_pos (by omega), if_pos (by omega)]; simp only [Option.bind_some]; rw [if_pos (by omega), if_pos (by omega)]
    rw [hB]
    exact ⟨_, rfl, fun ⟨S', s', e, _⟩ => by cases e⟩
   | cons x R =>
    obtain ⟨p, k, a, rfl, hp, hk⟩ := hO x (List.mem_cons_self ..)
    rw [List.reverse_cons] at hS
    rw [List.length_cons] at hl
    rcases inV (n := n) h0 hi' hL hs hS hp hk (by rw [List.length_reverse]; omega) with hB | ⟨c1, c2, c3⟩
    ·rw [hB]
     exact ⟨_, rfl, fun ⟨S', s', e, _⟩ => by cases e⟩
    ·obtain ⟨S', s', g1, g2, g3, g4⟩ := inB (n := n) h0 hi' hL hs hS hp hk c1 c2 c3 (by rw [List.length_reverse]; omega)
     rw [g1]
     have hn : S'.take s' = (nxt R p k i).reverse := by
      rw [g4]
      unfold nxt
      by_cases d1 : k + 1 < (kd p).length <;> by_cases d2 : 0 < (kd i).length <;> simp [d1, d2]
     have hln : (nxt R p k i).length ≤ i + 1 := by
      unfold nxt
      by_cases d1 : k + 1 < (kd p).length <;> by_cases d2 : 0 < (kd i).length <;> simp [d1, d2] <;> omega
     obtain ⟨r, q1, q2⟩ := inRun hL f (i + 1) S' s' (nxt R p k i) (by omega) (by omega) (by omega) g2 hn hln (opn_nxt hO hi')
     exact ⟨r, q1, fun h => .step hi' c1 c2 c3 (q2 h)⟩
theorem Ok.ks (hs : ∀ j, j < Cur.x.l.length → atF j ≤ toF j) : ∀ (m i : Nat) (R : List E3) (p k : Nat) (a : Int), Cur.x.l.length - i ≤ m → k < (kd p).length → Ok (((p : Int), (k : Int), a) :: R) i → ∃ e, i < e ∧ Ks p k i a e ∧ Ok R e
 | m, i, R, p, k, a, hm, hk, h => by
  generalize hx : (((p : Int), (k : Int), a) :: R) = X at h
  cases h with
  | fin => cases hx
  | @step R' p' k' i a' hi hv ha ht h =>
   injection hx with e1 e2
   injection e1 with e3 e4
   injection e4 with e4 e5
   obtain rfl : p = p' := by omega
   obtain rfl : k = k' := by omega
   subst e2
   subst e5
   obtain ⟨m, rfl⟩ : ∃ q, m = q + 1 := ⟨m - 1, by omega⟩
   have mid : ∃ e, i < e ∧ Ks i 0 (i + 1) (atF i) e ∧ Ok ((if k + 1 < (kd p).length then [((p : Int), ((k + 1 : Nat) : Int), toF i)] else []) ++ R) e := by
    unfold nxt at h
    by_cases c : 0 < (kd i).length
    ·rw [if_pos c] at h
     obtain ⟨e, g1, g2, g3⟩ := Ok.ks hs m (i + 1) _ i 0 (atF i) (by omega) c h
     exact ⟨e, by omega, g2, g3⟩
    ·rw [if_neg c] at h
     exact ⟨i + 1, by omega, .done (by omega) (hs i hi), h⟩
   obtain ⟨e, g1, g2, g3⟩ := mid
   by_cases c : k + 1 < (kd p).length
   ·rw [if_pos c] at g3
    obtain ⟨e', h1, h2, h3⟩ := Ok.ks hs m e R p (k + 1) (toF i) (by omega) c g3
    exact ⟨e', by omega, .kid hk hv hi ha g2 h2, h3⟩
   ·rw [if_neg c] at g3
    exact ⟨e, g1, .kid hk hv hi ha g2 (.done (by omega) ht), g3⟩
theorem Ok.nil {i : Nat} (h : Ok [] i) : i = Cur.x.l.length := by
 generalize hx : ([] : List E3) = X at h
 cases h with
 | fin => rfl
 | step => cases hx
theorem prgCheck {n : Nat} (hn : Cur.x.l.length < n) (hL : Cur.x.l.length ≤ 1000000) : ∃ c, qea_ n Cur.x = some c ∧ (c = 0 → Tree) := by
 unfold qea_
 by_cases c1 : ((Cur.x.l.length : Nat) : Int) > 524288
 ·rw [if_pos c1]; exact ⟨3, rfl, fun h => by cases h⟩
 rw [if_neg c1]
 by_cases c2 : ((Cur.x.l.length : Nat) : Int) = 0
 ·rw [if_pos c2]; exact ⟨2, rfl, fun h => by cases h⟩
 rw [if_neg c2]
 obtain ⟨m, rfl⟩ : ∃ m, n = m + 1 := ⟨n - 1, by omega⟩
 have hw : w64 ((0 : Int) + 1) = ((1 : Nat) : Int) := by decide
 have hin : ∃ b, qex_ (m + 1) Cur.x = some b ∧ (b = true → Ok (if 0 < (kd 0).length then [((0 : Nat), (0 : Nat), atF 0)] else []) 1) := by
  unfold qex_ qfo_
  rw [qb1_]
  have hB0 : qb_ (m + 1) Cur.x (Cur.x.l.length : Int) ([], 0, 0) = if (((kd 0).length : Nat) : Int) > 0 then some (.inl ([(0, 0, atF 0)], 1, w64 ((0 : Int) + 1))) else some (.inl ([], 0, w64 ((0 : Int) + 1))) := by
   unfold qb_
   dsimp only
   rw [if_pos (by omega), if_pos (by omega)]
   simp only [Option.bind_some]
   rw [if_neg (by omega)]
   rfl
  have fin : ∀ o : Option (Unit ⊕ (List E3 × Nat)), (∃ r, o = some r ∧ (good r → Ok (if 0 < (kd 0).length then [((0 : Nat), (0 : Nat), atF 0)] else []) 1)) → ∃ b, inRes o = some b ∧ (b = true → Ok (if 0 < (kd 0).length then [((0 : Nat), (0 : Nat), atF 0)] else []) 1) := by
   intro o ⟨r, e, h⟩
   subst e
   rcases r with _ | ⟨S, s⟩
   ·exact ⟨false, rfl, fun h => by cases h⟩
   ·cases S with
    | nil => exact ⟨true, rfl, fun _ => h ⟨_, _, rfl, .inl rfl⟩⟩
    | cons x T =>
     by_cases c : ((s : Nat) : Int) = 0
     ·exact ⟨true, by show (if ((s : Nat) : Int) = (0 : Int) then some true else some false) = _; rw [if_pos c], fun _ => h ⟨_, _, rfl, .inr (by omega)⟩⟩
     ·exact ⟨false, by show (if ((s : Nat) : Int) = (0 : Int) then some true else some false) = _; rw [if_neg c], fun h => by cases h⟩
  show ∃ b, inRes _ = some b ∧ _
  refine fin _ ?_
  rw [hB0, hw]
  by_cases hz : 0 < (kd 0).length
  ·rw [if_pos (by omega), if_pos hz]
   simp only [Option.bind_some]
   exact inRun hL m 1 _ 1 [((0 : Nat), (0 : Nat), atF 0)] (by omega) (by omega) (by omega) (by simp) rfl (by simp) (fun x hx => by
    obtain rfl := List.mem_singleton.1 hx
    exact ⟨0, 0, atF 0, rfl, by omega, hz⟩)
  ·rw [if_neg (by omega), if_neg hz]
   simp only [Option.bind_some]
   exact inRun hL m 1 [] 0 [] (by omega) (by omega) (by omega) (by simp) rfl (by simp) (fun x hx => by cases hx)
 obtain ⟨b, e1, h1⟩ := hin
 rw [e1]
 simp only [Option.bind_some]
 cases b with
 | false => rw [if_neg (by decide)]; exact ⟨2, rfl, fun h => by cases h⟩
 | true =>
  rw [if_pos rfl]
  have hOk := h1 rfl
  obtain ⟨r, q1, q2⟩ := hoare (B := qca_ (m + 1) Cur.x (Cur.x.l.length : Int)) (σ := Unit) (fun _ i => i) (fun i _ => ∀ j, j < i → SPi j ∧ (0 < j → (pt j).2.1 ≠ 1)) (fun r => r = .inr () → ∀ i, i < Cur.x.l.length → SPi i ∧ (0 < i → (pt i).2.1 ≠ 1)) Cur.x.l.length
   (fun i s hi hI => by
    obtain ⟨b, e1, e2⟩ := sound_tells (m + 1) (pt i).1 (pt i).2.1 (pt i).2.2.1 (pt i).2.2.2.1 (pt i).2.2.2.2.1 (pt i).2.2.2.2.2.1 (pt i).2.2.2.2.2.2.1 (pt i).2.2.2.2.2.2.2
    have hB : qca_ (m + 1) Cur.x (Cur.x.l.length : Int) (i : Int) = ((qd9_ (m + 1) (pt i).1 (pt i).2.1 (pt i).2.2.1 (pt i).2.2.2.1 (pt i).2.2.2.2.1 (pt i).2.2.2.2.2.1 (pt i).2.2.2.2.2.2.1 (pt i).2.2.2.2.2.2.2).bind fun y => if y = true then (if (pt i).2.1 = 1 then (if (i : Int) > 0 then some (.inr (.inl ())) else some (.inl (w64 ((i : Int) + 1)))) else some (.inl (w64 ((i : Int) + 1)))) else some (.inr (.inl ()))) := by
     unfold qca_
     dsimp only
     rw [if_pos (by omega), if_pos (by omega)]
     simp only [Option.bind_some, Int.toNat_natCast]
     rfl
    rw [hB, e1, w64_inc (by omega)]
    simp only [Option.bind_some]
    cases b with
    | false =>
     rw [if_neg (by decide)]
     exact .inr ⟨.inl (), (fun h => by cases h), rfl⟩
    | true =>
     have hsp : SPi i := e2 rfl
     rw [if_pos rfl]
     have go : (0 < i → (pt i).2.1 ≠ 1) → ∀ j, j < i + 1 → SPi j ∧ (0 < j → (pt j).2.1 ≠ 1) := fun h j hj => by
      rcases Nat.lt_or_ge j i with h1 | h1
      ·exact hI j h1
      ·obtain rfl : j = i := by omega
       exact ⟨hsp, h⟩
     by_cases d1 : (pt i).2.1 = 1
     ·rw [if_pos d1]
      by_cases d2 : (i : Int) > 0
      ·rw [if_pos d2]; exact .inr ⟨.inl (), (fun h => by cases h), rfl⟩
      ·rw [if_neg d2]; exact .inl ⟨(), go fun h => absurd h (by omega), rfl⟩
     ·rw [if_neg d1]; exact .inl ⟨(), go fun _ => d1, rfl⟩)
   (fun s hI => by
    unfold qca_
    dsimp only
    rw [if_neg (by omega)]
    exact ⟨_, fun _ => hI, rfl⟩) (m + 1) 0 () (Nat.zero_le _) (fun j hj => absurd hj (Nat.not_lt_zero _)) (by omega)
  have q2 : qha_ (m + 1) Cur.x (Cur.x.l.length : Int) 0 = some r := q2
  rw [q2]
  rcases r with r | r
  ·exact ⟨2, rfl, fun h => by cases h⟩
  ·refine ⟨0, rfl, fun _ => ?_⟩
   have hall := q1 rfl
   have hat : ∀ j, j < Cur.x.l.length → atF j ≤ toF j := fun j hj => (hall j hj).1.at_
   refine ⟨by omega, by omega, fun i hi => (hall i hi).1, fun i h0 hi => (hall i hi).2 h0, ?_⟩
   by_cases hz : 0 < (kd 0).length
   ·rw [if_pos hz] at hOk
    obtain ⟨e, g1, g2, g3⟩ := Ok.ks hat _ 1 [] 0 0 (atF 0) (Nat.le_refl _) hz hOk
    rw [← g3.nil]; exact g2
   ·rw [if_neg hz] at hOk
    rw [← hOk.nil]
    exact .done (by omega) (hat 0 (by omega))
end

section
variable [Cur]

theorem Ks.run {K i k next e : Nat} {a : Int} (hK : ∀ j, (kd j).length ≤ K) (h : Ks i k next a e) : i < next → i < Cur.x.l.length → ∀ n f, Cur.x.l.length - i + K + 9 < n → (kd i).length - k < f → ∃ b, b ≤ toF i ∧ iterM (qg_ (qd_ n) n Cur.x (i : Int)) f ((next : Int), a, (k : Int)) = some (.inr ((e : Int), b)) := by
 induction h with
 | @done i k next a hk ha =>
  intro hin hi n f hn hf
  obtain ⟨f, rfl⟩ : ∃ g, f = g + 1 := ⟨f - 1, by omega⟩
  refine ⟨a, ha, ?_⟩
  rw [qb1_]
  unfold qg_
  dsimp only
  rw [if_pos (by omega)]
  simp only [Option.bind_some, Int.toNat_natCast]
  rw [if_neg (show ¬ (k : Int) < ((((Cur.x.l.getD i (0, 0, 0, 0, 0, 0, nl0, 0)).2.2.2.2.2.2.1.l.length : Nat)) : Int) from fun hc => absurd (show k < (kd i).length from Int.ofNat_lt.1 hc) (by omega))]
  rfl
 | @kid i k next e' e a hk hv hn' ha h1 h2 ih1 ih2 =>
  intro hin hi n f hn hf
  obtain ⟨f, rfl⟩ : ∃ g, f = g + 1 := ⟨f - 1, by omega⟩
  have hkl := kd_le i
  have l1 := h1.lt
  obtain ⟨m, rfl⟩ : ∃ m, n = m + 1 := ⟨n - 1, by omega⟩
  obtain ⟨b1, hb1, e1⟩ := ih1 (by omega) hn' m m (by omega) (by have := hK next; omega)
  have hrec : qd_ (m + 1) Cur.x (next : Int) = some (e' : Int) := by
   show qbn_ (qd_ m) m Cur.x (next : Int) = _
   unfold qbn_ qck_
   rw [if_pos (by omega)]
   simp only [Option.bind_some, Int.toNat_natCast]
   rw [w64_inc' (by have := Cur.x.le; omega)]
   have e1 : iterM (qg_ (qd_ m) m Cur.x (next : Int)) m (((next + 1 : Nat) : Int), (Cur.x.l.getD next (0, 0, 0, 0, 0, 0, nl0, 0)).2.2.1, 0) = some (.inr ((e' : Int), b1)) := e1
   rw [e1]
   dsimp only
   rw [if_neg (show ¬ b1 > (Cur.x.l.getD next (0, 0, 0, 0, 0, 0, nl0, 0)).2.2.2.2.1 from fun hc => absurd (show b1 > toF next from hc) (by omega))]
  obtain ⟨b, hb, e2⟩ := ih2 (by omega) hi (m + 1) f hn (by omega)
  refine ⟨b, hb, ?_⟩
  rw [qb1_]
  have hB : qg_ (qd_ (m + 1)) (m + 1) Cur.x (i : Int) ((next : Int), a, (k : Int)) = some (.inl ((e' : Int), toF next, ((k + 1 : Nat) : Int))) := by
   unfold qg_
   dsimp only
   rw [if_pos (by omega)]
   simp only [Option.bind_some, Int.toNat_natCast]
   rw [if_pos (show (k : Int) < ((((Cur.x.l.getD i (0, 0, 0, 0, 0, 0, nl0, 0)).2.2.2.2.2.2.1.l.length : Nat)) : Int) from Int.ofNat_lt.2 hk), if_pos (show (0 : Int) ≤ (k : Int) ∧ (k : Int) < ((((Cur.x.l.getD i (0, 0, 0, 0, 0, 0, nl0, 0)).2.2.2.2.2.2.1.l.length : Nat)) : Int) from ⟨Int.natCast_nonneg _, Int.ofNat_lt.2 hk⟩), if_pos (show k < (Cur.x.l.getD i (0, 0, 0, 0, 0, 0, nl0, 0)).2.2.2.2.2.2.1.l.length from hk), if_pos (show (Cur.x.l.getD i (0, 0, 0, 0, 0, 0, nl0, 0)).2.2.2.2.2.2.1.l.getD k 0 = (next : Int) from hv), if_neg (by omega), if_pos (by omega), if_neg (show ¬ (Cur.x.l.getD next (0, 0, 0, 0, 0, 0, nl0, 0)).2.2.1 < a from fun hc => absurd (show atF next < a from hc) (by omega)), hrec]
   simp only [Option.bind_some]
   rw [if_neg (by omega), w64_inc' (by omega)]
   rfl
  rw [hB]
  exact e2
theorem endOf {K i e : Nat} (hK : ∀ j, (kd j).length ≤ K) (h : Ks i 0 (i + 1) (atF i) e) (hi : i < Cur.x.l.length) {n : Nat} (hn : Cur.x.l.length - i + K + 10 < n) : qd_ n Cur.x (i : Int) = some (e : Int) := by
 obtain ⟨m, rfl⟩ : ∃ m, n = m + 1 := ⟨n - 1, by omega⟩
 obtain ⟨b1, hb1, e1⟩ := h.run hK (by omega) hi m m (by omega) (by have := hK i; omega)
 show qbn_ (qd_ m) m Cur.x (i : Int) = _
 unfold qbn_ qck_
 rw [if_pos (by omega)]
 simp only [Option.bind_some, Int.toNat_natCast]
 rw [w64_inc' (by have := Cur.x.le; omega)]
 have e1 : iterM (qg_ (qd_ m) m Cur.x (i : Int)) m (((i + 1 : Nat) : Int), (Cur.x.l.getD i (0, 0, 0, 0, 0, 0, nl0, 0)).2.2.1, 0) = some (.inr ((e : Int), b1)) := e1
 rw [e1]
 dsimp only
 rw [if_neg (show ¬ b1 > (Cur.x.l.getD i (0, 0, 0, 0, 0, 0, nl0, 0)).2.2.2.2.1 from fun hc => absurd (show b1 > toF i from hc) (by omega))]
theorem Tree.end (hT : Tree) {i : Nat} (hi : i < Cur.x.l.length) : ∃ e, Ks i 0 (i + 1) (atF i) e ∧ i < e ∧ e ≤ Cur.x.l.length := by
 rcases Nat.eq_zero_or_pos i with rfl | h0
 ·exact ⟨_, hT.ks, hi, Nat.le_refl _⟩
 ·obtain ⟨f, h1, h⟩ := hT.ks.cover i (by omega) hi
  have := h.lt
  exact ⟨f, h, by omega, h1⟩
theorem Tree.kid (hT : Tree) {i q : Nat} (hi : i < Cur.x.l.length) (hq : q < (kd i).length) : ∃ c : Nat, (kd i).getD q 0 = (c : Int) ∧ i < c ∧ c < Cur.x.l.length := by
 obtain ⟨f, h, _⟩ := hT.end hi
 obtain ⟨c, h1, h2, h3, h4⟩ := h.kids q (Nat.zero_le _) hq
 exact ⟨c, h1, by omega, h4⟩
theorem Ks.none {i next e : Nat} {a : Int} (h : Ks i 0 next a e) (h0 : (kd i).length = 0) : e = next := by
 cases h with
 | done _ _ => rfl
 | kid hk => omega
end

section
variable [Cur]

theorem Ks.count {i k next e : Nat} {a : Int} (h : Ks i k next a e) : (kd i).length + next ≤ e + k := by
 induction h with
 | done hk => omega
 | kid hk hv hn ha h1 h2 ih1 ih2 => have := h1.lt; omega
theorem kd_out {i : Nat} (h : Cur.x.l.length ≤ i) : kd i = [] := by
 have : pt i = d8 := by unfold pt; rw [List.getD_eq_getElem?_getD, List.getElem?_eq_none h]; rfl
 unfold kd; rw [this]; rfl
theorem Tree.few (hT : Tree) (i : Nat) : (kd i).length ≤ Cur.x.l.length := by
 rcases Nat.lt_or_ge i Cur.x.l.length with h | h
 ·obtain ⟨e, h1, -, h3⟩ := hT.end h
  have := h1.count
  omega
 ·rw [kd_out h]; exact Nat.zero_le _
end

section
variable [Cur]

def setK (L : List Int) (i : Int) (ks : List Int) : List Int := ks.foldl (fun L k => L.set k.toNat i) L
theorem setK_snoc {L : List Int} {i : Int} {ks : List Int} {k : Int} : setK L i (ks ++ [k]) = (setK L i ks).set k.toNat i := by simp [setK]
theorem setK_len {L : List Int} {i : Int} : ∀ {ks : List Int}, (setK L i ks).length = L.length := by
 intro ks
 unfold setK
 induction ks generalizing L with
 | nil => rfl
 | cons k ks ih => rw [List.foldl_cons, ih, List.length_set]
def parN : Nat → List Int → List Int
 | 0, L => L
 | n + 1, L => setK (parN n L) (n : Int) (kd n)
theorem qud_ {L : List Int} : ∀ n, (parN n L).length = L.length
 | 0 => rfl
 | n + 1 => by
  show (setK (parN n L) (n : Int) (kd n)).length = _
  rw [setK_len, qud_ n]
def par0 : List Int := (List.replicate Cur.x.l.length (0 : Int)).set 0 (-1)
def parL : List Int := parN Cur.x.l.length par0
theorem parL_len : parL.length = Cur.x.l.length := by unfold parL par0; rw [qud_, List.length_set, List.length_replicate]
theorem take_snoc {L : List Int} {q : Nat} (h : q < L.length) : L.take (q + 1) = L.take q ++ [L.getD q 0] := by
 rw [List.take_add_one, List.getElem?_eq_getElem h, List.getD_eq_getElem?_getD, List.getElem?_eq_getElem h]; rfl
theorem refPar2 {n i : Nat} {L : List Int} (hT : Tree) (hi : i < Cur.x.l.length) (hn : (kd i).length < n) (hL : L.length = Cur.x.l.length) : qez_ n Cur.x Cur.x.l.length (i : Int) (L, 0) = some (setK L (i : Int) (kd i)) := by
 have hkl := kd_le i
 obtain ⟨r, rfl, h⟩ := hoare (B := qbd_ n Cur.x Cur.x.l.length (i : Int)) (σ := List Int) (fun s q => (s, q)) (fun q s => s = setK L (i : Int) ((kd i).take q)) (fun r => r = setK L (i : Int) (kd i)) (kd i).length
  (fun q s hq hI => by
   subst hI
   obtain ⟨c, h1, h2, h3⟩ := hT.kid hi hq
   unfold qbd_
   dsimp only
   rw [if_pos (by omega)]
   simp only [Option.bind_some, Int.toNat_natCast]
   rw [if_pos (show (q : Int) < ((((Cur.x.l.getD i (0, 0, 0, 0, 0, 0, nl0, 0)).2.2.2.2.2.2.1.l.length : Nat)) : Int) from Int.ofNat_lt.2 hq), if_pos (show (0 : Int) ≤ (q : Int) ∧ (q : Int) < ((((Cur.x.l.getD i (0, 0, 0, 0, 0, 0, nl0, 0)).2.2.2.2.2.2.1.l.length : Nat)) : Int) from ⟨Int.natCast_nonneg _, Int.ofNat_lt.2 hq⟩), if_pos (show q < (Cur.x.l.getD i (0, 0, 0, 0, 0, 0, nl0, 0)).2.2.2.2.2.2.1.l.length from hq), show (Cur.x.l.getD i (0, 0, 0, 0, 0, 0, nl0, 0)).2.2.2.2.2.2.1.l.getD q 0 = (c : Int) from h1]
   rw [if_pos (by omega)]
   simp only [Int.toNat_natCast]
   rw [if_pos (by rw [setK_len]; omega), w64_inc' (by omega)]
   refine .inl ⟨_, ?_, rfl⟩
   rw [take_snoc hq, h1, setK_snoc, Int.toNat_natCast])
  (fun s hI => by
   subst hI
   unfold qbd_
   dsimp only
   rw [if_pos (by omega)]
   simp only [Option.bind_some, Int.toNat_natCast]
   rw [if_neg (show ¬ ((kd i).length : Int) < ((((Cur.x.l.getD i (0, 0, 0, 0, 0, 0, nl0, 0)).2.2.2.2.2.2.1.l.length : Nat)) : Int) from Int.lt_irrefl _)]
   exact ⟨_, by rw [List.take_length], rfl⟩) n 0 L (Nat.zero_le _) rfl (by omega)
 exact h
theorem refPar1 {n K : Nat} (hT : Tree) (hK : ∀ j, (kd j).length ≤ K) (hn : Cur.x.l.length + K < n) : qde_ n Cur.x Cur.x.l.length (par0, 0) = some parL := by
 have hmax := hT.max
 obtain ⟨r, rfl, h⟩ := hoare (B := qbe_ n Cur.x Cur.x.l.length) (σ := List Int) (fun s q => (s, q)) (fun q s => s = parN q par0) (fun r => r = parL) Cur.x.l.length
  (fun q s hq hI => by
   subst hI
   have hk := hK q
   unfold qbe_
   dsimp only
   rw [if_pos (by omega), refPar2 hT hq (by omega) (by rw [qud_]; unfold par0; rw [List.length_set, List.length_replicate])]
   simp only [Option.bind_some]
   rw [w64_inc (by omega)]
   exact .inl ⟨_, rfl, rfl⟩)
  (fun s hI => by
   subst hI
   unfold qbe_
   dsimp only
   rw [if_neg (by omega)]
   exact ⟨_, rfl, rfl⟩) n 0 par0 (Nat.zero_le _) rfl (by omega)
 exact h
theorem refPar {n K : Nat} (hT : Tree) (hK : ∀ j, (kd j).length ≤ K) (hn : Cur.x.l.length + K < n) (hc : qf_ n Cur.x = some 0) : ∃ y : NL, qcw_ n Cur.x = some y ∧ y.l = parL := by
 have hmax := hT.max
 have hpos := hT.pos
 have hpl := parL_len
 unfold qcw_
 rw [hc]
 simp only [Option.bind_some]
 rw [if_pos trivial, if_pos (by omega)]
 simp only [Int.toNat_natCast]
 rw [if_pos (by omega), if_pos (by omega), if_pos (by rw [List.length_replicate]; exact hpos)]
 have h : qde_ n Cur.x Cur.x.l.length ((List.replicate Cur.x.l.length (0 : Int)).set ((0 : Int)).toNat (-1), 0) = some parL := refPar1 hT hK hn
 rw [h]
 simp only [Option.bind_some]
 rw [if_pos hpl.symm, dif_pos (by omega)]
 exact ⟨_, rfl, rfl⟩
end

section
variable [Cur]

theorem Ks.uniq {i e f : Nat} (h : Ks i 0 (i + 1) (atF i) e) (g : Ks i 0 (i + 1) (atF i) f) (hi : i < Cur.x.l.length) : e = f := by
 obtain ⟨K, hK⟩ := bound_kd
 have a1 := endOf (n := Cur.x.l.length + K + 20) hK h hi (by omega)
 have a2 := endOf (n := Cur.x.l.length + K + 20) hK g hi (by omega)
 rw [a1] at a2
 have := Option.some.inj a2
 omega
theorem setK_get {i : Int} {c : Nat} : ∀ {ks : List Int} {L : List Int}, (∀ k ∈ ks, 0 ≤ k) → c < L.length → (setK L i ks).getD c 0 = if (c : Int) ∈ ks then i else L.getD c 0
 | [], L, _, _ => by rw [if_neg (by simp)]; rfl
 | k :: ks, L, hk, hc => by
  have ih := setK_get (i := i) (c := c) (ks := ks) (L := L.set k.toNat i) (fun k h => hk k (List.mem_cons_of_mem _ h)) (by rw [List.length_set]; exact hc)
  have h0 := hk k (List.mem_cons_self ..)
  show (setK (L.set k.toNat i) i ks).getD c 0 = _
  rw [ih]
  by_cases h1 : (c : Int) ∈ ks
  ·rw [if_pos h1, if_pos (List.mem_cons_of_mem _ h1)]
  ·rw [if_neg h1]
   by_cases h2 : (c : Int) = k
   ·subst h2
    rw [if_pos (List.mem_cons_self ..), Int.toNat_natCast, getD_set hc, if_pos rfl]
   ·rw [if_neg (fun h => by rcases List.mem_cons.1 h with h | h; exact h2 h; exact h1 h)]
    rcases Nat.lt_or_ge k.toNat L.length with h3 | h3
    ·rw [getD_set h3, if_neg (by omega)]
    ·rw [List.set_eq_of_length_le h3]
theorem kd_nat (hT : Tree) {n : Nat} (hn : n < Cur.x.l.length) : ∀ k ∈ kd n, ∃ c : Nat, k = c ∧ n < c := fun k hk => by
 obtain ⟨q, hq, rfl⟩ := qwk_ 0 hk
 obtain ⟨c, e, h3, _⟩ := hT.kid hn hq
 exact ⟨c, e, h3⟩
theorem parN_mem (hT : Tree) {c : Nat} (hc : c < Cur.x.l.length) : ∀ n, n ≤ Cur.x.l.length → (∃ p : Nat, p < n ∧ (c : Int) ∈ kd p) → ∃ p : Nat, (parN n par0).getD c 0 = (p : Int) ∧ p < n ∧ (c : Int) ∈ kd p
 | 0, _, ⟨p, h, _⟩ => absurd h (Nat.not_lt_zero _)
 | n + 1, hn, ⟨p, h1, h2⟩ => by
  have h0 : par0.length = Cur.x.l.length := by unfold par0; rw [List.length_set, List.length_replicate]
  have hg := setK_get (i := (n : Int)) (c := c) (ks := kd n) (L := parN n par0) (fun k hk => by obtain ⟨d, e, _⟩ := kd_nat hT (by omega : n < Cur.x.l.length) k hk; omega) (by rw [qud_, h0]; exact hc)
  show ∃ p : Nat, (setK (parN n par0) (n : Int) (kd n)).getD c 0 = (p : Int) ∧ _
  rw [hg]
  by_cases h : (c : Int) ∈ kd n
  ·rw [if_pos h]; exact ⟨n, rfl, Nat.lt_succ_self _, h⟩
  ·rw [if_neg h]
   have : p ≠ n := fun e => h (e ▸ h2)
   obtain ⟨q, g1, g2, g3⟩ := parN_mem hT hc n (by omega) ⟨p, by omega, h2⟩
   exact ⟨q, g1, by omega, g3⟩
end

end Go.Proofs.Ytlfcfopohlhlfaa.sca26
