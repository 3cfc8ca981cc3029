/-
  The pure side. No condition.
-/
import Derived.Test.YtmjibnlojmdcgaaGreatDoorMltDTold
import Derived.IntWalk
set_option linter.unusedSimpArgs false
set_option linter.unusedVariables false
set_option linter.unusedSectionVars false
set_option linter.unnecessarySimpa false
namespace Go.Proofs.YtmjibnlojmdcgaaGreatDoor.mlt19
open Go Go.Proofs.YtmjibnlojmdcgaaGreatDoor Ax
variable [Args]


theorem w64_id {x : Int} (h1 : -9223372036854775808 ≤ x) (h2 : x < 9223372036854775808) : w64 x = x := IntWalk.i64_in _ (by omega)
theorem w64_sm {x : Int} (h1 : -1000000000000 ≤ x) (h2 : x ≤ 1000000000000) : w64 x = x := w64_id (by omega) (by omega)
theorem w64_inc {i : Nat} (h : i ≤ 1000000000) : w64 ((i : Int) + 1) = ((i + 1 : Nat) : Int) := by rw [w64_sm (by omega) (by omega)]; rfl
theorem whileI {st ρ : Type} {B : st → Option (st ⊕ ρ)} (I : st → Prop) (μ : st → Nat) (Q : ρ → Prop) (h : ∀ s, I s → (∃ s', I s' ∧ μ s' < μ s ∧ B s = some (.inl s')) ∨ ∃ r, Q r ∧ B s = some (.inr r)) : ∀ (n : Nat) (s : st), I s → μ s < n → ∃ r, Q r ∧ iterM B n s = some r
 | 0, s, _, hm => absurd hm (Nat.not_lt_zero _)
 | n + 1, s, hi, hm => by
  rcases h s hi with ⟨s', h1, h2, h3⟩ | ⟨r, h1, h2⟩
  ·obtain ⟨r, q1, q2⟩ := whileI I μ Q h n s' h1 (by omega)
   exact ⟨r, q1, by rw [qx_, h3]; exact q2⟩
  ·exact ⟨r, h1, by rw [qx_, h2]; rfl⟩
theorem hoare {σ st ρ : Type} {B : st → Option (st ⊕ ρ)} (S : σ → Int → st) (I : Nat → σ → Prop) (Q : ρ → Prop) (len : Nat)
  (h1 : ∀ (i : Nat) (s : σ), i < len → I i s → (∃ s', I (i + 1) s' ∧ B (S s (i : Int)) = some (.inl (S s' ((i + 1 : Nat) : Int)))) ∨ ∃ r, Q r ∧ B (S s (i : Int)) = some (.inr r))
  (h2 : ∀ s, I len s → ∃ r, Q r ∧ B (S s (len : Int)) = some (.inr r)) : ∀ (n i : Nat) (s : σ), i ≤ len → I i s → len - i < n → ∃ r, Q r ∧ iterM B n (S s (i : Int)) = some r
 | 0, i, s, _, _, hm => absurd hm (Nat.not_lt_zero _)
 | n + 1, i, s, hl, hi, hm => by
  have main : (∃ s', i < len ∧ I (i + 1) s' ∧ B (S s (i : Int)) = some (.inl (S s' ((i + 1 : Nat) : Int)))) ∨ ∃ r, Q r ∧ B (S s (i : Int)) = some (.inr r) := by
   by_cases hlt : i < len
   ·rcases h1 i s hlt hi with ⟨s', a, b⟩ | h
    ·exact .inl ⟨s', hlt, a, b⟩
    ·exact .inr h
   ·obtain rfl : i = len := by omega
    exact .inr (h2 s hi)
  rcases main with ⟨s', g0, g1, g3⟩ | ⟨r, g1, g2⟩
  ·obtain ⟨r, q1, q2⟩ := hoare S I Q len h1 h2 n (i + 1) s' (by omega) g1 (by omega)
   exact ⟨r, q1, by rw [qx_, g3]; exact q2⟩
  ·exact ⟨r, g1, by rw [qx_, g2]; rfl⟩
theorem getD_mem {α : Type} {l : List α} {i : Nat} {d : α} (h : i < l.length) : l.getD i d ∈ l := by
 rw [List.getD_eq_getElem?_getD, List.getElem?_eq_getElem h]; exact List.getElem_mem h
theorem qk9_ {α : Type} {l : List α} {i j : Nat} {x d : α} (h : i < l.length) : (l.set i x).getD j d = if j = i then x else l.getD j d := by
 simp only [List.getD_eq_getElem?_getD, List.getElem?_set]
 by_cases hj : i = j
 ·subst hj; simp [h]
 ·rw [if_neg hj, if_neg (Ne.symm hj)]
abbrev P8 := Int × Int × Int × Int × Int × Int × NL × Int
def d8 : P8 := (0, 0, 0, 0, 0, 0, nl0, 0)
def pt (i : Nat) : P8 := Args.A.getD i (0, 0, 0, 0, 0, 0, nl0, 0)
def kd (i : Nat) : List Int := (pt i).2.2.2.2.2.2.1.l
def atF (i : Nat) : Int := (pt i).2.2.1
def toF (i : Nat) : Int := (pt i).2.2.2.2.1
theorem kd_le (i : Nat) : (kd i).length ≤ 9223372036854775807 := (pt i).2.2.2.2.2.2.1.le
theorem w64_inc' {i : Nat} (h : i < 9223372036854775807) : w64 ((i : Int) + 1) = ((i + 1 : Nat) : Int) := by
 rw [w64_id (by omega) (by omega)]; rfl
theorem bound_all {α : Type} (f : α → Nat) : ∀ l : List α, ∃ K, ∀ x ∈ l, f x ≤ K
 | [] => ⟨0, fun x h => by cases h⟩
 | a :: l => by
  obtain ⟨K, hK⟩ := bound_all f l
  refine ⟨max (f a) K, fun x hx => ?_⟩
  rcases List.mem_cons.1 hx with rfl | hx
  ·exact Nat.le_max_left _ _
  ·exact Nat.le_trans (hK x hx) (Nat.le_max_right _ _)
theorem bound_kd : ∃ K, ∀ i, (kd i).length ≤ K := by
 obtain ⟨K, hK⟩ := bound_all (fun x : P8 => x.2.2.2.2.2.2.1.l.length) Args.A
 refine ⟨K, fun i => ?_⟩
 rcases Nat.lt_or_ge i Args.A.length with h | h
 ·exact hK (pt i) (getD_mem h)
 ·have : pt i = d8 := by unfold pt; rw [List.getD_eq_getElem?_getD, List.getElem?_eq_none h]; rfl
  unfold kd; rw [this]; exact Nat.zero_le _
inductive Ks : Nat → Nat → Nat → Int → Nat → Prop
 | done {i k next : Nat} {a : Int} (hk : k = (kd i).length) (ha : a ≤ toF i) : Ks i k next a next
 | kid {i k next e' e : Nat} {a : Int} (hk : k < (kd i).length) (hv : (kd i).getD k 0 = (next : Int)) (hn : next < Args.A.length) (ha : a ≤ atF next) (h1 : Ks next 0 (next + 1) (atF next) e') (h2 : Ks i (k + 1) e' (toF next) e) : Ks i k next a e
theorem Ks.lt {i k next e : Nat} {a : Int} (h : Ks i k next a e) : next ≤ e := by
 induction h with
 | done => exact Nat.le_refl _
 | kid _ _ _ _ _ _ ih1 ih2 => omega
theorem Ks.len {i k next e : Nat} {a : Int} (h : Ks i k next a e) : k ≤ (kd i).length := by
 cases h with
 | done hk => omega
 | kid hk => omega
theorem Ks.hi {i k next e : Nat} {a : Int} (h : Ks i k next a e) : next ≤ Args.A.length → e ≤ Args.A.length := by
 induction h with
 | done => exact id
 | kid hk hv hn ha _ _ ih1 ih2 => exact fun _ => ih2 (ih1 (by omega))
theorem Ks.cover {i k next e : Nat} {a : Int} (h : Ks i k next a e) : ∀ j, next ≤ j → j < e → ∃ f, f ≤ e ∧ Ks j 0 (j + 1) (atF j) f := by
 induction h with
 | done => exact fun j h1 h2 => absurd h1 (by omega)
 | @kid i k next e' e a hk hv hn ha h1 h2 ih1 ih2 =>
  intro j h3 h4
  have l2 := h2.lt
  by_cases e1 : j = next
  ·subst e1; exact ⟨e', l2, h1⟩
  ·rcases Nat.lt_or_ge j e' with h5 | h5
   ·obtain ⟨f, g1, g2⟩ := ih1 j (by omega) h5
    exact ⟨f, by omega, g2⟩
   ·exact ih2 j h5 h4
theorem Ks.kids {i k next e : Nat} {a : Int} (h : Ks i k next a e) : ∀ q, k ≤ q → q < (kd i).length → ∃ c : Nat, (kd i).getD q 0 = (c : Int) ∧ next ≤ c ∧ c < e ∧ c < Args.A.length := by
 induction h with
 | done hk => exact fun q h1 h2 => by omega
 | @kid i k next e' e a hk hv hn ha h1 h2 ih1 ih2 =>
  intro q h3 h4
  have l1 := h1.lt
  have l2 := h2.lt
  by_cases e1 : q = k
  ·subst e1; exact ⟨next, hv, Nat.le_refl _, by omega, hn⟩
  ·obtain ⟨c, g1, g2, g3, g4⟩ := ih2 q (by omega) h4
   exact ⟨c, g1, by omega, g3, g4⟩
theorem Ks.mono {i k next e : Nat} {a : Int} (h : Ks i k next a e) (hs : ∀ j, j < Args.A.length → atF j ≤ toF j) : a ≤ toF i := by
 induction h with
 | done _ ha => exact ha
 | @kid i k next e' e a hk hv hn ha h1 h2 ih1 ih2 =>
  have := hs next hn
  omega

theorem end_ok : ∀ (n i : Nat) (K : Nat), (∀ j, (kd j).length ≤ K) → i < Args.A.length → Args.A.length - i + K + 10 < n → ∃ r, qdv_ n (i : Int) = some r ∧ (0 ≤ r → ∃ e : Nat, r = e ∧ Ks i 0 (i + 1) (atF i) e)
 | 0, i, K, hK, hi, hn => absurd hn (Nat.not_lt_zero _)
 | n + 1, i, K, hK, hi, hn => by
  have hrec : ∀ j : Nat, i < j → j < Args.A.length → ∃ r, qdv_ n (j : Int) = some r ∧ (0 ≤ r → ∃ e : Nat, r = e ∧ Ks j 0 (j + 1) (atF j) e) := fun j h1 h2 => end_ok n j K hK h2 (by omega)
  have hkl := kd_le i
  have loop : ∀ (f k : Nat) (next : Int) (a : Int), k ≤ (kd i).length → (i : Int) < next → (kd i).length - k < f →
    ∃ r, iterM (qdk_ (qdv_ n) n (i : Int)) f (next, a, (k : Int)) = some r ∧ (r = .inl () ∨ ∃ (e : Nat) (b : Int), r = .inr ((e : Int), b) ∧ (b ≤ toF i → ∃ q : Nat, next = q ∧ Ks i k q a e)) := by
   intro f
   induction f with
   | zero => intro k next a _ _ h; exact absurd h (Nat.not_lt_zero _)
   | succ f ih =>
    intro k next a hk hnx hf
    rw [qx_]
    unfold qdk_
    dsimp only
    rw [if_pos (by omega)]
    simp only [Option.bind_some, Int.toNat_natCast]
    change ∃ r, ((if (k : Int) < ((((kd i).length : Nat)) : Int) then _ else _ : Option _).bind _) = some r ∧ _
    by_cases hlt : k < (kd i).length
    ·rw [if_pos (by omega)]
     change ∃ r, ((if 0 ≤ (k : Int) ∧ (k : Int) < (((kd i).length : Nat) : Int) then (if k < (kd i).length then (if (kd i).getD k 0 = next then _ else _) else _) else _ : Option _).bind _) = some r ∧ _
     rw [if_pos (by omega), if_pos hlt]
     by_cases hv : (kd i).getD k 0 = next
     ·rw [if_pos hv]
      by_cases hN : next ≥ ((Args.A.length : Nat) : Int)
      ·rw [if_pos hN]
       exact ⟨_, rfl, .inl rfl⟩
      ·rw [if_neg hN, if_pos (by omega)]
       obtain ⟨q, rfl⟩ : ∃ q : Nat, next = q := ⟨next.toNat, by omega⟩
       simp only [Int.toNat_natCast]
       change ∃ r, ((if atF q < a then _ else _ : Option _).bind _) = some r ∧ _
       by_cases ha : atF q < a
       ·rw [if_pos ha]; exact ⟨_, rfl, .inl rfl⟩
       ·rw [if_neg ha]
        obtain ⟨r, e1, e2⟩ := hrec q (by omega) (by omega)
        rw [e1]
        simp only [Option.bind_some]
        by_cases hr : r < 0
        ·rw [if_pos hr]; exact ⟨_, rfl, .inl rfl⟩
        ·rw [if_neg hr]
         obtain ⟨e', rfl, hks⟩ := e2 (by omega)
         have l1 := hks.lt
         rw [w64_inc' (by omega)]
         simp only [Option.bind_some]
         obtain ⟨r2, g1, g2⟩ := ih (k + 1) (e' : Int) (toF q) (by omega) (by omega) (by omega)
         refine ⟨r2, g1, ?_⟩
         rcases g2 with g2 | ⟨e, b, g3, g4⟩
         ·exact .inl g2
         ·refine .inr ⟨e, b, g3, fun hb => ?_⟩
          obtain ⟨q', h1, h2⟩ := g4 hb
          obtain rfl : e' = q' := by omega
          exact ⟨q, rfl, .kid hlt hv (by omega) (by omega) hks h2⟩
     ·rw [if_neg hv]; exact ⟨_, rfl, .inl rfl⟩
    ·rw [if_neg (by omega)]
     refine ⟨_, rfl, .inr ⟨next.toNat, a, ?_, fun hb => ⟨next.toNat, by omega, .done (by omega) hb⟩⟩⟩
     rw [Int.toNat_of_nonneg (by omega)]
  show ∃ r, qkw_ (qdv_ n) n (i : Int) = some r ∧ _
  unfold qkw_ qhf_
  rw [if_pos (by omega)]
  simp only [Option.bind_some, Int.toNat_natCast]
  rw [w64_inc' (by have := Args.hA; omega)]
  obtain ⟨r, e1, e2⟩ := loop n 0 ((i + 1 : Nat) : Int) (atF i) (Nat.zero_le _) (by omega) (by have := hK i; omega)
  have e1 : iterM (qdk_ (qdv_ n) n (i : Int)) n (((i + 1 : Nat) : Int), (Args.A.getD i (0, 0, 0, 0, 0, 0, nl0, 0)).2.2.1, 0) = some r := e1
  rw [e1]
  rcases e2 with rfl | ⟨e, b, rfl, e3⟩
  ·exact ⟨_, rfl, fun h => absurd h (by decide)⟩
  ·change ∃ r, (if b > toF i then some (-1) else some (e : Int)) = some r ∧ _
   by_cases hb : b > toF i
   ·rw [if_pos hb]; exact ⟨_, rfl, fun h => absurd h (by decide)⟩
   ·rw [if_neg hb]
    refine ⟨_, rfl, fun _ => ⟨e, rfl, ?_⟩⟩
    obtain ⟨q, h1, h2⟩ := e3 (by omega)
    obtain rfl : i + 1 = q := by omega
    exact h2


structure SP (a1 a2 a3 a4 a5 : Int) (len : Nat) : Prop where
 k1 : 1 ≤ a1
 k6 : a1 ≤ 6
 a0 : 0 ≤ a2
 at_ : a2 ≤ a4
 lk : a2 < a5
 tok : (a1 = 3 ∨ a1 = 5 ∨ a1 = 6) → a2 ≤ a3 ∧ a3 ≤ a4
 non : (a1 = 1 ∨ a1 = 2 ∨ a1 = 4) → a3 = a2
 mis : a1 = 4 → a2 = a4
 leaf : a1 ≠ 1 → a1 ≠ 2 → len = 0
theorem leaf_ok (n : Nat) (a : Int) : qbx_ n a = some (if a = 1 then false else if a = 2 then false else true) := by
 unfold qbx_
 repeat' split
 all_goals rfl
theorem bare_ok' (n : Nat) (a0 a1 a2 a3 a4 a5 : Int) (a6 : NL) (a7 : Int) (o : Option Bool) (h : qca_ n a0 a1 a2 a3 a4 a5 a6 a7 = o) : o = some false ∨ (o = some true ∧ SP a1 a2 a3 a4 a5 a6.l.length) := by
 unfold qca_ at h
 simp only [leaf_ok, Option.bind_some] at h
 have leaf : ∀ o, (if (if a1 = 1 then false else if a1 = 2 then false else true) = true then if ((a6.l.length : Nat) : Int) = 0 then some true else some false else some true) = o → o = some false ∨ (o = some true ∧ (a1 ≠ 1 → a1 ≠ 2 → a6.l.length = 0)) := by
  intro o h
  by_cases c1 : a1 = 1
  ·rw [if_pos c1, if_neg (by decide)] at h
   exact .inr ⟨h.symm, fun h => absurd c1 h⟩
  rw [if_neg c1] at h
  by_cases c2 : a1 = 2
  ·rw [if_pos c2, if_neg (by decide)] at h
   exact .inr ⟨h.symm, fun _ h => absurd c2 h⟩
  rw [if_neg c2, if_pos rfl] at h
  by_cases cl : ((a6.l.length : Nat) : Int) = 0
  ·rw [if_pos cl] at h
   exact .inr ⟨h.symm, fun _ _ => by omega⟩
  ·rw [if_neg cl] at h
   exact .inl h.symm
 by_cases c1 : a1 < 1
 ·rw [if_pos c1] at h; exact .inl h.symm
 rw [if_neg c1] at h
 by_cases c2 : a1 > 6
 ·rw [if_pos c2] at h; exact .inl h.symm
 rw [if_neg c2] at h
 by_cases c3 : a2 < 0
 ·rw [if_pos c3] at h; exact .inl h.symm
 rw [if_neg c3] at h
 by_cases c4 : a2 > a4
 ·rw [if_pos c4] at h; exact .inl h.symm
 rw [if_neg c4] at h
 by_cases c5 : a5 ≤ a2
 ·rw [if_pos c5] at h; exact .inl h.symm
 rw [if_neg c5] at h
 have tok : ∀ (g : Option Bool) (k : a1 = 3 ∨ a1 = 5 ∨ a1 = 6), (if a3 < a2 then some false else if a3 > a4 then some false else if a1 = 4 then g else (if (if a1 = 1 then false else if a1 = 2 then false else true) = true then if ((a6.l.length : Nat) : Int) = 0 then some true else some false else some true)) = o → o = some false ∨ (o = some true ∧ SP a1 a2 a3 a4 a5 a6.l.length) := by
  intro g k h
  by_cases d1 : a3 < a2
  ·rw [if_pos d1] at h; exact .inl h.symm
  rw [if_neg d1] at h
  by_cases d2 : a3 > a4
  ·rw [if_pos d2] at h; exact .inl h.symm
  rw [if_neg d2, if_neg (by omega)] at h
  rcases leaf o h with h | ⟨h, hl⟩
  ·exact .inl h
  ·exact .inr ⟨h, by omega, by omega, by omega, by omega, by omega, fun _ => by omega, fun _ => by omega, fun _ => by omega, hl⟩
 by_cases k3 : a1 = 3
 ·rw [if_pos k3] at h; exact tok _ (by omega) h
 rw [if_neg k3] at h
 by_cases k5 : a1 = 5
 ·rw [if_pos k5] at h; exact tok _ (by omega) h
 rw [if_neg k5] at h
 by_cases k6 : a1 = 6
 ·rw [if_pos k6] at h; exact tok _ (by omega) h
 rw [if_neg k6] at h
 by_cases d3 : ¬ a3 = a2
 ·rw [if_neg d3] at h; exact .inl h.symm
 have d3 := Decidable.not_not.1 d3
 rw [if_pos d3] at h
 by_cases k4 : a1 = 4
 ·rw [if_pos k4] at h
  by_cases d4 : a2 = a4
  ·rw [if_pos d4] at h
   rcases leaf o h with h | ⟨h, hl⟩
   ·exact .inl h
   ·exact .inr ⟨h, by omega, by omega, by omega, by omega, by omega, fun _ => by omega, fun _ => by omega, fun _ => by omega, hl⟩
  ·rw [if_neg d4] at h; exact .inl h.symm
 ·rw [if_neg k4] at h
  rcases leaf o h with h | ⟨h, hl⟩
  ·exact .inl h
  ·exact .inr ⟨h, by omega, by omega, by omega, by omega, by omega, fun _ => by omega, fun _ => by omega, fun _ => by omega, hl⟩
theorem bare_ok (n : Nat) (a0 a1 a2 a3 a4 a5 : Int) (a6 : NL) (a7 : Int) : ∃ b, qca_ n a0 a1 a2 a3 a4 a5 a6 a7 = some b ∧ (b = true → SP a1 a2 a3 a4 a5 a6.l.length) := by
 rcases bare_ok' n a0 a1 a2 a3 a4 a5 a6 a7 _ rfl with h | ⟨h, h2⟩
 ·exact ⟨false, h, fun h => by cases h⟩
 ·exact ⟨true, h, fun _ => h2⟩
theorem sound_ok (n : Nat) (a0 a1 a2 a3 a4 a5 : Int) (a6 : NL) (a7 : Int) (h : SP a1 a2 a3 a4 a5 a6.l.length) : qlg_ n a0 a1 a2 a3 a4 a5 a6 a7 = some true := by
 obtain ⟨h1, h2, h3, h4, h5, h6, h7, h8, h9⟩ := h
 unfold qlg_
 rw [if_neg (by omega), if_neg (by omega), if_neg (by omega)]
 by_cases c1 : a1 = 1
 ·rw [if_pos c1, if_pos (h7 (by omega))]
 rw [if_neg c1]
 by_cases c2 : a1 = 2
 ·rw [if_pos c2, if_pos (h7 (by omega))]
 rw [if_neg c2]
 have hl := h9 c1 c2
 by_cases c4 : a1 = 4
 ·have := h8 c4
  rw [if_pos c4, if_pos (h7 (by omega)), if_pos (by omega), if_pos (by omega)]
 rw [if_neg c4]
 have ht := h6 (by omega)
 by_cases c3 : a1 = 3
 ·rw [if_pos c3, if_pos (by omega), if_pos (by omega), if_pos (by omega)]
 rw [if_neg c3]
 by_cases c5 : a1 = 5
 ·rw [if_pos c5, if_pos (by omega), if_pos (by omega), if_pos (by omega)]
 rw [if_neg c5, if_pos (by omega), if_pos (by omega), if_pos (by omega), if_pos (by omega)]

def SPi (i : Nat) : Prop := SP (pt i).2.1 (pt i).2.2.1 (pt i).2.2.2.1 (pt i).2.2.2.2.1 (pt i).2.2.2.2.2.1 (kd i).length
structure Tree : Prop where
 pos : 0 < Args.A.length
 max : Args.A.length ≤ 524288
 sp : ∀ i, i < Args.A.length → SPi i
 root : ∀ i, 0 < i → i < Args.A.length → (pt i).2.1 ≠ 1
 ks : Ks 0 0 1 (atF 0) Args.A.length
theorem check1_ok {n : Nat} (hn : Args.A.length < n) (hL : Args.A.length ≤ 1000000) : ∃ r, qen_ n 0 = some r ∧ (r = .inr () → ∀ i, i < Args.A.length → SPi i ∧ (0 < i → (pt i).2.1 ≠ 1)) := by
 obtain ⟨r, q1, q2⟩ := hoare (B := qbp_ n) (σ := Unit) (fun _ i => i) (fun i _ => ∀ j, j < i → SPi j ∧ (0 < j → (pt j).2.1 ≠ 1)) (fun r => r = .inr () → ∀ i, i < Args.A.length → SPi i ∧ (0 < i → (pt i).2.1 ≠ 1)) Args.A.length
  (fun i s hi hI => by
   obtain ⟨b, e1, e2⟩ := bare_ok n (pt i).1 (pt i).2.1 (pt i).2.2.1 (pt i).2.2.2.1 (pt i).2.2.2.2.1 (pt i).2.2.2.2.2.1 (pt i).2.2.2.2.2.2.1 (pt i).2.2.2.2.2.2.2
   have hB : qbp_ n (i : Int) = ((qca_ n (pt i).1 (pt i).2.1 (pt i).2.2.1 (pt i).2.2.2.1 (pt i).2.2.2.2.1 (pt i).2.2.2.2.2.1 (pt i).2.2.2.2.2.2.1 (pt i).2.2.2.2.2.2.2).bind fun y => if y = true then (if (i : Int) > 0 then (if (pt i).2.1 = 1 then some (.inr (.inl ())) else some (.inl (w64 ((i : Int) + 1)))) else some (.inl (w64 ((i : Int) + 1)))) else some (.inr (.inl ()))) := by
    unfold qbp_
    dsimp only
    rw [if_pos (by omega), if_pos (by omega)]
    simp only [Option.bind_some, Int.toNat_natCast]
    rfl
   rw [hB]
   rw [e1, w64_inc (by omega)]
   simp only [Option.bind_some]
   cases b with
   | false =>
    rw [if_neg (by decide)]
    exact .inr ⟨.inl (), (fun h => by cases h), rfl⟩
   | true =>
    have hsp : SPi i := e2 rfl
    rw [if_pos rfl]
    have go : (0 < i → (pt i).2.1 ≠ 1) → ∀ j, j < i + 1 → SPi j ∧ (0 < j → (pt j).2.1 ≠ 1) := fun h j hj => by
     rcases Nat.lt_or_ge j i with h1 | h1
     ·exact hI j h1
     ·obtain rfl : j = i := by omega
      exact ⟨hsp, h⟩
    by_cases c1 : (i : Int) > 0
    ·rw [if_pos c1]
     by_cases c2 : (pt i).2.1 = 1
     ·rw [if_pos c2]
      exact .inr ⟨.inl (), (fun h => by cases h), rfl⟩
     ·rw [if_neg c2]
      exact .inl ⟨(), go fun _ => c2, rfl⟩
    ·rw [if_neg c1]
     exact .inl ⟨(), go fun h => absurd h (by omega), rfl⟩)
  (fun s hI => by
   unfold qbp_
   dsimp only
   rw [if_neg (by omega)]
   exact ⟨_, fun _ => hI, rfl⟩) n 0 () (Nat.zero_le _) (fun j hj => absurd hj (Nat.not_lt_zero _)) (by omega)
 exact ⟨r, q2, q1⟩
theorem refCheck_ok {n K : Nat} (hK : ∀ j, (kd j).length ≤ K) (hn : Args.A.length + K + 20 < n) (hL : Args.A.length ≤ 1000000) : ∃ c, qfn_ n = some c ∧ (c = 0 → Tree) := by
 unfold qfn_
 by_cases c1 : ((Args.A.length : Nat) : Int) > 524288
 ·rw [if_pos c1]; exact ⟨_, rfl, fun h => absurd h (by decide)⟩
 rw [if_neg c1]
 obtain ⟨r, e1, e2⟩ := check1_ok (n := n) (by omega) hL
 rw [e1]
 rcases r with r | r
 ·exact ⟨_, rfl, fun h => absurd h (by decide)⟩
 ·dsimp only
  have e2 := e2 rfl
  by_cases c2 : ((Args.A.length : Nat) : Int) = 0
  ·rw [if_pos c2]; exact ⟨_, rfl, fun h => absurd h (by decide)⟩
  rw [if_neg c2]
  obtain ⟨q, g1, g2⟩ := end_ok n 0 K hK (by omega) (by omega)
  have g1 : qdv_ n 0 = some q := g1
  rw [g1]
  simp only [Option.bind_some]
  by_cases c3 : q = ((Args.A.length : Nat) : Int)
  ·rw [if_pos c3]
   refine ⟨_, rfl, fun _ => ?_⟩
   obtain ⟨e, h1, h2⟩ := g2 (by omega)
   obtain rfl : e = Args.A.length := by omega
   exact ⟨by omega, by omega, fun i hi => (e2 i hi).1, fun i h0 hi => (e2 i hi).2 h0, h2⟩
  ·rw [if_neg c3]; exact ⟨_, rfl, fun h => absurd h (by decide)⟩


abbrev E3 := Int × Int × Int
abbrev OSt := List E3 × Nat × Int
def Rch (n : Nat) (x y : OSt) (m : Nat) : Prop := ∀ f, iterM (qbq_ n (Args.A.length : Int)) (f + m) x = iterM (qbq_ n (Args.A.length : Int)) f y
theorem Rch.refl (n : Nat) (x : OSt) : Rch n x x 0 := fun _ => rfl
theorem Rch.step {n : Nat} {x y z : OSt} {m : Nat} (h : qbq_ n (Args.A.length : Int) x = some (.inl y)) (k : Rch n y z m) : Rch n x z (m + 1) := fun f => by
 rw [← Nat.add_assoc, qx_, h]
 exact k f
theorem Rch.trans {n : Nat} {x y z : OSt} {m k : Nat} (h : Rch n x y m) (j : Rch n y z k) : Rch n x z (m + k) := fun f => by
 have := h (f + k)
 rw [show f + k + m = f + (m + k) by omega] at this
 rw [this, j f]
theorem take_last {S : List E3} {s : Nat} {R : List E3} {x : E3} (hs : s ≤ S.length) (h : S.take s = R ++ [x]) : s = R.length + 1 ∧ S.getD R.length (0, 0, 0) = x ∧ S.take R.length = R := by
 have hl := congrArg List.length h
 rw [List.length_take, Nat.min_eq_left hs, List.length_append, List.length_singleton] at hl
 subst hl
 refine ⟨rfl, ?_, ?_⟩
 ·have h2 : (S.take (R.length + 1))[R.length]? = (R ++ [x])[R.length]? := by rw [h]
  rw [List.getElem?_take_of_lt (Nat.lt_succ_self _), List.getElem?_append_right (Nat.le_refl _), Nat.sub_self] at h2
  rw [List.getD_eq_getElem?_getD, h2]; rfl
 ·have h2 := congrArg (List.take R.length) h
  rw [List.take_take, Nat.min_eq_left (Nat.le_succ _), List.take_left] at h2
  exact h2
theorem take_set {S : List E3} {R : List E3} {y : E3} (hs : R.length < S.length) (h : S.take R.length = R) : (S.set R.length y).take (R.length + 1) = R ++ [y] := by
 rw [List.take_add_one, List.take_set_of_le (Nat.le_refl _), h, List.getElem?_set_self hs]; rfl
theorem take_set0 {S : List E3} {R : List E3} {y : E3} (h : S.take R.length = R) : (S.set R.length y).take R.length = R := by
 rw [List.take_set_of_le (Nat.le_refl _), h]
theorem ne_cons {S : List E3} (h : 0 < S.length) : ∃ a t, S = a :: t := by
 cases S with
 | nil => simp at h
 | cons a t => exact ⟨a, t, rfl⟩
theorem inB {n i p k s : Nat} {a : Int} {S R : List E3} (h0 : 0 < i) (hi : i < Args.A.length) (hL : Args.A.length ≤ 1000000) (hs : s ≤ S.length) (h : S.take s = R ++ [((p : Int), (k : Int), a)]) (hp : p < Args.A.length) (hk : k < (kd p).length) (hv : (kd p).getD k 0 = (i : Int)) (ha : a ≤ atF i) (ht : toF i ≤ toF p) (hR : R.length ≤ 1000000) :
  ∃ S' s', qbq_ n (Args.A.length : Int) (S, s, (i : Int)) = some (.inl (S', s', ((i + 1 : Nat) : Int))) ∧ s' ≤ S'.length ∧ 0 < S'.length ∧ S'.take s' = (if k + 1 < (kd p).length then R ++ [((p : Int), ((k + 1 : Nat) : Int), toF i)] else R) ++ (if 0 < (kd i).length then [((i : Int), 0, atF i)] else []) := by
 obtain ⟨rfl, hx, hR0⟩ := take_last hs h
 have hkl := kd_le p
 have hw : w64 (((R.length + 1 : Nat) : Int) - 1) = ((R.length : Nat) : Int) := by rw [w64_sm (by omega) (by omega)]; omega
 have hw2 : w64 ((i : Int) + 1) = ((i + 1 : Nat) : Int) := w64_inc (by omega)
 have hw3 : w64 ((k : Int) + 1) = ((k + 1 : Nat) : Int) := w64_inc' (by omega)
 obtain ⟨b, T, rfl⟩ := ne_cons (S := S) (by omega)
 have e1 : qbq_ n (Args.A.length : Int) (b :: T, R.length + 1, (i : Int)) =
   (if (w64 ((k : Int) + 1)) = (((kd p).length : Nat) : Int) then
    if (((kd i).length : Nat) : Int) > 0 then
     if R.length ≤ ((b :: T).set R.length ((p : Int), w64 ((k : Int) + 1), toF i)).length then
      if (R.length + 1) * 24 ≤ 140737488355328 then
       some (.inl (List.take R.length ((b :: T).set R.length ((p : Int), w64 ((k : Int) + 1), toF i)) ++ [((i : Int), 0, atF i)], (List.take R.length ((b :: T).set R.length ((p : Int), w64 ((k : Int) + 1), toF i)) ++ [((i : Int), (0 : Int), atF i)]).length, w64 ((i : Int) + 1)))
      else none
     else none
    else some (.inl ((b :: T).set R.length ((p : Int), w64 ((k : Int) + 1), toF i), R.length, w64 ((i : Int) + 1)))
   else
    if (((kd i).length : Nat) : Int) > 0 then
     if R.length + 1 ≤ ((b :: T).set R.length ((p : Int), w64 ((k : Int) + 1), toF i)).length then
      if (R.length + 1 + 1) * 24 ≤ 140737488355328 then
       some (.inl (List.take (R.length + 1) ((b :: T).set R.length ((p : Int), w64 ((k : Int) + 1), toF i)) ++ [((i : Int), 0, atF i)], (List.take (R.length + 1) ((b :: T).set R.length ((p : Int), w64 ((k : Int) + 1), toF i)) ++ [((i : Int), (0 : Int), atF i)]).length, w64 ((i : Int) + 1)))
      else none
     else none
    else some (.inl ((b :: T).set R.length ((p : Int), w64 ((k : Int) + 1), toF i), R.length + 1, w64 ((i : Int) + 1)))) := by
  unfold qbq_
  dsimp only
  rw [if_pos (by omega), if_pos (by omega)]
  simp only [Option.bind_some, Int.toNat_natCast]
  rw [if_pos (by omega), if_neg (by omega), hw]
  simp only [Int.toNat_natCast]
  rw [if_pos (by omega), if_pos (by omega), hx]
  simp only [Option.bind_some, Int.toNat_natCast]
  rw [if_pos (by omega)]
  have hk2 : ((0 : Int) ≤ (k : Int) ∧ (k : Int) < (((Args.A.getD p (0, 0, 0, 0, 0, 0, nl0, 0)).2.2.2.2.2.2.1.l.length : Nat) : Int)) := ⟨by omega, by have : k < (Args.A.getD p (0, 0, 0, 0, 0, 0, nl0, 0)).2.2.2.2.2.2.1.l.length := hk; omega⟩
  rw [if_pos hk2, if_pos (show k < (Args.A.getD p (0, 0, 0, 0, 0, 0, nl0, 0)).2.2.2.2.2.2.1.l.length from hk)]
  have hv2 : (Args.A.getD p (0, 0, 0, 0, 0, 0, nl0, 0)).2.2.2.2.2.2.1.l.getD k 0 = (i : Int) := hv
  rw [hv2]
  simp only [Option.bind_some]
  rw [if_pos trivial, if_neg (show ¬ (Args.A.getD i (0, 0, 0, 0, 0, 0, nl0, 0)).2.2.1 < a from fun h => absurd (show atF i < a from h) (by omega)), if_neg (show ¬ (Args.A.getD i (0, 0, 0, 0, 0, 0, nl0, 0)).2.2.2.2.1 > (Args.A.getD p (0, 0, 0, 0, 0, 0, nl0, 0)).2.2.2.2.1 from fun h => absurd (show toF i > toF p from h) (by omega)), if_pos (show (0 : Int) ≤ ((R.length : Nat) : Int) ∧ ((R.length : Nat) : Int) ≤ ((R.length + 1 : Nat) : Int) by omega)]
  rfl
 rw [e1, hw2, hw3]
 by_cases c1 : ((k + 1 : Nat) : Int) = (((kd p).length : Nat) : Int)
 ·rw [if_pos c1, if_neg (show ¬ k + 1 < (kd p).length by omega)]
  have ht0 := take_set0 (y := ((p : Int), ((k + 1 : Nat) : Int), toF i)) hR0
  by_cases c2 : (((kd i).length : Nat) : Int) > 0
  ·rw [if_pos c2, if_pos (show 0 < (kd i).length by omega), if_pos (by rw [List.length_set]; omega), if_pos (by omega), ht0]
   exact ⟨_, _, rfl, Nat.le_refl _, by simp, by rw [List.take_length]⟩
  ·rw [if_neg c2, if_neg (show ¬ 0 < (kd i).length by omega), List.append_nil]
   exact ⟨_, _, rfl, by rw [List.length_set]; omega, by rw [List.length_set]; omega, ht0⟩
 ·rw [if_neg c1, if_pos (show k + 1 < (kd p).length by omega)]
  have ht1 := take_set (y := ((p : Int), ((k + 1 : Nat) : Int), toF i)) (by omega) hR0
  by_cases c2 : (((kd i).length : Nat) : Int) > 0
  ·rw [if_pos c2, if_pos (show 0 < (kd i).length by omega), if_pos (by rw [List.length_set]; omega), if_pos (by omega), ht1]
   exact ⟨_, _, rfl, Nat.le_refl _, by simp, by rw [List.take_length]⟩
  ·rw [if_neg c2, if_neg (show ¬ 0 < (kd i).length by omega), List.append_nil]
   exact ⟨_, _, rfl, by rw [List.length_set]; omega, by rw [List.length_set]; omega, ht1⟩
theorem Ks.sim {n i k next e : Nat} {a : Int} (h : Ks i k next a e) (hL : Args.A.length ≤ 1000000) (hs : ∀ j, j < Args.A.length → atF j ≤ toF j) : i < next → i < Args.A.length → ∀ (S : List E3) (s : Nat) (R : List E3), R.length + 1 ≤ next → 0 < S.length → s ≤ S.length → S.take s = (if k < (kd i).length then R ++ [((i : Int), (k : Int), a)] else R) →
  ∃ S' s', s' ≤ S'.length ∧ 0 < S'.length ∧ S'.take s' = R ∧ Rch n (S, s, (next : Int)) (S', s', (e : Int)) (e - next) := by
 induction h with
 | @done i k next a hk ha =>
  intro _ hi S s R hR h0 hs h
  rw [if_neg (by omega)] at h
  exact ⟨S, s, hs, h0, h, by rw [Nat.sub_self]; exact Rch.refl n _⟩
 | @kid i k next e' e a hk hv hn ha h1 h2 ih1 ih2 =>
  intro hin hi S s R hR h0 hs' h
  rw [if_pos hk] at h
  have l1 := h1.lt
  have l2 := h2.lt
  have hm := h2.mono hs
  obtain ⟨S1, s1, b1, b2, b3, b4⟩ := inB (n := n) (by omega) hn hL hs' h hi hk hv ha hm (by omega)
  obtain ⟨S2, s2, c1, c2, c3, c4⟩ := ih1 (by omega) hn S1 s1 (if k + 1 < (kd i).length then R ++ [((i : Int), ((k + 1 : Nat) : Int), toF next)] else R) (by split <;> simp <;> omega) b3 b2 (by
   rw [b4]
   by_cases hz : 0 < (kd next).length
   ·rw [if_pos hz, if_pos hz]; rfl
   ·rw [if_neg hz, if_neg hz, List.append_nil])
  obtain ⟨S3, s3, d1, d2, d3, d4⟩ := ih2 (by omega) hi S2 s2 R (by omega) c2 c1 c3
  refine ⟨S3, s3, d1, d2, d3, ?_⟩
  have := (Rch.step b1 c4).trans d4
  rwa [show e' - (next + 1) + 1 + (e - e') = e - next by omega] at this
theorem inOrder_ok {n : Nat} (hT : Tree) (hn : Args.A.length < n) : m_iOq1 n = some true := by
 have hL : Args.A.length ≤ 1000000 := by have := hT.max; omega
 have hs : ∀ j, j < Args.A.length → atF j ≤ toF j := fun j hj => (hT.sp j hj).at_
 have hpos := hT.pos
 have hw : w64 ((0 : Int) + 1) = ((0 + 1 : Nat) : Int) := by decide
 unfold m_iOq1 qno_
 obtain ⟨m, rfl⟩ : ∃ m, n = m + 1 := ⟨n - 1, by omega⟩
 rw [qx_]
 have hB0 : qbq_ (m + 1) (Args.A.length : Int) ([], 0, 0) = if (((kd 0).length : Nat) : Int) > 0 then some (.inl ([(0, 0, atF 0)], 1, w64 ((0 : Int) + 1))) else some (.inl ([], 0, w64 ((0 : Int) + 1))) := by
  unfold qbq_
  dsimp only
  rw [if_pos (by omega), if_pos (by omega)]
  simp only [Option.bind_some]
  rw [if_neg (by omega)]
  rfl
 rw [hB0, hw]
 by_cases hz : 0 < (kd 0).length
 ·rw [if_pos (by omega)]
  simp only [Option.bind_some]
  obtain ⟨S, s, h1, h2, h3, h4⟩ := hT.ks.sim (n := m + 1) hL hs (by omega) hpos [(0, 0, atF 0)] 1 [] (by simp) (by simp) (by simp) (by rw [if_pos hz]; rfl)
  have h4 := h4 (m - (Args.A.length - 1))
  rw [show m - (Args.A.length - 1) + (Args.A.length - (0 + 1)) = m by omega] at h4
  have h4 : iterM (qbq_ (m + 1) (Args.A.length : Int)) m ([(0, 0, atF 0)], 1, ((0 + 1 : Nat) : Int)) = _ := h4
  rw [h4]
  obtain ⟨q, hq⟩ : ∃ q, m - (Args.A.length - 1) = q + 1 := ⟨m - (Args.A.length - 1) - 1, by omega⟩
  rw [hq, qx_]
  have hs0 : s = 0 := by
   have := congrArg List.length h3
   rw [List.length_take, List.length_nil] at this
   omega
  subst hs0
  obtain ⟨b, T, rfl⟩ := ne_cons h2
  have : qbq_ (m + 1) (Args.A.length : Int) (b :: T, 0, (Args.A.length : Int)) = some (.inr (.inr (b :: T, 0))) := by
   unfold qbq_
   dsimp only
   rw [if_neg (by omega)]
  rw [this]
  rfl
 ·rw [if_neg (by omega)]
  simp only [Option.bind_some]
  have h1 : Args.A.length = 1 := by
   have hh := hT.ks
   generalize Args.A.length = N at hh
   cases hh with
   | done => rfl
   | kid hk => omega
  obtain ⟨q, rfl⟩ : ∃ q, m = q + 1 := ⟨m - 1, by omega⟩
  rw [qx_]
  have : qbq_ (q + 1 + 1) (Args.A.length : Int) ([], 0, ((0 + 1 : Nat) : Int)) = some (.inr (.inr ([], 0))) := by
   unfold qbq_
   dsimp only
   rw [if_neg (by omega)]
  rw [this]
  rfl
theorem check_ok {n : Nat} (hT : Tree) (hn : Args.A.length < n) : m_tCq1 n = some 0 := by
 have hpos := hT.pos
 have hmax := hT.max
 unfold m_tCq1
 rw [if_neg (by omega), if_neg (by omega), inOrder_ok hT hn]
 simp only [Option.bind_some]
 rw [if_pos trivial]
 obtain ⟨r, rfl, q2⟩ := hoare (B := qfo_ n (Args.A.length : Int)) (σ := Unit) (fun _ i => i) (fun i _ => True) (fun r => r = .inr ()) Args.A.length
  (fun i s hi hI => by
   have hsp := sound_ok n (pt i).1 (pt i).2.1 (pt i).2.2.1 (pt i).2.2.2.1 (pt i).2.2.2.2.1 (pt i).2.2.2.2.2.1 (pt i).2.2.2.2.2.2.1 (pt i).2.2.2.2.2.2.2 (hT.sp i hi)
   have hB : qfo_ n (Args.A.length : Int) (i : Int) = ((qlg_ n (pt i).1 (pt i).2.1 (pt i).2.2.1 (pt i).2.2.2.1 (pt i).2.2.2.2.1 (pt i).2.2.2.2.2.1 (pt i).2.2.2.2.2.2.1 (pt i).2.2.2.2.2.2.2).bind fun y => if y = true then (if (pt i).2.1 = 1 then (if (i : Int) > 0 then some (.inr (.inl ())) else some (.inl (w64 ((i : Int) + 1)))) else some (.inl (w64 ((i : Int) + 1)))) else some (.inr (.inl ()))) := by
    unfold qfo_
    dsimp only
    rw [if_pos (by omega), if_pos (by omega)]
    simp only [Option.bind_some, Int.toNat_natCast]
    rfl
   rw [hB, hsp, w64_inc (by omega)]
   simp only [Option.bind_some]
   rw [if_pos trivial]
   by_cases c1 : (pt i).2.1 = 1
   ·rw [if_pos c1, if_neg (show ¬ (i : Int) > 0 from fun h => hT.root i (by omega) hi c1)]
    exact .inl ⟨(), trivial, rfl⟩
   ·rw [if_neg c1]
    exact .inl ⟨(), trivial, rfl⟩)
  (fun s hI => by
   unfold qfo_
   dsimp only
   rw [if_neg (by omega)]
   exact ⟨_, rfl, rfl⟩) n 0 () (Nat.zero_le _) trivial (by omega)
 have q2 : qnq_ n (Args.A.length : Int) 0 = some (.inr ()) := q2
 rw [q2]


theorem Tree.end (hT : Tree) {i : Nat} (hi : i < Args.A.length) : ∃ e, Ks i 0 (i + 1) (atF i) e ∧ i < e ∧ e ≤ Args.A.length := by
 rcases Nat.eq_zero_or_pos i with rfl | h0
 ·exact ⟨_, hT.ks, hi, Nat.le_refl _⟩
 ·obtain ⟨f, h1, h⟩ := hT.ks.cover i (by omega) hi
  have := h.lt
  exact ⟨f, h, by omega, h1⟩
theorem Tree.kid (hT : Tree) {i q : Nat} (hi : i < Args.A.length) (hq : q < (kd i).length) : ∃ c : Nat, (kd i).getD q 0 = (c : Int) ∧ i < c ∧ c < Args.A.length := by
 obtain ⟨f, h, _⟩ := hT.end hi
 obtain ⟨c, h1, h2, h3, h4⟩ := h.kids q (Nat.zero_le _) hq
 exact ⟨c, h1, by omega, h4⟩
theorem Ks.none {i next e : Nat} {a : Int} (h : Ks i 0 next a e) (h0 : (kd i).length = 0) : e = next := by
 cases h with
 | done _ _ => rfl
 | kid hk => omega


def metF (i : Nat) : Int := (pt i).2.2.2.2.2.2.2
def anyK (S : List Bool) (ks : List Int) : Bool := ks.any fun k => S.getD k.toNat false
def stepS (S : List Bool) (i : Nat) : List Bool := S.set i (decide (metF i ≠ 0) || anyK S (kd i))
theorem stepS_len {S : List Bool} {i : Nat} : (stepS S i).length = S.length := by unfold stepS; rw [List.length_set]
def stN : Nat → List Bool
 | 0 => List.replicate Args.A.length false
 | m + 1 => stepS (stN m) (Args.A.length - (m + 1))
theorem qmb_ : ∀ m, (stN m).length = Args.A.length
 | 0 => by unfold stN; rw [List.length_replicate]
 | m + 1 => by
  show (stepS (stN m) _).length = _
  rw [stepS_len, qmb_ m]
def stL : List Bool := stN Args.A.length
theorem take_snocI {L : List Int} {q : Nat} (h : q < L.length) : L.take (q + 1) = L.take q ++ [L.getD q 0] := by
 rw [List.take_add_one, List.getElem?_eq_getElem h, List.getD_eq_getElem?_getD, List.getElem?_eq_getElem h]; rfl
theorem prgAny {n i : Nat} {S : List Bool} (hT : Tree) (hi : i < Args.A.length) (hn : (kd i).length < n) (hS : S.length = Args.A.length) : m_cFq1 n (pt i).2.2.2.2.2.2.1 S Args.A.length Args.A.length = some (anyK S (kd i)) := by
 have hkl := kd_le i
 obtain ⟨r, q1, h⟩ := hoare (B := qfv_ n S Args.A.length Args.A.length (pt i).2.2.2.2.2.2.1 ((kd i).length : Int)) (σ := Unit) (fun _ q => q) (fun q _ => anyK S ((kd i).take q) = false) (fun r => (∃ q : Nat, r = .inl (q : Int) ∧ anyK S (kd i) = true) ∨ (r = .inr () ∧ anyK S (kd i) = false)) (kd i).length
  (fun q s hq hI => by
   obtain ⟨c, h1, h2, h3⟩ := hT.kid hi hq
   have hB : qfv_ n S Args.A.length Args.A.length (pt i).2.2.2.2.2.2.1 ((kd i).length : Int) (q : Int) = (some ((kd i).getD q 0)).bind fun y => (qk6_ n y S Args.A.length Args.A.length).bind fun z => if z = true then some (.inr (.inl (q : Int))) else some (.inl (w64 ((q : Int) + 1))) := by
    unfold qfv_
    dsimp only
    rw [if_pos (by omega), if_pos (show (0 : Int) ≤ (q : Int) ∧ (q : Int) < (((pt i).2.2.2.2.2.2.1.l.length : Nat) : Int) from ⟨Int.natCast_nonneg _, Int.ofNat_lt.2 hq⟩), if_pos (show ((q : Int)).toNat < (pt i).2.2.2.2.2.2.1.l.length from by rw [Int.toNat_natCast]; exact hq)]
    simp only [Int.toNat_natCast]
    rfl
   have hany : anyK S ((kd i).take (q + 1)) = (anyK S ((kd i).take q) || S.getD c false) := by
    rw [take_snocI hq, h1]
    unfold anyK
    rw [List.any_append]
    simp
   rw [hB, h1]
   unfold qk6_
   simp only [Option.bind_some]
   rw [if_pos (by omega)]
   simp only [Int.toNat_natCast]
   rw [if_pos (by omega)]
   simp only [Option.bind_some]
   by_cases hb : S.getD c false = true
   ·rw [if_pos hb]
    refine .inr ⟨_, .inl ⟨q, rfl, ?_⟩, rfl⟩
    unfold anyK
    rw [List.any_eq_true]
    exact ⟨(c : Int), by rw [← h1]; exact getD_mem hq, by rw [Int.toNat_natCast]; exact hb⟩
   ·rw [if_neg hb, w64_inc' (by omega)]
    refine .inl ⟨(), ?_, rfl⟩
    rw [hany, hI, Bool.eq_false_iff.2 hb]; rfl)
  (fun s hI => by
   unfold qfv_
   dsimp only
   rw [if_neg (by omega)]
   rw [List.take_length] at hI
   exact ⟨_, .inr ⟨rfl, hI⟩, rfl⟩) n 0 () (Nat.zero_le _) (by show anyK S [] = false; rfl) (by omega)
 have h : qnv_ n S Args.A.length Args.A.length (pt i).2.2.2.2.2.2.1 (((pt i).2.2.2.2.2.2.1.l.length : Nat) : Int) 0 = some r := h
 unfold m_cFq1 m_xFq1
 rw [h]
 rcases q1 with ⟨q, rfl, h2⟩ | ⟨rfl, h2⟩
 ·simp only [Option.bind_some]
  rw [if_pos (by omega), h2]
 ·simp only [Option.bind_some]
  rw [if_neg (by decide), h2]
theorem prgStale {n K : Nat} (hT : Tree) (hK : ∀ j, (kd j).length ≤ K) (hn : Args.A.length + K + 2 < n) : m_tSq1 n = some (stL, Args.A.length) := by
 have hmax := hT.max
 have hpos := hT.pos
 have loop : ∀ (f m : Nat), m ≤ Args.A.length → Args.A.length - m < f → iterM (qc1_ n Args.A.length Args.A.length) f (stN m, ((Args.A.length : Nat) : Int) - (m : Int) - 1) = some stL := by
  intro f
  induction f with
  | zero => intro m _ h; exact absurd h (Nat.not_lt_zero _)
  | succ f ih =>
   intro m hm hf
   rw [qx_]
   by_cases hlt : m < Args.A.length
   ·obtain ⟨i, hi⟩ : ∃ i : Nat, i = Args.A.length - (m + 1) := ⟨_, rfl⟩
    have e1 : ((Args.A.length : Nat) : Int) - (m : Int) - 1 = (i : Int) := by omega
    have e2 : w64 ((i : Int) - 1) = ((Args.A.length : Nat) : Int) - ((m + 1 : Nat) : Int) - 1 := by rw [w64_sm (by omega) (by omega)]; omega
    rw [e1]
    have hB : qc1_ n Args.A.length Args.A.length (stN m, (i : Int)) = some (.inl (stN (m + 1), ((Args.A.length : Nat) : Int) - ((m + 1 : Nat) : Int) - 1)) := by
     have h2 := prgAny (n := n) (i := i) (S := stN m) hT (by omega) (by have := hK i; omega) (qmb_ m)
     have e3 : stN (m + 1) = (stN m).set i (decide (metF i ≠ 0) || anyK (stN m) (kd i)) := by
      show stepS (stN m) (Args.A.length - (m + 1)) = _
      rw [← hi]; rfl
     rw [e3]
     have hBB : qc1_ n Args.A.length Args.A.length (stN m, (i : Int)) = (qb3_ n (stN m) Args.A.length Args.A.length (i : Int) (pt i).1 (pt i).2.1 (pt i).2.2.1 (pt i).2.2.2.1 (pt i).2.2.2.2.1 (pt i).2.2.2.2.2.1 (pt i).2.2.2.2.2.2.1 (metF i)).bind fun y => some (.inl (y, w64 ((i : Int) - 1))) := by
      unfold qc1_
      dsimp only
      rw [if_pos (by omega), if_pos (by omega)]
      simp only [Option.bind_some, Int.toNat_natCast]
      rfl
     rw [hBB, e2]
     unfold qb3_
     by_cases hm0 : metF i = 0
     ·rw [if_pos hm0, h2]
      simp only [Option.bind_some]
      rw [if_pos (by omega), if_pos (by rw [qmb_]; omega), show decide (metF i ≠ 0) = false by simp [hm0], Bool.false_or, Int.toNat_natCast]
      rfl
     ·rw [if_neg hm0, if_pos (by omega), if_pos (by rw [qmb_]; omega), show decide (metF i ≠ 0) = true by simp [hm0], Bool.true_or, Int.toNat_natCast]
      rfl
    rw [hB]
    exact ih (m + 1) (by omega) (by omega)
   ·obtain rfl : m = Args.A.length := by omega
    unfold qc1_
    dsimp only
    rw [if_neg (by omega)]
    rfl
 unfold m_tSq1 m_bKq1 m_bK1q1
 rw [check_ok hT (by omega)]
 simp only [Option.bind_some]
 rw [if_pos trivial, if_pos (by omega)]
 simp only [Int.toNat_natCast]
 rw [if_pos (by omega), w64_sm (by omega) (by omega)]
 have h := loop n 0 (Nat.zero_le _) (by omega)
 rw [show ((Args.A.length : Nat) : Int) - ((0 : Nat) : Int) - 1 = ((Args.A.length : Nat) : Int) - 1 by omega] at h
 have h : qnw_ n Args.A.length Args.A.length (List.replicate Args.A.length false, ((Args.A.length : Nat) : Int) - 1) = some stL := h
 rw [h]
 rfl
def inn (j : Nat) : Bool := decide ((pt j).2.1 = 1 ∨ (pt j).2.1 = 2)
def lfs : Nat → Nat → List Int
 | _, 0 => []
 | a, n + 1 => (if inn a = true then [] else [(a : Int)]) ++ lfs (a + 1) n
theorem qla_ : ∀ (n m a : Nat), lfs a (n + m) = lfs a n ++ lfs (a + n) m
 | 0, m, a => by rw [Nat.zero_add]; rfl
 | n + 1, m, a => by
  rw [show n + 1 + m = (n + m) + 1 by omega]
  show _ ++ lfs (a + 1) (n + m) = (_ ++ lfs (a + 1) n) ++ lfs (a + (n + 1)) m
  rw [qla_ n m (a + 1), List.append_assoc, show a + 1 + n = a + (n + 1) by omega]
theorem qho_ : ∀ (n a : Nat), (lfs a n).length ≤ n
 | 0, a => Nat.le_refl _
 | n + 1, a => by
  have := qho_ n (a + 1)
  show (_ ++ lfs (a + 1) n).length ≤ _
  rw [List.length_append]
  split <;> simp <;> omega
theorem inner_ok (n j : Nat) : qg_ n (pt j).1 (pt j).2.1 (pt j).2.2.1 (pt j).2.2.2.1 (pt j).2.2.2.2.1 (pt j).2.2.2.2.2.1 (pt j).2.2.2.2.2.2.1 (pt j).2.2.2.2.2.2.2 = some (inn j) := by
 unfold qg_ inn
 by_cases c1 : (pt j).2.1 = 1
 ·rw [if_pos c1]; simp [c1]
 ·rw [if_neg c1]
  by_cases c2 : (pt j).2.1 = 2
  ·rw [if_pos c2]; simp [c2]
  ·rw [if_neg c2]; simp [c1, c2]
theorem leaf1 {n j : Nat} {z : Int} (hj : j < Args.A.length) : qcr_ n z (j : Int) = some (lfs j 1) := by
 unfold qcr_
 rw [if_pos (by omega), Int.toNat_natCast]
 show ((some (pt j)).bind _) = _
 dsimp only [Option.bind_some]
 rw [inner_ok]
 dsimp only [Option.bind_some]
 show _ = some ((if inn j = true then [] else [(j : Int)]) ++ [])
 by_cases c : inn j = true
 ·rw [if_pos c, if_pos c]; rfl
 ·rw [if_neg c, if_neg c]; rfl
theorem leaf2 {n j : Nat} {z : Int} {L : List Int} (hj : j < Args.A.length) (hL : L.length ≤ 1000000) : qcs_ n L z (j : Int) = some (L ++ lfs j 1) := by
 unfold qcs_
 rw [if_pos (by omega), Int.toNat_natCast]
 show ((some (pt j)).bind _) = _
 dsimp only [Option.bind_some]
 rw [inner_ok]
 dsimp only [Option.bind_some]
 show _ = some (L ++ ((if inn j = true then [] else [(j : Int)]) ++ []))
 by_cases c : inn j = true
 ·rw [if_pos c, if_pos c]; simp
 ·rw [if_neg c, if_neg c, if_pos (by omega)]; simp
theorem Ks.lv2 {K i k next e : Nat} {a z : Int} (hA : Args.A.length ≤ 1000000) (hK : ∀ j, (kd j).length ≤ K) (h : Ks i k next a e) : i < next → i < Args.A.length → ∀ n f (L : List Int), L.length ≤ next → Args.A.length - i + K + 9 < n → (kd i).length - k < f → iterM (qdx_ (qh9_ n) n z (pt i).2.2.2.2.2.2.1 ((kd i).length : Int)) f (L, (k : Int)) = some (L ++ lfs next (e - next)) := by
 induction h with
 | @done i k next a hk ha =>
  intro hin hi n f L hL hn hf
  obtain ⟨f, rfl⟩ : ∃ g, f = g + 1 := ⟨f - 1, by omega⟩
  rw [qx_, Nat.sub_self]
  unfold qdx_
  dsimp only
  rw [if_neg (by omega)]
  show some L = some (L ++ [])
  rw [List.append_nil]
 | @kid i k next e' e a hk hv hn' ha h1 h2 ih1 ih2 =>
  intro hin hi n f L hL hn hf
  obtain ⟨f, rfl⟩ : ∃ g, f = g + 1 := ⟨f - 1, by omega⟩
  have hkl := kd_le i
  have hKn := hK next
  have l1 := h1.lt
  have l2 := h2.lt
  obtain ⟨m, rfl⟩ : ∃ m, n = m + 1 := ⟨n - 1, by omega⟩
  have hl1 : (L ++ lfs next 1).length ≤ next + 1 := by rw [List.length_append]; have := qho_ 1 next; omega
  have e1 := ih1 (by omega) hn' m m (L ++ lfs next 1) hl1 (by omega) (by omega)
  have hrec : qh9_ (m + 1) (next : Int) L z = some (L ++ lfs next (e' - next)) := by
   show s_tvq2 (qh9_ m) m (next : Int) L z = _
   unfold s_tvq2 qnr_
   rw [leaf2 hn' (by omega)]
   dsimp only [Option.bind_some]
   rw [if_pos (by omega), Int.toNat_natCast]
   show ((iterM (qdx_ (qh9_ m) m z (pt next).2.2.2.2.2.2.1 ((kd next).length : Int)) m (L ++ lfs next 1, ((0 : Nat) : Int))).bind _) = _
   rw [e1]
   dsimp only [Option.bind_some]
   rw [List.append_assoc, ← qla_ 1 (e' - (next + 1)) next, show 1 + (e' - (next + 1)) = e' - next by omega]
  have hB : qdx_ (qh9_ (m + 1)) (m + 1) z (pt i).2.2.2.2.2.2.1 ((kd i).length : Int) (L, (k : Int)) = some (.inl (L ++ lfs next (e' - next), ((k + 1 : Nat) : Int))) := by
   unfold qdx_
   dsimp only
   rw [if_pos (by omega)]
   show (if 0 ≤ (k : Int) ∧ (k : Int) < ((kd i).length : Int) then (if (k : Int).toNat < (kd i).length then (some ((kd i).getD (k : Int).toNat 0)).bind _ else _) else _) = _
   rw [if_pos (by omega), Int.toNat_natCast, if_pos hk, hv]
   dsimp only [Option.bind_some]
   rw [hrec, w64_inc' (by omega)]
   rfl
  rw [qx_, hB]
  have hl2 : (L ++ lfs next (e' - next)).length ≤ e' := by rw [List.length_append]; have := qho_ (e' - next) next; omega
  have g := ih2 (by omega) hi (m + 1) f _ hl2 hn (by omega)
  show iterM _ f (L ++ lfs next (e' - next), ((k + 1 : Nat) : Int)) = _
  rw [g, List.append_assoc, show e - next = (e' - next) + (e - e') by omega, qla_, show next + (e' - next) = e' by omega]
theorem vis2 {K n j e : Nat} {z : Int} {L : List Int} (hA : Args.A.length ≤ 1000000) (hK : ∀ j, (kd j).length ≤ K) (hj : j < Args.A.length) (h : Ks j 0 (j + 1) (atF j) e) (hL : L.length ≤ j) (hn : Args.A.length + K + 12 < n) : qh9_ n (j : Int) L z = some (L ++ lfs j (e - j)) := by
 have l1 := h.lt
 have hKj := hK j
 obtain ⟨m, rfl⟩ : ∃ m, n = m + 1 := ⟨n - 1, by omega⟩
 have hl1 : (L ++ lfs j 1).length ≤ j + 1 := by rw [List.length_append]; have := qho_ 1 j; omega
 have e1 := h.lv2 (z := z) hA hK (by omega) hj m m (L ++ lfs j 1) hl1 (by omega) (by omega)
 show s_tvq2 (qh9_ m) m (j : Int) L z = _
 unfold s_tvq2 qnr_
 rw [leaf2 hj (by omega)]
 dsimp only [Option.bind_some]
 rw [if_pos (by omega), Int.toNat_natCast]
 show ((iterM (qdx_ (qh9_ m) m z (pt j).2.2.2.2.2.2.1 ((kd j).length : Int)) m (L ++ lfs j 1, ((0 : Nat) : Int))).bind _) = _
 rw [e1]
 dsimp only [Option.bind_some]
 rw [List.append_assoc, ← qla_ 1 (e - (j + 1)) j, show 1 + (e - (j + 1)) = e - j by omega]
theorem Ks.lv1 {K i k next e : Nat} {a z : Int} (hA : Args.A.length ≤ 1000000) (hK : ∀ j, (kd j).length ≤ K) (h : Ks i k next a e) : i < next → i < Args.A.length → ∀ n f (L : List Int), L.length ≤ next → Args.A.length + K + 12 + (Args.A.length - i) < n → (kd i).length - k < f → iterM (qcw_ (qhl_ n) n z (pt i).2.2.2.2.2.2.1 ((kd i).length : Int)) f (L, (k : Int)) = some (L ++ lfs next (e - next)) := by
 induction h with
 | @done i k next a hk ha =>
  intro hin hi n f L hL hn hf
  obtain ⟨f, rfl⟩ : ∃ g, f = g + 1 := ⟨f - 1, by omega⟩
  rw [qx_, Nat.sub_self]
  unfold qcw_
  cases L with
  | nil => dsimp only; rw [if_neg (by omega)]; rfl
  | cons b T =>
   dsimp only
   rw [if_neg (by omega)]
   show some (b :: T) = some ((b :: T) ++ [])
   rw [List.append_nil]
 | @kid i k next e' e a hk hv hn' ha h1 h2 ih1 ih2 =>
  intro hin hi n f L hL hn hf
  obtain ⟨f, rfl⟩ : ∃ g, f = g + 1 := ⟨f - 1, by omega⟩
  have hkl := kd_le i
  have hKn := hK next
  have l1 := h1.lt
  have l2 := h2.lt
  obtain ⟨m, rfl⟩ : ∃ m, n = m + 1 := ⟨n - 1, by omega⟩
  have hB : qcw_ (qhl_ (m + 1)) (m + 1) z (pt i).2.2.2.2.2.2.1 ((kd i).length : Int) (L, (k : Int)) = some (.inl (L ++ lfs next (e' - next), ((k + 1 : Nat) : Int))) := by
   unfold qcw_
   cases L with
   | nil =>
    have hl1 : (lfs next 1).length ≤ next + 1 := by have := qho_ 1 next; omega
    have e1 := ih1 (by omega) hn' m m (lfs next 1) hl1 (by omega) (by omega)
    have hrec : qhl_ (m + 1) (next : Int) z = some (lfs next (e' - next)) := by
     show s_tvq1 (qhl_ m) m (next : Int) z = _
     unfold s_tvq1 qk5_
     rw [leaf1 hn']
     dsimp only [Option.bind_some]
     have fin : ∀ X : List Int, X = lfs next 1 → (if 0 ≤ (next : Int) ∧ (next : Int) < ((Args.A.length : Nat) : Int) then ((some (Args.A.getD ((next : Int)).toNat (0, 0, 0, 0, 0, 0, nl0, 0))).bind fun c3_ => (iterM (qcw_ (qhl_ m) m z c3_.2.2.2.2.2.2.1 ((c3_.2.2.2.2.2.2.1.l.length : Nat) : Int)) m (X, 0)).bind fun c4_ => match c4_ with | [] => some ([] : List Int) | c4_a :: c4_t => some (c4_a :: c4_t)) else Option.none) = some (lfs next (e' - next)) := by
      intro X hX
      subst hX
      rw [if_pos (by omega), Int.toNat_natCast]
      show ((iterM (qcw_ (qhl_ m) m z (pt next).2.2.2.2.2.2.1 ((kd next).length : Int)) m (lfs next 1, ((0 : Nat) : Int))).bind _) = _
      rw [e1]
      dsimp only [Option.bind_some]
      rw [← qla_ 1 (e' - (next + 1)) next, show 1 + (e' - (next + 1)) = e' - next by omega]
      cases lfs next (e' - next) <;> rfl
     cases hq : lfs next 1 with
     | nil => exact fin [] hq.symm
     | cons b T => exact fin (b :: T) hq.symm
    dsimp only
    rw [if_pos (by omega)]
    show (if 0 ≤ (k : Int) ∧ (k : Int) < ((kd i).length : Int) then (if (k : Int).toNat < (kd i).length then (some ((kd i).getD (k : Int).toNat 0)).bind _ else _) else _) = _
    rw [if_pos (by omega), Int.toNat_natCast, if_pos hk, hv]
    dsimp only [Option.bind_some]
    rw [hrec, w64_inc' (by omega)]
    dsimp only [Option.bind_some, List.nil_append]
    cases lfs next (e' - next) <;> rfl
   | cons b T =>
    have hrec := vis2 (n := m + 1) (z := z) (L := b :: T) hA hK hn' h1 (by omega) (by omega)
    dsimp only
    rw [if_pos (by omega)]
    show (if 0 ≤ (k : Int) ∧ (k : Int) < ((kd i).length : Int) then (if (k : Int).toNat < (kd i).length then (some ((kd i).getD (k : Int).toNat 0)).bind _ else _) else _) = _
    rw [if_pos (by omega), Int.toNat_natCast, if_pos hk, hv]
    dsimp only [Option.bind_some]
    rw [hrec, w64_inc' (by omega)]
    rfl
  rw [qx_, hB]
  have hl2 : (L ++ lfs next (e' - next)).length ≤ e' := by rw [List.length_append]; have := qho_ (e' - next) next; omega
  have g := ih2 (by omega) hi (m + 1) f _ hl2 hn (by omega)
  show iterM _ f (L ++ lfs next (e' - next), ((k + 1 : Nat) : Int)) = _
  rw [g, List.append_assoc, show e - next = (e' - next) + (e - e') by omega, qla_, show next + (e' - next) = e' by omega]


abbrev lvs : List Int := lfs 0 Args.A.length
theorem leaves_ok {n K : Nat} (hT : Tree) (hA : Args.A.length ≤ 1000000) (hK : ∀ j, (kd j).length ≤ K) (hn : 2 * Args.A.length + K + 14 < n) : m_tLq1 n = some (.inl lvs) := by
 have hpos := hT.pos
 obtain ⟨m, rfl⟩ : ∃ m, n = m + 1 := ⟨n - 1, by omega⟩
 have h := hT.ks
 have hrec : qhl_ (m + 1) 0 0 = some lvs := by
  show s_tvq1 (qhl_ m) m ((0 : Nat) : Int) 0 = _
  have e1 := h.lv1 (z := 0) hA hK (by omega) hpos m m (lfs 0 1) (qho_ 1 0) (by omega) (by have := hK 0; omega)
  unfold s_tvq1 qk5_
  rw [leaf1 hpos]
  dsimp only [Option.bind_some]
  have fin : ∀ X : List Int, X = lfs 0 1 → (if 0 ≤ ((0 : Nat) : Int) ∧ ((0 : Nat) : Int) < ((Args.A.length : Nat) : Int) then ((some (Args.A.getD (((0 : Nat) : Int)).toNat (0, 0, 0, 0, 0, 0, nl0, 0))).bind fun c3_ => (iterM (qcw_ (qhl_ m) m 0 c3_.2.2.2.2.2.2.1 ((c3_.2.2.2.2.2.2.1.l.length : Nat) : Int)) m (X, 0)).bind fun c4_ => match c4_ with | [] => some ([] : List Int) | c4_a :: c4_t => some (c4_a :: c4_t)) else none) = some lvs := by
   intro X hX
   subst hX
   rw [if_pos (by omega), Int.toNat_natCast]
   show ((iterM (qcw_ (qhl_ m) m 0 (pt 0).2.2.2.2.2.2.1 ((kd 0).length : Int)) m (lfs 0 1, ((0 : Nat) : Int))).bind _) = _
   rw [e1]
   dsimp only [Option.bind_some]
   rw [← qla_ 1 (Args.A.length - 1) 0, show 1 + (Args.A.length - 1) = Args.A.length by omega]
   show _ = some (lfs 0 Args.A.length)
   cases lfs 0 Args.A.length <;> rfl
  cases hq : lfs 0 1 with
  | nil => exact fin [] hq.symm
  | cons b T => exact fin (b :: T) hq.symm
 unfold m_tLq1 qcz_ qcn_
 rw [check_ok hT (by omega)]
 simp only [Option.bind_some]
 rw [if_pos trivial, hrec]
 dsimp only [Option.bind_some]
 cases lvs <;> rfl
theorem lfs_nat : ∀ (n a : Nat) (x : Int), x ∈ lfs a n → ∃ c : Nat, x = c ∧ a ≤ c ∧ c < a + n
 | 0, _, _, h => by cases h
 | n + 1, a, x, h => by
  rcases List.mem_append.1 h with h | h
  ·split at h
   ·cases h
   ·obtain rfl := List.mem_singleton.1 h
    exact ⟨a, rfl, Nat.le_refl _, by omega⟩
  ·obtain ⟨c, h1, h2, h3⟩ := lfs_nat n (a + 1) x h
   exact ⟨c, h1, by omega, by omega⟩
def la (q : Nat) : Nat := (lvs.getD q 0).toNat
theorem la_ok {q : Nat} (h : q < lvs.length) : lvs.getD q 0 = (la q : Int) ∧ la q < Args.A.length := by
 obtain ⟨c, h1, h2, h3⟩ := lfs_nat _ _ _ (getD_mem (d := 0) h)
 unfold la
 rw [h1, Int.toNat_natCast]
 exact ⟨rfl, by omega⟩
def pr (q : Nat) : Bool := decide (¬ (pt (la q)).2.1 = 4)
def lk (i : Nat) : Int := (pt i).2.2.2.2.2.1
def lv (q : Nat) : Int := lk (la q)
def pq : Nat → Nat → List Int
 | _, 0 => []
 | a, d + 1 => (if pr a = true then [lv a] else []) ++ pq (a + 1) d
theorem pq_snoc : ∀ (d a : Nat), pq a (d + 1) = pq a d ++ (if pr (a + d) = true then [lv (a + d)] else [])
 | 0, a => by simp [pq]
 | d + 1, a => by
  show _ ++ pq (a + 1) (d + 1) = (_ ++ pq (a + 1) d) ++ _
  rw [pq_snoc d (a + 1), List.append_assoc, show a + 1 + d = a + (d + 1) by omega]
theorem pq_mono : ∀ (d e a : Nat), d ≤ e → (pq a d).length ≤ (pq a e).length
 | d, 0, a, h => by
  obtain rfl : d = 0 := by omega
  exact Nat.le_refl _
 | d, e + 1, a, h => by
  rcases Nat.lt_or_ge e d with h1 | h1
  ·obtain rfl : d = e + 1 := by omega
   exact Nat.le_refl _
  ·have := pq_mono d e a h1
   rw [pq_snoc, List.length_append]; omega
theorem pq_tail {d a : Nat} : (pq (a + 1) d).length ≤ (pq a (d + 1)).length := by
 show _ ≤ (_ ++ pq (a + 1) d).length
 rw [List.length_append]; omega
def fp : Nat → Int
 | 0 => 0
 | b + 1 => if pr b = true then maxB (fp b) (lv b) else fp b
def fl : Nat → Int
 | 0 => 0
 | b + 1 => maxB (fl b) (lv b)
theorem maxB_le {a b : Int} : a ≤ maxB a b := by unfold maxB; split <;> omega
theorem maxB_le' {a b : Int} : b ≤ maxB a b := by unfold maxB; split <;> omega
theorem maxB_lub {a b c : Int} (h : a ≤ c) (k : b ≤ c) : maxB a b ≤ c := by unfold maxB; split <;> omega
theorem maxB_mono {a b c : Int} (h : a ≤ c) : maxB a b ≤ maxB c b := maxB_lub (Int.le_trans h maxB_le) maxB_le'
theorem maxB_swap {a b c : Int} : maxB (maxB a b) c = maxB (maxB a c) b := by unfold maxB; (repeat' split) <;> omega
theorem maxB_assoc {a b c : Int} : maxB (maxB a b) c = maxB a (maxB b c) := by unfold maxB; (repeat' split) <;> omega
theorem fp_mono : ∀ {x y : Nat}, x ≤ y → fp x ≤ fp y
 | x, 0, h => by
  obtain rfl : x = 0 := by omega
  exact Int.le_refl _
 | x, y + 1, h => by
  rcases Nat.lt_or_ge y x with h1 | h1
  ·obtain rfl : x = y + 1 := by omega
   exact Int.le_refl _
  ·have := fp_mono h1
   refine Int.le_trans this ?_
   show fp y ≤ if pr y = true then maxB (fp y) (lv y) else fp y
   split
   ·exact maxB_le
   ·exact Int.le_refl _
structure NX (k : Int) (q x : Nat) : Prop where
 lo : q + 1 ≤ x
 hi : x ≤ lvs.length
 full : x = lvs.length ∨ k ≤ ((pq (q + 1) (x - (q + 1))).length : Int)
 least : x = q + 1 ∨ ((pq (q + 1) (x - 1 - (q + 1))).length : Int) < k
theorem NX.le {j k : Int} {q x y : Nat} (h : NX j q x) (g : NX k q y) (hjk : j ≤ k) : x ≤ y := by
 refine Classical.byContradiction fun hc => ?_
 have h1 := h.hi
 have g1 := g.lo
 have h2 := h.least.resolve_left (by omega)
 have g2 := g.full.resolve_left (by omega)
 have := pq_mono (y - (q + 1)) (x - 1 - (q + 1)) (q + 1) (by omega)
 omega
theorem NX.eq {k : Int} {q x y : Nat} (h : NX k q x) (g : NX k q y) : x = y := Nat.le_antisymm (h.le g (Int.le_refl _)) (g.le h (Int.le_refl _))
open Classical in
noncomputable def nxC (k : Int) (q : Nat) : Nat := if h : ∃ x, NX k q x then h.choose else 0
theorem NX.nx {k : Int} {q x : Nat} (h : NX k q x) : nxC k q = x := by
 have hx : ∃ x, NX k q x := ⟨x, h⟩
 unfold nxC
 rw [dif_pos hx]
 exact hx.choose_spec.eq h
noncomputable def hv (k : Int) (q : Nat) : Int := maxB (fp (nxC k q)) (fl (q + 1))
def fill (h : Nat → Int) : Nat → List Int
 | 0 => List.replicate Args.A.length 0
 | q + 1 => (fill h q).set (la q) (h q)
theorem qig_ {h : Nat → Int} : ∀ q, (fill h q).length = Args.A.length
 | 0 => by unfold fill; rw [List.length_replicate]
 | q + 1 => by unfold fill; rw [List.length_set, qig_ q]
theorem fill_mono {g h : Nat → Int} {x : Nat} : ∀ q, q ≤ lvs.length → (∀ a, a < q → g a ≤ h a) → (fill g q).getD x 0 ≤ (fill h q).getD x 0
 | 0, _, _ => Int.le_refl _
 | q + 1, hq, H => by
  have ih := fill_mono (x := x) q (by omega) (fun a ha => H a (by omega))
  have hl := (la_ok (q := q) (by omega)).2
  unfold fill
  rw [qk9_ (by rw [qig_]; exact hl), qk9_ (by rw [qig_]; exact hl)]
  by_cases e : x = la q
  ·rw [if_pos e, if_pos e]; exact H q (by omega)
  ·rw [if_neg e, if_neg e]; exact ih
structure CT (Q : List Int) (l o : Nat) (L : List Int) : Prop where
 le : o + l ≤ Q.length
 eq : (Q.drop o).take l = L
theorem CT.len {Q L : List Int} {l o : Nat} (h : CT Q l o L) : L.length = l := by
 rw [← h.eq, List.length_take, List.length_drop]
 have := h.le
 omega
theorem CT.pop {Q L : List Int} {l o : Nat} {v : Int} (h : CT Q l o (v :: L)) : 1 ≤ l ∧ CT Q (l - 1) (o + 1) L := by
 have hl := h.len
 have hle := h.le
 simp only [List.length_cons] at hl
 refine ⟨by omega, by omega, ?_⟩
 have := congrArg (List.drop 1) h.eq
 rw [List.drop_take, List.drop_drop] at this
 simpa using this
structure S2 (k : Int) (q : Nat) (s : List Int × Nat × Nat × Int × Int) (x : Nat) : Prop where
 ct : CT s.1 s.2.1 s.2.2.1 (pq (q + 1) (x - (q + 1)))
 cap : ((pq (q + 1) (x - (q + 1))).length : Int) ≤ k
 far : maxB s.2.2.2.1 (lv q) = maxB (fp x) (fl (q + 1))
 nxt : s.2.2.2.2 = (x : Int)
 lo : q + 1 ≤ x
 hi : x ≤ lvs.length
 least : x = q + 1 ∨ ((pq (q + 1) (x - 1 - (q + 1))).length : Int) < k
theorem qlb_ {n q : Nat} (h : q < lvs.length) : qce_ n (la q : Int) = some (pr q) := by
 have hl := (la_ok h).2
 unfold qce_ pr
 rw [if_pos (by omega), Int.toNat_natCast]
 simp only [Option.bind_some]
 by_cases c : (pt (la q)).2.1 = 4
 ·rw [if_pos (show (Args.A.getD (la q) (0, 0, 0, 0, 0, 0, nl0, 0)).2.1 = 4 from c)]; simp [c]
 ·rw [if_neg (show ¬ (Args.A.getD (la q) (0, 0, 0, 0, 0, 0, nl0, 0)).2.1 = 4 from c)]; simp [c]
theorem inner {n q c x0 : Nat} {k a b d : Int} {O : List Int} {s : List Int × Nat × Nat × Int × Int} (hn : 1000 ≤ n) (hA : Args.A.length ≤ 120) (hk : 0 ≤ k) (hs : S2 k q s x0) : ∃ s' x, qbm_ n k O c lvs a b d s = some s' ∧ S2 k q s' x ∧ NX k q x := by
 have hll : lvs.length ≤ Args.A.length := qho_ Args.A.length 0
 obtain ⟨r, q1, q2⟩ := whileI (B := qia_ n k O c lvs a b d) (fun s => ∃ x, S2 k q s x) (fun s => lvs.length - s.2.2.2.2.toNat) (fun s => ∃ x, S2 k q s x ∧ NX k q x)
  (fun s hI => by
   obtain ⟨x, h⟩ := hI
   obtain ⟨Q, l, o, far, y⟩ := s
   have hct := h.ct
   have hcap := h.cap
   have hfar := h.far
   have hnxt := h.nxt
   have hlo := h.lo
   have hhi := h.hi
   have hle := h.least
   dsimp only at hct hfar hnxt
   subst hnxt
   have hcl := hct.len
   have hcle := hct.le
   have done : (x = lvs.length ∨ k ≤ ((pq (q + 1) (x - (q + 1))).length : Int)) → ∃ r, (∃ x, S2 k q r x ∧ NX k q x) ∧ (some (.inr (Q, l, o, far, (x : Int))) : Option ((List Int × Nat × Nat × Int × Int) ⊕ (List Int × Nat × Nat × Int × Int))) = some (.inr r) := fun hf => ⟨_, ⟨x, h, hlo, hhi, hf, hle⟩, rfl⟩
   have step : x < lvs.length → ((pq (q + 1) (x - (q + 1))).length : Int) < k → ∀ Q' l' o', CT Q' l' o' (pq (q + 1) (x - (q + 1)) ++ (if pr x = true then [lv x] else [])) → S2 k q (Q', l', o', (if pr x = true then maxB far (lv x) else far), ((x + 1 : Nat) : Int)) (x + 1) := fun h1 h2 Q' l' o' hc => by
    have e : pq (q + 1) (x + 1 - (q + 1)) = pq (q + 1) (x - (q + 1)) ++ (if pr x = true then [lv x] else []) := by
     rw [show x + 1 - (q + 1) = (x - (q + 1)) + 1 by omega, pq_snoc, show q + 1 + (x - (q + 1)) = x by omega]
    refine ⟨by rw [e]; exact hc, ?_, ?_, rfl, by omega, by omega, .inr ?_⟩
    ·rw [e, List.length_append]
     split <;> simp <;> omega
    ·show maxB (if pr x = true then maxB far (lv x) else far) (lv q) = maxB (if pr x = true then maxB (fp x) (lv x) else fp x) (fl (q + 1))
     split
     ·rw [maxB_swap, hfar, maxB_swap]
     ·exact hfar
    ·rw [show x + 1 - 1 - (q + 1) = x - (q + 1) by omega]; exact h2
   have mu : x < lvs.length → lvs.length - (((x + 1 : Nat) : Int)).toNat < lvs.length - ((x : Nat) : Int).toNat := fun _ => by omega
   unfold qia_
   cases Q with
   | nil =>
    have hl0 : l = 0 := by simp at hcle; omega
    have ho0 : o = 0 := by simp at hcle; omega
    subst hl0
    subst ho0
    dsimp only
    by_cases c1 : x < lvs.length
    ·rw [if_pos (by omega)]
     by_cases c2 : (0 : Int) < k
     ·rw [if_pos c2, if_pos (by omega), Int.toNat_natCast, (la_ok c1).1]
      have hla := (la_ok c1).2
      simp only [Option.bind_some]
      rw [if_pos (by omega), qlb_ c1, Int.toNat_natCast]
      simp only [Option.bind_some]
      have hp0 : pq (q + 1) (x - (q + 1)) = [] := List.eq_nil_of_length_eq_zero hcl
      have st := step c1 (by omega)
      by_cases c3 : pr x = true
      ·rw [if_pos c3, w64_inc (by omega)]
       have := st [lv x] 1 0 ⟨by simp, by rw [hp0, if_pos c3]; rfl⟩
       rw [if_pos c3] at this
       exact .inl ⟨_, ⟨_, this⟩, mu c1, rfl⟩
      ·rw [if_neg c3, w64_inc (by omega)]
       have := st [] 0 0 ⟨by simp, by rw [hp0, if_neg c3]; rfl⟩
       rw [if_neg c3] at this
       exact .inl ⟨_, ⟨_, this⟩, mu c1, rfl⟩
     ·rw [if_neg c2]
      exact .inr (done (.inr (by omega)))
    ·rw [if_neg (by omega)]
     exact .inr (done (.inl (by omega)))
   | cons qa qt =>
    dsimp only
    by_cases c1 : x < lvs.length
    ·rw [if_pos (by omega)]
     by_cases c2 : ((l : Nat) : Int) < k
     ·rw [if_pos c2, if_pos (by omega), Int.toNat_natCast, (la_ok c1).1]
      have hla := (la_ok c1).2
      simp only [Option.bind_some]
      rw [if_pos (by omega), qlb_ c1, Int.toNat_natCast]
      simp only [Option.bind_some]
      have hpl : l ≤ 200 := by
       have h1 : ∀ (d a : Nat), (pq a d).length ≤ d := fun d => by
        induction d with
        | zero => exact fun a => Nat.le_refl _
        | succ d ih =>
         intro a
         have := ih a
         rw [pq_snoc, List.length_append]
         split <;> simp <;> omega
       have := h1 (x - (q + 1)) (q + 1)
       omega
      have st := step c1 (by omega)
      by_cases c3 : pr x = true
      ·rw [if_pos c3, if_pos hcle, if_pos (by omega), w64_inc (by omega)]
       have e := hct.eq
       rw [e]
       have := st (pq (q + 1) (x - (q + 1)) ++ [lv x]) ((pq (q + 1) (x - (q + 1)) ++ [lv x]).length) 0 ⟨by omega, by rw [List.drop_zero, List.take_length, if_pos c3]⟩
       rw [if_pos c3] at this
       exact .inl ⟨_, ⟨_, this⟩, mu c1, rfl⟩
      ·rw [if_neg c3, w64_inc (by omega)]
       have := st (qa :: qt) l o (by rw [if_neg c3, List.append_nil]; exact hct)
       rw [if_neg c3] at this
       exact .inl ⟨_, ⟨_, this⟩, mu c1, rfl⟩
     ·rw [if_neg c2]
      exact .inr (done (.inr (by omega)))
    ·rw [if_neg (by omega)]
     exact .inr (done (.inl (by omega)))) n s ⟨x0, hs⟩ (by omega)
 obtain ⟨x, h1, h2⟩ := q1
 exact ⟨r, x, q2, h1, h2⟩


structure S1 (k : Int) (q : Nat) (s : List Int × List Int × List Int × Nat × Nat × Int × Int) : Prop where
 out : s.1 = fill (hv k) q
 lst : s.2.1 = lvs
 x : ∃ x : Nat, s.2.2.2.2.2.2 = (x : Int) ∧ CT s.2.2.1 s.2.2.2.1 s.2.2.2.2.1 (pq q (x - q)) ∧ ((pq q (x - q)).length : Int) ≤ k ∧ s.2.2.2.2.2.1 = maxB (fp x) (fl q) ∧ q ≤ x ∧ x ≤ lvs.length ∧ (x = q ∨ ((pq q (x - 1 - q)).length : Int) < k)
 nx : ∀ a, a < q → ∃ x, NX k a x
theorem S1.step {k : Int} {q x c : Nat} {s' : List Int × Nat × Nat × Int × Int} (hq : q < lvs.length) (h : S2 k q s' x) (g : NX k q x) (hx : ∀ a, a < q → ∃ x, NX k a x) : S1 k (q + 1) ((fill (hv k) q).set (la q) (maxB s'.2.2.2.1 (pt (la q)).2.2.2.2.2.1), lvs, s'.1, s'.2.1, s'.2.2.1, maxB s'.2.2.2.1 (pt (la q)).2.2.2.2.2.1, s'.2.2.2.2) := by
 have e : maxB s'.2.2.2.1 (pt (la q)).2.2.2.2.2.1 = maxB (fp x) (fl (q + 1)) := h.far
 refine ⟨?_, rfl, ⟨x, h.nxt, h.ct, h.cap, e, h.lo, h.hi, ?_⟩, fun a ha => ?_⟩
 ·show _ = (fill (hv k) q).set (la q) (hv k q)
  unfold hv
  rw [g.nx, e]
 ·exact h.least
 ·rcases Nat.lt_or_ge a q with h1 | h1
  ·exact hx a h1
  ·obtain rfl : a = q := by omega
   exact ⟨x, g⟩
theorem reachLoop {n : Nat} {k : Int} (hn : 1000 ≤ n) (hA : Args.A.length ≤ 120) (hk : 0 ≤ k) (h0 : 0 < lvs.length) : qib_ n k Args.A.length ((lvs.length : Nat) : Int) (List.replicate Args.A.length 0, lvs, [], 0, 0, 0, 0, 0) = some (fill (hv k) lvs.length) ∧ ∀ a, a < lvs.length → ∃ x, NX k a x := by
 have hll : lvs.length ≤ Args.A.length := qho_ Args.A.length 0
 obtain ⟨r, q1, q2⟩ := hoare (B := qet_ n k Args.A.length ((lvs.length : Nat) : Int)) (σ := List Int × List Int × List Int × Nat × Nat × Int × Int) (fun s i => (s.1, s.2.1, s.2.2.1, s.2.2.2.1, s.2.2.2.2.1, s.2.2.2.2.2.1, s.2.2.2.2.2.2, i)) (fun q s => S1 k q s) (fun r => r = fill (hv k) lvs.length ∧ ∀ a, a < lvs.length → ∃ x, NX k a x) lvs.length
  (fun q s hq hI => by
   left
   obtain ⟨O, Λ, Q, l, o, far, y⟩ := s
   obtain ⟨hO, hΛ, ⟨x, hy, hct, hcap, hfar, hlo, hhi, hle⟩, hnx⟩ := hI
   dsimp only at hO hΛ hy hct hfar ⊢
   subst hO
   subst hy
   have hla := la_ok hq
   have hm := qlb_ (n := n) hq
   have hcl := hct.len
   have hcle := hct.le
   obtain ⟨La, Lt, hL⟩ : ∃ La Lt, Λ = La :: Lt := by
    cases Λ with
    | nil => rw [← hΛ] at h0; exact absurd h0 (Nat.lt_irrefl 0)
    | cons a t => exact ⟨a, t, rfl⟩
   have hlen : (La :: Lt).length = lvs.length := by rw [← hL, hΛ]
   have hget : (La :: Lt).getD q 0 = (la q : Int) := by rw [← hL, hΛ]; exact hla.1
   -- what comes behind the loop inside
   have tail : ∀ (s0 : List Int × Nat × Nat × Int × Int) (x0 : Nat), S2 k q s0 x0 → ∃ s', S1 k (q + 1) s' ∧ ((qbm_ n k (fill (hv k) q) Args.A.length (La :: Lt) (la q : Int) ((lvs.length : Nat) : Int) (q : Int) s0).bind fun t => match t with
       | (y1_5_0, y1_5_1, y1_5_2, y1_5_3, y1_5_4) =>
        match y1_5_0 with
        | [] =>
         if 0 ≤ (la q : Int) ∧ (la q : Int) < (((Args.A).length : Nat) : Int) then
          ((some ((Args.A).getD ((la q : Int)).toNat (0, 0, 0, 0, 0, 0, nl0, 0)))).bind fun y1_7_ =>
          if 0 ≤ (la q : Int) ∧ (la q : Int) < ((Args.A.length : Nat) : Int) then
           if ((la q : Int)).toNat < (fill (hv k) q).length then
            some (.inl (((fill (hv k) q).set ((la q : Int)).toNat (maxB y1_5_3 (y1_7_.2.2.2.2.2.1))), (La :: Lt), ([] : List Int), 0, 0, (maxB y1_5_3 (y1_7_.2.2.2.2.2.1)), y1_5_4, (w64 ((q : Int) + (1 : Int)))))
           else none
          else none
         else none
        | y1_5_0a :: y1_5_0t =>
         if 0 ≤ (la q : Int) ∧ (la q : Int) < (((Args.A).length : Nat) : Int) then
          ((some ((Args.A).getD ((la q : Int)).toNat (0, 0, 0, 0, 0, 0, nl0, 0)))).bind fun y1_7_ =>
          if 0 ≤ (la q : Int) ∧ (la q : Int) < ((Args.A.length : Nat) : Int) then
           if ((la q : Int)).toNat < (fill (hv k) q).length then
            some (.inl (((fill (hv k) q).set ((la q : Int)).toNat (maxB y1_5_3 (y1_7_.2.2.2.2.2.1))), (La :: Lt), (y1_5_0a :: y1_5_0t), y1_5_1, y1_5_2, (maxB y1_5_3 (y1_7_.2.2.2.2.2.1)), y1_5_4, (w64 ((q : Int) + (1 : Int)))))
           else none
          else none
         else none) = (some (.inl (s'.1, s'.2.1, s'.2.2.1, s'.2.2.2.1, s'.2.2.2.2.1, s'.2.2.2.2.2.1, s'.2.2.2.2.2.2, ((q + 1 : Nat) : Int))) : Option ((List Int × List Int × List Int × Nat × Nat × Int × Int × Int) ⊕ (List Int))) := by
    intro s0 x0 h2
    obtain ⟨s', x', e1, h3, h4⟩ := inner (n := n) (c := Args.A.length) (a := (la q : Int)) (b := ((lvs.length : Nat) : Int)) (d := (q : Int)) (O := fill (hv k) q) hn hA hk h2
    rw [show La :: Lt = lvs by rw [← hL, hΛ]]
    refine ⟨_, S1.step (c := 0) hq h3 h4 hnx, ?_⟩
    rw [e1]
    simp only [Option.bind_some]
    obtain ⟨Q', l', o', far', y'⟩ := s'
    have hc := h3.ct.le
    cases Q' with
    | nil =>
     dsimp only at hc ⊢
     have hl0 : l' = 0 := by simp at hc; omega
     have ho0 : o' = 0 := by simp at hc; omega
     subst hl0
     subst ho0
     rw [if_pos (by omega)]
     simp only [Option.bind_some, Int.toNat_natCast]
     rw [if_pos (by omega), if_pos (by rw [qig_]; exact hla.2), w64_inc (by omega)]
     rfl
    | cons qa qt =>
     dsimp only
     rw [if_pos (by omega)]
     simp only [Option.bind_some, Int.toNat_natCast]
     rw [if_pos (by omega), if_pos (by rw [qig_]; exact hla.2), w64_inc (by omega)]
     rfl
   subst hL
   have g0 : (q : Int) < ((lvs.length : Nat) : Int) := by omega
   have g1 : 0 ≤ (q : Int) ∧ (q : Int) < (((La :: Lt).length : Nat) : Int) := by omega
   by_cases hx : x = q
   ·-- the next one has not been looked at
    subst hx
    have hp0 : pq x (x - x) = [] := by rw [Nat.sub_self]; rfl
    have ex : pq (x + 1) (x + 1 - (x + 1)) = [] := by rw [Nat.sub_self]; rfl
    rw [hp0] at hct
    have h2 : S2 k x (Q, l, o, far, ((x + 1 : Nat) : Int)) (x + 1) := ⟨by rw [ex]; exact hct, by rw [ex]; exact hk, by
     show maxB far (lv x) = _
     rw [hfar]
     show _ = maxB (if pr x = true then maxB (fp x) (lv x) else fp x) (maxB (fl x) (lv x))
     unfold maxB
     (repeat' split) <;> omega, rfl, Nat.le_refl _, by omega, .inl rfl⟩
    obtain ⟨s', h3, h4⟩ := tail _ _ h2
    refine ⟨s', h3, ?_⟩
    rw [← h4]
    unfold qet_
    cases Q with
    | nil =>
     have hl0 : l = 0 := by simp at hcle; omega
     have ho0 : o = 0 := by simp at hcle; omega
     subst hl0
     subst ho0
     dsimp only
     rw [if_pos g0, if_pos g1, Int.toNat_natCast, hget]
     dsimp only [Option.bind_some]
     rw [if_pos (Int.le_refl _), w64_inc (by omega)]
     rfl
    | cons qa qt =>
     dsimp only
     rw [if_pos g0, if_pos g1, Int.toNat_natCast, hget]
     dsimp only [Option.bind_some]
     rw [if_pos (Int.le_refl _), w64_inc (by omega)]
     rfl
   ·have hpq : pq q (x - q) = (if pr q = true then [lv q] else []) ++ pq (q + 1) (x - (q + 1)) := by
     rw [show x - q = (x - (q + 1)) + 1 by omega]; rfl
    have hfar2 : maxB far (lv q) = maxB (fp x) (fl (q + 1)) := by rw [hfar, maxB_assoc]; rfl
    have hle2 : x = q + 1 ∨ ((pq (q + 1) (x - 1 - (q + 1))).length : Int) < k := by
     rcases hle with h | h
     ·exact absurd h hx
     ·by_cases h1 : x = q + 1
      ·exact .inl h1
      ·right
       have := pq_tail (d := x - 1 - (q + 1)) (a := q)
       rw [show x - 1 - (q + 1) + 1 = x - 1 - q by omega] at this
       omega
    have hcap2 : ((pq (q + 1) (x - (q + 1))).length : Int) ≤ k := by
     have := pq_tail (d := x - (q + 1)) (a := q)
     rw [show x - (q + 1) + 1 = x - q by omega] at this
     omega
    rw [hpq] at hct
    by_cases hp : pr q = true
    ·rw [if_pos hp] at hct
     obtain ⟨p1, p2⟩ := hct.pop
     have h2 : S2 k q (Q, l - 1, o + 1, far, (x : Int)) x := ⟨p2, hcap2, hfar2, rfl, by omega, hhi, hle2⟩
     obtain ⟨s', h3, h4⟩ := tail _ _ h2
     refine ⟨s', h3, ?_⟩
     rw [← h4]
     unfold qet_
     cases Q with
     | nil => simp at hcle; omega
     | cons qa qt =>
      dsimp only
      rw [if_pos g0, if_pos g1, Int.toNat_natCast, hget]
      dsimp only [Option.bind_some]
      rw [if_neg (by omega), hm]
      dsimp only [Option.bind_some]
      rw [if_pos hp, if_pos (by omega)]
      rfl
    ·rw [if_neg hp] at hct
     have h2 : S2 k q (Q, l, o, far, (x : Int)) x := ⟨hct, hcap2, hfar2, rfl, by omega, hhi, hle2⟩
     obtain ⟨s', h3, h4⟩ := tail _ _ h2
     refine ⟨s', h3, ?_⟩
     rw [← h4]
     unfold qet_
     cases Q with
     | nil =>
      have hl0 : l = 0 := by simp at hcle; omega
      have ho0 : o = 0 := by simp at hcle; omega
      subst hl0
      subst ho0
      dsimp only
      rw [if_pos g0, if_pos g1, Int.toNat_natCast, hget]
      dsimp only [Option.bind_some]
      rw [if_neg (by omega), hm]
      dsimp only [Option.bind_some]
      rw [if_neg hp]
      rfl
     | cons qa qt =>
      dsimp only
      rw [if_pos g0, if_pos g1, Int.toNat_natCast, hget]
      dsimp only [Option.bind_some]
      rw [if_neg (by omega), hm]
      dsimp only [Option.bind_some]
      rw [if_neg hp]
      rfl)
  (fun s hI => by
   obtain ⟨O, Λ, Q, l, o, far, y⟩ := s
   have hO := hI.out
   dsimp only at hO ⊢
   subst hO
   refine ⟨_, ⟨rfl, hI.nx⟩, ?_⟩
   unfold qet_
   cases Λ with
   | nil => cases Q <;> (dsimp only; rw [if_neg (by omega)])
   | cons a t => cases Q <;> (dsimp only; rw [if_neg (by omega)])) n 0 (List.replicate Args.A.length 0, lvs, [], 0, 0, 0, 0) (Nat.zero_le _) ⟨rfl, rfl, ⟨0, rfl, ⟨by simp, rfl⟩, by simpa [pq] using hk, rfl, Nat.le_refl _, Nat.zero_le _, .inl rfl⟩, fun a ha => absurd ha (Nat.not_lt_zero _)⟩ (by omega)
 obtain ⟨rfl, h2⟩ := q1
 exact ⟨q2, h2⟩
theorem reach_ok {n K : Nat} {k : Int} (hT : Tree) (hK : ∀ j, (kd j).length ≤ K) (hn : 1000 + 2 * Args.A.length + K < n) (hA : Args.A.length ≤ 120) (hk : 0 ≤ k) : m_mRq1 n k = some (fill (hv k) lvs.length, Args.A.length) ∧ ∀ a, a < lvs.length → ∃ x, NX k a x := by
 have hl := leaves_ok (n := n) hT (by omega) hK (by omega)
 unfold m_mRq1
 rw [check_ok hT (by omega)]
 simp only [Option.bind_some]
 rw [if_pos trivial, if_pos (by omega), if_pos (by omega), hl]
 dsimp only
 by_cases h0 : 0 < lvs.length
 ·obtain ⟨e, h⟩ := reachLoop (n := n) (k := k) (by omega) hA hk h0
  refine ⟨?_, h⟩
  cases hq : lvs with
  | nil => rw [hq] at h0; exact absurd h0 (Nat.lt_irrefl 0)
  | cons a t =>
   rw [hq] at e
   dsimp only
   simp only [Int.toNat_natCast]
   rw [e]
   rfl
 ·have hq : lvs = [] := List.eq_nil_of_length_eq_zero (by omega)
  refine ⟨?_, fun a ha => absurd ha (by omega)⟩
  rw [hq]
  dsimp only
  simp only [Int.toNat_natCast]
  obtain ⟨m, rfl⟩ : ∃ m, n = m + 1 := ⟨n - 1, by omega⟩
  unfold qib_
  rw [qx_]
  rfl
theorem hv_mono {j k : Int} {q : Nat} (hjk : j ≤ k) (h : ∃ x, NX j q x) (g : ∃ x, NX k q x) : hv j q ≤ hv k q := by
 obtain ⟨x, h⟩ := h
 obtain ⟨y, g⟩ := g
 unfold hv
 rw [h.nx, g.nx]
 exact maxB_mono (fp_mono (h.le g hjk))


def bk (f x : Int) : Bool := decide (f = -1 ∨ x ≤ f)
theorem before_ok (n : Nat) (x f : Int) : qi_ n x f = some (bk f x) := by
 unfold qi_ bk
 by_cases h : f = -1
 ·rw [if_pos h]; simp [h]
 ·rw [if_neg h]
  by_cases k : x ≤ f
  ·rw [if_pos k]; simp [k]
  ·rw [if_neg k]; simp [h, k]
def allK (S : List Bool) (ks : List Int) : Bool := ks.all fun k => S.getD k.toNat false
theorem fold_ok {n i : Nat} {S : List Bool} (hT : Tree) (hi : i < Args.A.length) (hn : (kd i).length < n) (hS : S.length = Args.A.length) : qlj_ n (pt i).2.2.2.2.2.2.1 true S Args.A.length Args.A.length = some (allK S (kd i)) := by
 have hkl := kd_le i
 obtain ⟨r, q1, h⟩ := hoare (B := qev_ n S Args.A.length Args.A.length (pt i).2.2.2.2.2.2.1 ((kd i).length : Int)) (σ := Bool) (fun b q => (b, q)) (fun q b => b = allK S ((kd i).take q)) (fun r => r = allK S (kd i)) (kd i).length
  (fun q b hq hI => by
   obtain ⟨c, h1, h2, h3⟩ := hT.kid hi hq
   left
   have hall : allK S ((kd i).take (q + 1)) = (allK S ((kd i).take q) && S.getD c false) := by
    rw [take_snocI hq, h1]
    unfold allK
    rw [List.all_append]
    simp
   refine ⟨allK S ((kd i).take (q + 1)), rfl, ?_⟩
   unfold qev_
   dsimp only
   rw [if_pos (by omega), if_pos (show (0 : Int) ≤ (q : Int) ∧ (q : Int) < (((pt i).2.2.2.2.2.2.1.l.length : Nat) : Int) from ⟨Int.natCast_nonneg _, Int.ofNat_lt.2 hq⟩), if_pos (show ((q : Int)).toNat < (pt i).2.2.2.2.2.2.1.l.length from by rw [Int.toNat_natCast]; exact hq)]
   simp only [Int.toNat_natCast, Option.bind_some]
   rw [show (pt i).2.2.2.2.2.2.1.l.getD q 0 = (c : Int) from h1, w64_inc' (by omega), hall, hI]
   unfold qee_ m_mM1q1
   by_cases hb : allK S ((kd i).take q) = true
   ·rw [if_pos hb, if_pos (by omega)]
    simp only [Int.toNat_natCast]
    rw [if_pos (by omega), hb]
    rfl
   ·rw [if_neg hb, Bool.eq_false_iff.2 hb]
    rfl)
  (fun b hI => by
   unfold qev_
   dsimp only
   rw [if_neg (by omega)]
   rw [List.take_length] at hI
   exact ⟨b, hI, rfl⟩) n 0 true (Nat.zero_le _) (by show true = allK S []; rfl) (by omega)
 have h : qny_ n S Args.A.length Args.A.length (pt i).2.2.2.2.2.2.1 (((pt i).2.2.2.2.2.2.1.l.length : Nat) : Int) (true, 0) = some r := h
 unfold qlj_ m_vS1q1
 rw [h, q1]
 rfl
def sv (R : List Int) (f : Int) (S : List Bool) (i : Nat) : Bool := if inn i = true then allK S (kd i) else if stL.getD i false = true then false else bk f (R.getD i 0)
def ov (R : List Int) (f : Int) (S : List Bool) (i : Nat) : Int := if stL.getD i false = true then 1 else if (sv R f S i && bk f (if inn i = true then lk i else R.getD i 0)) = true then 3 else 2
def mS (R : List Int) (f : Int) : Nat → List Bool
 | 0 => List.replicate Args.A.length false
 | m + 1 => (mS R f m).set (Args.A.length - (m + 1)) (sv R f (mS R f m) (Args.A.length - (m + 1)))
def mO (R : List Int) (f : Int) : Nat → List Int
 | 0 => List.replicate Args.A.length 0
 | m + 1 => (mO R f m).set (Args.A.length - (m + 1)) (ov R f (mS R f m) (Args.A.length - (m + 1)))
theorem mS_len {R : List Int} {f : Int} : ∀ m, (mS R f m).length = Args.A.length
 | 0 => by unfold mS; rw [List.length_replicate]
 | m + 1 => by unfold mS; rw [List.length_set, mS_len m]
theorem mO_len {R : List Int} {f : Int} : ∀ m, (mO R f m).length = Args.A.length
 | 0 => by unfold mO; rw [List.length_replicate]
 | m + 1 => by unfold mO; rw [List.length_set, mO_len m]
theorem marksB {n i : Nat} {R O : List Int} {S : List Bool} {f : Int} (hT : Tree) (hi : i < Args.A.length) (hn : (kd i).length < n) (hA : Args.A.length ≤ 120) (hR : R.length = Args.A.length) (hS : S.length = Args.A.length) (hO : O.length = Args.A.length) : qfy_ n f R Args.A.length stL Args.A.length Args.A.length (S, O, (i : Int)) = some (.inl (S.set i (sv R f S i), O.set i (ov R f S i), (i : Int) - 1)) := by
 have hst : stL.length = Args.A.length := qmb_ _
 have hw : w64 ((i : Int) - 1) = (i : Int) - 1 := w64_sm (by omega) (by omega)
 unfold qfy_
 dsimp only
 rw [if_pos (by omega), if_pos (by omega), hw]
 simp only [Int.toNat_natCast, Option.bind_some]
 rw [if_pos (by omega), if_pos (by omega)]
 have hin : qg_ n (Args.A.getD i (0, 0, 0, 0, 0, 0, nl0, 0)).1 (Args.A.getD i (0, 0, 0, 0, 0, 0, nl0, 0)).2.1 (Args.A.getD i (0, 0, 0, 0, 0, 0, nl0, 0)).2.2.1 (Args.A.getD i (0, 0, 0, 0, 0, 0, nl0, 0)).2.2.2.1 (Args.A.getD i (0, 0, 0, 0, 0, 0, nl0, 0)).2.2.2.2.1 (Args.A.getD i (0, 0, 0, 0, 0, 0, nl0, 0)).2.2.2.2.2.1 (Args.A.getD i (0, 0, 0, 0, 0, 0, nl0, 0)).2.2.2.2.2.2.1 (Args.A.getD i (0, 0, 0, 0, 0, 0, nl0, 0)).2.2.2.2.2.2.2 = some (inn i) := inner_ok n i
 rw [hin]
 have hfo : qlj_ n (Args.A.getD i (0, 0, 0, 0, 0, 0, nl0, 0)).2.2.2.2.2.2.1 true S Args.A.length Args.A.length = some (allK S (kd i)) := fold_ok hT hi hn hS
 have hlk : (Args.A.getD i (0, 0, 0, 0, 0, 0, nl0, 0)).2.2.2.2.2.1 = lk i := rfl
 simp only [Option.bind_some]
 by_cases c1 : inn i = true
 ·rw [if_pos c1]
  unfold m_vSq1
  simp only [Option.bind_some]
  rw [hfo]
  simp only [Option.bind_some]
  rw [if_pos (by omega), if_pos (by omega), if_pos (by omega), if_pos (by omega)]
  have e1 : sv R f S i = allK S (kd i) := if_pos c1
  by_cases c2 : stL.getD i false = true
  ·have e2 : ov R f S i = 1 := by unfold ov; rw [if_pos c2]
   rw [if_pos c2, if_pos (by omega), e1, e2]
  ·rw [if_neg c2]
   by_cases c3 : allK S (kd i) = true
   ·rw [if_pos c3, before_ok, hlk]
    simp only [Option.bind_some]
    by_cases c4 : bk f (lk i) = true
    ·have e2 : ov R f S i = 3 := by unfold ov; rw [if_neg c2, e1, if_pos c1, c3, c4]; rfl
     rw [if_pos c4, if_pos (by omega), e1, e2]
    ·have e2 : ov R f S i = 2 := by unfold ov; rw [if_neg c2, e1, if_pos c1, c3, Bool.eq_false_iff.2 c4]; rfl
     rw [if_neg c4, if_pos (by omega), e1, e2]
   ·have e2 : ov R f S i = 2 := by unfold ov; rw [if_neg c2, e1, Bool.eq_false_iff.2 c3]; rfl
    rw [if_neg c3, if_pos (by omega), e1, e2]
 ·rw [if_neg c1, if_pos (by omega), if_pos (by omega)]
  by_cases c2 : stL.getD i false = true
  ·have e1 : sv R f S i = false := by unfold sv; rw [if_neg c1, if_pos c2]
   have e2 : ov R f S i = 1 := by unfold ov; rw [if_pos c2]
   rw [if_pos c2, if_pos (by omega), if_pos (by omega), if_pos (by omega), e1, e2]
  ·have e1 : sv R f S i = bk f (R.getD i 0) := by unfold sv; rw [if_neg c1, if_neg c2]
   rw [if_neg c2, before_ok]
   simp only [Option.bind_some]
   rw [if_pos (by omega), if_pos (by omega)]
   by_cases c3 : bk f (R.getD i 0) = true
   ·have e2 : ov R f S i = 3 := by unfold ov; rw [if_neg c2, e1, if_neg c1, c3]; rfl
    rw [if_pos c3, if_pos c3, if_pos (by omega), e1, e2]
   ·have e2 : ov R f S i = 2 := by unfold ov; rw [if_neg c2, e1, Bool.eq_false_iff.2 c3]; rfl
    rw [if_neg c3, if_pos (by omega), e1, e2]
theorem qnz_ {n K : Nat} {k f : Int} (hT : Tree) (hK : ∀ j, (kd j).length ≤ K) (hn : 1000 + 2 * Args.A.length + K < n) (hA : Args.A.length ≤ 120) (hk : 0 ≤ k) : m_mMq1 n k f = some (mO (fill (hv k) lvs.length) f Args.A.length, Args.A.length) := by
 have hpos := hT.pos
 obtain ⟨e1, _⟩ := reach_ok (n := n) (k := k) hT hK hn hA hk
 have hst : stL.length = Args.A.length := qmb_ _
 generalize hR : fill (hv k) lvs.length = R at *
 have hRl : R.length = Args.A.length := by rw [← hR]; exact qig_ _
 have loop : ∀ (g m : Nat), m ≤ Args.A.length → Args.A.length - m < g → iterM (qfy_ n f R Args.A.length stL Args.A.length Args.A.length) g (mS R f m, mO R f m, ((Args.A.length : Nat) : Int) - (m : Int) - 1) = some (mO R f Args.A.length) := by
  intro g
  induction g with
  | zero => intro m _ h; exact absurd h (Nat.not_lt_zero _)
  | succ g ih =>
   intro m hm hg
   rw [qx_]
   by_cases hlt : m < Args.A.length
   ·obtain ⟨i, hi⟩ : ∃ i : Nat, i = Args.A.length - (m + 1) := ⟨_, rfl⟩
    have e1 : ((Args.A.length : Nat) : Int) - (m : Int) - 1 = (i : Int) := by omega
    rw [e1, marksB hT (by omega) (by have := hK i; omega) hA hRl (mS_len m) (mO_len m)]
    have := ih (m + 1) (by omega) (by omega)
    rw [show ((Args.A.length : Nat) : Int) - ((m + 1 : Nat) : Int) - 1 = (i : Int) - 1 by omega] at this
    have e2 : mS R f (m + 1) = (mS R f m).set i (sv R f (mS R f m) i) := by rw [hi]; rfl
    have e3 : mO R f (m + 1) = (mO R f m).set i (ov R f (mS R f m) i) := by rw [hi]; rfl
    rw [e2, e3] at this
    exact this
   ·obtain rfl : m = Args.A.length := by omega
    unfold qfy_
    dsimp only
    rw [if_neg (by omega)]
    rfl
 have h := loop n 0 (Nat.zero_le _) (by omega)
 have h : m_mMq1_1 n f R Args.A.length stL Args.A.length Args.A.length (List.replicate Args.A.length false, List.replicate Args.A.length 0, ((Args.A.length : Nat) : Int) - 1) = some (mO R f Args.A.length) := by
  rw [← h, show ((Args.A.length : Nat) : Int) - ((0 : Nat) : Int) - 1 = ((Args.A.length : Nat) : Int) - 1 by omega]
  rfl
 unfold m_mMq1
 rw [e1]
 simp only [Option.bind_some]
 rw [prgStale hT hK (by omega)]
 simp only [Option.bind_some]
 rw [if_pos (by omega)]
 simp only [Int.toNat_natCast]
 rw [if_pos (by omega), if_pos (by omega), w64_sm (by omega) (by omega)]
 rw [h]
 rfl
theorem getD_setB' {L : List Bool} {i j : Nat} {x : Bool} (h : i < L.length) : (L.set i x).getD j false = if j = i then x else L.getD j false := qk9_ h
theorem allK_mono {S T : List Bool} {ks : List Int} (h : ∀ x, S.getD x false = true → T.getD x false = true) (k : allK S ks = true) : allK T ks = true := by
 unfold allK at *
 rw [List.all_eq_true] at *
 exact fun x hx => h _ (k x hx)
theorem qlc_ {R Q : List Int} {f g : Int} (h1 : ∀ x, bk f (R.getD x 0) = true → bk g (Q.getD x 0) = true) (h2 : ∀ v, bk f v = true → bk g v = true) : ∀ m, m ≤ Args.A.length → (∀ x, (mS R f m).getD x false = true → (mS Q g m).getD x false = true) ∧ ∀ x, ((mO R f m).getD x 0 = 3 → (mO Q g m).getD x 0 = 3) ∧ ((mO R f m).getD x 0 = 1 ↔ (mO Q g m).getD x 0 = 1)
 | 0, _ => ⟨fun x h => h, fun x => ⟨fun h => h, Iff.rfl⟩⟩
 | m + 1, hm => by
  obtain ⟨a, b⟩ := qlc_ h1 h2 m (by omega)
  have hs : sv R f (mS R f m) (Args.A.length - (m + 1)) = true → sv Q g (mS Q g m) (Args.A.length - (m + 1)) = true := by
   unfold sv
   by_cases c1 : inn (Args.A.length - (m + 1)) = true
   ·rw [if_pos c1, if_pos c1]; exact allK_mono a
   ·rw [if_neg c1, if_neg c1]
    by_cases c2 : stL.getD (Args.A.length - (m + 1)) false = true
    ·rw [if_pos c2, if_pos c2]; exact id
    ·rw [if_neg c2, if_neg c2]; exact h1 _
  refine ⟨fun x => ?_, fun x => ?_⟩
  ·unfold mS
   rw [getD_setB' (by rw [mS_len]; omega), getD_setB' (by rw [mS_len]; omega)]
   by_cases e : x = Args.A.length - (m + 1)
   ·rw [if_pos e, if_pos e]; exact hs
   ·rw [if_neg e, if_neg e]; exact a x
  ·unfold mO
   rw [qk9_ (by rw [mO_len]; omega), qk9_ (by rw [mO_len]; omega)]
   by_cases e : x = Args.A.length - (m + 1)
   ·rw [if_pos e, if_pos e]
    unfold ov
    by_cases c2 : stL.getD (Args.A.length - (m + 1)) false = true
    ·rw [if_pos c2, if_pos c2]; exact ⟨(fun h => h), Iff.rfl⟩
    ·rw [if_neg c2, if_neg c2]
     by_cases c3 : (sv R f (mS R f m) (Args.A.length - (m + 1)) && bk f (if inn (Args.A.length - (m + 1)) = true then lk (Args.A.length - (m + 1)) else R.getD (Args.A.length - (m + 1)) 0)) = true
     ·have c4 : (sv Q g (mS Q g m) (Args.A.length - (m + 1)) && bk g (if inn (Args.A.length - (m + 1)) = true then lk (Args.A.length - (m + 1)) else Q.getD (Args.A.length - (m + 1)) 0)) = true := by
       rw [Bool.and_eq_true] at c3 ⊢
       refine ⟨hs c3.1, ?_⟩
       by_cases c1 : inn (Args.A.length - (m + 1)) = true
       ·rw [if_pos c1] at c3 ⊢; exact h2 _ c3.2
       ·rw [if_neg c1] at c3 ⊢; exact h1 _ c3.2
      rw [if_pos c3, if_pos c4]
      exact ⟨(fun h => h), Iff.rfl⟩
     ·rw [if_neg c3]
      generalize (sv Q g (mS Q g m) (Args.A.length - (m + 1)) && bk g (if inn (Args.A.length - (m + 1)) = true then lk (Args.A.length - (m + 1)) else Q.getD (Args.A.length - (m + 1)) 0)) = b
      cases b <;> simp
   ·rw [if_neg e, if_neg e]; exact b x


theorem lightP_ok {n : Nat} (hL : Args.A.length ≤ 1200000 ∨ True) (hn : 200 < n) : ∃ b, m_LPq1 n 120 = some b ∧ (b = true → Args.A.length ≤ 120) := by
 obtain ⟨r, -, h⟩ := whileI (B := qh5_ n 120) (fun s => ∃ i : Nat, s.2 = i ∧ i ≤ 121) (fun s => 121 - s.2.toNat) (fun r => True)
  (fun s hI => by
   obtain ⟨x, q⟩ := s
   obtain ⟨i, rfl, hi⟩ := hI
   unfold qh5_
   dsimp only
   by_cases c1 : (i : Int) < ((Args.A.length : Nat) : Int)
   ·rw [if_pos c1]
    by_cases c2 : (i : Int) ≤ 120
    ·rw [if_pos c2, if_pos (by omega), w64_inc (by omega)]
     simp only [Option.bind_some]
     generalize Args.A.getD ((i : Int)).toNat (0, 0, 0, 0, 0, 0, nl0, 0) = p
     by_cases d1 : p.2.2.1 > 1048576
     ·rw [if_pos d1]; exact .inr ⟨_, trivial, rfl⟩
     rw [if_neg d1]
     by_cases d2 : p.2.2.2.2.1 > 1048576
     ·rw [if_pos d2]; exact .inr ⟨_, trivial, rfl⟩
     rw [if_neg d2]
     by_cases d3 : p.2.2.2.2.2.1 > 1048576
     ·rw [if_pos d3]; exact .inr ⟨_, trivial, rfl⟩
     rw [if_neg d3]
     by_cases d4 : p.2.2.1 < -1048576
     ·rw [if_pos d4]; exact .inr ⟨_, trivial, rfl⟩
     rw [if_neg d4]
     by_cases d5 : p.2.2.2.2.1 < -1048576
     ·rw [if_pos d5]; exact .inr ⟨_, trivial, rfl⟩
     rw [if_neg d5]
     by_cases d6 : p.2.2.2.2.2.1 < -1048576
     ·rw [if_pos d6]; exact .inr ⟨_, trivial, rfl⟩
     rw [if_neg d6]
     exact .inl ⟨(_, ((i + 1 : Nat) : Int)), ⟨i + 1, rfl, by omega⟩, by dsimp only; omega, rfl⟩
    ·rw [if_neg c2]; exact .inr ⟨_, trivial, rfl⟩
   ·rw [if_neg c1]; exact .inr ⟨_, trivial, rfl⟩) n (0, 0) ⟨0, rfl, by omega⟩ (by dsimp only; omega)
 unfold m_LPq1 qnb_
 rw [h]
 rcases r with r | r
 ·exact ⟨_, rfl, fun h => by cases h⟩
 ·dsimp only
  by_cases c1 : ((Args.A.length : Nat) : Int) ≤ 120
  ·rw [if_pos c1]
   split
   ·exact ⟨_, rfl, fun _ => by omega⟩
   ·exact ⟨_, rfl, fun h => by cases h⟩
  ·rw [if_neg c1]; exact ⟨_, rfl, fun h => by cases h⟩
structure Le (a b : List Int) : Prop where
 c : ∀ x, a.getD x 0 = 3 → b.getD x 0 = 3
 s : ∀ x, a.getD x 0 = 1 ↔ b.getD x 0 = 1
theorem lawLoop {n : Nat} {a b c d : List Int} (hn : Args.A.length < n) (hA : Args.A.length ≤ 120) (ha : a.length = Args.A.length) (hb : b.length = Args.A.length) (hc : c.length = Args.A.length) (hd : d.length = Args.A.length) (h1 : Le a b) (h2 : Le a c) (h3 : Le a d) : m_V_1 n a Args.A.length b Args.A.length c Args.A.length d Args.A.length 0 = some () := by
 obtain ⟨r, q1, q2⟩ := hoare (B := B_V_1 n a Args.A.length b Args.A.length c Args.A.length d Args.A.length) (σ := Unit) (fun _ i => i) (fun _ _ => True) (fun r => r = ()) Args.A.length
  (fun i _ hi _ => by
   left
   refine ⟨(), trivial, ?_⟩
   unfold B_V_1
   dsimp only
   rw [if_pos (by omega), if_pos (by omega)]
   simp only [Int.toNat_natCast, Option.bind_some]
   rw [if_pos (by omega), w64_inc (by omega)]
   by_cases c1 : a.getD i 0 = 3
   ·rw [if_pos c1, if_pos (by omega), if_pos (by omega), if_pos (by rw [h1.c i c1, c1]), if_pos (by omega), if_pos (by omega), if_pos (by rw [h2.c i c1, c1]), if_pos (by omega), if_pos (by omega), if_pos (by rw [h3.c i c1, c1])]
    rw [if_neg (by rw [c1]; decide), if_neg (by rw [h1.c i c1]; decide), if_neg (by rw [h3.c i c1]; decide)]
   ·rw [if_neg c1]
    by_cases c2 : a.getD i 0 = 1
    ·rw [if_pos c2, if_pos (by omega), if_pos (by omega), if_pos ((h1.s i).1 c2), if_pos (by omega), if_pos (by omega), if_pos ((h3.s i).1 c2)]
    ·rw [if_neg c2, if_pos (by omega), if_pos (by omega), if_neg (fun e => c2 ((h1.s i).2 e)), if_pos (by omega), if_pos (by omega), if_neg (fun e => c2 ((h3.s i).2 e))])
  (fun _ _ => ⟨(), rfl, by unfold B_V_1; dsimp only; rw [if_neg (by omega)]⟩) n 0 () (Nat.zero_le _) trivial (by omega)
 exact q2
theorem qlk_ (g1 g2 g3 g4 : Int) : ∃ n, m_V n g1 g2 g3 g4 = some () := by
 obtain ⟨K, hK⟩ := bound_kd
 refine ⟨3000 + 2 * Args.A.length + K, ?_⟩
 generalize hn : 3000 + 2 * Args.A.length + K = n
 unfold m_V qbz_
 simp only [Option.bind_some]
 obtain ⟨b, e1, hA⟩ := lightP_ok (n := n) (.inr trivial) (by omega)
 rw [e1]
 simp only [Option.bind_some]
 by_cases hb : b = true
 ·have hA := hA hb
  rw [if_pos hb]
  obtain ⟨c, e2, hT⟩ := refCheck_ok (n := n) hK (by omega) (by omega)
  rw [e2]
  simp only [Option.bind_some]
  by_cases hc : c = 0
  ·have hT := hT hc
   rw [if_pos hc]
   obtain ⟨k, hk⟩ : ∃ k, k = maxB (maxB (0 : Int) g1) g2 := ⟨_, rfl⟩
   obtain ⟨j, hj⟩ : ∃ j, j = minB (maxB (0 : Int) g1) (maxB (0 : Int) g2) := ⟨_, rfl⟩
   obtain ⟨f, hf⟩ : ∃ f, f = minB (maxB (0 : Int) g3) (maxB (0 : Int) g4) := ⟨_, rfl⟩
   obtain ⟨l, hl⟩ : ∃ l, l = maxB (maxB (0 : Int) g3) g4 := ⟨_, rfl⟩
   have k0 : 0 ≤ k ∧ 0 ≤ j ∧ j ≤ k := by
    rw [hk, hj]; unfold maxB minB; (repeat' split) <;> omega
   have f0 : 0 ≤ f ∧ f ≤ l := by
    rw [hf, hl]; unfold maxB minB; (repeat' split) <;> omega
   rw [← hk, ← hj, ← hf, ← hl]
   have hn1 : 1000 + 2 * Args.A.length + K < n := by omega
   rw [qnz_ hT hK hn1 hA k0.1]
   simp only [Option.bind_some]
   rw [qnz_ hT hK hn1 hA k0.1]
   simp only [Option.bind_some]
   rw [qnz_ hT hK hn1 hA k0.2.1]
   simp only [Option.bind_some]
   rw [qnz_ hT hK hn1 hA k0.1]
   simp only [Option.bind_some]
   rw [if_pos trivial, if_pos trivial, if_pos trivial, if_pos trivial]
   have xk := (reach_ok (n := n) hT hK hn1 hA k0.1).2
   have xj := (reach_ok (n := n) hT hK hn1 hA k0.2.1).2
   have bkm : ∀ v, bk f v = true → bk l v = true := fun v h => by
    have h := of_decide_eq_true h
    exact decide_eq_true (.inr (by omega))
   have bkn : ∀ v, bk f v = true → bk (-1) v = true := fun v h => decide_eq_true (.inl rfl)
   have le1 : ∀ {R Q : List Int} {f g : Int}, (∀ x, bk f (R.getD x 0) = true → bk g (Q.getD x 0) = true) → (∀ v, bk f v = true → bk g v = true) → Le (mO R f Args.A.length) (mO Q g Args.A.length) := fun p q => ⟨fun x => ((qlc_ p q _ (Nat.le_refl _)).2 x).1, fun x => ((qlc_ p q _ (Nat.le_refl _)).2 x).2⟩
   rw [lawLoop (by omega) hA (mO_len _) (mO_len _) (mO_len _) (mO_len _) (le1 (fun x => bkm _) bkm) (le1 (fun x h => by
    have h := of_decide_eq_true h
    have := fill_mono (g := hv j) (h := hv k) (x := x) lvs.length (Nat.le_refl _) (fun a ha => hv_mono k0.2.2 (xj a ha) (xk a ha))
    exact decide_eq_true (.inr (by omega))) (fun v h => h)) (le1 (fun x => bkn _) bkn)]
   rfl
  ·rw [if_neg hc]
 ·rw [if_neg hb]

end Go.Proofs.YtmjibnlojmdcgaaGreatDoor.mlt19
