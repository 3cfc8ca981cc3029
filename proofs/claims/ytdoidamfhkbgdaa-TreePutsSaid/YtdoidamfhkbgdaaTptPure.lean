/-
  The pure side. No condition.
-/
import Derived.Test.YtdoidamfhkbgdaaTptBTold
import Derived.IntWalk
set_option linter.unusedSimpArgs false
set_option linter.unusedVariables false
set_option linter.unusedSectionVars false
set_option linter.unnecessarySimpa false
noncomputable section
namespace Go.Proofs.Ytdoidamfhkbgdaa.tpt16
open Go Go.Proofs.Ytdoidamfhkbgdaa Ax
variable [Args]


theorem w64_id {x : Int} (h1 : -9223372036854775808 ≤ x) (h2 : x < 9223372036854775808) : w64 x = x := IntWalk.i64_in _ (by omega)
theorem w64_sm {x : Int} (h1 : -1000000000000 ≤ x) (h2 : x ≤ 1000000000000) : w64 x = x := w64_id (by omega) (by omega)
theorem w64_inc {i : Nat} (h : i ≤ 1000000000) : w64 ((i : Int) + 1) = ((i + 1 : Nat) : Int) := by rw [w64_sm (by omega) (by omega)]; rfl
/-! loops -/
theorem whileI {st ρ : Type} {B : st → Option (st ⊕ ρ)} (I : st → Prop) (μ : st → Nat) (Q : ρ → Prop) (h : ∀ s, I s → (∃ s', I s' ∧ μ s' < μ s ∧ B s = some (.inl s')) ∨ ∃ r, Q r ∧ B s = some (.inr r)) : ∀ (n : Nat) (s : st), I s → μ s < n → ∃ r, Q r ∧ iterM B n s = some r
 | 0, s, _, hm => absurd hm (Nat.not_lt_zero _)
 | n + 1, s, hi, hm => by
  rcases h s hi with ⟨s', h1, h2, h3⟩ | ⟨r, h1, h2⟩
  ·obtain ⟨r, q1, q2⟩ := whileI I μ Q h n s' h1 (by omega)
   exact ⟨r, q1, by rw [iterM_succ, h3]; exact q2⟩
  ·exact ⟨r, h1, by rw [iterM_succ, h2]; rfl⟩
theorem hoare {σ st ρ : Type} {B : st → Option (st ⊕ ρ)} (S : σ → Int → st) (I : Nat → σ → Prop) (Q : ρ → Prop) (len : Nat)
  (h1 : ∀ (i : Nat) (s : σ), i < len → I i s → (∃ s', I (i + 1) s' ∧ B (S s (i : Int)) = some (.inl (S s' ((i + 1 : Nat) : Int)))) ∨ ∃ r, Q r ∧ B (S s (i : Int)) = some (.inr r))
  (h2 : ∀ s, I len s → ∃ r, Q r ∧ B (S s (len : Int)) = some (.inr r)) : ∀ (n i : Nat) (s : σ), i ≤ len → I i s → len - i < n → ∃ r, Q r ∧ iterM B n (S s (i : Int)) = some r
 | 0, i, s, _, _, hm => absurd hm (Nat.not_lt_zero _)
 | n + 1, i, s, hl, hi, hm => by
  have main : (∃ s', i < len ∧ I (i + 1) s' ∧ B (S s (i : Int)) = some (.inl (S s' ((i + 1 : Nat) : Int)))) ∨ ∃ r, Q r ∧ B (S s (i : Int)) = some (.inr r) := by
   by_cases hlt : i < len
   ·rcases h1 i s hlt hi with ⟨s', a, b⟩ | h
    ·exact .inl ⟨s', hlt, a, b⟩
    ·exact .inr h
   ·obtain rfl : i = len := by omega
    exact .inr (h2 s hi)
  rcases main with ⟨s', g0, g1, g3⟩ | ⟨r, g1, g2⟩
  ·obtain ⟨r, q1, q2⟩ := hoare S I Q len h1 h2 n (i + 1) s' (by omega) g1 (by omega)
   exact ⟨r, q1, by rw [iterM_succ, g3]; exact q2⟩
  ·exact ⟨r, g1, by rw [iterM_succ, g2]; rfl⟩
/-- a search: the first place that is not so ends it -/
theorem scan {β γ : Type} {B : Int → Option (Int ⊕ (β ⊕ γ))} (len : Nat) (p : Nat → Bool) (a : β) (c : γ)
  (h1 : ∀ i : Nat, i < len → B (i : Int) = some (if p i = true then .inl ((i + 1 : Nat) : Int) else .inr (.inl a))) (h2 : B (len : Int) = some (.inr (.inr c))) (n : Nat) (hn : len < n) :
  iterM B n 0 = some (if (List.range len).all p = true then .inr c else .inl a) := by
 obtain ⟨r, q1, q2⟩ := hoare (B := B) (σ := Unit) (fun _ i => i) (fun i _ => ∀ j, j < i → p j = true) (fun r => r = if (List.range len).all p = true then .inr c else .inl a) len
  (fun i s hi hI => by
   by_cases hp : p i = true
   ·refine .inl ⟨(), fun j hj => ?_, by rw [h1 i hi, if_pos hp]⟩
    rcases Nat.lt_or_ge j i with h | h
    ·exact hI j h
    ·obtain rfl : j = i := by omega
     exact hp
   ·refine .inr ⟨.inl a, ?_, by rw [h1 i hi, if_neg hp]⟩
    rw [if_neg]
    intro hall
    exact hp (List.all_eq_true.1 hall i (List.mem_range.2 hi)))
  (fun s hI => ⟨.inr c, by rw [if_pos (List.all_eq_true.2 fun j hj => hI j (List.mem_range.1 hj))], h2⟩) n 0 () (Nat.zero_le _) (fun j hj => absurd hj (Nat.not_lt_zero _)) (by omega)
 rw [show (0 : Int) = ((0 : Nat) : Int) from rfl, q2, q1]
theorem all_range {α : Type} {l : List α} {d : α} {p : α → Bool} : (List.range l.length).all (fun i => p (l.getD i d)) = l.all p := by
 rw [Bool.eq_iff_iff, List.all_eq_true, List.all_eq_true]
 constructor
 ·intro h x hx
  obtain ⟨i, hi, rfl⟩ := List.mem_iff_getElem.1 hx
  have := h i (List.mem_range.2 hi)
  simpa [List.getD_eq_getElem?_getD, hi] using this
 ·intro h i hi
  have hi := List.mem_range.1 hi
  have := h l[i] (List.getElem_mem hi)
  simpa [List.getD_eq_getElem?_getD, hi] using this
theorem getD_mem {α : Type} {l : List α} {i : Nat} {d : α} (h : i < l.length) : l.getD i d ∈ l := by
 rw [List.getD_eq_getElem?_getD, List.getElem?_eq_getElem h]; exact List.getElem_mem h
theorem mem_getD {α : Type} {l : List α} {x : α} (d : α) (h : x ∈ l) : ∃ i, i < l.length ∧ l.getD i d = x := by
 obtain ⟨i, hi, rfl⟩ := List.mem_iff_getElem.1 h
 exact ⟨i, hi, by simp [List.getD_eq_getElem?_getD, hi]⟩
theorem getD_set {α : Type} {l : List α} {i j : Nat} {x d : α} (h : i < l.length) : (l.set i x).getD j d = if j = i then x else l.getD j d := by
 simp only [List.getD_eq_getElem?_getD, List.getElem?_set]
 by_cases hj : i = j
 ·subst hj; simp [h]
 ·rw [if_neg hj, if_neg (Ne.symm hj)]
theorem count_set_lt {L : List Bool} {i : Nat} (h : i < L.length) (hf : ¬ L.getD i false = true) : (L.set i true).count false < L.count false := by
 have h0 : L[i] = false := by simpa [List.getD_eq_getElem?_getD, h] using hf
 have hc := List.count_set (l := L) (a := true) (b := false) (i := i) h
 have hp : 0 < L.count false := List.count_pos_iff.2 (h0 ▸ List.getElem_mem h)
 rw [h0] at hc
 simp at hc
 omega

class Cur where
 x : WL rw_iiiiiiLu

section
variable [Cur]

/-! trees: how parts lie -/
abbrev P8 := Int × Int × Int × Int × Int × Int × NL × Int
def d8 : P8 := (0, 0, 0, 0, 0, 0, nl0, 0)
def pt (i : Nat) : P8 := Cur.x.l.getD i (0, 0, 0, 0, 0, 0, nl0, 0)
def kd (i : Nat) : List Int := (pt i).2.2.2.2.2.2.1.l
def atF (i : Nat) : Int := (pt i).2.2.1
def toF (i : Nat) : Int := (pt i).2.2.2.2.1
theorem kd_le (i : Nat) : (kd i).length ≤ 140737488355328 := (pt i).2.2.2.2.2.2.1.le
theorem w64_inc' {i : Nat} (h : i < 9223372036854775807) : w64 ((i : Int) + 1) = ((i + 1 : Nat) : Int) := by
 rw [w64_id (by omega) (by omega)]; rfl
theorem bound_all {α : Type} (f : α → Nat) : ∀ l : List α, ∃ K, ∀ x ∈ l, f x ≤ K
 | [] => ⟨0, fun x h => by cases h⟩
 | a :: l => by
  obtain ⟨K, hK⟩ := bound_all f l
  refine ⟨max (f a) K, fun x hx => ?_⟩
  rcases List.mem_cons.1 hx with rfl | hx
  ·exact Nat.le_max_left _ _
  ·exact Nat.le_trans (hK x hx) (Nat.le_max_right _ _)
theorem bound_kd : ∃ K, ∀ i, (kd i).length ≤ K := by
 obtain ⟨K, hK⟩ := bound_all (fun x : P8 => x.2.2.2.2.2.2.1.l.length) Cur.x.l
 refine ⟨K, fun i => ?_⟩
 rcases Nat.lt_or_ge i Cur.x.l.length with h | h
 ·exact hK (pt i) (getD_mem h)
 ·have : pt i = d8 := by unfold pt; rw [List.getD_eq_getElem?_getD, List.getElem?_eq_none h]; rfl
  unfold kd; rw [this]; exact Nat.zero_le _
/-- the kids of i from the k-th on begin at 'next', no earlier than 'a', and end ahead of e -/
inductive Ks : Nat → Nat → Nat → Int → Nat → Prop
 | done {i k next : Nat} {a : Int} (hk : k = (kd i).length) (ha : a ≤ toF i) : Ks i k next a next
 | kid {i k next e' e : Nat} {a : Int} (hk : k < (kd i).length) (hv : (kd i).getD k 0 = (next : Int)) (hn : next < Cur.x.l.length) (ha : a ≤ atF next) (h1 : Ks next 0 (next + 1) (atF next) e') (h2 : Ks i (k + 1) e' (toF next) e) : Ks i k next a e
theorem Ks.lt {i k next e : Nat} {a : Int} (h : Ks i k next a e) : next ≤ e := by
 induction h with
 | done => exact Nat.le_refl _
 | kid _ _ _ _ _ _ ih1 ih2 => omega
theorem Ks.len {i k next e : Nat} {a : Int} (h : Ks i k next a e) : k ≤ (kd i).length := by
 cases h with
 | done hk => omega
 | kid hk => omega
theorem Ks.hi {i k next e : Nat} {a : Int} (h : Ks i k next a e) : next ≤ Cur.x.l.length → e ≤ Cur.x.l.length := by
 induction h with
 | done => exact id
 | kid hk hv hn ha _ _ ih1 ih2 => exact fun _ => ih2 (ih1 (by omega))
/-- every part in it is a tree of its own -/
theorem Ks.cover {i k next e : Nat} {a : Int} (h : Ks i k next a e) : ∀ j, next ≤ j → j < e → ∃ f, f ≤ e ∧ Ks j 0 (j + 1) (atF j) f := by
 induction h with
 | done => exact fun j h1 h2 => absurd h1 (by omega)
 | @kid i k next e' e a hk hv hn ha h1 h2 ih1 ih2 =>
  intro j h3 h4
  have l2 := h2.lt
  by_cases e1 : j = next
  ·subst e1; exact ⟨e', l2, h1⟩
  ·rcases Nat.lt_or_ge j e' with h5 | h5
   ·obtain ⟨f, g1, g2⟩ := ih1 j (by omega) h5
    exact ⟨f, by omega, g2⟩
   ·exact ih2 j h5 h4
/-- where kids lie -/
theorem Ks.kids {i k next e : Nat} {a : Int} (h : Ks i k next a e) : ∀ q, k ≤ q → q < (kd i).length → ∃ c : Nat, (kd i).getD q 0 = (c : Int) ∧ next ≤ c ∧ c < e ∧ c < Cur.x.l.length := by
 induction h with
 | done hk => exact fun q h1 h2 => by omega
 | @kid i k next e' e a hk hv hn ha h1 h2 ih1 ih2 =>
  intro q h3 h4
  have l1 := h1.lt
  have l2 := h2.lt
  by_cases e1 : q = k
  ·subst e1; exact ⟨next, hv, Nat.le_refl _, by omega, hn⟩
  ·obtain ⟨c, g1, g2, g3, g4⟩ := ih2 q (by omega) h4
   exact ⟨c, g1, by omega, g3, g4⟩
theorem Ks.mono {i k next e : Nat} {a : Int} (h : Ks i k next a e) (hs : ∀ j, j < Cur.x.l.length → atF j ≤ toF j) : a ≤ toF i := by
 induction h with
 | done _ ha => exact ha
 | @kid i k next e' e a hk hv hn ha h1 h2 ih1 ih2 =>
  have := hs next hn
  omega

end

section
variable [Cur]

/-! parts that may be -/
structure SP (a1 a2 a3 a4 a5 : Int) (len : Nat) : Prop where
 k1 : 1 ≤ a1
 k6 : a1 ≤ 6
 a0 : 0 ≤ a2
 at_ : a2 ≤ a4
 lk : a2 < a5
 tok : (a1 = 3 ∨ a1 = 5 ∨ a1 = 6) → a2 ≤ a3 ∧ a3 ≤ a4
 non : (a1 = 1 ∨ a1 = 2 ∨ a1 = 4) → a3 = a2
 mis : a1 = 4 → a2 = a4
 leaf : a1 ≠ 1 → a1 ≠ 2 → len = 0
theorem sound_ok (n : Nat) (a0 a1 a2 a3 a4 a5 : Int) (a6 : NL) (a7 : Int) (h : SP a1 a2 a3 a4 a5 a6.l.length) : m_treesoundq1 n a0 a1 a2 a3 a4 a5 a6 a7 = some true := by
 obtain ⟨h1, h2, h3, h4, h5, h6, h7, h8, h9⟩ := h
 unfold m_treesoundq1
 rw [if_neg (by omega), if_neg (by omega), if_neg (by omega)]
 by_cases c1 : a1 = 1
 ·rw [if_pos c1, if_pos (h7 (by omega))]
 rw [if_neg c1]
 by_cases c2 : a1 = 2
 ·rw [if_pos c2, if_pos (h7 (by omega))]
 rw [if_neg c2]
 have hl := h9 c1 c2
 by_cases c4 : a1 = 4
 ·have := h8 c4
  rw [if_pos c4, if_pos (h7 (by omega)), if_pos (by omega), if_pos (by omega)]
 rw [if_neg c4]
 have ht := h6 (by omega)
 by_cases c3 : a1 = 3
 ·rw [if_pos c3, if_pos (by omega), if_pos (by omega), if_pos (by omega)]
 rw [if_neg c3]
 by_cases c5 : a1 = 5
 ·rw [if_pos c5, if_pos (by omega), if_pos (by omega), if_pos (by omega)]
 rw [if_neg c5, if_pos (by omega), if_pos (by omega), if_pos (by omega), if_pos (by omega)]

/-! a tree that may be -/
def SPi (i : Nat) : Prop := SP (pt i).2.1 (pt i).2.2.1 (pt i).2.2.2.1 (pt i).2.2.2.2.1 (pt i).2.2.2.2.2.1 (kd i).length
structure Tree : Prop where
 pos : 0 < Cur.x.l.length
 max : Cur.x.l.length ≤ 524288
 sp : ∀ i, i < Cur.x.l.length → SPi i
 root : ∀ i, 0 < i → i < Cur.x.l.length → (pt i).2.1 ≠ 1
 ks : Ks 0 0 1 (atF 0) Cur.x.l.length
end

section
variable [Cur]

/-! the program's check: parents that are open -/
abbrev E3 := Int × Int × Int
abbrev OSt := List E3 × Nat × Int
/-- from one state of the loop to another, in m rounds -/
def Rch (n : Nat) (x y : OSt) (m : Nat) : Prop := ∀ f, iterM (B_treeinOrderq1_1 n Cur.x (Cur.x.l.length : Int)) (f + m) x = iterM (B_treeinOrderq1_1 n Cur.x (Cur.x.l.length : Int)) f y
theorem Rch.refl (n : Nat) (x : OSt) : Rch n x x 0 := fun _ => rfl
theorem Rch.step {n : Nat} {x y z : OSt} {m : Nat} (h : B_treeinOrderq1_1 n Cur.x (Cur.x.l.length : Int) x = some (.inl y)) (k : Rch n y z m) : Rch n x z (m + 1) := fun f => by
 rw [← Nat.add_assoc, iterM_succ, h]
 exact k f
theorem Rch.trans {n : Nat} {x y z : OSt} {m k : Nat} (h : Rch n x y m) (j : Rch n y z k) : Rch n x z (m + k) := fun f => by
 have := h (f + k)
 rw [show f + k + m = f + (m + k) by omega] at this
 rw [this, j f]
theorem take_last {S : List E3} {s : Nat} {R : List E3} {x : E3} (hs : s ≤ S.length) (h : S.take s = R ++ [x]) : s = R.length + 1 ∧ S.getD R.length (0, 0, 0) = x ∧ S.take R.length = R := by
 have hl := congrArg List.length h
 rw [List.length_take, Nat.min_eq_left hs, List.length_append, List.length_singleton] at hl
 subst hl
 refine ⟨rfl, ?_, ?_⟩
 ·have h2 : (S.take (R.length + 1))[R.length]? = (R ++ [x])[R.length]? := by rw [h]
  rw [List.getElem?_take_of_lt (Nat.lt_succ_self _), List.getElem?_append_right (Nat.le_refl _), Nat.sub_self] at h2
  rw [List.getD_eq_getElem?_getD, h2]; rfl
 ·have h2 := congrArg (List.take R.length) h
  rw [List.take_take, Nat.min_eq_left (Nat.le_succ _), List.take_left] at h2
  exact h2
theorem take_set {S : List E3} {R : List E3} {y : E3} (hs : R.length < S.length) (h : S.take R.length = R) : (S.set R.length y).take (R.length + 1) = R ++ [y] := by
 rw [List.take_add_one, List.take_set_of_le (Nat.le_refl _), h, List.getElem?_set_self hs]; rfl
theorem take_set0 {S : List E3} {R : List E3} {y : E3} (h : S.take R.length = R) : (S.set R.length y).take R.length = R := by
 rw [List.take_set_of_le (Nat.le_refl _), h]
theorem ne_cons {S : List E3} (h : 0 < S.length) : ∃ a t, S = a :: t := by
 cases S with
 | nil => simp at h
 | cons a t => exact ⟨a, t, rfl⟩
/-- one part is looked at -/
theorem inB {n i p k s : Nat} {a : Int} {S R : List E3} (h0 : 0 < i) (hi : i < Cur.x.l.length) (hL : Cur.x.l.length ≤ 1000000) (hs : s ≤ S.length) (h : S.take s = R ++ [((p : Int), (k : Int), a)]) (hp : p < Cur.x.l.length) (hk : k < (kd p).length) (hv : (kd p).getD k 0 = (i : Int)) (ha : a ≤ atF i) (ht : toF i ≤ toF p) (hR : R.length ≤ 1000000) :
  ∃ S' s', B_treeinOrderq1_1 n Cur.x (Cur.x.l.length : Int) (S, s, (i : Int)) = some (.inl (S', s', ((i + 1 : Nat) : Int))) ∧ s' ≤ S'.length ∧ 0 < S'.length ∧ S'.take s' = (if k + 1 < (kd p).length then R ++ [((p : Int), ((k + 1 : Nat) : Int), toF i)] else R) ++ (if 0 < (kd i).length then [((i : Int), 0, atF i)] else []) := by
 obtain ⟨rfl, hx, hR0⟩ := take_last hs h
 have hkl := kd_le p
 have hw : w64 (((R.length + 1 : Nat) : Int) - 1) = ((R.length : Nat) : Int) := by rw [w64_sm (by omega) (by omega)]; omega
 have hw2 : w64 ((i : Int) + 1) = ((i + 1 : Nat) : Int) := w64_inc (by omega)
 have hw3 : w64 ((k : Int) + 1) = ((k + 1 : Nat) : Int) := w64_inc' (by omega)
 obtain ⟨b, T, rfl⟩ := ne_cons (S := S) (by omega)
 have e1 : B_treeinOrderq1_1 n Cur.x (Cur.x.l.length : Int) (b :: T, R.length + 1, (i : Int)) =
   (if (w64 ((k : Int) + 1)) = (((kd p).length : Nat) : Int) then
    if (((kd i).length : Nat) : Int) > 0 then
     if R.length ≤ ((b :: T).set R.length ((p : Int), w64 ((k : Int) + 1), toF i)).length then
      if (R.length + 1) * 24 ≤ 140737488355328 then
       some (.inl (List.take R.length ((b :: T).set R.length ((p : Int), w64 ((k : Int) + 1), toF i)) ++ [((i : Int), 0, atF i)], (List.take R.length ((b :: T).set R.length ((p : Int), w64 ((k : Int) + 1), toF i)) ++ [((i : Int), (0 : Int), atF i)]).length, w64 ((i : Int) + 1)))
      else none
     else none
    else some (.inl ((b :: T).set R.length ((p : Int), w64 ((k : Int) + 1), toF i), R.length, w64 ((i : Int) + 1)))
   else
    if (((kd i).length : Nat) : Int) > 0 then
     if R.length + 1 ≤ ((b :: T).set R.length ((p : Int), w64 ((k : Int) + 1), toF i)).length then
      if (R.length + 1 + 1) * 24 ≤ 140737488355328 then
       some (.inl (List.take (R.length + 1) ((b :: T).set R.length ((p : Int), w64 ((k : Int) + 1), toF i)) ++ [((i : Int), 0, atF i)], (List.take (R.length + 1) ((b :: T).set R.length ((p : Int), w64 ((k : Int) + 1), toF i)) ++ [((i : Int), (0 : Int), atF i)]).length, w64 ((i : Int) + 1)))
      else none
     else none
    else some (.inl ((b :: T).set R.length ((p : Int), w64 ((k : Int) + 1), toF i), R.length + 1, w64 ((i : Int) + 1)))) := by
  unfold B_treeinOrderq1_1
  dsimp only
  rw [if_pos (by omega), if_pos (by omega)]
  simp only [Option.bind_some, Int.toNat_natCast]
  rw [if_pos (by omega), if_neg (by omega), hw]
  simp only [Int.toNat_natCast]
  rw [if_pos (by omega), if_pos (by omega), hx]
  simp only [Option.bind_some, Int.toNat_natCast]
  rw [if_pos (by omega)]
  have hk2 : ((0 : Int) ≤ (k : Int) ∧ (k : Int) < (((Cur.x.l.getD p (0, 0, 0, 0, 0, 0, nl0, 0)).2.2.2.2.2.2.1.l.length : Nat) : Int)) := ⟨by omega, by have : k < (Cur.x.l.getD p (0, 0, 0, 0, 0, 0, nl0, 0)).2.2.2.2.2.2.1.l.length := hk; omega⟩
  rw [if_pos hk2, if_pos (show k < (Cur.x.l.getD p (0, 0, 0, 0, 0, 0, nl0, 0)).2.2.2.2.2.2.1.l.length from hk)]
  have hv2 : (Cur.x.l.getD p (0, 0, 0, 0, 0, 0, nl0, 0)).2.2.2.2.2.2.1.l.getD k 0 = (i : Int) := hv
  rw [hv2]
  simp only [Option.bind_some]
  rw [if_pos trivial, if_neg (show ¬ (Cur.x.l.getD i (0, 0, 0, 0, 0, 0, nl0, 0)).2.2.1 < a from fun h => absurd (show atF i < a from h) (by omega)), if_neg (show ¬ (Cur.x.l.getD i (0, 0, 0, 0, 0, 0, nl0, 0)).2.2.2.2.1 > (Cur.x.l.getD p (0, 0, 0, 0, 0, 0, nl0, 0)).2.2.2.2.1 from fun h => absurd (show toF i > toF p from h) (by omega)), if_pos (show (0 : Int) ≤ ((R.length : Nat) : Int) ∧ ((R.length : Nat) : Int) ≤ ((R.length + 1 : Nat) : Int) by omega)]
  rfl
 rw [e1, hw2, hw3]
 by_cases c1 : ((k + 1 : Nat) : Int) = (((kd p).length : Nat) : Int)
 ·rw [if_pos c1, if_neg (show ¬ k + 1 < (kd p).length by omega)]
  have ht0 := take_set0 (y := ((p : Int), ((k + 1 : Nat) : Int), toF i)) hR0
  by_cases c2 : (((kd i).length : Nat) : Int) > 0
  ·rw [if_pos c2, if_pos (show 0 < (kd i).length by omega), if_pos (by rw [List.length_set]; omega), if_pos (by omega), ht0]
   exact ⟨_, _, rfl, Nat.le_refl _, by simp, by rw [List.take_length]⟩
  ·rw [if_neg c2, if_neg (show ¬ 0 < (kd i).length by omega), List.append_nil]
   exact ⟨_, _, rfl, by rw [List.length_set]; omega, by rw [List.length_set]; omega, ht0⟩
 ·rw [if_neg c1, if_pos (show k + 1 < (kd p).length by omega)]
  have ht1 := take_set (y := ((p : Int), ((k + 1 : Nat) : Int), toF i)) (by omega) hR0
  by_cases c2 : (((kd i).length : Nat) : Int) > 0
  ·rw [if_pos c2, if_pos (show 0 < (kd i).length by omega), if_pos (by rw [List.length_set]; omega), if_pos (by omega), ht1]
   exact ⟨_, _, rfl, Nat.le_refl _, by simp, by rw [List.take_length]⟩
  ·rw [if_neg c2, if_neg (show ¬ 0 < (kd i).length by omega), List.append_nil]
   exact ⟨_, _, rfl, by rw [List.length_set]; omega, by rw [List.length_set]; omega, ht1⟩
theorem Ks.sim {n i k next e : Nat} {a : Int} (h : Ks i k next a e) (hL : Cur.x.l.length ≤ 1000000) (hs : ∀ j, j < Cur.x.l.length → atF j ≤ toF j) : i < next → i < Cur.x.l.length → ∀ (S : List E3) (s : Nat) (R : List E3), R.length + 1 ≤ next → 0 < S.length → s ≤ S.length → S.take s = (if k < (kd i).length then R ++ [((i : Int), (k : Int), a)] else R) →
  ∃ S' s', s' ≤ S'.length ∧ 0 < S'.length ∧ S'.take s' = R ∧ Rch n (S, s, (next : Int)) (S', s', (e : Int)) (e - next) := by
 induction h with
 | @done i k next a hk ha =>
  intro _ hi S s R hR h0 hs h
  rw [if_neg (by omega)] at h
  exact ⟨S, s, hs, h0, h, by rw [Nat.sub_self]; exact Rch.refl n _⟩
 | @kid i k next e' e a hk hv hn ha h1 h2 ih1 ih2 =>
  intro hin hi S s R hR h0 hs' h
  rw [if_pos hk] at h
  have l1 := h1.lt
  have l2 := h2.lt
  have hm := h2.mono hs
  obtain ⟨S1, s1, b1, b2, b3, b4⟩ := inB (n := n) (by omega) hn hL hs' h hi hk hv ha hm (by omega)
  obtain ⟨S2, s2, c1, c2, c3, c4⟩ := ih1 (by omega) hn S1 s1 (if k + 1 < (kd i).length then R ++ [((i : Int), ((k + 1 : Nat) : Int), toF next)] else R) (by split <;> simp <;> omega) b3 b2 (by
   rw [b4]
   by_cases hz : 0 < (kd next).length
   ·rw [if_pos hz, if_pos hz]; rfl
   ·rw [if_neg hz, if_neg hz, List.append_nil])
  obtain ⟨S3, s3, d1, d2, d3, d4⟩ := ih2 (by omega) hi S2 s2 R (by omega) c2 c1 c3
  refine ⟨S3, s3, d1, d2, d3, ?_⟩
  have := (Rch.step b1 c4).trans d4
  rwa [show e' - (next + 1) + 1 + (e - e') = e - next by omega] at this
theorem inOrder_ok {n : Nat} (hT : Tree) (hn : Cur.x.l.length < n) : m_treeinOrderq1 n Cur.x = some true := by
 have hL : Cur.x.l.length ≤ 1000000 := by have := hT.max; omega
 have hs : ∀ j, j < Cur.x.l.length → atF j ≤ toF j := fun j hj => (hT.sp j hj).at_
 have hpos := hT.pos
 have hw : w64 ((0 : Int) + 1) = ((0 + 1 : Nat) : Int) := by decide
 unfold m_treeinOrderq1 m_treeinOrderq1_1
 obtain ⟨m, rfl⟩ : ∃ m, n = m + 1 := ⟨n - 1, by omega⟩
 rw [iterM_succ]
 have hB0 : B_treeinOrderq1_1 (m + 1) Cur.x (Cur.x.l.length : Int) ([], 0, 0) = if (((kd 0).length : Nat) : Int) > 0 then some (.inl ([(0, 0, atF 0)], 1, w64 ((0 : Int) + 1))) else some (.inl ([], 0, w64 ((0 : Int) + 1))) := by
  unfold B_treeinOrderq1_1
  dsimp only
  rw [if_pos (by omega), if_pos (by omega)]
  simp only [Option.bind_some]
  rw [if_neg (by omega)]
  rfl
 rw [hB0, hw]
 by_cases hz : 0 < (kd 0).length
 ·rw [if_pos (by omega)]
  simp only [Option.bind_some]
  obtain ⟨S, s, h1, h2, h3, h4⟩ := hT.ks.sim (n := m + 1) hL hs (by omega) hpos [(0, 0, atF 0)] 1 [] (by simp) (by simp) (by simp) (by rw [if_pos hz]; rfl)
  have h4 := h4 (m - (Cur.x.l.length - 1))
  rw [show m - (Cur.x.l.length - 1) + (Cur.x.l.length - (0 + 1)) = m by omega] at h4
  have h4 : iterM (B_treeinOrderq1_1 (m + 1) Cur.x (Cur.x.l.length : Int)) m ([(0, 0, atF 0)], 1, ((0 + 1 : Nat) : Int)) = _ := h4
  rw [h4]
  obtain ⟨q, hq⟩ : ∃ q, m - (Cur.x.l.length - 1) = q + 1 := ⟨m - (Cur.x.l.length - 1) - 1, by omega⟩
  rw [hq, iterM_succ]
  have hs0 : s = 0 := by
   have := congrArg List.length h3
   rw [List.length_take, List.length_nil] at this
   omega
  subst hs0
  obtain ⟨b, T, rfl⟩ := ne_cons h2
  have : B_treeinOrderq1_1 (m + 1) Cur.x (Cur.x.l.length : Int) (b :: T, 0, (Cur.x.l.length : Int)) = some (.inr (.inr (b :: T, 0))) := by
   unfold B_treeinOrderq1_1
   dsimp only
   rw [if_neg (by omega)]
  rw [this]
  rfl
 ·rw [if_neg (by omega)]
  simp only [Option.bind_some]
  have h1 : Cur.x.l.length = 1 := by
   have hh := hT.ks
   generalize Cur.x.l.length = N at hh
   cases hh with
   | done => rfl
   | kid hk => omega
  obtain ⟨q, rfl⟩ : ∃ q, m = q + 1 := ⟨m - 1, by omega⟩
  rw [iterM_succ]
  have : B_treeinOrderq1_1 (q + 1 + 1) Cur.x (Cur.x.l.length : Int) ([], 0, ((0 + 1 : Nat) : Int)) = some (.inr (.inr ([], 0))) := by
   unfold B_treeinOrderq1_1
   dsimp only
   rw [if_neg (by omega)]
  rw [this]
  rfl
theorem check_ok {n : Nat} (hT : Tree) (hn : Cur.x.l.length < n) : m_treeCheckq1 n Cur.x = some 0 := by
 have hpos := hT.pos
 have hmax := hT.max
 unfold m_treeCheckq1
 rw [if_neg (by omega), if_neg (by omega), inOrder_ok hT hn]
 simp only [Option.bind_some]
 rw [if_pos trivial]
 obtain ⟨r, rfl, q2⟩ := hoare (B := B_treeCheckq1_1 n Cur.x (Cur.x.l.length : Int)) (σ := Unit) (fun _ i => i) (fun i _ => True) (fun r => r = .inr ()) Cur.x.l.length
  (fun i s hi hI => by
   have hsp := sound_ok n (pt i).1 (pt i).2.1 (pt i).2.2.1 (pt i).2.2.2.1 (pt i).2.2.2.2.1 (pt i).2.2.2.2.2.1 (pt i).2.2.2.2.2.2.1 (pt i).2.2.2.2.2.2.2 (hT.sp i hi)
   have hB : B_treeCheckq1_1 n Cur.x (Cur.x.l.length : Int) (i : Int) = ((m_treesoundq1 n (pt i).1 (pt i).2.1 (pt i).2.2.1 (pt i).2.2.2.1 (pt i).2.2.2.2.1 (pt i).2.2.2.2.2.1 (pt i).2.2.2.2.2.2.1 (pt i).2.2.2.2.2.2.2).bind fun y => if y = true then (if (pt i).2.1 = 1 then (if (i : Int) > 0 then some (.inr (.inl ())) else some (.inl (w64 ((i : Int) + 1)))) else some (.inl (w64 ((i : Int) + 1)))) else some (.inr (.inl ()))) := by
    unfold B_treeCheckq1_1
    dsimp only
    rw [if_pos (by omega), if_pos (by omega)]
    simp only [Option.bind_some, Int.toNat_natCast]
    rfl
   rw [hB, hsp, w64_inc (by omega)]
   simp only [Option.bind_some]
   rw [if_pos trivial]
   by_cases c1 : (pt i).2.1 = 1
   ·rw [if_pos c1, if_neg (show ¬ (i : Int) > 0 from fun h => hT.root i (by omega) hi c1)]
    exact .inl ⟨(), trivial, rfl⟩
   ·rw [if_neg c1]
    exact .inl ⟨(), trivial, rfl⟩)
  (fun s hI => by
   unfold B_treeCheckq1_1
   dsimp only
   rw [if_neg (by omega)]
   exact ⟨_, rfl, rfl⟩) n 0 () (Nat.zero_le _) trivial (by omega)
 have q2 : m_treeCheckq1_1 n Cur.x (Cur.x.l.length : Int) 0 = some (.inr ()) := q2
 rw [q2]
end

section
variable [Cur]

/-! what the program's check tells is a tree -/
theorem sound_tells' (n : Nat) (a0 a1 a2 a3 a4 a5 : Int) (a6 : NL) (a7 : Int) (o : Option Bool) (h : m_treesoundq1 n a0 a1 a2 a3 a4 a5 a6 a7 = o) : o = some false ∨ (o = some true ∧ SP a1 a2 a3 a4 a5 a6.l.length) := by
 unfold m_treesoundq1 at h
 by_cases c1 : a2 < 0
 ·rw [if_pos c1] at h; exact .inl h.symm
 rw [if_neg c1] at h
 by_cases c2 : a2 > a4
 ·rw [if_pos c2] at h; exact .inl h.symm
 rw [if_neg c2] at h
 by_cases c3 : a5 ≤ a2
 ·rw [if_pos c3] at h; exact .inl h.symm
 rw [if_neg c3] at h
 have leaf : ∀ (h : (if ((a6.l.length : Nat) : Int) = 0 then some true else some false) = o), o = some false ∨ (o = some true ∧ a6.l.length = 0) := by
  intro h
  by_cases c : ((a6.l.length : Nat) : Int) = 0
  ·rw [if_pos c] at h; exact .inr ⟨h.symm, by omega⟩
  ·rw [if_neg c] at h; exact .inl h.symm
 have tok : ∀ (k : a1 = 3 ∨ a1 = 5 ∨ a1 = 6) (h : (if a3 ≥ a2 then (if a3 ≤ a4 then (if ((a6.l.length : Nat) : Int) = 0 then some true else some false) else some false) else some false) = o), o = some false ∨ (o = some true ∧ SP a1 a2 a3 a4 a5 a6.l.length) := by
  intro k h
  by_cases d1 : a3 ≥ a2
  ·rw [if_pos d1] at h
   by_cases d2 : a3 ≤ a4
   ·rw [if_pos d2] at h
    rcases leaf h with h | ⟨h, hl⟩
    ·exact .inl h
    ·exact .inr ⟨h, by omega, by omega, by omega, by omega, by omega, fun _ => by omega, fun _ => by omega, fun _ => by omega, fun _ _ => hl⟩
   ·rw [if_neg d2] at h; exact .inl h.symm
  ·rw [if_neg d1] at h; exact .inl h.symm
 by_cases k1 : a1 = 1
 ·rw [if_pos k1] at h
  by_cases d : a3 = a2
  ·rw [if_pos d] at h; exact .inr ⟨h.symm, by omega, by omega, by omega, by omega, by omega, fun _ => by omega, fun _ => by omega, fun _ => by omega, fun h => absurd k1 h⟩
  ·rw [if_neg d] at h; exact .inl h.symm
 rw [if_neg k1] at h
 by_cases k2 : a1 = 2
 ·rw [if_pos k2] at h
  by_cases d : a3 = a2
  ·rw [if_pos d] at h; exact .inr ⟨h.symm, by omega, by omega, by omega, by omega, by omega, fun _ => by omega, fun _ => by omega, fun _ => by omega, fun _ h => absurd k2 h⟩
  ·rw [if_neg d] at h; exact .inl h.symm
 rw [if_neg k2] at h
 by_cases k4 : a1 = 4
 ·rw [if_pos k4] at h
  by_cases d : a3 = a2
  ·rw [if_pos d] at h
   by_cases d2 : a4 = a2
   ·rw [if_pos d2] at h
    rcases leaf h with h | ⟨h, hl⟩
    ·exact .inl h
    ·exact .inr ⟨h, by omega, by omega, by omega, by omega, by omega, fun _ => by omega, fun _ => by omega, fun _ => by omega, fun _ _ => hl⟩
   ·rw [if_neg d2] at h; exact .inl h.symm
  ·rw [if_neg d] at h; exact .inl h.symm
 rw [if_neg k4] at h
 by_cases k3 : a1 = 3
 ·rw [if_pos k3] at h; exact tok (by omega) h
 rw [if_neg k3] at h
 by_cases k5 : a1 = 5
 ·rw [if_pos k5] at h; exact tok (by omega) h
 rw [if_neg k5] at h
 by_cases k6 : a1 = 6
 ·rw [if_pos k6] at h; exact tok (by omega) h
 rw [if_neg k6] at h
 exact .inl h.symm
theorem sound_tells (n : Nat) (a0 a1 a2 a3 a4 a5 : Int) (a6 : NL) (a7 : Int) : ∃ b, m_treesoundq1 n a0 a1 a2 a3 a4 a5 a6 a7 = some b ∧ (b = true → SP a1 a2 a3 a4 a5 a6.l.length) := by
 rcases sound_tells' n a0 a1 a2 a3 a4 a5 a6 a7 _ rfl with h | ⟨h, h2⟩
 ·exact ⟨false, h, fun h => by cases h⟩
 ·exact ⟨true, h, fun _ => h2⟩
def nxt (R : List E3) (p k i : Nat) : List E3 := (if 0 < (kd i).length then [((i : Int), 0, atF i)] else []) ++ ((if k + 1 < (kd p).length then [((p : Int), ((k + 1 : Nat) : Int), toF i)] else []) ++ R)
/-- the parents that are open (the last one first) are done when all parts are looked at -/
inductive Ok : List E3 → Nat → Prop
 | fin : Ok [] Cur.x.l.length
 | step {R : List E3} {p k i : Nat} {a : Int} (hi : i < Cur.x.l.length) (hv : (kd p).getD k 0 = (i : Int)) (ha : a ≤ atF i) (ht : toF i ≤ toF p) (h : Ok (nxt R p k i) (i + 1)) : Ok (((p : Int), (k : Int), a) :: R) i
def Opn (L : List E3) : Prop := ∀ x ∈ L, ∃ (p k : Nat) (a : Int), x = ((p : Int), (k : Int), a) ∧ p < Cur.x.l.length ∧ k < (kd p).length
theorem opn_nxt {R : List E3} {p k i : Nat} {a : Int} (h : Opn (((p : Int), (k : Int), a) :: R)) (hi : i < Cur.x.l.length) : Opn (nxt R p k i) := by
 obtain ⟨p', k', a', e, h1, h2⟩ := h _ (List.mem_cons_self ..)
 obtain ⟨e1, e2, e3⟩ : (p : Int) = p' ∧ (k : Int) = k' ∧ a = a' := by injection e with e1 e2; injection e2 with e2 e3; exact ⟨e1, e2, e3⟩
 obtain rfl : p = p' := by omega
 intro x hx
 unfold nxt at hx
 rcases List.mem_append.1 hx with hx | hx
 ·by_cases c : 0 < (kd i).length
  ·rw [if_pos c] at hx
   obtain rfl := List.mem_singleton.1 hx
   exact ⟨i, 0, atF i, rfl, hi, c⟩
  ·rw [if_neg c] at hx; cases hx
 ·rcases List.mem_append.1 hx with hx | hx
  ·by_cases c : k + 1 < (kd p).length
   ·rw [if_pos c] at hx
    obtain rfl := List.mem_singleton.1 hx
    exact ⟨p, k + 1, toF i, rfl, h1, c⟩
   ·rw [if_neg c] at hx; cases hx
  ·exact h x (List.mem_cons_of_mem _ hx)
/-- one part is looked at, whatever it is -/
theorem inV {n i p k s : Nat} {a : Int} {S R : List E3} (h0 : 0 < i) (hi : i < Cur.x.l.length) (hL : Cur.x.l.length ≤ 1000000) (hs : s ≤ S.length) (h : S.take s = R ++ [((p : Int), (k : Int), a)]) (hp : p < Cur.x.l.length) (hk : k < (kd p).length) (hR : R.length ≤ 1000000) :
  B_treeinOrderq1_1 n Cur.x (Cur.x.l.length : Int) (S, s, (i : Int)) = some (.inr (.inl ())) ∨ ((kd p).getD k 0 = (i : Int) ∧ a ≤ atF i ∧ toF i ≤ toF p) := by
 obtain ⟨rfl, hx, hR0⟩ := take_last hs h
 have hkl := kd_le p
 have hw : w64 (((R.length + 1 : Nat) : Int) - 1) = ((R.length : Nat) : Int) := by rw [w64_sm (by omega) (by omega)]; omega
 obtain ⟨b, T, rfl⟩ := ne_cons (S := S) (by omega)
 by_cases c : (kd p).getD k 0 = (i : Int) ∧ a ≤ atF i ∧ toF i ≤ toF p
 ·exact .inr c
 ·left
  unfold B_treeinOrderq1_1
  dsimp only
  rw [if_pos (by omega), if_pos (by omega)]
  simp only [Option.bind_some, Int.toNat_natCast]
  rw [if_pos (by omega), if_neg (by omega), hw]
  simp only [Int.toNat_natCast]
  rw [if_pos (by omega), if_pos (by omega), hx]
  simp only [Option.bind_some, Int.toNat_natCast]
  rw [if_pos (by omega)]
  have hk2 : ((0 : Int) ≤ (k : Int) ∧ (k : Int) < (((Cur.x.l.getD p (0, 0, 0, 0, 0, 0, nl0, 0)).2.2.2.2.2.2.1.l.length : Nat) : Int)) := ⟨by omega, by have : k < (Cur.x.l.getD p (0, 0, 0, 0, 0, 0, nl0, 0)).2.2.2.2.2.2.1.l.length := hk; omega⟩
  rw [if_pos hk2, if_pos (show k < (Cur.x.l.getD p (0, 0, 0, 0, 0, 0, nl0, 0)).2.2.2.2.2.2.1.l.length from hk)]
  by_cases c1 : (kd p).getD k 0 = (i : Int)
  ·rw [if_pos (show (Cur.x.l.getD p (0, 0, 0, 0, 0, 0, nl0, 0)).2.2.2.2.2.2.1.l.getD k 0 = (i : Int) from c1)]
   by_cases c2 : a ≤ atF i
   ·have c3 : ¬ toF i ≤ toF p := fun h => c ⟨c1, c2, h⟩
    rw [if_neg (show ¬ (Cur.x.l.getD i (0, 0, 0, 0, 0, 0, nl0, 0)).2.2.1 < a from fun h => absurd (show atF i < a from h) (by omega)), if_pos (show (Cur.x.l.getD i (0, 0, 0, 0, 0, 0, nl0, 0)).2.2.2.2.1 > (Cur.x.l.getD p (0, 0, 0, 0, 0, 0, nl0, 0)).2.2.2.2.1 from (by have : ¬ toF i ≤ toF p := c3; show toF i > toF p; omega))]
   ·rw [if_pos (show (Cur.x.l.getD i (0, 0, 0, 0, 0, 0, nl0, 0)).2.2.1 < a from (by show atF i < a; omega))]
  ·rw [if_neg (show ¬ (Cur.x.l.getD p (0, 0, 0, 0, 0, 0, nl0, 0)).2.2.2.2.2.2.1.l.getD k 0 = (i : Int) from c1)]
def good (r : Unit ⊕ (List E3 × Nat)) : Prop := ∃ S s, r = .inr (S, s) ∧ (S = [] ∨ s = 0)
def inRes (o : Option (Unit ⊕ (List E3 × Nat))) : Option Bool := match o with
 | none => none
 | some (.inl _) => some false
 | some (.inr (c1_0, c1_1)) => match c1_0 with
  | [] => some true
  | c1_0a :: c1_0t => if ((c1_1 : Nat) : Int) = (0 : Int) then some true else some false
theorem inRun {n : Nat} (hL : Cur.x.l.length ≤ 1000000) : ∀ (f i : Nat) (S : List E3) (s : Nat) (L : List E3), Cur.x.l.length - i < f → 0 < i → i ≤ Cur.x.l.length → s ≤ S.length → S.take s = L.reverse → L.length ≤ i → Opn L → ∃ r, iterM (B_treeinOrderq1_1 n Cur.x (Cur.x.l.length : Int)) f (S, s, (i : Int)) = some r ∧ (good r → Ok L i)
 | 0, i, S, s, L, h, _, _, _, _, _, _ => absurd h (Nat.not_lt_zero _)
 | f + 1, i, S, s, L, hf, h0, hi, hs, hS, hl, hO => by
  rw [iterM_succ]
  by_cases hN : i = Cur.x.l.length
  ·have hB : B_treeinOrderq1_1 n Cur.x (Cur.x.l.length : Int) (S, s, (i : Int)) = some (.inr (.inr (S, match S with | [] => 0 | _ :: _ => s))) := by
    unfold B_treeinOrderq1_1
    cases S with
    | nil => dsimp only; rw [if_neg (by omega)]
    | cons b T => dsimp only; rw [if_neg (by omega)]
   rw [hB]
   refine ⟨_, rfl, fun ⟨S', s', e, h⟩ => ?_⟩
   injection e with e
   injection e with e1 e2
   subst e1
   have : L = [] := by
    cases S with
    | nil => rw [List.take_nil] at hS; exact List.reverse_eq_nil_iff.1 hS.symm
    | cons b T =>
     rcases h with h | h
     ·cases h
     ·rw [← e2] at h
      have h : s = 0 := h
      subst h
      exact List.reverse_eq_nil_iff.1 hS.symm
   rw [this, hN]
   exact .fin
  ·have hi' : i < Cur.x.l.length := by omega
   cases L with
   | nil =>
    have hB : B_treeinOrderq1_1 n Cur.x (Cur.x.l.length : Int) (S, s, (i : Int)) = some (.inr (.inl ())) := by
     unfold B_treeinOrderq1_1
     cases S with
     | nil => dsimp only; rw [if_pos (by omega), if_pos (by omega)]; simp only [Option.bind_some]; rw [if_pos (by omega)]
     | cons b T =>
      have : s = 0 := by
       have := congrArg List.length hS
       rw [List.length_take, List.reverse_nil, List.length_nil] at this
       simp at this
       exact this
      dsimp only; rw [if_pos (by omega), if_pos (by omega)]; simp only [Option.bind_some]; rw [if_pos (by omega), if_pos (by omega)]
    rw [hB]
    exact ⟨_, rfl, fun ⟨S', s', e, _⟩ => by cases e⟩
   | cons x R =>
    obtain ⟨p, k, a, rfl, hp, hk⟩ := hO x (List.mem_cons_self ..)
    rw [List.reverse_cons] at hS
    rw [List.length_cons] at hl
    rcases inV (n := n) h0 hi' hL hs hS hp hk (by rw [List.length_reverse]; omega) with hB | ⟨c1, c2, c3⟩
    ·rw [hB]
     exact ⟨_, rfl, fun ⟨S', s', e, _⟩ => by cases e⟩
    ·obtain ⟨S', s', g1, g2, g3, g4⟩ := inB (n := n) h0 hi' hL hs hS hp hk c1 c2 c3 (by rw [List.length_reverse]; omega)
     rw [g1]
     have hn : S'.take s' = (nxt R p k i).reverse := by
      rw [g4]
      unfold nxt
      by_cases d1 : k + 1 < (kd p).length <;> by_cases d2 : 0 < (kd i).length <;> simp [d1, d2]
     have hln : (nxt R p k i).length ≤ i + 1 := by
      unfold nxt
      by_cases d1 : k + 1 < (kd p).length <;> by_cases d2 : 0 < (kd i).length <;> simp [d1, d2] <;> omega
     obtain ⟨r, q1, q2⟩ := inRun hL f (i + 1) S' s' (nxt R p k i) (by omega) (by omega) (by omega) g2 hn hln (opn_nxt hO hi')
     exact ⟨r, q1, fun h => .step hi' c1 c2 c3 (q2 h)⟩
theorem Ok.ks (hs : ∀ j, j < Cur.x.l.length → atF j ≤ toF j) : ∀ (m i : Nat) (R : List E3) (p k : Nat) (a : Int), Cur.x.l.length - i ≤ m → k < (kd p).length → Ok (((p : Int), (k : Int), a) :: R) i → ∃ e, i < e ∧ Ks p k i a e ∧ Ok R e
 | m, i, R, p, k, a, hm, hk, h => by
  generalize hx : (((p : Int), (k : Int), a) :: R) = X at h
  cases h with
  | fin => cases hx
  | @step R' p' k' i a' hi hv ha ht h =>
   injection hx with e1 e2
   injection e1 with e3 e4
   injection e4 with e4 e5
   obtain rfl : p = p' := by omega
   obtain rfl : k = k' := by omega
   subst e2
   subst e5
   obtain ⟨m, rfl⟩ : ∃ q, m = q + 1 := ⟨m - 1, by omega⟩
   have mid : ∃ e, i < e ∧ Ks i 0 (i + 1) (atF i) e ∧ Ok ((if k + 1 < (kd p).length then [((p : Int), ((k + 1 : Nat) : Int), toF i)] else []) ++ R) e := by
    unfold nxt at h
    by_cases c : 0 < (kd i).length
    ·rw [if_pos c] at h
     obtain ⟨e, g1, g2, g3⟩ := Ok.ks hs m (i + 1) _ i 0 (atF i) (by omega) c h
     exact ⟨e, by omega, g2, g3⟩
    ·rw [if_neg c] at h
     exact ⟨i + 1, by omega, .done (by omega) (hs i hi), h⟩
   obtain ⟨e, g1, g2, g3⟩ := mid
   by_cases c : k + 1 < (kd p).length
   ·rw [if_pos c] at g3
    obtain ⟨e', h1, h2, h3⟩ := Ok.ks hs m e R p (k + 1) (toF i) (by omega) c g3
    exact ⟨e', by omega, .kid hk hv hi ha g2 h2, h3⟩
   ·rw [if_neg c] at g3
    exact ⟨e, g1, .kid hk hv hi ha g2 (.done (by omega) ht), g3⟩
theorem Ok.nil {i : Nat} (h : Ok [] i) : i = Cur.x.l.length := by
 generalize hx : ([] : List E3) = X at h
 cases h with
 | fin => rfl
 | step => cases hx
theorem prgCheck {n : Nat} (hn : Cur.x.l.length < n) (hL : Cur.x.l.length ≤ 1000000) : ∃ c, m_treeCheckq1 n Cur.x = some c ∧ (c = 0 → Tree) := by
 unfold m_treeCheckq1
 by_cases c1 : ((Cur.x.l.length : Nat) : Int) > 524288
 ·rw [if_pos c1]; exact ⟨3, rfl, fun h => by cases h⟩
 rw [if_neg c1]
 by_cases c2 : ((Cur.x.l.length : Nat) : Int) = 0
 ·rw [if_pos c2]; exact ⟨2, rfl, fun h => by cases h⟩
 rw [if_neg c2]
 obtain ⟨m, rfl⟩ : ∃ m, n = m + 1 := ⟨n - 1, by omega⟩
 have hw : w64 ((0 : Int) + 1) = ((1 : Nat) : Int) := by decide
 have hin : ∃ b, m_treeinOrderq1 (m + 1) Cur.x = some b ∧ (b = true → Ok (if 0 < (kd 0).length then [((0 : Nat), (0 : Nat), atF 0)] else []) 1) := by
  unfold m_treeinOrderq1 m_treeinOrderq1_1
  rw [iterM_succ]
  have hB0 : B_treeinOrderq1_1 (m + 1) Cur.x (Cur.x.l.length : Int) ([], 0, 0) = if (((kd 0).length : Nat) : Int) > 0 then some (.inl ([(0, 0, atF 0)], 1, w64 ((0 : Int) + 1))) else some (.inl ([], 0, w64 ((0 : Int) + 1))) := by
   unfold B_treeinOrderq1_1
   dsimp only
   rw [if_pos (by omega), if_pos (by omega)]
   simp only [Option.bind_some]
   rw [if_neg (by omega)]
   rfl
  have fin : ∀ o : Option (Unit ⊕ (List E3 × Nat)), (∃ r, o = some r ∧ (good r → Ok (if 0 < (kd 0).length then [((0 : Nat), (0 : Nat), atF 0)] else []) 1)) → ∃ b, inRes o = some b ∧ (b = true → Ok (if 0 < (kd 0).length then [((0 : Nat), (0 : Nat), atF 0)] else []) 1) := by
   intro o ⟨r, e, h⟩
   subst e
   rcases r with _ | ⟨S, s⟩
   ·exact ⟨false, rfl, fun h => by cases h⟩
   ·cases S with
    | nil => exact ⟨true, rfl, fun _ => h ⟨_, _, rfl, .inl rfl⟩⟩
    | cons x T =>
     by_cases c : ((s : Nat) : Int) = 0
     ·exact ⟨true, by show (if ((s : Nat) : Int) = (0 : Int) then some true else some false) = _; rw [if_pos c], fun _ => h ⟨_, _, rfl, .inr (by omega)⟩⟩
     ·exact ⟨false, by show (if ((s : Nat) : Int) = (0 : Int) then some true else some false) = _; rw [if_neg c], fun h => by cases h⟩
  show ∃ b, inRes _ = some b ∧ _
  refine fin _ ?_
  rw [hB0, hw]
  by_cases hz : 0 < (kd 0).length
  ·rw [if_pos (by omega), if_pos hz]
   simp only [Option.bind_some]
   exact inRun hL m 1 _ 1 [((0 : Nat), (0 : Nat), atF 0)] (by omega) (by omega) (by omega) (by simp) rfl (by simp) (fun x hx => by
    obtain rfl := List.mem_singleton.1 hx
    exact ⟨0, 0, atF 0, rfl, by omega, hz⟩)
  ·rw [if_neg (by omega), if_neg hz]
   simp only [Option.bind_some]
   exact inRun hL m 1 [] 0 [] (by omega) (by omega) (by omega) (by simp) rfl (by simp) (fun x hx => by cases hx)
 obtain ⟨b, e1, h1⟩ := hin
 rw [e1]
 simp only [Option.bind_some]
 cases b with
 | false => rw [if_neg (by decide)]; exact ⟨2, rfl, fun h => by cases h⟩
 | true =>
  rw [if_pos rfl]
  have hOk := h1 rfl
  obtain ⟨r, q1, q2⟩ := hoare (B := B_treeCheckq1_1 (m + 1) Cur.x (Cur.x.l.length : Int)) (σ := Unit) (fun _ i => i) (fun i _ => ∀ j, j < i → SPi j ∧ (0 < j → (pt j).2.1 ≠ 1)) (fun r => r = .inr () → ∀ i, i < Cur.x.l.length → SPi i ∧ (0 < i → (pt i).2.1 ≠ 1)) Cur.x.l.length
   (fun i s hi hI => by
    obtain ⟨b, e1, e2⟩ := sound_tells (m + 1) (pt i).1 (pt i).2.1 (pt i).2.2.1 (pt i).2.2.2.1 (pt i).2.2.2.2.1 (pt i).2.2.2.2.2.1 (pt i).2.2.2.2.2.2.1 (pt i).2.2.2.2.2.2.2
    have hB : B_treeCheckq1_1 (m + 1) Cur.x (Cur.x.l.length : Int) (i : Int) = ((m_treesoundq1 (m + 1) (pt i).1 (pt i).2.1 (pt i).2.2.1 (pt i).2.2.2.1 (pt i).2.2.2.2.1 (pt i).2.2.2.2.2.1 (pt i).2.2.2.2.2.2.1 (pt i).2.2.2.2.2.2.2).bind fun y => if y = true then (if (pt i).2.1 = 1 then (if (i : Int) > 0 then some (.inr (.inl ())) else some (.inl (w64 ((i : Int) + 1)))) else some (.inl (w64 ((i : Int) + 1)))) else some (.inr (.inl ()))) := by
     unfold B_treeCheckq1_1
     dsimp only
     rw [if_pos (by omega), if_pos (by omega)]
     simp only [Option.bind_some, Int.toNat_natCast]
     rfl
    rw [hB, e1, w64_inc (by omega)]
    simp only [Option.bind_some]
    cases b with
    | false =>
     rw [if_neg (by decide)]
     exact .inr ⟨.inl (), (fun h => by cases h), rfl⟩
    | true =>
     have hsp : SPi i := e2 rfl
     rw [if_pos rfl]
     have go : (0 < i → (pt i).2.1 ≠ 1) → ∀ j, j < i + 1 → SPi j ∧ (0 < j → (pt j).2.1 ≠ 1) := fun h j hj => by
      rcases Nat.lt_or_ge j i with h1 | h1
      ·exact hI j h1
      ·obtain rfl : j = i := by omega
       exact ⟨hsp, h⟩
     by_cases d1 : (pt i).2.1 = 1
     ·rw [if_pos d1]
      by_cases d2 : (i : Int) > 0
      ·rw [if_pos d2]; exact .inr ⟨.inl (), (fun h => by cases h), rfl⟩
      ·rw [if_neg d2]; exact .inl ⟨(), go fun h => absurd h (by omega), rfl⟩
     ·rw [if_neg d1]; exact .inl ⟨(), go fun _ => d1, rfl⟩)
   (fun s hI => by
    unfold B_treeCheckq1_1
    dsimp only
    rw [if_neg (by omega)]
    exact ⟨_, fun _ => hI, rfl⟩) (m + 1) 0 () (Nat.zero_le _) (fun j hj => absurd hj (Nat.not_lt_zero _)) (by omega)
  have q2 : m_treeCheckq1_1 (m + 1) Cur.x (Cur.x.l.length : Int) 0 = some r := q2
  rw [q2]
  rcases r with r | r
  ·exact ⟨2, rfl, fun h => by cases h⟩
  ·refine ⟨0, rfl, fun _ => ?_⟩
   have hall := q1 rfl
   have hat : ∀ j, j < Cur.x.l.length → atF j ≤ toF j := fun j hj => (hall j hj).1.at_
   refine ⟨by omega, by omega, fun i hi => (hall i hi).1, fun i h0 hi => (hall i hi).2 h0, ?_⟩
   by_cases hz : 0 < (kd 0).length
   ·rw [if_pos hz] at hOk
    obtain ⟨e, g1, g2, g3⟩ := Ok.ks hat _ 1 [] 0 0 (atF 0) (Nat.le_refl _) hz hOk
    rw [← g3.nil]; exact g2
   ·rw [if_neg hz] at hOk
    rw [← hOk.nil]
    exact .done (by omega) (hat 0 (by omega))
end

section
variable [Cur]

theorem Tree.end (hT : Tree) {i : Nat} (hi : i < Cur.x.l.length) : ∃ e, Ks i 0 (i + 1) (atF i) e ∧ i < e ∧ e ≤ Cur.x.l.length := by
 rcases Nat.eq_zero_or_pos i with rfl | h0
 ·exact ⟨_, hT.ks, hi, Nat.le_refl _⟩
 ·obtain ⟨f, h1, h⟩ := hT.ks.cover i (by omega) hi
  have := h.lt
  exact ⟨f, h, by omega, h1⟩
theorem Tree.kid (hT : Tree) {i q : Nat} (hi : i < Cur.x.l.length) (hq : q < (kd i).length) : ∃ c : Nat, (kd i).getD q 0 = (c : Int) ∧ i < c ∧ c < Cur.x.l.length := by
 obtain ⟨f, h, _⟩ := hT.end hi
 obtain ⟨c, h1, h2, h3, h4⟩ := h.kids q (Nat.zero_le _) hq
 exact ⟨c, h1, by omega, h4⟩
/-- the last kid ends where the part does -/
theorem Ks.last {i k next e : Nat} {a : Int} (h : Ks i k next a e) : k < (kd i).length → ∃ c : Nat, (kd i).getD ((kd i).length - 1) 0 = (c : Int) ∧ next ≤ c ∧ c < Cur.x.l.length ∧ Ks c 0 (c + 1) (atF c) e := by
 induction h with
 | done hk => exact fun h => absurd h (by omega)
 | @kid i k next e' e a hk hv hn ha h1 h2 ih1 ih2 =>
  intro _
  have l1 := h1.lt
  by_cases hl : k + 1 < (kd i).length
  ·obtain ⟨c, g1, g2, g3, g4⟩ := ih2 hl
   exact ⟨c, g1, by omega, g3, g4⟩
  ·have hk1 : (kd i).length - 1 = k := by omega
   rw [hk1]
   cases h2 with
   | done _ _ => exact ⟨next, hv, Nat.le_refl _, hn, h1⟩
   | kid hk' => omega
theorem Ks.none {i next e : Nat} {a : Int} (h : Ks i 0 next a e) (h0 : (kd i).length = 0) : e = next := by
 cases h with
 | done _ _ => rfl
 | kid hk => omega
theorem prgEnd {n : Nat} (hn : Cur.x.l.length < n) (hL : Cur.x.l.length ≤ 1000000) {i e : Nat} (h : Ks i 0 (i + 1) (atF i) e) (hi : i < Cur.x.l.length) (he : e ≤ Cur.x.l.length) : m_partsEndq1 n Cur.x (i : Int) = some (e : Int) := by
 obtain ⟨r, rfl, hl⟩ := whileI (B := B_partsEndq1_1 n Cur.x) (fun s => ∃ c : Nat, s = c ∧ c < Cur.x.l.length ∧ Ks c 0 (c + 1) (atF c) e) (fun s => Cur.x.l.length - s.toNat) (fun r => r = (e : Int) - 1)
  (fun s hI => by
   obtain ⟨c, rfl, hc, hk⟩ := hI
   have hkl := kd_le c
   unfold B_partsEndq1_1
   dsimp only
   rw [if_pos (by omega)]
   simp only [Option.bind_some, Int.toNat_natCast]
   by_cases h0 : 0 < (kd c).length
   ·obtain ⟨d, g1, g2, g3, g4⟩ := hk.last h0
    have e1 : w64 (((((Cur.x.l.getD c (0, 0, 0, 0, 0, 0, nl0, 0)).2.2.2.2.2.2.1.l.length : Nat)) : Int) - 1) = (((kd c).length - 1 : Nat) : Int) := by
     show w64 ((((kd c).length : Nat) : Int) - 1) = _
     rw [w64_id (by omega) (by omega)]; omega
    rw [if_pos (show ((((Cur.x.l.getD c (0, 0, 0, 0, 0, 0, nl0, 0)).2.2.2.2.2.2.1.l.length : Nat)) : Int) > 0 from Int.ofNat_lt.2 h0), e1, if_pos (show (0 : Int) ≤ (((kd c).length - 1 : Nat) : Int) ∧ (((kd c).length - 1 : Nat) : Int) < ((((Cur.x.l.getD c (0, 0, 0, 0, 0, 0, nl0, 0)).2.2.2.2.2.2.1.l.length : Nat)) : Int) from ⟨Int.natCast_nonneg _, Int.ofNat_lt.2 (show (kd c).length - 1 < (kd c).length by omega)⟩)]
    simp only [Int.toNat_natCast]
    rw [if_pos (show (kd c).length - 1 < (Cur.x.l.getD c (0, 0, 0, 0, 0, 0, nl0, 0)).2.2.2.2.2.2.1.l.length from (show (kd c).length - 1 < (kd c).length by omega))]
    exact .inl ⟨_, ⟨d, g1, g3, g4⟩, by rw [g1]; omega, rfl⟩
   ·rw [if_neg (show ¬ ((((Cur.x.l.getD c (0, 0, 0, 0, 0, 0, nl0, 0)).2.2.2.2.2.2.1.l.length : Nat)) : Int) > 0 from fun hc => h0 (Int.ofNat_lt.1 hc))]
    have := hk.none (by omega)
    exact .inr ⟨_, by omega, rfl⟩) n (i : Int) ⟨i, rfl, hi, h⟩ (by omega)
 have h0 := h.lt
 unfold m_partsEndq1 m_partsEndq1_1
 rw [hl]
 simp only [Option.bind_some]
 rw [w64_sm (by omega) (by omega)]
 congr 1
 omega
end

section
variable [Cur]

/-! kids are few -/
theorem Ks.count {i k next e : Nat} {a : Int} (h : Ks i k next a e) : (kd i).length + next ≤ e + k := by
 induction h with
 | done hk => omega
 | kid hk hv hn ha h1 h2 ih1 ih2 => have := h1.lt; omega
theorem kd_out {i : Nat} (h : Cur.x.l.length ≤ i) : kd i = [] := by
 have : pt i = d8 := by unfold pt; rw [List.getD_eq_getElem?_getD, List.getElem?_eq_none h]; rfl
 unfold kd; rw [this]; rfl
theorem Tree.few (hT : Tree) (i : Nat) : (kd i).length ≤ Cur.x.l.length := by
 rcases Nat.lt_or_ge i Cur.x.l.length with h | h
 ·obtain ⟨e, h1, -, h3⟩ := hT.end h
  have := h1.count
  omega
 ·rw [kd_out h]; exact Nat.zero_le _
end


/-! loops that fill a list, or append to it -/
theorem snoc_range {β : Type} {i : Nat} {F : Nat → β} : (List.range (i + 1)).map F = (List.range i).map F ++ [F i] := by
 rw [List.range_succ, List.map_append]; rfl
theorem appLoop {α β : Type} {B : List α × Int → Option ((List α × Int) ⊕ List α)} (v : α → β) (F : Nat → β) (len C : Nat)
  (h1 : ∀ (i : Nat) (acc : List α), i < len → acc.length ≤ C + i → ∃ r, v r = F i ∧ B (acc, (i : Int)) = some (.inl (acc ++ [r], ((i + 1 : Nat) : Int))))
  (h2 : ∀ acc, B (acc, (len : Int)) = some (.inr acc)) (n : Nat) (acc0 : List α) (h0 : acc0.length ≤ C) (hn : len < n) :
  ∃ M, iterM B n (acc0, 0) = some (acc0 ++ M) ∧ M.map v = (List.range len).map F := by
 obtain ⟨r, q1, q2⟩ := hoare (B := B) (σ := List α) (fun L i => (L, i)) (fun i L => ∃ M, L = acc0 ++ M ∧ M.map v = (List.range i).map F) (fun r => ∃ M, r = acc0 ++ M ∧ M.map v = (List.range len).map F) len
  (fun i L hi hI => by
   obtain ⟨M, rfl, hM⟩ := hI
   have hl : M.length = i := by simpa using congrArg List.length hM
   obtain ⟨r, g1, g2⟩ := h1 i (acc0 ++ M) hi (by rw [List.length_append]; omega)
   refine .inl ⟨_, ⟨M ++ [r], by rw [List.append_assoc], ?_⟩, g2⟩
   rw [List.map_append, hM, snoc_range, ← g1]; rfl)
  (fun L hI => ⟨L, hI, h2 L⟩) n 0 acc0 (Nat.zero_le _) ⟨[], by simp, rfl⟩ (by omega)
 obtain ⟨M, rfl, hM⟩ := q1
 exact ⟨M, q2, hM⟩
theorem ext_getD {α : Type} {d : α} {L M : List α} (hl : L.length = M.length) (h : ∀ j, j < M.length → L.getD j d = M.getD j d) : L = M := by
 apply List.ext_getElem hl
 intro j h1 h2
 have := h j h2
 simpa [List.getD_eq_getElem?_getD, h1, h2] using this
theorem range_getD {β : Type} {F : Nat → β} {d : β} {len j : Nat} (h : j < len) : ((List.range len).map F).getD j d = F j := by
 simp [List.getD_eq_getElem?_getD, h]
theorem range_map {α β : Type} {f : α → β} {d : α} {l : List α} : (List.range l.length).map (fun j => f (l.getD j d)) = l.map f := by
 apply List.ext_getElem (by simp)
 intro j h1 h2
 have hj : j < l.length := by simpa using h2
 simp [List.getD_eq_getElem?_getD, hj]
theorem fillLoop {α : Type} {B : List α × Int → Option ((List α × Int) ⊕ List α)} (d : α) (F : Nat → α) (len : Nat)
  (h1 : ∀ (i : Nat) (L : List α), i < len → L.length = len → B (L, (i : Int)) = some (.inl (L.set i (F i), ((i + 1 : Nat) : Int))))
  (h2 : ∀ L, B (L, (len : Int)) = some (.inr L)) (n : Nat) (L0 : List α) (h0 : L0.length = len) (hn : len < n) :
  iterM B n (L0, 0) = some ((List.range len).map F) := by
 obtain ⟨r, rfl, q2⟩ := hoare (B := B) (σ := List α) (fun L i => (L, i)) (fun i L => L.length = len ∧ ∀ j, j < i → L.getD j d = F j) (fun r => r = (List.range len).map F) len
  (fun i L hi hI => .inl ⟨_, ⟨by rw [List.length_set, hI.1], fun j hj => by
   rw [getD_set (by rw [hI.1]; exact hi)]
   by_cases e : j = i
   ·rw [if_pos e, e]
   ·rw [if_neg e]; exact hI.2 j (by omega)⟩, h1 i L hi hI.1⟩)
  (fun L hI => ⟨L, ext_getD (d := d) (by simp [hI.1]) fun j hj => by
   have hj : j < len := by simpa using hj
   rw [hI.2 j hj, range_getD hj], h2 L⟩) n 0 L0 (Nat.zero_le _) ⟨h0, fun j hj => absurd hj (Nat.not_lt_zero _)⟩ (by omega)
 exact q2
/-- a loop that adds up -/
theorem foldLoop {σ : Type} {B : σ × Int → Option ((σ × Int) ⊕ σ)} (g : σ → Nat → σ) (len : Nat)
  (h1 : ∀ (i : Nat) (s : σ), i < len → B (s, (i : Int)) = some (.inl (g s i, ((i + 1 : Nat) : Int))))
  (h2 : ∀ s, B (s, (len : Int)) = some (.inr s)) (n : Nat) (s0 : σ) (hn : len < n) :
  iterM B n (s0, 0) = some ((List.range len).foldl g s0) := by
 obtain ⟨r, rfl, q2⟩ := hoare (B := B) (σ := σ) (fun s i => (s, i)) (fun i s => s = (List.range i).foldl g s0) (fun r => r = (List.range len).foldl g s0) len
  (fun i s hi hI => .inl ⟨_, by rw [List.range_succ, List.foldl_append, hI]; rfl, h1 i s hi⟩)
  (fun s hI => ⟨s, hI, h2 s⟩) n 0 s0 (Nat.zero_le _) rfl (by omega)
 exact q2
theorem getD_take {α : Type} {l : List α} {d : α} {i j : Nat} (h : j < i) : (l.take i).getD j d = l.getD j d := by
 simp [List.getD_eq_getElem?_getD, List.getElem?_take, h]
theorem getD_drop {α : Type} {l : List α} {d : α} {i j : Nat} : (l.drop i).getD j d = l.getD (i + j) d := by
 simp [List.getD_eq_getElem?_getD]
/-- rows of parts as they look -/
abbrev V8 := Int × Int × Int × Int × Int × Int × List Int × Int
def vw (r : Int × Int × Int × Int × Int × Int × NL × Int) : V8 := (r.1, r.2.1, r.2.2.1, r.2.2.2.1, r.2.2.2.2.1, r.2.2.2.2.2.1, r.2.2.2.2.2.2.1.l, r.2.2.2.2.2.2.2)
def mvK (f : Int → Int) (r : V8) : V8 := (r.1, r.2.1, r.2.2.1, r.2.2.2.1, r.2.2.2.2.1, r.2.2.2.2.2.1, r.2.2.2.2.2.2.1.map f, r.2.2.2.2.2.2.2)


def ins (i v : Int) : Int := w64 (v + i)
def rk (r : P8) (k : NL) : P8 := (r.1, r.2.1, r.2.2.1, r.2.2.2.1, r.2.2.2.2.1, r.2.2.2.2.2.1, k, r.2.2.2.2.2.2.2)
theorem vw_rk {r : P8} {k : NL} {f : Int → Int} (h : k.l = r.2.2.2.2.2.2.1.l.map f) : vw (rk r k) = mvK f (vw r) := by
 show (_, _, _, _, _, _, k.l, _) = _
 rw [h]; rfl
/-- rows whose kids are few -/
def FewK (n : Nat) (L : List P8) : Prop := ∀ r ∈ L, r.2.2.2.2.2.2.1.l.length ≤ 1000000 ∧ r.2.2.2.2.2.2.1.l.length < n
theorem fewD {n : Nat} {L : List P8} (h : FewK n L) {i : Nat} (hi : i < L.length) : (L.getD i d8).2.2.2.2.2.2.1.l.length ≤ 1000000 ∧ (L.getD i d8).2.2.2.2.2.2.1.l.length < n := h _ (getD_mem hi)
theorem few_of [Cur] (hT : Tree) {n : Nat} (hn : Cur.x.l.length < n) : FewK n Cur.x.l := fun r hr => by
 obtain ⟨i, hi, rfl⟩ := mem_getD d8 hr
 have := hT.few i
 have hm := hT.max
 exact ⟨by show (kd i).length ≤ _; omega, by show (kd i).length < _; omega⟩
def TreeOf (y : WL rw_iiiiiiLu) : Prop := @Tree _ ⟨y⟩
theorem chk {n : Nat} {x : WL rw_iiiiiiLu} (hT : TreeOf x) (hn : x.l.length < n) : m_treeCheckq1 n x = some 0 := @check_ok _ ⟨x⟩ n hT hn
abbrev KsOf (x : WL rw_iiiiiiLu) (i k next : Nat) (a : Int) (e : Nat) : Prop := @Ks _ ⟨x⟩ i k next a e
abbrev atOf (x : WL rw_iiiiiiLu) (i : Nat) : Int := @atF _ ⟨x⟩ i


/-! rows that look alike, some of them moved: the same tree -/
def SameB (i : Int) (p q : P8) : Prop := q.1 = p.1 ∧ q.2.1 = p.2.1 ∧ q.2.2.1 = p.2.2.1 ∧ q.2.2.2.1 = p.2.2.2.1 ∧ q.2.2.2.2.1 = p.2.2.2.2.1 ∧ q.2.2.2.2.2.1 = p.2.2.2.2.2.1 ∧ q.2.2.2.2.2.2.1.l = p.2.2.2.2.2.2.1.l.map (fun v => v - i)
structure Shf (x y : WL rw_iiiiiiLu) (i E : Nat) : Prop where
 len : y.l.length = E - i
 row : ∀ j, i ≤ j → j < E → SameB i (x.l.getD j d8) (y.l.getD (j - i) d8)
theorem Shf.kids {x y : WL rw_iiiiiiLu} {i E j : Nat} (h : Shf x y i E) (h1 : i ≤ j) (h2 : j < E) : @kd _ ⟨y⟩ (j - i) = (@kd _ ⟨x⟩ j).map (fun v => v - (i : Int)) := (h.row j h1 h2).2.2.2.2.2.2
theorem Shf.at {x y : WL rw_iiiiiiLu} {i E j : Nat} (h : Shf x y i E) (h1 : i ≤ j) (h2 : j < E) : atOf y (j - i) = atOf x j := (h.row j h1 h2).2.2.1
theorem Shf.to {x y : WL rw_iiiiiiLu} {i E j : Nat} (h : Shf x y i E) (h1 : i ≤ j) (h2 : j < E) : @toF _ ⟨y⟩ (j - i) = @toF _ ⟨x⟩ j := (h.row j h1 h2).2.2.2.2.1
theorem Shf.ks {x y : WL rw_iiiiiiLu} {i E p k next e : Nat} {a : Int} (hS : Shf x y i E) (hE : E ≤ x.l.length) (hk : KsOf x p k next a e) : i ≤ p → p < E → e ≤ E → i ≤ next → KsOf y (p - i) k (next - i) a (e - i) := by
 have hk' : @Ks _ ⟨x⟩ p k next a e := hk
 clear hk
 induction hk' with
 | @done p k next a hk ha =>
  intro h1 h2 h3 h4
  exact @Ks.done _ ⟨y⟩ _ _ _ _ (by rw [hS.kids h1 h2, List.length_map]; exact hk) (by rw [hS.to h1 h2]; exact ha)
 | @kid p k next e' e a hk hv hn ha c1 c2 ih1 ih2 =>
  intro h1 h2 h3 h4
  have l1 := @Ks.lt _ ⟨x⟩ _ _ _ _ _ c1
  have l2 := @Ks.lt _ ⟨x⟩ _ _ _ _ _ c2
  have q1 := ih1 h4 (by omega) (by omega) (by omega)
  have q2 := ih2 h1 h2 h3 (by omega)
  refine @Ks.kid _ ⟨y⟩ _ _ _ (e' - i) _ _ ?_ ?_ ?_ ?_ ?_ ?_
  ·rw [hS.kids h1 h2, List.length_map]; exact hk
  ·rw [hS.kids h1 h2]
   have : ((@kd _ ⟨x⟩ p).map (fun v => v - (i : Int))).getD k 0 = (@kd _ ⟨x⟩ p).getD k 0 - (i : Int) := by
    simp [List.getD_eq_getElem?_getD, hk]
   rw [this, hv]; omega
  ·show next - i < y.l.length
   rw [hS.len]; omega
  ·have g : @atF _ ⟨y⟩ (next - i) = @atF _ ⟨x⟩ next := hS.at h4 (by omega)
   rw [g]; exact ha
  ·have g : @atF _ ⟨y⟩ (next - i) = @atF _ ⟨x⟩ next := hS.at h4 (by omega)
   rw [g, show next - i + 1 = next + 1 - i by omega]; exact q1
  ·rw [hS.to h4 (by omega)]; exact q2
theorem Shf.tree {x y : WL rw_iiiiiiLu} {i E : Nat} (hS : Shf x y i E) (hT : TreeOf x) (hi : i < E) (hE : E ≤ x.l.length) (hk : KsOf x i 0 (i + 1) (atOf x i) E) : TreeOf y := by
 have hmax : x.l.length ≤ 524288 := @Tree.max _ ⟨x⟩ hT
 have hl := hS.len
 refine @Tree.mk _ ⟨y⟩ (by show 0 < y.l.length; omega) (by show y.l.length ≤ _; omega) (fun j hj => ?_) (fun j h0 hj => ?_) ?_
 ·have hj : j < y.l.length := hj
  obtain ⟨r1, r2, r3, r4, r5, r6, r7⟩ := hS.row (i + j) (by omega) (by omega)
  rw [show i + j - i = j by omega] at r1 r2 r3 r4 r5 r6 r7
  have h : SP (x.l.getD (i + j) d8).2.1 (x.l.getD (i + j) d8).2.2.1 (x.l.getD (i + j) d8).2.2.2.1 (x.l.getD (i + j) d8).2.2.2.2.1 (x.l.getD (i + j) d8).2.2.2.2.2.1 (x.l.getD (i + j) d8).2.2.2.2.2.2.1.l.length := @Tree.sp _ ⟨x⟩ hT (i + j) (by show i + j < x.l.length; omega)
  show SP (y.l.getD j d8).2.1 (y.l.getD j d8).2.2.1 (y.l.getD j d8).2.2.2.1 (y.l.getD j d8).2.2.2.2.1 (y.l.getD j d8).2.2.2.2.2.1 (y.l.getD j d8).2.2.2.2.2.2.1.l.length
  rw [r2, r3, r4, r5, r6, r7, List.length_map]
  exact h
 ·have hj : j < y.l.length := hj
  obtain ⟨r1, r2, -⟩ := hS.row (i + j) (by omega) (by omega)
  rw [show i + j - i = j by omega] at r2
  show (y.l.getD j d8).2.1 ≠ 1
  rw [r2]
  exact @Tree.root _ ⟨x⟩ hT (i + j) (by omega) (by show i + j < x.l.length; omega)
 ·have h := hS.ks hE hk (Nat.le_refl i) hi (Nat.le_refl E) (by omega)
  rw [Nat.sub_self, show i + 1 - i = 1 by omega, ← hl] at h
  have ha := hS.at (Nat.le_refl i) hi
  rw [Nat.sub_self] at ha
  rw [← ha] at h
  exact h
theorem Tree.whole {x : WL rw_iiiiiiLu} (hT : TreeOf x) : KsOf x 0 0 (0 + 1) (atOf x 0) x.l.length := @Tree.ks _ ⟨x⟩ hT
/-- the same rows but for their bits -/
theorem TreeOf.alike {x y : WL rw_iiiiiiLu} (hT : TreeOf x) (hl : y.l.length = x.l.length) (h : ∀ j, j < x.l.length → SameB 0 (x.l.getD j d8) (y.l.getD j d8)) : TreeOf y := by
 have hp : 0 < x.l.length := @Tree.pos _ ⟨x⟩ hT
 exact Shf.tree (i := 0) (E := x.l.length) ⟨hl, fun j _ h2 => h j h2⟩ hT hp (Nat.le_refl _) (Tree.whole hT)
/-! the document's Check of a tree -/


/-! the document's copies -/
theorem Tree.kin {x : WL rw_iiiiiiLu} (hT : TreeOf x) : ∀ r ∈ x.l, ∀ k ∈ r.2.2.2.2.2.2.1.l, ∃ c : Nat, k = c ∧ c < x.l.length := fun r hr k hk => by
 obtain ⟨i, hi, rfl⟩ := mem_getD d8 hr
 obtain ⟨q, hq, rfl⟩ := mem_getD 0 hk
 obtain ⟨c, h1, h2, h3⟩ := @Tree.kid _ ⟨x⟩ hT i q hi hq
 exact ⟨c, h1, h3⟩
theorem mv_id {f : Int → Int} {v : V8} (h : ∀ k ∈ v.2.2.2.2.2.2.1, f k = k) : mvK f v = v := by
 obtain ⟨a, b, c, d, e, g, l, m⟩ := v
 have : l.map f = l := by
  conv => rhs; rw [← List.map_id l]
  exact List.map_congr_left h
 show (a, b, c, d, e, g, l.map f, m) = _
 rw [this]
theorem ins0 {x : WL rw_iiiiiiLu} (hT : TreeOf x) : (x.l.map fun r => mvK (ins 0) (vw r)) = x.l.map vw := by
 have hmax : x.l.length ≤ 524288 := @Tree.max _ ⟨x⟩ hT
 refine List.map_congr_left fun r hr => mv_id fun k hk => ?_
 obtain ⟨c, rfl, hc⟩ := Tree.kin hT r hr k hk
 unfold ins
 rw [Int.add_zero, w64_sm (by omega) (by omega)]

section
variable [Cur]

/-! a part with its kids' places less z -/
theorem extD {L M : List Int} (hl : L.length = M.length) (h : ∀ j, j < M.length → L.getD j 0 = M.getD j 0) : L = M := by
 apply List.ext_getElem hl
 intro j h1 h2
 have := h j h2
 simpa [List.getD_eq_getElem?_getD, h1, h2] using this
theorem sub1 {n : Nat} {v z : Int} : m_treeSub1q2 n v [z] = some (w64 (v - z)) := by
 unfold m_treeSub1q2
 rw [if_pos (by simp)]
 rfl
def shf (z : Int) (l : List Int) : List Int := l.map fun v => w64 (v - z)
theorem shf_get {z : Int} {l : List Int} {j : Nat} (h : j < l.length) : (shf z l).getD j 0 = w64 (l.getD j 0 - z) := by
 unfold shf
 simp [List.getD_eq_getElem?_getD, h]
theorem eachS {n : Nat} {x : NL} {z : Int} (hx : x.l.length ≤ 1000000) (hn : x.l.length < n) : ∃ k, m_treeeachintintq1 n x z = some k ∧ k.l = shf z x.l := by
 unfold m_treeeachintintq1
 by_cases h0 : x.l = []
 ·rw [if_pos (by rw [h0]; rfl)]
  exact ⟨nl0, rfl, by rw [h0]; rfl⟩
 ·have hp : 0 < x.l.length := List.length_pos_iff.2 h0
  rw [if_neg (by omega), if_pos (by omega), if_pos (by omega), Int.toNat_natCast]
  obtain ⟨r, q1, q2⟩ := hoare (B := B_treeeachintintq1_1 n [z] x.l.length x (x.l.length : Int)) (σ := List Int) (fun L i => (L, i)) (fun i L => L.length = x.l.length ∧ ∀ j, j < i → L.getD j 0 = w64 (x.l.getD j 0 - z)) (fun r => r = shf z x.l) x.l.length
   (fun i L hi hI => by
    obtain ⟨hL, hI⟩ := hI
    refine .inl ⟨L.set i (w64 (x.l.getD i 0 - z)), ⟨by rw [List.length_set, hL], fun j hj => ?_⟩, ?_⟩
    ·rw [getD_set (by omega)]
     by_cases e : j = i
     ·rw [if_pos e, e]
     ·rw [if_neg e]; exact hI j (by omega)
    ·unfold B_treeeachintintq1_1
     dsimp only
     rw [if_pos (by omega), if_pos (by omega), Int.toNat_natCast, if_pos hi]
     dsimp only [Option.bind_some]
     rw [sub1]
     dsimp only [Option.bind_some]
     rw [if_pos (by omega), if_pos (by omega), w64_inc (by omega)])
   (fun L hI => by
    refine ⟨L, extD (by rw [hI.1]; simp [shf]) (fun j hj => by
     have hj : j < x.l.length := by simpa [shf] using hj
     rw [hI.2 j hj, shf_get hj]), ?_⟩
    unfold B_treeeachintintq1_1
    dsimp only
    rw [if_neg (by omega)])
   n 0 (List.replicate x.l.length 0) (Nat.zero_le _) ⟨List.length_replicate, fun j hj => by omega⟩ (by omega)
  have q2 : m_treeeachintintq1_1 n [z] x.l.length x (x.l.length : Int) (List.replicate x.l.length 0, 0) = some r := q2
  have hl : (shf z x.l).length = x.l.length := by simp [shf]
  rw [q2, q1]
  dsimp only [Option.bind_some]
  rw [if_pos hl.symm, dif_pos (by omega)]
  exact ⟨_, rfl, rfl⟩
theorem movedS {n : Nat} (a0 a1 a2 a3 a4 a5 : Int) {x : NL} (a7 z : Int) (hx : x.l.length ≤ 1000000) (hn : x.l.length < n) : ∃ k, m_treemovedq1 n a0 a1 a2 a3 a4 a5 x a7 z = some k ∧ k.l = shf z x.l := by
 obtain ⟨k, h1, h2⟩ := eachS (z := z) hx hn
 unfold m_treemovedq1
 rw [h1]
 exact ⟨k, rfl, h2⟩
/-- rows of the part i and what is inside it, up to c, kids' places less z -/
structure Sb (z : Int) (i c : Nat) (L : List P8) : Prop where
 len : L.length = c - i
 row : ∀ j, i ≤ j → j < c → ∃ k : NL, L.getD (j - i) (0, 0, 0, 0, 0, 0, nl0, 0) = ((pt j).1, (pt j).2.1, (pt j).2.2.1, (pt j).2.2.2.1, (pt j).2.2.2.2.1, (pt j).2.2.2.2.2.1, k, (pt j).2.2.2.2.2.2.2) ∧ k.l = shf z (kd j)
theorem snocD {α : Type} {L : List α} {x d : α} {j : Nat} : (L ++ [x]).getD j d = if j < L.length then L.getD j d else if j = L.length then x else d := by
 simp only [List.getD_eq_getElem?_getD]
 by_cases h : j < L.length
 ·rw [if_pos h, List.getElem?_append_left h]
 ·rw [if_neg h, List.getElem?_append_right (by omega)]
  by_cases e : j = L.length
  ·rw [if_pos e, e, Nat.sub_self]; rfl
  ·rw [if_neg e, List.getElem?_eq_none (by simp; omega)]; rfl
theorem add2 {n i j : Nat} {L : List P8} {z s : Int} (hi : i ≤ j) (hj : j < Cur.x.l.length) (hA : Cur.x.l.length ≤ 1000000) (hk : (kd j).length ≤ 1000000) (hn : (kd j).length < n) (hL : Sb z i j L) : ∃ M, m_treeSub_111010y2 n Cur.x z L Cur.x s (j : Int) = some M ∧ Sb z i (j + 1) M := by
 obtain ⟨k, e1, e2⟩ := movedS (n := n) (pt j).1 (pt j).2.1 (pt j).2.2.1 (pt j).2.2.2.1 (pt j).2.2.2.2.1 (pt j).2.2.2.2.2.1 (x := (pt j).2.2.2.2.2.2.1) (pt j).2.2.2.2.2.2.2 z hk hn
 refine ⟨L ++ [((pt j).1, (pt j).2.1, (pt j).2.2.1, (pt j).2.2.2.1, (pt j).2.2.2.2.1, (pt j).2.2.2.2.2.1, k, (pt j).2.2.2.2.2.2.2)], ?_, ⟨by rw [List.length_append, hL.len]; simp; omega, fun q h1 h2 => ?_⟩⟩
 ·unfold m_treeSub_111010y2
  rw [if_pos (by omega), Int.toNat_natCast]
  show ((some (pt j)).bind _) = _
  dsimp only [Option.bind_some]
  rw [e1]
  dsimp only [Option.bind_some]
  rw [if_pos (by rw [hL.len]; omega)]
 ·rw [snocD, hL.len]
  by_cases c : q < j
  ·rw [if_pos (by omega)]; exact hL.row q h1 c
  ·obtain rfl : q = j := by omega
   rw [if_neg (by omega), if_pos rfl]
   exact ⟨k, rfl, e2⟩
end

section
variable [Cur]

/-! Sub gathers a part and everything inside it -/
theorem Ks.col {K i k next e i0 : Nat} {a z s : Int} (hA : Cur.x.l.length ≤ 1000000) (hK : ∀ j, (kd j).length ≤ K) (hK1 : K ≤ 1000000) (h : Ks i k next a e) : i < next → i < Cur.x.l.length → i0 ≤ next → ∀ n f (L : List P8), Cur.x.l.length - i + K + 9 < n → (kd i).length - k < f → Sb z i0 next L → ∃ M, iterM (B_treevisitq2_1 (m_treevisitq2 n) n Cur.x z Cur.x s Cur.x (pt i).2.2.2.2.2.2.1 ((kd i).length : Int)) f (L, (k : Int)) = some M ∧ Sb z i0 e M := by
 induction h with
 | @done i k next a hk ha =>
  intro hin hi h0 n f L hn hf hL
  obtain ⟨f, rfl⟩ : ∃ g, f = g + 1 := ⟨f - 1, by omega⟩
  refine ⟨L, ?_, hL⟩
  rw [iterM_succ]
  unfold B_treevisitq2_1
  dsimp only
  rw [if_neg (by omega)]
  rfl
 | @kid i k next e' e a hk hv hn' ha h1 h2 ih1 ih2 =>
  intro hin hi h0 n f L hn hf hL
  obtain ⟨f, rfl⟩ : ∃ g, f = g + 1 := ⟨f - 1, by omega⟩
  have hkl := hK next
  have l1 := h1.lt
  have l2 := h2.lt
  obtain ⟨m, rfl⟩ : ∃ m, n = m + 1 := ⟨n - 1, by omega⟩
  obtain ⟨L1, g1, hL1⟩ := add2 (n := m) (s := s) h0 hn' hA (by omega) (by omega) hL
  obtain ⟨M, g2, hM⟩ := ih1 (by omega) hn' (by omega) m m L1 (by omega) (by omega) hL1
  have hrec : m_treevisitq2 (m + 1) Cur.x (next : Int) Cur.x z L Cur.x s = some M := by
   show s_treevisitq2 (m_treevisitq2 m) m Cur.x (next : Int) Cur.x z L Cur.x s = _
   unfold s_treevisitq2 m_treevisitq2_1
   rw [g1]
   dsimp only [Option.bind_some]
   rw [if_pos (by omega), Int.toNat_natCast]
   show ((iterM (B_treevisitq2_1 (m_treevisitq2 m) m Cur.x z Cur.x s Cur.x (pt next).2.2.2.2.2.2.1 ((kd next).length : Int)) m (L1, ((0 : Nat) : Int))).bind _) = _
   rw [g2]
   rfl
  have hki := hK i
  obtain ⟨M', g3, hM'⟩ := ih2 (by omega) hi (by omega) (m + 1) f M hn (by omega) hM
  refine ⟨M', ?_, hM'⟩
  have hB : B_treevisitq2_1 (m_treevisitq2 (m + 1)) (m + 1) Cur.x z Cur.x s Cur.x (pt i).2.2.2.2.2.2.1 ((kd i).length : Int) (L, (k : Int)) = some (.inl (M, ((k + 1 : Nat) : Int))) := by
   unfold B_treevisitq2_1
   dsimp only
   rw [if_pos (by omega)]
   show (if 0 ≤ (k : Int) ∧ (k : Int) < ((kd i).length : Int) then (if (k : Int).toNat < (kd i).length then (some ((kd i).getD (k : Int).toNat 0)).bind _ else _) else _) = _
   rw [if_pos (by omega), Int.toNat_natCast, if_pos hk, hv]
   dsimp only [Option.bind_some]
   rw [hrec, w64_inc' (by omega)]
   rfl
  rw [iterM_succ, hB]
  exact g3
theorem sub2 {K n i e : Nat} {s : Int} (hA : Cur.x.l.length ≤ 1000000) (hK : ∀ j, (kd j).length ≤ K) (hK1 : K ≤ 1000000) (h : Ks i 0 (i + 1) (atF i) e) (hi : i < Cur.x.l.length) (hn : Cur.x.l.length + K + 20 < n) : ∃ M, m_treevisitq1 n Cur.x (i : Int) Cur.x s Cur.x (i : Int) = some M ∧ Sb s i e M := by
 have hki := hK i
 obtain ⟨k, e1, e2⟩ := movedS (n := n) (pt i).1 (pt i).2.1 (pt i).2.2.1 (pt i).2.2.2.1 (pt i).2.2.2.2.1 (pt i).2.2.2.2.2.1 (x := (pt i).2.2.2.2.2.2.1) (pt i).2.2.2.2.2.2.2 s (show (kd i).length ≤ 1000000 by omega) (show (kd i).length < n by omega)
 have hS : Sb s i (i + 1) [((pt i).1, (pt i).2.1, (pt i).2.2.1, (pt i).2.2.2.1, (pt i).2.2.2.2.1, (pt i).2.2.2.2.2.1, k, (pt i).2.2.2.2.2.2.2)] := ⟨by simp, fun j h1 h2 => by
  obtain rfl : j = i := by omega
  rw [Nat.sub_self]
  exact ⟨k, rfl, e2⟩⟩
 obtain ⟨M, g, hM⟩ := h.col (s := (i : Int)) hA hK hK1 (by omega) hi (by omega) n n _ (by omega) (by omega) hS
 refine ⟨M, ?_, hM⟩
 have hy : m_treeSub_111010y1 n Cur.x s Cur.x (i : Int) (i : Int) = some ((pt i).1, (pt i).2.1, (pt i).2.2.1, (pt i).2.2.2.1, (pt i).2.2.2.2.1, (pt i).2.2.2.2.2.1, k, (pt i).2.2.2.2.2.2.2) := by
  unfold m_treeSub_111010y1
  rw [if_pos (by omega), Int.toNat_natCast]
  show ((some (pt i)).bind _) = _
  dsimp only [Option.bind_some]
  rw [e1]
  rfl
 unfold m_treevisitq1 m_treevisitq1_1
 rw [hy]
 dsimp only [Option.bind_some]
 rw [if_pos (by omega), Int.toNat_natCast]
 show ((iterM (B_treevisitq2_1 (m_treevisitq2 n) n Cur.x s Cur.x (i : Int) Cur.x (pt i).2.2.2.2.2.2.1 ((kd i).length : Int)) n (_, ((0 : Nat) : Int))).bind _) = _
 rw [g]
 rfl
end

end Go.Proofs.Ytdoidamfhkbgdaa.tpt16
