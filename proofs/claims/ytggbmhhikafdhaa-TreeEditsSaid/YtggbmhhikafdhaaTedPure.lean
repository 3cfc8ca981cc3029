/-
  The pure side. No condition.
-/
import Derived.Test.YtggbmhhikafdhaaTedCTold
import Derived.IntWalk
set_option linter.unusedSimpArgs false
set_option linter.unusedVariables false
set_option linter.unusedSectionVars false
set_option linter.unnecessarySimpa false
namespace Go.Proofs.Ytggbmhhikafdhaa.ted16
open Go Go.Proofs.Ytggbmhhikafdhaa Ax
variable [Args]


theorem w64_id {x : Int} (h1 : -9223372036854775808 ≤ x) (h2 : x < 9223372036854775808) : w64 x = x := IntWalk.i64_in _ (by omega)
theorem w64_sm {x : Int} (h1 : -1000000000000 ≤ x) (h2 : x ≤ 1000000000000) : w64 x = x := w64_id (by omega) (by omega)
theorem w64_inc {i : Nat} (h : i ≤ 1000000000) : w64 ((i : Int) + 1) = ((i + 1 : Nat) : Int) := by rw [w64_sm (by omega) (by omega)]; rfl
/-! loops -/
theorem whileI {st ρ : Type} {B : st → Option (st ⊕ ρ)} (I : st → Prop) (μ : st → Nat) (Q : ρ → Prop) (h : ∀ s, I s → (∃ s', I s' ∧ μ s' < μ s ∧ B s = some (.inl s')) ∨ ∃ r, Q r ∧ B s = some (.inr r)) : ∀ (n : Nat) (s : st), I s → μ s < n → ∃ r, Q r ∧ iterM B n s = some r
 | 0, s, _, hm => absurd hm (Nat.not_lt_zero _)
 | n + 1, s, hi, hm => by
  rcases h s hi with ⟨s', h1, h2, h3⟩ | ⟨r, h1, h2⟩
  ·obtain ⟨r, q1, q2⟩ := whileI I μ Q h n s' h1 (by omega)
   exact ⟨r, q1, by rw [iterM_succ, h3]; exact q2⟩
  ·exact ⟨r, h1, by rw [iterM_succ, h2]; rfl⟩
theorem hoare {σ st ρ : Type} {B : st → Option (st ⊕ ρ)} (S : σ → Int → st) (I : Nat → σ → Prop) (Q : ρ → Prop) (len : Nat)
  (h1 : ∀ (i : Nat) (s : σ), i < len → I i s → (∃ s', I (i + 1) s' ∧ B (S s (i : Int)) = some (.inl (S s' ((i + 1 : Nat) : Int)))) ∨ ∃ r, Q r ∧ B (S s (i : Int)) = some (.inr r))
  (h2 : ∀ s, I len s → ∃ r, Q r ∧ B (S s (len : Int)) = some (.inr r)) : ∀ (n i : Nat) (s : σ), i ≤ len → I i s → len - i < n → ∃ r, Q r ∧ iterM B n (S s (i : Int)) = some r
 | 0, i, s, _, _, hm => absurd hm (Nat.not_lt_zero _)
 | n + 1, i, s, hl, hi, hm => by
  have main : (∃ s', i < len ∧ I (i + 1) s' ∧ B (S s (i : Int)) = some (.inl (S s' ((i + 1 : Nat) : Int)))) ∨ ∃ r, Q r ∧ B (S s (i : Int)) = some (.inr r) := by
   by_cases hlt : i < len
   ·rcases h1 i s hlt hi with ⟨s', a, b⟩ | h
    ·exact .inl ⟨s', hlt, a, b⟩
    ·exact .inr h
   ·obtain rfl : i = len := by omega
    exact .inr (h2 s hi)
  rcases main with ⟨s', g0, g1, g3⟩ | ⟨r, g1, g2⟩
  ·obtain ⟨r, q1, q2⟩ := hoare S I Q len h1 h2 n (i + 1) s' (by omega) g1 (by omega)
   exact ⟨r, q1, by rw [iterM_succ, g3]; exact q2⟩
  ·exact ⟨r, g1, by rw [iterM_succ, g2]; rfl⟩
theorem getD_mem {α : Type} {l : List α} {i : Nat} {d : α} (h : i < l.length) : l.getD i d ∈ l := by
 rw [List.getD_eq_getElem?_getD, List.getElem?_eq_getElem h]; exact List.getElem_mem h
theorem mem_getD {α : Type} {l : List α} {x : α} (d : α) (h : x ∈ l) : ∃ i, i < l.length ∧ l.getD i d = x := by
 obtain ⟨i, hi, rfl⟩ := List.mem_iff_getElem.1 h
 exact ⟨i, hi, by simp [List.getD_eq_getElem?_getD, hi]⟩
theorem getD_set {α : Type} {l : List α} {i j : Nat} {x d : α} (h : i < l.length) : (l.set i x).getD j d = if j = i then x else l.getD j d := by
 simp only [List.getD_eq_getElem?_getD, List.getElem?_set]
 by_cases hj : i = j
 ·subst hj; simp [h]
 ·rw [if_neg hj, if_neg (Ne.symm hj)]
/-! trees: how parts lie -/
abbrev P8 := Int × Int × Int × Int × Int × Int × NL × Int
def d8 : P8 := (0, 0, 0, 0, 0, 0, nl0, 0)
def pt (i : Nat) : P8 := Args.A.getD i (0, 0, 0, 0, 0, 0, nl0, 0)
def kd (i : Nat) : List Int := (pt i).2.2.2.2.2.2.1.l
def atF (i : Nat) : Int := (pt i).2.2.1
def toF (i : Nat) : Int := (pt i).2.2.2.2.1
theorem kd_le (i : Nat) : (kd i).length ≤ 9223372036854775807 := (pt i).2.2.2.2.2.2.1.le
theorem w64_inc' {i : Nat} (h : i < 9223372036854775807) : w64 ((i : Int) + 1) = ((i + 1 : Nat) : Int) := by
 rw [w64_id (by omega) (by omega)]; rfl
/-- the kids of i from the k-th on begin at 'next', no earlier than 'a', and end ahead of e -/
inductive Ks : Nat → Nat → Nat → Int → Nat → Prop
 | done {i k next : Nat} {a : Int} (hk : k = (kd i).length) (ha : a ≤ toF i) : Ks i k next a next
 | kid {i k next e' e : Nat} {a : Int} (hk : k < (kd i).length) (hv : (kd i).getD k 0 = (next : Int)) (hn : next < Args.A.length) (ha : a ≤ atF next) (h1 : Ks next 0 (next + 1) (atF next) e') (h2 : Ks i (k + 1) e' (toF next) e) : Ks i k next a e
theorem Ks.lt {i k next e : Nat} {a : Int} (h : Ks i k next a e) : next ≤ e := by
 induction h with
 | done => exact Nat.le_refl _
 | kid _ _ _ _ _ _ ih1 ih2 => omega
theorem Ks.len {i k next e : Nat} {a : Int} (h : Ks i k next a e) : k ≤ (kd i).length := by
 cases h with
 | done hk => omega
 | kid hk => omega
theorem Ks.hi {i k next e : Nat} {a : Int} (h : Ks i k next a e) : next ≤ Args.A.length → e ≤ Args.A.length := by
 induction h with
 | done => exact id
 | kid hk hv hn ha _ _ ih1 ih2 => exact fun _ => ih2 (ih1 (by omega))
/-- every part in it is a tree of its own -/
theorem Ks.cover {i k next e : Nat} {a : Int} (h : Ks i k next a e) : ∀ j, next ≤ j → j < e → ∃ f, f ≤ e ∧ Ks j 0 (j + 1) (atF j) f := by
 induction h with
 | done => exact fun j h1 h2 => absurd h1 (by omega)
 | @kid i k next e' e a hk hv hn ha h1 h2 ih1 ih2 =>
  intro j h3 h4
  have l2 := h2.lt
  by_cases e1 : j = next
  ·subst e1; exact ⟨e', l2, h1⟩
  ·rcases Nat.lt_or_ge j e' with h5 | h5
   ·obtain ⟨f, g1, g2⟩ := ih1 j (by omega) h5
    exact ⟨f, by omega, g2⟩
   ·exact ih2 j h5 h4
/-- where kids lie -/
theorem Ks.kids {i k next e : Nat} {a : Int} (h : Ks i k next a e) : ∀ q, k ≤ q → q < (kd i).length → ∃ c : Nat, (kd i).getD q 0 = (c : Int) ∧ next ≤ c ∧ c < e ∧ c < Args.A.length := by
 induction h with
 | done hk => exact fun q h1 h2 => by omega
 | @kid i k next e' e a hk hv hn ha h1 h2 ih1 ih2 =>
  intro q h3 h4
  have l1 := h1.lt
  have l2 := h2.lt
  by_cases e1 : q = k
  ·subst e1; exact ⟨next, hv, Nat.le_refl _, by omega, hn⟩
  ·obtain ⟨c, g1, g2, g3, g4⟩ := ih2 q (by omega) h4
   exact ⟨c, g1, by omega, g3, g4⟩
theorem Ks.mono {i k next e : Nat} {a : Int} (h : Ks i k next a e) (hs : ∀ j, j < Args.A.length → atF j ≤ toF j) : a ≤ toF i := by
 induction h with
 | done _ ha => exact ha
 | @kid i k next e' e a hk hv hn ha h1 h2 ih1 ih2 =>
  have := hs next hn
  omega



/-! parts that may be -/
structure SP (a1 a2 a3 a4 a5 : Int) (len : Nat) : Prop where
 k1 : 1 ≤ a1
 k6 : a1 ≤ 6
 a0 : 0 ≤ a2
 at_ : a2 ≤ a4
 lk : a2 < a5
 tok : (a1 = 3 ∨ a1 = 5 ∨ a1 = 6) → a2 ≤ a3 ∧ a3 ≤ a4
 non : (a1 = 1 ∨ a1 = 2 ∨ a1 = 4) → a3 = a2
 mis : a1 = 4 → a2 = a4
 leaf : a1 ≠ 1 → a1 ≠ 2 → len = 0
theorem sound_ok (n : Nat) (a0 a1 a2 a3 a4 a5 : Int) (a6 : NL) (a7 : Int) (h : SP a1 a2 a3 a4 a5 a6.l.length) : m_soq1 n a0 a1 a2 a3 a4 a5 a6 a7 = some true := by
 obtain ⟨h1, h2, h3, h4, h5, h6, h7, h8, h9⟩ := h
 unfold m_soq1
 rw [if_neg (by omega), if_neg (by omega), if_neg (by omega)]
 by_cases c1 : a1 = 1
 ·rw [if_pos c1, if_pos (h7 (by omega))]
 rw [if_neg c1]
 by_cases c2 : a1 = 2
 ·rw [if_pos c2, if_pos (h7 (by omega))]
 rw [if_neg c2]
 have hl := h9 c1 c2
 by_cases c4 : a1 = 4
 ·have := h8 c4
  rw [if_pos c4, if_pos (h7 (by omega)), if_pos (by omega), if_pos (by omega)]
 rw [if_neg c4]
 have ht := h6 (by omega)
 by_cases c3 : a1 = 3
 ·rw [if_pos c3, if_pos (by omega), if_pos (by omega), if_pos (by omega)]
 rw [if_neg c3]
 by_cases c5 : a1 = 5
 ·rw [if_pos c5, if_pos (by omega), if_pos (by omega), if_pos (by omega)]
 rw [if_neg c5, if_pos (by omega), if_pos (by omega), if_pos (by omega), if_pos (by omega)]

/-! a tree that may be -/
def SPi (i : Nat) : Prop := SP (pt i).2.1 (pt i).2.2.1 (pt i).2.2.2.1 (pt i).2.2.2.2.1 (pt i).2.2.2.2.2.1 (kd i).length
structure Tree : Prop where
 pos : 0 < Args.A.length
 max : Args.A.length ≤ 524288
 sp : ∀ i, i < Args.A.length → SPi i
 root : ∀ i, 0 < i → i < Args.A.length → (pt i).2.1 ≠ 1
 ks : Ks 0 0 1 (atF 0) Args.A.length


/-! the program's check: parents that are open -/
abbrev E3 := Int × Int × Int
abbrev OSt := List E3 × Nat × Int
/-- from one state of the loop to another, in m rounds -/
def Rch (n : Nat) (x y : OSt) (m : Nat) : Prop := ∀ f, iterM (B_iOq1_1 n (Args.A.length : Int)) (f + m) x = iterM (B_iOq1_1 n (Args.A.length : Int)) f y
theorem Rch.refl (n : Nat) (x : OSt) : Rch n x x 0 := fun _ => rfl
theorem Rch.step {n : Nat} {x y z : OSt} {m : Nat} (h : B_iOq1_1 n (Args.A.length : Int) x = some (.inl y)) (k : Rch n y z m) : Rch n x z (m + 1) := fun f => by
 rw [← Nat.add_assoc, iterM_succ, h]
 exact k f
theorem Rch.trans {n : Nat} {x y z : OSt} {m k : Nat} (h : Rch n x y m) (j : Rch n y z k) : Rch n x z (m + k) := fun f => by
 have := h (f + k)
 rw [show f + k + m = f + (m + k) by omega] at this
 rw [this, j f]
theorem take_last {S : List E3} {s : Nat} {R : List E3} {x : E3} (hs : s ≤ S.length) (h : S.take s = R ++ [x]) : s = R.length + 1 ∧ S.getD R.length (0, 0, 0) = x ∧ S.take R.length = R := by
 have hl := congrArg List.length h
 rw [List.length_take, Nat.min_eq_left hs, List.length_append, List.length_singleton] at hl
 subst hl
 refine ⟨rfl, ?_, ?_⟩
 ·have h2 : (S.take (R.length + 1))[R.length]? = (R ++ [x])[R.length]? := by rw [h]
  rw [List.getElem?_take_of_lt (Nat.lt_succ_self _), List.getElem?_append_right (Nat.le_refl _), Nat.sub_self] at h2
  rw [List.getD_eq_getElem?_getD, h2]; rfl
 ·have h2 := congrArg (List.take R.length) h
  rw [List.take_take, Nat.min_eq_left (Nat.le_succ _), List.take_left] at h2
  exact h2
theorem take_set {S : List E3} {R : List E3} {y : E3} (hs : R.length < S.length) (h : S.take R.length = R) : (S.set R.length y).take (R.length + 1) = R ++ [y] := by
 rw [List.take_add_one, List.take_set_of_le (Nat.le_refl _), h, List.getElem?_set_self hs]; rfl
theorem take_set0 {S : List E3} {R : List E3} {y : E3} (h : S.take R.length = R) : (S.set R.length y).take R.length = R := by
 rw [List.take_set_of_le (Nat.le_refl _), h]
theorem ne_cons {S : List E3} (h : 0 < S.length) : ∃ a t, S = a :: t := by
 cases S with
 | nil => simp at h
 | cons a t => exact ⟨a, t, rfl⟩
/-- one part is looked at -/
theorem inB {n i p k s : Nat} {a : Int} {S R : List E3} (h0 : 0 < i) (hi : i < Args.A.length) (hL : Args.A.length ≤ 1000000) (hs : s ≤ S.length) (h : S.take s = R ++ [((p : Int), (k : Int), a)]) (hp : p < Args.A.length) (hk : k < (kd p).length) (hv : (kd p).getD k 0 = (i : Int)) (ha : a ≤ atF i) (ht : toF i ≤ toF p) (hR : R.length ≤ 1000000) :
  ∃ S' s', B_iOq1_1 n (Args.A.length : Int) (S, s, (i : Int)) = some (.inl (S', s', ((i + 1 : Nat) : Int))) ∧ s' ≤ S'.length ∧ 0 < S'.length ∧ S'.take s' = (if k + 1 < (kd p).length then R ++ [((p : Int), ((k + 1 : Nat) : Int), toF i)] else R) ++ (if 0 < (kd i).length then [((i : Int), 0, atF i)] else []) := by
 obtain ⟨rfl, hx, hR0⟩ := take_last hs h
 have hkl := kd_le p
 have hw : w64 (((R.length + 1 : Nat) : Int) - 1) = ((R.length : Nat) : Int) := by rw [w64_sm (by omega) (by omega)]; omega
 have hw2 : w64 ((i : Int) + 1) = ((i + 1 : Nat) : Int) := w64_inc (by omega)
 have hw3 : w64 ((k : Int) + 1) = ((k + 1 : Nat) : Int) := w64_inc' (by omega)
 obtain ⟨b, T, rfl⟩ := ne_cons (S := S) (by omega)
 have e1 : B_iOq1_1 n (Args.A.length : Int) (b :: T, R.length + 1, (i : Int)) =
   (if (w64 ((k : Int) + 1)) = (((kd p).length : Nat) : Int) then
    if (((kd i).length : Nat) : Int) > 0 then
     if R.length ≤ ((b :: T).set R.length ((p : Int), w64 ((k : Int) + 1), toF i)).length then
      if (R.length + 1) * 24 ≤ 140737488355328 then
       some (.inl (List.take R.length ((b :: T).set R.length ((p : Int), w64 ((k : Int) + 1), toF i)) ++ [((i : Int), 0, atF i)], (List.take R.length ((b :: T).set R.length ((p : Int), w64 ((k : Int) + 1), toF i)) ++ [((i : Int), (0 : Int), atF i)]).length, w64 ((i : Int) + 1)))
      else none
     else none
    else some (.inl ((b :: T).set R.length ((p : Int), w64 ((k : Int) + 1), toF i), R.length, w64 ((i : Int) + 1)))
   else
    if (((kd i).length : Nat) : Int) > 0 then
     if R.length + 1 ≤ ((b :: T).set R.length ((p : Int), w64 ((k : Int) + 1), toF i)).length then
      if (R.length + 1 + 1) * 24 ≤ 140737488355328 then
       some (.inl (List.take (R.length + 1) ((b :: T).set R.length ((p : Int), w64 ((k : Int) + 1), toF i)) ++ [((i : Int), 0, atF i)], (List.take (R.length + 1) ((b :: T).set R.length ((p : Int), w64 ((k : Int) + 1), toF i)) ++ [((i : Int), (0 : Int), atF i)]).length, w64 ((i : Int) + 1)))
      else none
     else none
    else some (.inl ((b :: T).set R.length ((p : Int), w64 ((k : Int) + 1), toF i), R.length + 1, w64 ((i : Int) + 1)))) := by
  unfold B_iOq1_1
  dsimp only
  rw [if_pos (by omega), if_pos (by omega)]
  simp only [Option.bind_some, Int.toNat_natCast]
  rw [if_pos (by omega), if_neg (by omega), hw]
  simp only [Int.toNat_natCast]
  rw [if_pos (by omega), if_pos (by omega), hx]
  simp only [Option.bind_some, Int.toNat_natCast]
  rw [if_pos (by omega)]
  have hk2 : ((0 : Int) ≤ (k : Int) ∧ (k : Int) < (((Args.A.getD p (0, 0, 0, 0, 0, 0, nl0, 0)).2.2.2.2.2.2.1.l.length : Nat) : Int)) := ⟨by omega, by have : k < (Args.A.getD p (0, 0, 0, 0, 0, 0, nl0, 0)).2.2.2.2.2.2.1.l.length := hk; omega⟩
  rw [if_pos hk2, if_pos (show k < (Args.A.getD p (0, 0, 0, 0, 0, 0, nl0, 0)).2.2.2.2.2.2.1.l.length from hk)]
  have hv2 : (Args.A.getD p (0, 0, 0, 0, 0, 0, nl0, 0)).2.2.2.2.2.2.1.l.getD k 0 = (i : Int) := hv
  rw [hv2]
  simp only [Option.bind_some]
  rw [if_pos trivial, if_neg (show ¬ (Args.A.getD i (0, 0, 0, 0, 0, 0, nl0, 0)).2.2.1 < a from fun h => absurd (show atF i < a from h) (by omega)), if_neg (show ¬ (Args.A.getD i (0, 0, 0, 0, 0, 0, nl0, 0)).2.2.2.2.1 > (Args.A.getD p (0, 0, 0, 0, 0, 0, nl0, 0)).2.2.2.2.1 from fun h => absurd (show toF i > toF p from h) (by omega)), if_pos (show (0 : Int) ≤ ((R.length : Nat) : Int) ∧ ((R.length : Nat) : Int) ≤ ((R.length + 1 : Nat) : Int) by omega)]
  rfl
 rw [e1, hw2, hw3]
 by_cases c1 : ((k + 1 : Nat) : Int) = (((kd p).length : Nat) : Int)
 ·rw [if_pos c1, if_neg (show ¬ k + 1 < (kd p).length by omega)]
  have ht0 := take_set0 (y := ((p : Int), ((k + 1 : Nat) : Int), toF i)) hR0
  by_cases c2 : (((kd i).length : Nat) : Int) > 0
  ·rw [if_pos c2, if_pos (show 0 < (kd i).length by omega), if_pos (by rw [List.length_set]; omega), if_pos (by omega), ht0]
   exact ⟨_, _, rfl, Nat.le_refl _, by simp, by rw [List.take_length]⟩
  ·rw [if_neg c2, if_neg (show ¬ 0 < (kd i).length by omega), List.append_nil]
   exact ⟨_, _, rfl, by rw [List.length_set]; omega, by rw [List.length_set]; omega, ht0⟩
 ·rw [if_neg c1, if_pos (show k + 1 < (kd p).length by omega)]
  have ht1 := take_set (y := ((p : Int), ((k + 1 : Nat) : Int), toF i)) (by omega) hR0
  by_cases c2 : (((kd i).length : Nat) : Int) > 0
  ·rw [if_pos c2, if_pos (show 0 < (kd i).length by omega), if_pos (by rw [List.length_set]; omega), if_pos (by omega), ht1]
   exact ⟨_, _, rfl, Nat.le_refl _, by simp, by rw [List.take_length]⟩
  ·rw [if_neg c2, if_neg (show ¬ 0 < (kd i).length by omega), List.append_nil]
   exact ⟨_, _, rfl, by rw [List.length_set]; omega, by rw [List.length_set]; omega, ht1⟩
theorem Ks.sim {n i k next e : Nat} {a : Int} (h : Ks i k next a e) (hL : Args.A.length ≤ 1000000) (hs : ∀ j, j < Args.A.length → atF j ≤ toF j) : i < next → i < Args.A.length → ∀ (S : List E3) (s : Nat) (R : List E3), R.length + 1 ≤ next → 0 < S.length → s ≤ S.length → S.take s = (if k < (kd i).length then R ++ [((i : Int), (k : Int), a)] else R) →
  ∃ S' s', s' ≤ S'.length ∧ 0 < S'.length ∧ S'.take s' = R ∧ Rch n (S, s, (next : Int)) (S', s', (e : Int)) (e - next) := by
 induction h with
 | @done i k next a hk ha =>
  intro _ hi S s R hR h0 hs h
  rw [if_neg (by omega)] at h
  exact ⟨S, s, hs, h0, h, by rw [Nat.sub_self]; exact Rch.refl n _⟩
 | @kid i k next e' e a hk hv hn ha h1 h2 ih1 ih2 =>
  intro hin hi S s R hR h0 hs' h
  rw [if_pos hk] at h
  have l1 := h1.lt
  have l2 := h2.lt
  have hm := h2.mono hs
  obtain ⟨S1, s1, b1, b2, b3, b4⟩ := inB (n := n) (by omega) hn hL hs' h hi hk hv ha hm (by omega)
  obtain ⟨S2, s2, c1, c2, c3, c4⟩ := ih1 (by omega) hn S1 s1 (if k + 1 < (kd i).length then R ++ [((i : Int), ((k + 1 : Nat) : Int), toF next)] else R) (by split <;> simp <;> omega) b3 b2 (by
   rw [b4]
   by_cases hz : 0 < (kd next).length
   ·rw [if_pos hz, if_pos hz]; rfl
   ·rw [if_neg hz, if_neg hz, List.append_nil])
  obtain ⟨S3, s3, d1, d2, d3, d4⟩ := ih2 (by omega) hi S2 s2 R (by omega) c2 c1 c3
  refine ⟨S3, s3, d1, d2, d3, ?_⟩
  have := (Rch.step b1 c4).trans d4
  rwa [show e' - (next + 1) + 1 + (e - e') = e - next by omega] at this
theorem inOrder_ok {n : Nat} (hT : Tree) (hn : Args.A.length < n) : m_iOq1 n = some true := by
 have hL : Args.A.length ≤ 1000000 := by have := hT.max; omega
 have hs : ∀ j, j < Args.A.length → atF j ≤ toF j := fun j hj => (hT.sp j hj).at_
 have hpos := hT.pos
 have hw : w64 ((0 : Int) + 1) = ((0 + 1 : Nat) : Int) := by decide
 unfold m_iOq1 m_iOq1_1
 obtain ⟨m, rfl⟩ : ∃ m, n = m + 1 := ⟨n - 1, by omega⟩
 rw [iterM_succ]
 have hB0 : B_iOq1_1 (m + 1) (Args.A.length : Int) ([], 0, 0) = if (((kd 0).length : Nat) : Int) > 0 then some (.inl ([(0, 0, atF 0)], 1, w64 ((0 : Int) + 1))) else some (.inl ([], 0, w64 ((0 : Int) + 1))) := by
  unfold B_iOq1_1
  dsimp only
  rw [if_pos (by omega), if_pos (by omega)]
  simp only [Option.bind_some]
  rw [if_neg (by omega)]
  rfl
 rw [hB0, hw]
 by_cases hz : 0 < (kd 0).length
 ·rw [if_pos (by omega)]
  simp only [Option.bind_some]
  obtain ⟨S, s, h1, h2, h3, h4⟩ := hT.ks.sim (n := m + 1) hL hs (by omega) hpos [(0, 0, atF 0)] 1 [] (by simp) (by simp) (by simp) (by rw [if_pos hz]; rfl)
  have h4 := h4 (m - (Args.A.length - 1))
  rw [show m - (Args.A.length - 1) + (Args.A.length - (0 + 1)) = m by omega] at h4
  have h4 : iterM (B_iOq1_1 (m + 1) (Args.A.length : Int)) m ([(0, 0, atF 0)], 1, ((0 + 1 : Nat) : Int)) = _ := h4
  rw [h4]
  obtain ⟨q, hq⟩ : ∃ q, m - (Args.A.length - 1) = q + 1 := ⟨m - (Args.A.length - 1) - 1, by omega⟩
  rw [hq, iterM_succ]
  have hs0 : s = 0 := by
   have := congrArg List.length h3
   rw [List.length_take, List.length_nil] at this
   omega
  subst hs0
  obtain ⟨b, T, rfl⟩ := ne_cons h2
  have : B_iOq1_1 (m + 1) (Args.A.length : Int) (b :: T, 0, (Args.A.length : Int)) = some (.inr (.inr (b :: T, 0))) := by
   unfold B_iOq1_1
   dsimp only
   rw [if_neg (by omega)]
  rw [this]
  rfl
 ·rw [if_neg (by omega)]
  simp only [Option.bind_some]
  have h1 : Args.A.length = 1 := by
   have hh := hT.ks
   generalize Args.A.length = N at hh
   cases hh with
   | done => rfl
   | kid hk => omega
  obtain ⟨q, rfl⟩ : ∃ q, m = q + 1 := ⟨m - 1, by omega⟩
  rw [iterM_succ]
  have : B_iOq1_1 (q + 1 + 1) (Args.A.length : Int) ([], 0, ((0 + 1 : Nat) : Int)) = some (.inr (.inr ([], 0))) := by
   unfold B_iOq1_1
   dsimp only
   rw [if_neg (by omega)]
  rw [this]
  rfl
theorem check_ok {n : Nat} (hT : Tree) (hn : Args.A.length < n) : m_tCq1 n = some 0 := by
 have hpos := hT.pos
 have hmax := hT.max
 unfold m_tCq1
 rw [if_neg (by omega), if_neg (by omega), inOrder_ok hT hn]
 simp only [Option.bind_some]
 rw [if_pos trivial]
 obtain ⟨r, rfl, q2⟩ := hoare (B := B_tCq1_1 n (Args.A.length : Int)) (σ := Unit) (fun _ i => i) (fun i _ => True) (fun r => r = .inr ()) Args.A.length
  (fun i s hi hI => by
   have hsp := sound_ok n (pt i).1 (pt i).2.1 (pt i).2.2.1 (pt i).2.2.2.1 (pt i).2.2.2.2.1 (pt i).2.2.2.2.2.1 (pt i).2.2.2.2.2.2.1 (pt i).2.2.2.2.2.2.2 (hT.sp i hi)
   have hB : B_tCq1_1 n (Args.A.length : Int) (i : Int) = ((m_soq1 n (pt i).1 (pt i).2.1 (pt i).2.2.1 (pt i).2.2.2.1 (pt i).2.2.2.2.1 (pt i).2.2.2.2.2.1 (pt i).2.2.2.2.2.2.1 (pt i).2.2.2.2.2.2.2).bind fun y => if y = true then (if (pt i).2.1 = 1 then (if (i : Int) > 0 then some (.inr (.inl ())) else some (.inl (w64 ((i : Int) + 1)))) else some (.inl (w64 ((i : Int) + 1)))) else some (.inr (.inl ()))) := by
    unfold B_tCq1_1
    dsimp only
    rw [if_pos (by omega), if_pos (by omega)]
    simp only [Option.bind_some, Int.toNat_natCast]
    rfl
   rw [hB, hsp, w64_inc (by omega)]
   simp only [Option.bind_some]
   rw [if_pos trivial]
   by_cases c1 : (pt i).2.1 = 1
   ·rw [if_pos c1, if_neg (show ¬ (i : Int) > 0 from fun h => hT.root i (by omega) hi c1)]
    exact .inl ⟨(), trivial, rfl⟩
   ·rw [if_neg c1]
    exact .inl ⟨(), trivial, rfl⟩)
  (fun s hI => by
   unfold B_tCq1_1
   dsimp only
   rw [if_neg (by omega)]
   exact ⟨_, rfl, rfl⟩) n 0 () (Nat.zero_le _) trivial (by omega)
 have q2 : m_tCq1_1 n (Args.A.length : Int) 0 = some (.inr ()) := q2
 rw [q2]


/-! what the program's check tells is a tree -/
theorem sound_tells' (n : Nat) (a0 a1 a2 a3 a4 a5 : Int) (a6 : NL) (a7 : Int) (o : Option Bool) (h : m_soq1 n a0 a1 a2 a3 a4 a5 a6 a7 = o) : o = some false ∨ (o = some true ∧ SP a1 a2 a3 a4 a5 a6.l.length) := by
 unfold m_soq1 at h
 by_cases c1 : a2 < 0
 ·rw [if_pos c1] at h; exact .inl h.symm
 rw [if_neg c1] at h
 by_cases c2 : a2 > a4
 ·rw [if_pos c2] at h; exact .inl h.symm
 rw [if_neg c2] at h
 by_cases c3 : a5 ≤ a2
 ·rw [if_pos c3] at h; exact .inl h.symm
 rw [if_neg c3] at h
 have leaf : ∀ (h : (if ((a6.l.length : Nat) : Int) = 0 then some true else some false) = o), o = some false ∨ (o = some true ∧ a6.l.length = 0) := by
  intro h
  by_cases c : ((a6.l.length : Nat) : Int) = 0
  ·rw [if_pos c] at h; exact .inr ⟨h.symm, by omega⟩
  ·rw [if_neg c] at h; exact .inl h.symm
 have tok : ∀ (k : a1 = 3 ∨ a1 = 5 ∨ a1 = 6) (h : (if a3 ≥ a2 then (if a3 ≤ a4 then (if ((a6.l.length : Nat) : Int) = 0 then some true else some false) else some false) else some false) = o), o = some false ∨ (o = some true ∧ SP a1 a2 a3 a4 a5 a6.l.length) := by
  intro k h
  by_cases d1 : a3 ≥ a2
  ·rw [if_pos d1] at h
   by_cases d2 : a3 ≤ a4
   ·rw [if_pos d2] at h
    rcases leaf h with h | ⟨h, hl⟩
    ·exact .inl h
    ·exact .inr ⟨h, by omega, by omega, by omega, by omega, by omega, fun _ => by omega, fun _ => by omega, fun _ => by omega, fun _ _ => hl⟩
   ·rw [if_neg d2] at h; exact .inl h.symm
  ·rw [if_neg d1] at h; exact .inl h.symm
 by_cases k1 : a1 = 1
 ·rw [if_pos k1] at h
  by_cases d : a3 = a2
  ·rw [if_pos d] at h; exact .inr ⟨h.symm, by omega, by omega, by omega, by omega, by omega, fun _ => by omega, fun _ => by omega, fun _ => by omega, fun h => absurd k1 h⟩
  ·rw [if_neg d] at h; exact .inl h.symm
 rw [if_neg k1] at h
 by_cases k2 : a1 = 2
 ·rw [if_pos k2] at h
  by_cases d : a3 = a2
  ·rw [if_pos d] at h; exact .inr ⟨h.symm, by omega, by omega, by omega, by omega, by omega, fun _ => by omega, fun _ => by omega, fun _ => by omega, fun _ h => absurd k2 h⟩
  ·rw [if_neg d] at h; exact .inl h.symm
 rw [if_neg k2] at h
 by_cases k4 : a1 = 4
 ·rw [if_pos k4] at h
  by_cases d : a3 = a2
  ·rw [if_pos d] at h
   by_cases d2 : a4 = a2
   ·rw [if_pos d2] at h
    rcases leaf h with h | ⟨h, hl⟩
    ·exact .inl h
    ·exact .inr ⟨h, by omega, by omega, by omega, by omega, by omega, fun _ => by omega, fun _ => by omega, fun _ => by omega, fun _ _ => hl⟩
   ·rw [if_neg d2] at h; exact .inl h.symm
  ·rw [if_neg d] at h; exact .inl h.symm
 rw [if_neg k4] at h
 by_cases k3 : a1 = 3
 ·rw [if_pos k3] at h; exact tok (by omega) h
 rw [if_neg k3] at h
 by_cases k5 : a1 = 5
 ·rw [if_pos k5] at h; exact tok (by omega) h
 rw [if_neg k5] at h
 by_cases k6 : a1 = 6
 ·rw [if_pos k6] at h; exact tok (by omega) h
 rw [if_neg k6] at h
 exact .inl h.symm
theorem sound_tells (n : Nat) (a0 a1 a2 a3 a4 a5 : Int) (a6 : NL) (a7 : Int) : ∃ b, m_soq1 n a0 a1 a2 a3 a4 a5 a6 a7 = some b ∧ (b = true → SP a1 a2 a3 a4 a5 a6.l.length) := by
 rcases sound_tells' n a0 a1 a2 a3 a4 a5 a6 a7 _ rfl with h | ⟨h, h2⟩
 ·exact ⟨false, h, fun h => by cases h⟩
 ·exact ⟨true, h, fun _ => h2⟩
def nxt (R : List E3) (p k i : Nat) : List E3 := (if 0 < (kd i).length then [((i : Int), 0, atF i)] else []) ++ ((if k + 1 < (kd p).length then [((p : Int), ((k + 1 : Nat) : Int), toF i)] else []) ++ R)
/-- the parents that are open (the last one first) are done when all parts are looked at -/
inductive Ok : List E3 → Nat → Prop
 | fin : Ok [] Args.A.length
 | step {R : List E3} {p k i : Nat} {a : Int} (hi : i < Args.A.length) (hv : (kd p).getD k 0 = (i : Int)) (ha : a ≤ atF i) (ht : toF i ≤ toF p) (h : Ok (nxt R p k i) (i + 1)) : Ok (((p : Int), (k : Int), a) :: R) i
def Opn (L : List E3) : Prop := ∀ x ∈ L, ∃ (p k : Nat) (a : Int), x = ((p : Int), (k : Int), a) ∧ p < Args.A.length ∧ k < (kd p).length
theorem opn_nxt {R : List E3} {p k i : Nat} {a : Int} (h : Opn (((p : Int), (k : Int), a) :: R)) (hi : i < Args.A.length) : Opn (nxt R p k i) := by
 obtain ⟨p', k', a', e, h1, h2⟩ := h _ (List.mem_cons_self ..)
 obtain ⟨e1, e2, e3⟩ : (p : Int) = p' ∧ (k : Int) = k' ∧ a = a' := by injection e with e1 e2; injection e2 with e2 e3; exact ⟨e1, e2, e3⟩
 obtain rfl : p = p' := by omega
 intro x hx
 unfold nxt at hx
 rcases List.mem_append.1 hx with hx | hx
 ·by_cases c : 0 < (kd i).length
  ·rw [if_pos c] at hx
   obtain rfl := List.mem_singleton.1 hx
   exact ⟨i, 0, atF i, rfl, hi, c⟩
  ·rw [if_neg c] at hx; cases hx
 ·rcases List.mem_append.1 hx with hx | hx
  ·by_cases c : k + 1 < (kd p).length
   ·rw [if_pos c] at hx
    obtain rfl := List.mem_singleton.1 hx
    exact ⟨p, k + 1, toF i, rfl, h1, c⟩
   ·rw [if_neg c] at hx; cases hx
  ·exact h x (List.mem_cons_of_mem _ hx)
/-- one part is looked at, whatever it is -/
theorem inV {n i p k s : Nat} {a : Int} {S R : List E3} (h0 : 0 < i) (hi : i < Args.A.length) (hL : Args.A.length ≤ 1000000) (hs : s ≤ S.length) (h : S.take s = R ++ [((p : Int), (k : Int), a)]) (hp : p < Args.A.length) (hk : k < (kd p).length) (hR : R.length ≤ 1000000) :
  B_iOq1_1 n (Args.A.length : Int) (S, s, (i : Int)) = some (.inr (.inl ())) ∨ ((kd p).getD k 0 = (i : Int) ∧ a ≤ atF i ∧ toF i ≤ toF p) := by
 obtain ⟨rfl, hx, hR0⟩ := take_last hs h
 have hkl := kd_le p
 have hw : w64 (((R.length + 1 : Nat) : Int) - 1) = ((R.length : Nat) : Int) := by rw [w64_sm (by omega) (by omega)]; omega
 obtain ⟨b, T, rfl⟩ := ne_cons (S := S) (by omega)
 by_cases c : (kd p).getD k 0 = (i : Int) ∧ a ≤ atF i ∧ toF i ≤ toF p
 ·exact .inr c
 ·left
  unfold B_iOq1_1
  dsimp only
  rw [if_pos (by omega), if_pos (by omega)]
  simp only [Option.bind_some, Int.toNat_natCast]
  rw [if_pos (by omega), if_neg (by omega), hw]
  simp only [Int.toNat_natCast]
  rw [if_pos (by omega), if_pos (by omega), hx]
  simp only [Option.bind_some, Int.toNat_natCast]
  rw [if_pos (by omega)]
  have hk2 : ((0 : Int) ≤ (k : Int) ∧ (k : Int) < (((Args.A.getD p (0, 0, 0, 0, 0, 0, nl0, 0)).2.2.2.2.2.2.1.l.length : Nat) : Int)) := ⟨by omega, by have : k < (Args.A.getD p (0, 0, 0, 0, 0, 0, nl0, 0)).2.2.2.2.2.2.1.l.length := hk; omega⟩
  rw [if_pos hk2, if_pos (show k < (Args.A.getD p (0, 0, 0, 0, 0, 0, nl0, 0)).2.2.2.2.2.2.1.l.length from hk)]
  by_cases c1 : (kd p).getD k 0 = (i : Int)
  ·rw [if_pos (show (Args.A.getD p (0, 0, 0, 0, 0, 0, nl0, 0)).2.2.2.2.2.2.1.l.getD k 0 = (i : Int) from c1)]
   by_cases c2 : a ≤ atF i
   ·have c3 : ¬ toF i ≤ toF p := fun h => c ⟨c1, c2, h⟩
    rw [if_neg (show ¬ (Args.A.getD i (0, 0, 0, 0, 0, 0, nl0, 0)).2.2.1 < a from fun h => absurd (show atF i < a from h) (by omega)), if_pos (show (Args.A.getD i (0, 0, 0, 0, 0, 0, nl0, 0)).2.2.2.2.1 > (Args.A.getD p (0, 0, 0, 0, 0, 0, nl0, 0)).2.2.2.2.1 from (by have : ¬ toF i ≤ toF p := c3; show toF i > toF p; omega))]
   ·rw [if_pos (show (Args.A.getD i (0, 0, 0, 0, 0, 0, nl0, 0)).2.2.1 < a from (by show atF i < a; omega))]
  ·rw [if_neg (show ¬ (Args.A.getD p (0, 0, 0, 0, 0, 0, nl0, 0)).2.2.2.2.2.2.1.l.getD k 0 = (i : Int) from c1)]
def good (r : Unit ⊕ (List E3 × Nat)) : Prop := ∃ S s, r = .inr (S, s) ∧ (S = [] ∨ s = 0)
def inRes (o : Option (Unit ⊕ (List E3 × Nat))) : Option Bool := match o with
 | none => none
 | some (.inl _) => some false
 | some (.inr (c1_0, c1_1)) => match c1_0 with
  | [] => some true
  | c1_0a :: c1_0t => if ((c1_1 : Nat) : Int) = (0 : Int) then some true else some false
theorem inRun {n : Nat} (hL : Args.A.length ≤ 1000000) : ∀ (f i : Nat) (S : List E3) (s : Nat) (L : List E3), Args.A.length - i < f → 0 < i → i ≤ Args.A.length → s ≤ S.length → S.take s = L.reverse → L.length ≤ i → Opn L → ∃ r, iterM (B_iOq1_1 n (Args.A.length : Int)) f (S, s, (i : Int)) = some r ∧ (good r → Ok L i)
 | 0, i, S, s, L, h, _, _, _, _, _, _ => absurd h (Nat.not_lt_zero _)
 | f + 1, i, S, s, L, hf, h0, hi, hs, hS, hl, hO => by
  rw [iterM_succ]
  by_cases hN : i = Args.A.length
  ·have hB : B_iOq1_1 n (Args.A.length : Int) (S, s, (i : Int)) = some (.inr (.inr (S, match S with | [] => 0 | _ :: _ => s))) := by
    unfold B_iOq1_1
    cases S with
    | nil => dsimp only; rw [if_neg (by omega)]
    | cons b T => dsimp only; rw [if_neg (by omega)]
   rw [hB]
   refine ⟨_, rfl, fun ⟨S', s', e, h⟩ => ?_⟩
   injection e with e
   injection e with e1 e2
   subst e1
   have : L = [] := by
    cases S with
    | nil => rw [List.take_nil] at hS; exact List.reverse_eq_nil_iff.1 hS.symm
    | cons b T =>
     rcases h with h | h
     ·cases h
     ·rw [← e2] at h
      have h : s = 0 := h
      subst h
      exact List.reverse_eq_nil_iff.1 hS.symm
   rw [this, hN]
   exact .fin
  ·have hi' : i < Args.A.length := by omega
   cases L with
   | nil =>
    have hB : B_iOq1_1 n (Args.A.length : Int) (S, s, (i : Int)) = some (.inr (.inl ())) := by
     unfold B_iOq1_1
     cases S with
     | nil => dsimp only; rw [if_pos (by omega), if_pos (by omega)]; simp only [Option.bind_some]; rw [if_pos (by omega)]
     | cons b T =>
      have : s = 0 := by
       have := congrArg List.length hS
       rw [List.length_take, List.reverse_nil, List.length_nil] at this
       simp at this
       exact this
      dsimp only; rw [if_pos (by omega), if_pos (by omega)]; simp only [Option.bind_some]; rw [if_pos (by omega), if_pos (by omega)]
    rw [hB]
    exact ⟨_, rfl, fun ⟨S', s', e, _⟩ => by cases e⟩
   | cons x R =>
    obtain ⟨p, k, a, rfl, hp, hk⟩ := hO x (List.mem_cons_self ..)
    rw [List.reverse_cons] at hS
    rw [List.length_cons] at hl
    rcases inV (n := n) h0 hi' hL hs hS hp hk (by rw [List.length_reverse]; omega) with hB | ⟨c1, c2, c3⟩
    ·rw [hB]
     exact ⟨_, rfl, fun ⟨S', s', e, _⟩ => by cases e⟩
    ·obtain ⟨S', s', g1, g2, g3, g4⟩ := inB (n := n) h0 hi' hL hs hS hp hk c1 c2 c3 (by rw [List.length_reverse]; omega)
     rw [g1]
     have hn : S'.take s' = (nxt R p k i).reverse := by
      rw [g4]
      unfold nxt
      by_cases d1 : k + 1 < (kd p).length <;> by_cases d2 : 0 < (kd i).length <;> simp [d1, d2]
     have hln : (nxt R p k i).length ≤ i + 1 := by
      unfold nxt
      by_cases d1 : k + 1 < (kd p).length <;> by_cases d2 : 0 < (kd i).length <;> simp [d1, d2] <;> omega
     obtain ⟨r, q1, q2⟩ := inRun hL f (i + 1) S' s' (nxt R p k i) (by omega) (by omega) (by omega) g2 hn hln (opn_nxt hO hi')
     exact ⟨r, q1, fun h => .step hi' c1 c2 c3 (q2 h)⟩
theorem Ok.ks (hs : ∀ j, j < Args.A.length → atF j ≤ toF j) : ∀ (m i : Nat) (R : List E3) (p k : Nat) (a : Int), Args.A.length - i ≤ m → k < (kd p).length → Ok (((p : Int), (k : Int), a) :: R) i → ∃ e, i < e ∧ Ks p k i a e ∧ Ok R e
 | m, i, R, p, k, a, hm, hk, h => by
  generalize hx : (((p : Int), (k : Int), a) :: R) = X at h
  cases h with
  | fin => cases hx
  | @step R' p' k' i a' hi hv ha ht h =>
   injection hx with e1 e2
   injection e1 with e3 e4
   injection e4 with e4 e5
   obtain rfl : p = p' := by omega
   obtain rfl : k = k' := by omega
   subst e2
   subst e5
   obtain ⟨m, rfl⟩ : ∃ q, m = q + 1 := ⟨m - 1, by omega⟩
   have mid : ∃ e, i < e ∧ Ks i 0 (i + 1) (atF i) e ∧ Ok ((if k + 1 < (kd p).length then [((p : Int), ((k + 1 : Nat) : Int), toF i)] else []) ++ R) e := by
    unfold nxt at h
    by_cases c : 0 < (kd i).length
    ·rw [if_pos c] at h
     obtain ⟨e, g1, g2, g3⟩ := Ok.ks hs m (i + 1) _ i 0 (atF i) (by omega) c h
     exact ⟨e, by omega, g2, g3⟩
    ·rw [if_neg c] at h
     exact ⟨i + 1, by omega, .done (by omega) (hs i hi), h⟩
   obtain ⟨e, g1, g2, g3⟩ := mid
   by_cases c : k + 1 < (kd p).length
   ·rw [if_pos c] at g3
    obtain ⟨e', h1, h2, h3⟩ := Ok.ks hs m e R p (k + 1) (toF i) (by omega) c g3
    exact ⟨e', by omega, .kid hk hv hi ha g2 h2, h3⟩
   ·rw [if_neg c] at g3
    exact ⟨e, g1, .kid hk hv hi ha g2 (.done (by omega) ht), g3⟩
theorem Ok.nil {i : Nat} (h : Ok [] i) : i = Args.A.length := by
 generalize hx : ([] : List E3) = X at h
 cases h with
 | fin => rfl
 | step => cases hx
theorem prgCheck {n : Nat} (hn : Args.A.length < n) (hL : Args.A.length ≤ 1000000) : ∃ c, m_tCq1 n = some c ∧ (c = 0 → Tree) := by
 unfold m_tCq1
 by_cases c1 : ((Args.A.length : Nat) : Int) > 524288
 ·rw [if_pos c1]; exact ⟨3, rfl, fun h => by cases h⟩
 rw [if_neg c1]
 by_cases c2 : ((Args.A.length : Nat) : Int) = 0
 ·rw [if_pos c2]; exact ⟨2, rfl, fun h => by cases h⟩
 rw [if_neg c2]
 obtain ⟨m, rfl⟩ : ∃ m, n = m + 1 := ⟨n - 1, by omega⟩
 have hw : w64 ((0 : Int) + 1) = ((1 : Nat) : Int) := by decide
 have hin : ∃ b, m_iOq1 (m + 1) = some b ∧ (b = true → Ok (if 0 < (kd 0).length then [((0 : Nat), (0 : Nat), atF 0)] else []) 1) := by
  unfold m_iOq1 m_iOq1_1
  rw [iterM_succ]
  have hB0 : B_iOq1_1 (m + 1) (Args.A.length : Int) ([], 0, 0) = if (((kd 0).length : Nat) : Int) > 0 then some (.inl ([(0, 0, atF 0)], 1, w64 ((0 : Int) + 1))) else some (.inl ([], 0, w64 ((0 : Int) + 1))) := by
   unfold B_iOq1_1
   dsimp only
   rw [if_pos (by omega), if_pos (by omega)]
   simp only [Option.bind_some]
   rw [if_neg (by omega)]
   rfl
  have fin : ∀ o : Option (Unit ⊕ (List E3 × Nat)), (∃ r, o = some r ∧ (good r → Ok (if 0 < (kd 0).length then [((0 : Nat), (0 : Nat), atF 0)] else []) 1)) → ∃ b, inRes o = some b ∧ (b = true → Ok (if 0 < (kd 0).length then [((0 : Nat), (0 : Nat), atF 0)] else []) 1) := by
   intro o ⟨r, e, h⟩
   subst e
   rcases r with _ | ⟨S, s⟩
   ·exact ⟨false, rfl, fun h => by cases h⟩
   ·cases S with
    | nil => exact ⟨true, rfl, fun _ => h ⟨_, _, rfl, .inl rfl⟩⟩
    | cons x T =>
     by_cases c : ((s : Nat) : Int) = 0
     ·exact ⟨true, by show (if ((s : Nat) : Int) = (0 : Int) then some true else some false) = _; rw [if_pos c], fun _ => h ⟨_, _, rfl, .inr (by omega)⟩⟩
     ·exact ⟨false, by show (if ((s : Nat) : Int) = (0 : Int) then some true else some false) = _; rw [if_neg c], fun h => by cases h⟩
  show ∃ b, inRes _ = some b ∧ _
  refine fin _ ?_
  rw [hB0, hw]
  by_cases hz : 0 < (kd 0).length
  ·rw [if_pos (by omega), if_pos hz]
   simp only [Option.bind_some]
   exact inRun hL m 1 _ 1 [((0 : Nat), (0 : Nat), atF 0)] (by omega) (by omega) (by omega) (by simp) rfl (by simp) (fun x hx => by
    obtain rfl := List.mem_singleton.1 hx
    exact ⟨0, 0, atF 0, rfl, by omega, hz⟩)
  ·rw [if_neg (by omega), if_neg hz]
   simp only [Option.bind_some]
   exact inRun hL m 1 [] 0 [] (by omega) (by omega) (by omega) (by simp) rfl (by simp) (fun x hx => by cases hx)
 obtain ⟨b, e1, h1⟩ := hin
 rw [e1]
 simp only [Option.bind_some]
 cases b with
 | false => rw [if_neg (by decide)]; exact ⟨2, rfl, fun h => by cases h⟩
 | true =>
  rw [if_pos rfl]
  have hOk := h1 rfl
  obtain ⟨r, q1, q2⟩ := hoare (B := B_tCq1_1 (m + 1) (Args.A.length : Int)) (σ := Unit) (fun _ i => i) (fun i _ => ∀ j, j < i → SPi j ∧ (0 < j → (pt j).2.1 ≠ 1)) (fun r => r = .inr () → ∀ i, i < Args.A.length → SPi i ∧ (0 < i → (pt i).2.1 ≠ 1)) Args.A.length
   (fun i s hi hI => by
    obtain ⟨b, e1, e2⟩ := sound_tells (m + 1) (pt i).1 (pt i).2.1 (pt i).2.2.1 (pt i).2.2.2.1 (pt i).2.2.2.2.1 (pt i).2.2.2.2.2.1 (pt i).2.2.2.2.2.2.1 (pt i).2.2.2.2.2.2.2
    have hB : B_tCq1_1 (m + 1) (Args.A.length : Int) (i : Int) = ((m_soq1 (m + 1) (pt i).1 (pt i).2.1 (pt i).2.2.1 (pt i).2.2.2.1 (pt i).2.2.2.2.1 (pt i).2.2.2.2.2.1 (pt i).2.2.2.2.2.2.1 (pt i).2.2.2.2.2.2.2).bind fun y => if y = true then (if (pt i).2.1 = 1 then (if (i : Int) > 0 then some (.inr (.inl ())) else some (.inl (w64 ((i : Int) + 1)))) else some (.inl (w64 ((i : Int) + 1)))) else some (.inr (.inl ()))) := by
     unfold B_tCq1_1
     dsimp only
     rw [if_pos (by omega), if_pos (by omega)]
     simp only [Option.bind_some, Int.toNat_natCast]
     rfl
    rw [hB, e1, w64_inc (by omega)]
    simp only [Option.bind_some]
    cases b with
    | false =>
     rw [if_neg (by decide)]
     exact .inr ⟨.inl (), (fun h => by cases h), rfl⟩
    | true =>
     have hsp : SPi i := e2 rfl
     rw [if_pos rfl]
     have go : (0 < i → (pt i).2.1 ≠ 1) → ∀ j, j < i + 1 → SPi j ∧ (0 < j → (pt j).2.1 ≠ 1) := fun h j hj => by
      rcases Nat.lt_or_ge j i with h1 | h1
      ·exact hI j h1
      ·obtain rfl : j = i := by omega
       exact ⟨hsp, h⟩
     by_cases d1 : (pt i).2.1 = 1
     ·rw [if_pos d1]
      by_cases d2 : (i : Int) > 0
      ·rw [if_pos d2]; exact .inr ⟨.inl (), (fun h => by cases h), rfl⟩
      ·rw [if_neg d2]; exact .inl ⟨(), go fun h => absurd h (by omega), rfl⟩
     ·rw [if_neg d1]; exact .inl ⟨(), go fun _ => d1, rfl⟩)
   (fun s hI => by
    unfold B_tCq1_1
    dsimp only
    rw [if_neg (by omega)]
    exact ⟨_, fun _ => hI, rfl⟩) (m + 1) 0 () (Nat.zero_le _) (fun j hj => absurd hj (Nat.not_lt_zero _)) (by omega)
  have q2 : m_tCq1_1 (m + 1) (Args.A.length : Int) 0 = some r := q2
  rw [q2]
  rcases r with r | r
  ·exact ⟨2, rfl, fun h => by cases h⟩
  ·refine ⟨0, rfl, fun _ => ?_⟩
   have hall := q1 rfl
   have hat : ∀ j, j < Args.A.length → atF j ≤ toF j := fun j hj => (hall j hj).1.at_
   refine ⟨by omega, by omega, fun i hi => (hall i hi).1, fun i h0 hi => (hall i hi).2 h0, ?_⟩
   by_cases hz : 0 < (kd 0).length
   ·rw [if_pos hz] at hOk
    obtain ⟨e, g1, g2, g3⟩ := Ok.ks hat _ 1 [] 0 0 (atF 0) (Nat.le_refl _) hz hOk
    rw [← g3.nil]; exact g2
   ·rw [if_neg hz] at hOk
    rw [← hOk.nil]
    exact .done (by omega) (hat 0 (by omega))


theorem Tree.end (hT : Tree) {i : Nat} (hi : i < Args.A.length) : ∃ e, Ks i 0 (i + 1) (atF i) e ∧ i < e ∧ e ≤ Args.A.length := by
 rcases Nat.eq_zero_or_pos i with rfl | h0
 ·exact ⟨_, hT.ks, hi, Nat.le_refl _⟩
 ·obtain ⟨f, h1, h⟩ := hT.ks.cover i (by omega) hi
  have := h.lt
  exact ⟨f, h, by omega, h1⟩
theorem Tree.kid (hT : Tree) {i q : Nat} (hi : i < Args.A.length) (hq : q < (kd i).length) : ∃ c : Nat, (kd i).getD q 0 = (c : Int) ∧ i < c ∧ c < Args.A.length := by
 obtain ⟨f, h, _⟩ := hT.end hi
 obtain ⟨c, h1, h2, h3, h4⟩ := h.kids q (Nat.zero_le _) hq
 exact ⟨c, h1, by omega, h4⟩
theorem Ks.none {i next e : Nat} {a : Int} (h : Ks i 0 next a e) (h0 : (kd i).length = 0) : e = next := by
 cases h with
 | done _ _ => rfl
 | kid hk => omega


/-! copies -/
theorem ext_getD {L M : List Int} (hl : L.length = M.length) (h : ∀ j, j < M.length → L.getD j 0 = M.getD j 0) : L = M := by
 apply List.ext_getElem hl
 intro j h1 h2
 have := h j h2
 simpa [List.getD_eq_getElem?_getD, h1, h2] using this
theorem eachI {n : Nat} {x : NL} (hx : x.l.length ≤ 1000000) (hn : x.l.length < n) : m_eIq1 n x = some (if x.l = [] then .inl () else .inr (x.l, x.l.length)) := by
 unfold m_eIq1
 by_cases h0 : x.l = []
 ·rw [if_pos h0, if_pos (by rw [h0]; rfl)]
 ·have hp : 0 < x.l.length := List.length_pos_iff.2 h0
  rw [if_neg h0, if_neg (by omega), if_pos (by omega), if_pos (by omega), Int.toNat_natCast]
  obtain ⟨r, q1, q2⟩ := hoare (B := B_eIq1_1 n x.l.length x (x.l.length : Int)) (σ := List Int) (fun L i => (L, i)) (fun i L => L.length = x.l.length ∧ ∀ j, j < i → L.getD j 0 = x.l.getD j 0) (fun r => r = x.l) x.l.length
   (fun i L hi hI => by
    obtain ⟨hL, hI⟩ := hI
    refine .inl ⟨L.set i (x.l.getD i 0), ⟨by rw [List.length_set, hL], fun j hj => ?_⟩, ?_⟩
    ·rw [getD_set (by omega)]
     by_cases e : j = i
     ·rw [if_pos e, e]
     ·rw [if_neg e]; exact hI j (by omega)
    ·unfold B_eIq1_1
     dsimp only
     rw [if_pos (by omega), if_pos (by omega), Int.toNat_natCast, if_pos hi]
     simp only [Option.bind_some, m_treeCopy11q1]
     rw [if_pos (by omega), if_pos (by omega), w64_inc (by omega)])
   (fun L hI => by
    refine ⟨L, ext_getD hI.1 hI.2, ?_⟩
    unfold B_eIq1_1
    dsimp only
    rw [if_neg (by omega)])
   n 0 (List.replicate x.l.length 0) (Nat.zero_le _) ⟨List.length_replicate, fun j hj => by omega⟩ (by omega)
  show ((iterM _ n (_, ((0 : Nat) : Int))).bind _) = _
  rw [q2, q1]
  rfl
theorem moved_ok {n : Nat} (a0 a1 a2 a3 a4 a5 : Int) {x : NL} (a7 : Int) (hx : x.l.length ≤ 1000000) (hn : x.l.length < n) : ∃ k, m_treeCopy1q1 n a0 a1 a2 a3 a4 a5 x a7 = some k ∧ k.l = x.l := by
 unfold m_treeCopy1q1 m_treemovedq1
 rw [eachI hx hn]
 by_cases h0 : x.l = []
 ·rw [if_pos h0]
  exact ⟨nl0, rfl, h0.symm⟩
 ·rw [if_neg h0]
  dsimp only
  rw [if_pos rfl, dif_pos x.le]
  exact ⟨_, rfl, rfl⟩
/-- rows that are the tree's, Met by Met -/
structure Sf (f : Nat → Int) (L : List P8) : Prop where
 len : L.length = Args.A.length
 row : ∀ i, i < Args.A.length → ∃ k : NL, L.getD i (0, 0, 0, 0, 0, 0, nl0, 0) = ((pt i).1, (pt i).2.1, (pt i).2.2.1, (pt i).2.2.2.1, (pt i).2.2.2.2.1, (pt i).2.2.2.2.2.1, k, f i) ∧ k.l = kd i
def metF (i : Nat) : Int := (pt i).2.2.2.2.2.2.2
theorem copy_ok {n : Nat} (hA : 0 < Args.A.length) (hL : Args.A.length ≤ 1000000) (hk : ∀ i, (kd i).length ≤ Args.A.length) (hn : Args.A.length < n) : ∃ L, m_treeCopyq1 n = some (L, Args.A.length) ∧ Sf metF L := by
 unfold m_treeCopyq1 m_ePq1
 rw [if_neg (by omega), if_pos (by omega), if_pos (by omega), Int.toNat_natCast]
 obtain ⟨r, q1, q2⟩ := hoare (B := B_ePq1_1 n Args.A.length (Args.A.length : Int)) (σ := List P8) (fun L i => (L, i))
  (fun i L => L.length = Args.A.length ∧ ∀ j, j < i → ∃ k : NL, L.getD j (0, 0, 0, 0, 0, 0, nl0, 0) = ((pt j).1, (pt j).2.1, (pt j).2.2.1, (pt j).2.2.2.1, (pt j).2.2.2.2.1, (pt j).2.2.2.2.2.1, k, metF j) ∧ k.l = kd j) (fun r => Sf metF r) Args.A.length
  (fun i L hi hI => by
   obtain ⟨hL', hI⟩ := hI
   obtain ⟨k, e1, e2⟩ := moved_ok (n := n) (pt i).1 (pt i).2.1 (pt i).2.2.1 (pt i).2.2.2.1 (pt i).2.2.2.2.1 (pt i).2.2.2.2.2.1 (x := (pt i).2.2.2.2.2.2.1) (pt i).2.2.2.2.2.2.2 (Nat.le_trans (hk i) hL) (Nat.lt_of_le_of_lt (hk i) hn)
   refine .inl ⟨L.set i ((pt i).1, (pt i).2.1, (pt i).2.2.1, (pt i).2.2.2.1, (pt i).2.2.2.2.1, (pt i).2.2.2.2.2.1, k, metF i), ⟨by rw [List.length_set, hL'], fun j hj => ?_⟩, ?_⟩
   ·rw [getD_set (by omega)]
    by_cases e : j = i
    ·rw [if_pos e, e]; exact ⟨k, rfl, e2⟩
    ·rw [if_neg e]; exact hI j (by omega)
   ·unfold B_ePq1_1
    dsimp only
    rw [if_pos (by omega), if_pos (by omega), Int.toNat_natCast]
    show ((some (pt i)).bind _) = _
    dsimp only [Option.bind_some]
    rw [e1]
    dsimp only [Option.bind_some]
    rw [if_pos (by omega), if_pos (by omega), w64_inc (by omega)]
    rfl)
  (fun L hI => by
   refine ⟨L, ⟨hI.1, hI.2⟩, ?_⟩
   unfold B_ePq1_1
   dsimp only
   rw [if_neg (by omega)])
  n 0 (List.replicate Args.A.length (0, 0, 0, 0, 0, 0, nl0, 0)) (Nat.zero_le _) ⟨List.length_replicate, fun j hj => by omega⟩ (by omega)
 refine ⟨r, ?_, q1⟩
 have q2 : m_ePq1_1 n Args.A.length (Args.A.length : Int) (List.replicate Args.A.length (0, 0, 0, 0, 0, 0, nl0, 0), 0) = some r := q2
 rw [q2]
 rfl
/-- the i-th row; a row with other kids -/
def at8 (L : List P8) (i : Nat) : P8 := L.getD i (0, 0, 0, 0, 0, 0, nl0, 0)
def wk (r : P8) (k : NL) (m : Int) : P8 := (r.1, r.2.1, r.2.2.1, r.2.2.2.1, r.2.2.2.2.1, r.2.2.2.2.2.1, k, m)
def kl (r : P8) : List Int := r.2.2.2.2.2.2.1.l
def mt (r : P8) : Int := r.2.2.2.2.2.2.2
theorem at_set {L : List P8} {i j : Nat} {x : P8} (h : i < L.length) : at8 (L.set i x) j = if j = i then x else at8 L j := getD_set h
/-- a copy of rows of one's own -/
theorem copy2 {n : Nat} {L : List P8} (h0 : 0 < L.length) (hL : L.length ≤ 1000000) (hk : ∀ i, i < L.length → (kl (at8 L i)).length ≤ 1000000 ∧ (kl (at8 L i)).length < n) (hn : L.length < n) : ∃ M : List P8, m_treeCopyq2 n L L.length L.length = some M ∧ M.length = L.length ∧ ∀ i, i < L.length → ∃ k : NL, at8 M i = wk (at8 L i) k (mt (at8 L i)) ∧ k.l = kl (at8 L i) := by
 unfold m_treeCopyq2 m_ePq2
 rw [if_neg (by omega), if_pos (by omega), if_pos (by omega), Int.toNat_natCast]
 obtain ⟨r, q1, q2⟩ := hoare (B := B_ePq2_1 n L L.length L.length L.length (L.length : Int)) (σ := List P8) (fun M i => (M, i))
  (fun i M => M.length = L.length ∧ ∀ j, j < i → ∃ k : NL, at8 M j = wk (at8 L j) k (mt (at8 L j)) ∧ k.l = kl (at8 L j))
  (fun M => M.length = L.length ∧ ∀ j, j < L.length → ∃ k : NL, at8 M j = wk (at8 L j) k (mt (at8 L j)) ∧ k.l = kl (at8 L j)) L.length
  (fun i M hi hI => by
   obtain ⟨hL', hI⟩ := hI
   obtain ⟨k, e1, e2⟩ := moved_ok (n := n) (at8 L i).1 (at8 L i).2.1 (at8 L i).2.2.1 (at8 L i).2.2.2.1 (at8 L i).2.2.2.2.1 (at8 L i).2.2.2.2.2.1 (x := (at8 L i).2.2.2.2.2.2.1) (at8 L i).2.2.2.2.2.2.2 (hk i hi).1 (hk i hi).2
   refine .inl ⟨M.set i (wk (at8 L i) k (mt (at8 L i))), ⟨by rw [List.length_set, hL'], fun j hj => ?_⟩, ?_⟩
   ·rw [at_set (by omega)]
    by_cases e : j = i
    ·rw [if_pos e, e]; exact ⟨k, rfl, e2⟩
    ·rw [if_neg e]; exact hI j (by omega)
   ·unfold B_ePq2_1
    dsimp only
    rw [if_pos (by omega), if_pos (by omega), Int.toNat_natCast, if_pos hi]
    show ((some (at8 L i)).bind _) = _
    dsimp only [Option.bind_some]
    rw [e1]
    dsimp only [Option.bind_some]
    rw [if_pos (by omega), if_pos (by omega), w64_inc (by omega)]
    rfl)
  (fun M hI => by
   refine ⟨M, hI, ?_⟩
   unfold B_ePq2_1
   dsimp only
   rw [if_neg (by omega)])
  n 0 (List.replicate L.length (0, 0, 0, 0, 0, 0, nl0, 0)) (Nat.zero_le _) ⟨List.length_replicate, fun j hj => by omega⟩ (by omega)
 refine ⟨r, ?_, q1⟩
 have q2 : m_ePq2_1 n L L.length L.length L.length (L.length : Int) (List.replicate L.length (0, 0, 0, 0, 0, 0, nl0, 0), 0) = some r := q2
 rw [q2]
 rfl

end Go.Proofs.Ytggbmhhikafdhaa.ted16
