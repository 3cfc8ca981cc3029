/-
  The pure side. No condition.
-/
import Derived.Test.YtgiceoflfmmlcaaDoorRkxBTold
import Derived.IntWalk
set_option linter.unusedSimpArgs false
set_option linter.unusedVariables false
set_option linter.unusedSectionVars false
set_option linter.unnecessarySimpa false
noncomputable section
namespace Go.Proofs.YtgiceoflfmmlcaaDoor.rkx02
open Go Go.Proofs.YtgiceoflfmmlcaaDoor Ax
variable [Args]


theorem w64_id {x : Int} (h1 : -9223372036854775808 ≤ x) (h2 : x < 9223372036854775808) : w64 x = x := IntWalk.i64_in _ (by omega)
theorem qoy_ {x : Int} (h1 : -1000000000000 ≤ x) (h2 : x ≤ 1000000000000) : w64 x = x := w64_id (by omega) (by omega)
theorem qe1_ {i : Nat} (h : i ≤ 1000000000) : w64 ((i : Int) + 1) = ((i + 1 : Nat) : Int) := by rw [qoy_ (by omega) (by omega)]; rfl
theorem hoare {σ st ρ : Type} {B : st → Option (st ⊕ ρ)} (S : σ → Int → st) (I : Nat → σ → Prop) (Q : ρ → Prop) (len : Nat)
  (h1 : ∀ (i : Nat) (s : σ), i < len → I i s → (∃ s', I (i + 1) s' ∧ B (S s (i : Int)) = some (.inl (S s' ((i + 1 : Nat) : Int)))) ∨ ∃ r, Q r ∧ B (S s (i : Int)) = some (.inr r))
  (h2 : ∀ s, I len s → ∃ r, Q r ∧ B (S s (len : Int)) = some (.inr r)) : ∀ (n i : Nat) (s : σ), i ≤ len → I i s → len - i < n → ∃ r, Q r ∧ iterM B n (S s (i : Int)) = some r
 | 0, i, s, _, _, hm => absurd hm (Nat.not_lt_zero _)
 | n + 1, i, s, hl, hi, hm => by
  have main : (∃ s', i < len ∧ I (i + 1) s' ∧ B (S s (i : Int)) = some (.inl (S s' ((i + 1 : Nat) : Int)))) ∨ ∃ r, Q r ∧ B (S s (i : Int)) = some (.inr r) := by
   by_cases hlt : i < len
   ·rcases h1 i s hlt hi with ⟨s', a, b⟩ | h
    ·exact .inl ⟨s', hlt, a, b⟩
    ·exact .inr h
   ·obtain rfl : i = len := by omega
    exact .inr (h2 s hi)
  rcases main with ⟨s', g0, g1, g3⟩ | ⟨r, g1, g2⟩
  ·obtain ⟨r, q1, q2⟩ := hoare S I Q len h1 h2 n (i + 1) s' (by omega) g1 (by omega)
   exact ⟨r, q1, by rw [qqj_, g3]; exact q2⟩
  ·exact ⟨r, g1, by rw [qqj_, g2]; rfl⟩
theorem getD_mem {α : Type} {l : List α} {i : Nat} {d : α} (h : i < l.length) : l.getD i d ∈ l := by
 rw [List.getD_eq_getElem?_getD, List.getElem?_eq_getElem h]; exact List.getElem_mem h
theorem qqu_ {α : Type} {l : List α} {i j : Nat} {x d : α} (h : i < l.length) : (l.set i x).getD j d = if j = i then x else l.getD j d := by
 simp only [List.getD_eq_getElem?_getD, List.getElem?_set]
 by_cases hj : i = j
 ·subst hj; simp [h]
 ·rw [if_neg hj, if_neg (Ne.symm hj)]
abbrev Lang := List Nat → Prop
def lcat (a b : Lang) : Lang := fun w => ∃ x y, w = x ++ y ∧ a x ∧ b y
def leps : Lang := fun w => w = []
def lcats (l : List Lang) : Lang := l.foldr lcat leps
inductive lplus (a : Lang) : Lang
 | one {x} (h : a x) : lplus a x
 | more {x y} (h : lplus a x) (h2 : a y) : lplus a (x ++ y)
def lstar (a : Lang) : Lang := fun w => w = [] ∨ lplus a w
def sem (k : Nat) (p : Nat → Bool) (ls : List Lang) : Lang := fun w =>
 if k = 1 then w = []
 else if k = 2 then ∃ b, w = [b] ∧ p b = true
 else if k = 3 then lcats ls w
 else if k = 4 then ∃ l ∈ ls, l w
 else if k = 5 then ∃ l, ls = [l] ∧ lstar l w
 else if k = 6 then ∃ l, ls = [l] ∧ lplus l w
 else if k = 7 then w = [] ∨ ∃ l, ls = [l] ∧ l w
 else False
structure Nd where
 k : Nat
 p : Nat → Bool
 kids : List Nat
def Lf (nd : Nat → Nd) : Nat → Nat → Lang
 | 0, _ => fun _ => False
 | f + 1, i => sem (nd i).k (nd i).p ((nd i).kids.map (Lf nd f))
def Lo (nd : Nat → Nd) (N : Nat) : Prop := ∀ i, i < N → ∀ k ∈ (nd i).kids, k < i
theorem Lf_stable {nd : Nat → Nd} {N : Nat} (hv : Lo nd N) : ∀ f i, i < N → i < f → Lf nd f i = Lf nd (i + 1) i := by
 intro f i
 induction i using Nat.strongRecOn generalizing f with
 | ind i ih =>
  intro hi hf
  obtain ⟨f, rfl⟩ : ∃ g, f = g + 1 := ⟨f - 1, by omega⟩
  show sem _ _ _ = sem _ _ _
  congr 1
  apply List.map_congr_left
  intro k hk
  have := hv i hi k hk
  rw [ih k this f (by omega) (by omega), ih k this i (by omega) this]
def L (nd : Nat → Nd) (i : Nat) : Lang := Lf nd (i + 1) i
theorem L_eq {nd : Nat → Nd} {N i : Nat} (hv : Lo nd N) (hi : i < N) : L nd i = sem (nd i).k (nd i).p ((nd i).kids.map (L nd)) := by
 show sem _ _ _ = sem _ _ _
 congr 1
 apply List.map_congr_left
 intro k hk
 have := hv i hi k hk
 exact Lf_stable hv i k (by omega) this
def seg (w : List Nat) (q p : Nat) : List Nat := (w.drop q).take (p - q)
theorem seg_nil (w : List Nat) (p : Nat) : seg w p p = [] := by simp [seg]
theorem seg_len {w : List Nat} {q p : Nat} (h : q ≤ p) (hp : p ≤ w.length) : (seg w q p).length = p - q := by
 unfold seg
 rw [List.length_take, List.length_drop]
 omega
theorem seg_ne {w : List Nat} {q p : Nat} (h : q < p) (hp : p ≤ w.length) : seg w q p ≠ [] := fun e => by
 have := seg_len (w := w) (q := q) (p := p) (by omega) hp
 rw [e] at this
 simp at this
 omega
theorem seg_app {w : List Nat} {q s p : Nat} (h : q ≤ s) (h2 : s ≤ p) : seg w q s ++ seg w s p = seg w q p := by
 unfold seg
 have e : w.drop s = (w.drop q).drop (s - q) := by rw [List.drop_drop]; congr 1; omega
 rw [e, show p - q = (s - q) + (p - s) by omega, List.take_add]
theorem seg_split {w : List Nat} {q p : Nat} (h : q ≤ p) (hp : p ≤ w.length) {x y : List Nat} (e : seg w q p = x ++ y) : ∃ s, q ≤ s ∧ s ≤ p ∧ x = seg w q s ∧ y = seg w s p := by
 have hl := seg_len h hp
 rw [e, List.length_append] at hl
 have h1 : (seg w q p).take x.length = x := by rw [e, List.take_left']; rfl
 have h2 : (seg w q p).drop x.length = y := by rw [e, List.drop_left']; rfl
 have hn : x.length ≤ p - q := by omega
 refine ⟨q + x.length, by omega, by omega, ?_, ?_⟩
 ·generalize x.length = n at h1 hn ⊢
  rw [← h1]
  unfold seg
  rw [List.take_take, show q + n - q = n by omega, Nat.min_eq_left hn]
 ·generalize x.length = n at h2 hn ⊢
  rw [← h2]
  unfold seg
  rw [List.drop_take, List.drop_drop]
  congr 1
  omega
theorem seg_one {w : List Nat} {p : Nat} (h : p < w.length) : seg w p (p + 1) = [w[p]] := by
 unfold seg
 rw [show p + 1 - p = 1 by omega, List.drop_eq_getElem_cons h]
 rfl
theorem seg_sing {w : List Nat} {q p b : Nat} (h : q ≤ p) (hp : p ≤ w.length) (e : seg w q p = [b]) : p = q + 1 := by
 have := seg_len h hp
 rw [e] at this
 simp at this
 omega
def accC (e null : Nat → Bool) : List Nat → Bool → Bool
 | [], acc => acc
 | k :: l, acc => accC e null l (e k || acc && null k)
structure Run (nd : Nat → Nd) (N : Nat) (w : List Nat) (null : Nat → Bool) (B E : Nat → Nat → Bool) : Prop where
 lo : Lo nd N
 nul : ∀ i, i < N → (null i = true ↔ L nd i [])
 kd : ∀ i, i < N → 1 ≤ (nd i).k ∧ (nd i).k ≤ 7
 kid1 : ∀ i, i < N → 5 ≤ (nd i).k → ∃ c, (nd i).kids = [c]
 e0 : ∀ i, i < N → E 0 i = false
 emp : ∀ p i, i < N → p ≤ w.length → (nd i).k = 1 → E p i = false
 cls : ∀ p i, i < N → p < w.length → (nd i).k = 2 → E (p + 1) i = (B p i && (nd i).p (w.getD p 0))
 catE : ∀ p i, i < N → p ≤ w.length → (nd i).k = 3 → E p i = accC (E p) null (nd i).kids false
 othE : ∀ p i, i < N → p ≤ w.length → 4 ≤ (nd i).k → E p i = (nd i).kids.any (E p)
 catB : ∀ p i, i < N → p ≤ w.length → (nd i).k = 3 → ∀ j, j < (nd i).kids.length → B p ((nd i).kids.getD j 0) = if j = 0 then B p i else (E p ((nd i).kids.getD (j - 1) 0) || B p ((nd i).kids.getD (j - 1) 0) && null ((nd i).kids.getD (j - 1) 0))
 altB : ∀ p i, i < N → p ≤ w.length → (nd i).k = 4 ∨ (nd i).k = 7 → ∀ k ∈ (nd i).kids, B p k = B p i
 repB : ∀ p i, i < N → p ≤ w.length → (nd i).k = 5 ∨ (nd i).k = 6 → ∀ k ∈ (nd i).kids, B p k = (B p i || E p k)
def Good (nd : Nat → Nd) (w : List Nat) (B E : Nat → Nat → Bool) (i : Nat) : Prop := ∀ p, p ≤ w.length → (E p i = true ↔ ∃ q, q < p ∧ B q i = true ∧ L nd i (seg w q p))
theorem cat_run {nd : Nat → Nd} {w : List Nat} {null : Nat → Bool} {B E : Nat → Nat → Bool} : ∀ (l : List Nat) (b f : Nat → Bool),
  (∀ k ∈ l, Good nd w B E k) → (∀ k ∈ l, (null k = true ↔ L nd k [])) →
  (∀ p, p ≤ w.length → ∀ j, j < l.length → B p (l.getD j 0) = if j = 0 then (f p || b p) else (E p (l.getD (j - 1) 0) || B p (l.getD (j - 1) 0) && null (l.getD (j - 1) 0))) →
  ∀ p, p ≤ w.length → (accC (E p) null l (f p) = true ↔ (∃ q, q ≤ p ∧ f q = true ∧ lcats (l.map (L nd)) (seg w q p)) ∨ ∃ q, q < p ∧ b q = true ∧ lcats (l.map (L nd)) (seg w q p))
 | [], b, f, _, _, _, p, hp => by
  show f p = true ↔ _
  constructor
  ·intro h
   exact .inl ⟨p, Nat.le_refl _, h, seg_nil w p⟩
  ·rintro (⟨q, h1, h2, h3⟩ | ⟨q, h1, h2, h3⟩)
   ·have h3 : seg w q p = [] := h3
    have := seg_len h1 hp
    rw [h3] at this
    obtain rfl : q = p := by simp at this; omega
    exact h2
   ·exact absurd h3 (seg_ne h1 hp)
 | k :: l, b, f, hG, hN, hB, p, hp => by
  have hk := hG k (List.mem_cons_self ..)
  have hn := hN k (List.mem_cons_self ..)
  have hb0 : ∀ p, p ≤ w.length → B p k = (f p || b p) := fun p hp => hB p hp 0 (by simp)
  -- behind k: what ended with bytes, and what k did not need
  have ih := cat_run (nd := nd) (w := w) (null := null) (B := B) (E := E) l (fun q => b q && null k) (fun q => E q k || f q && null k) (fun x hx => hG x (List.mem_cons_of_mem _ hx)) (fun x hx => hN x (List.mem_cons_of_mem _ hx)) (fun p hp j hj => by
   have := hB p hp (j + 1) (by simp; omega)
   rw [if_neg (by omega)] at this
   rw [show (k :: l).getD (j + 1) 0 = l.getD j 0 from rfl] at this
   rw [this]
   by_cases h0 : j = 0
   ·subst h0
    rw [if_pos rfl]
    show (E p k || B p k && null k) = _
    rw [hb0 p hp]
    cases E p k <;> cases f p <;> cases b p <;> cases null k <;> rfl
   ·rw [if_neg h0]
    obtain ⟨j, rfl⟩ : ∃ i, j = i + 1 := ⟨j - 1, by omega⟩
    rfl) p hp
  show accC (E p) null l (E p k || f p && null k) = true ↔ _
  rw [ih]
  show _ ↔ (∃ q, q ≤ p ∧ f q = true ∧ lcat (L nd k) (lcats (l.map (L nd))) (seg w q p)) ∨ ∃ q, q < p ∧ b q = true ∧ lcat (L nd k) (lcats (l.map (L nd))) (seg w q p)
  constructor
  ·rintro (⟨q, h1, h2, h3⟩ | ⟨q, h1, h2, h3⟩)
   ·rw [Bool.or_eq_true, Bool.and_eq_true] at h2
    rcases h2 with h2 | ⟨h2, h4⟩
    ·obtain ⟨s, s1, s2, s3⟩ := (hk q (by omega)).1 h2
     have e := seg_app (w := w) (Nat.le_of_lt s1) h1
     rw [hb0 s (by omega), Bool.or_eq_true] at s2
     rcases s2 with s2 | s2
     ·exact .inl ⟨s, by omega, s2, _, _, e.symm, s3, h3⟩
     ·exact .inr ⟨s, by omega, s2, _, _, e.symm, s3, h3⟩
    ·exact .inl ⟨q, h1, h2, [], _, rfl, hn.1 h4, h3⟩
   ·rw [Bool.and_eq_true] at h2
    exact .inr ⟨q, h1, h2.1, [], _, rfl, hn.1 h2.2, h3⟩
  ·have main : ∀ q, q ≤ p → (f q = true ∨ (b q = true ∧ q < p)) → lcat (L nd k) (lcats (l.map (L nd))) (seg w q p) → (∃ q, q ≤ p ∧ (E q k || f q && null k) = true ∧ lcats (l.map (L nd)) (seg w q p)) ∨ ∃ q, q < p ∧ (b q && null k) = true ∧ lcats (l.map (L nd)) (seg w q p) := by
    rintro q h1 h2 ⟨x, y, e, hx, hy⟩
    obtain ⟨s, s1, s2, rfl, rfl⟩ := seg_split h1 hp e
    rcases Nat.lt_or_ge q s with c | c
    ·refine .inl ⟨s, s2, ?_, hy⟩
     have : B q k = true := by
      rw [hb0 q (by omega), Bool.or_eq_true]
      rcases h2 with h2 | h2
      ·exact .inl h2
      ·exact .inr h2.1
     rw [(hk s (by omega)).2 ⟨q, c, this, hx⟩, Bool.true_or]
    ·obtain rfl : s = q := by omega
     rw [seg_nil] at hx
     have h4 := hn.2 hx
     rcases h2 with h2 | ⟨h2, h5⟩
     ·exact .inl ⟨s, s2, by rw [h2, h4]; simp, hy⟩
     ·exact .inr ⟨s, h5, by rw [h2, h4]; rfl, hy⟩
   rintro (⟨q, h1, h2, h3⟩ | ⟨q, h1, h2, h3⟩)
   ·exact main q h1 (.inl h2) h3
   ·exact main q (by omega) (.inr ⟨h2, h1⟩) h3
theorem lplus_last {a : Lang} {w : List Nat} (h : lplus a w) (hw : w ≠ []) : ∃ x y, w = x ++ y ∧ y ≠ [] ∧ a y ∧ (x = [] ∨ lplus a x) := by
 induction h with
 | one h => exact ⟨[], _, rfl, hw, h, .inl rfl⟩
 | @more x y h h2 ih =>
  by_cases hy : y = []
  ·subst hy
   rw [List.append_nil] at hw ⊢
   exact ih hw
  ·exact ⟨x, y, rfl, hy, h2, .inr h⟩
theorem rep_run {nd : Nat → Nd} {w : List Nat} {B E : Nat → Nat → Bool} {k : Nat} {b : Nat → Bool} (hk : Good nd w B E k) (hB : ∀ p, p ≤ w.length → B p k = (b p || E p k)) : ∀ p, p ≤ w.length → (E p k = true ↔ ∃ q, q < p ∧ b q = true ∧ lplus (L nd k) (seg w q p)) := by
 intro p
 induction p using Nat.strongRecOn with
 | ind p ih =>
  intro hp
  rw [hk p hp]
  constructor
  ·rintro ⟨s, s1, s2, s3⟩
   rw [hB s (by omega), Bool.or_eq_true] at s2
   rcases s2 with s2 | s2
   ·exact ⟨s, s1, s2, .one s3⟩
   ·obtain ⟨q, h1, h2, h3⟩ := (ih s s1 (by omega)).1 s2
    refine ⟨q, by omega, h2, ?_⟩
    rw [← seg_app (w := w) (Nat.le_of_lt h1) (Nat.le_of_lt s1)]
    exact .more h3 s3
  ·rintro ⟨q, h1, h2, h3⟩
   obtain ⟨x, y, e, hy, hay, hx⟩ := lplus_last h3 (seg_ne h1 hp)
   obtain ⟨s, s1, s2, rfl, rfl⟩ := seg_split (Nat.le_of_lt h1) hp e
   have hs : s < p := Nat.lt_of_le_of_ne s2 fun e => hy (by rw [e, seg_nil])
   refine ⟨s, hs, ?_, hay⟩
   rw [hB s (by omega), Bool.or_eq_true]
   rcases hx with hx | hx
   ·have := seg_len (w := w) s1 (by omega)
    rw [hx] at this
    obtain rfl : q = s := by simp at this; omega
    exact .inl h2
   ·rcases Nat.lt_or_ge q s with c | c
    ·exact .inr ((ih s hs (by omega)).2 ⟨q, c, h2, hx⟩)
    ·obtain rfl : q = s := by omega
     exact .inl h2
theorem Run.good {nd : Nat → Nd} {N : Nat} {w : List Nat} {null : Nat → Bool} {B E : Nat → Nat → Bool} (R : Run nd N w null B E) : ∀ i, i < N → Good nd w B E i := by
 intro i
 induction i using Nat.strongRecOn with
 | ind i ih =>
  intro hi p hp
  have hL := L_eq R.lo hi
  have hkids : ∀ k ∈ (nd i).kids, Good nd w B E k := fun k hk => by
   have := R.lo i hi k hk
   exact ih k this (by omega)
  have hnull : ∀ k ∈ (nd i).kids, (null k = true ↔ L nd k []) := fun k hk => by
   have := R.lo i hi k hk
   exact R.nul k (by omega)
  obtain ⟨k1, k2⟩ := R.kd i hi
  rw [hL]
  have hc : (nd i).k = 1 ∨ (nd i).k = 2 ∨ (nd i).k = 3 ∨ (nd i).k = 4 ∨ (nd i).k = 5 ∨ (nd i).k = 6 ∨ (nd i).k = 7 := by omega
  rcases hc with c | c | c | c | c | c | c
  ·rw [R.emp p i hi hp c, c]
   simp only [sem]
   constructor
   ·intro h; cases h
   ·rintro ⟨q, h1, _, h3⟩
    exact absurd h3 (seg_ne h1 hp)
  ·rw [c]
   simp only [sem]
   constructor
   ·intro h
    cases p with
    | zero => rw [R.e0 i hi] at h; cases h
    | succ p =>
     rw [R.cls p i hi hp c, Bool.and_eq_true] at h
     refine ⟨p, by omega, h.1, _, seg_one hp, ?_⟩
     have := h.2
     rw [List.getD_eq_getElem?_getD, List.getElem?_eq_getElem hp] at this
     exact this
   ·rintro ⟨q, h1, h2, h3⟩
    obtain ⟨b, h4, h5⟩ := h3
    obtain rfl := seg_sing (Nat.le_of_lt h1) hp h4
    rw [R.cls q i hi hp c, h2, Bool.true_and]
    rw [seg_one hp] at h4
    rw [List.getD_eq_getElem?_getD, List.getElem?_eq_getElem hp, Option.getD_some, List.head_eq_of_cons_eq h4]
    exact h5
  ·have h := cat_run (nd := nd) (w := w) (null := null) (B := B) (E := E) (nd i).kids (fun q => B q i) (fun _ => false) hkids hnull (fun p hp j hj => by rw [R.catB p i hi hp c j hj, Bool.false_or]) p hp
   rw [R.catE p i hi hp c, h, c]
   simp only [sem]
   constructor
   ·rintro (⟨q, _, h2, _⟩ | h)
    ·cases h2
    ·exact h
   ·exact .inr
  ·rw [R.othE p i hi hp (by omega), c, List.any_eq_true]
   simp only [sem]
   constructor
   ·rintro ⟨k, hk, he⟩
    obtain ⟨q, h1, h2, h3⟩ := (hkids k hk p hp).1 he
    rw [R.altB q i hi (by omega) (.inl c) k hk] at h2
    exact ⟨q, h1, h2, _, List.mem_map.2 ⟨k, hk, rfl⟩, h3⟩
   ·rintro ⟨q, h1, h2, l, hl, h3⟩
    obtain ⟨k, hk, rfl⟩ := List.mem_map.1 hl
    exact ⟨k, hk, (hkids k hk p hp).2 ⟨q, h1, by rw [R.altB q i hi (by omega) (.inl c) k hk]; exact h2, h3⟩⟩
  ·obtain ⟨k, hk⟩ := R.kid1 i hi (by omega)
   have hm : k ∈ (nd i).kids := by rw [hk]; simp
   have h := rep_run (b := fun q => B q i) (hkids k hm) (fun p hp => R.repB p i hi hp (.inl c) k hm) p hp
   rw [R.othE p i hi hp (by omega), c, hk]
   simp only [sem, List.any_cons, List.any_nil, Bool.or_false, List.map_cons, List.map_nil]
   rw [h]
   constructor
   ·rintro ⟨q, h1, h2, h3⟩
    exact ⟨q, h1, h2, _, rfl, .inr h3⟩
   ·rintro ⟨q, h1, h2, l, hl, h3⟩
    obtain rfl := (List.cons.inj hl).1
    rcases h3 with h3 | h3
    ·exact absurd h3 (seg_ne h1 hp)
    ·exact ⟨q, h1, h2, h3⟩
  ·obtain ⟨k, hk⟩ := R.kid1 i hi (by omega)
   have hm : k ∈ (nd i).kids := by rw [hk]; simp
   have h := rep_run (b := fun q => B q i) (hkids k hm) (fun p hp => R.repB p i hi hp (.inr c) k hm) p hp
   rw [R.othE p i hi hp (by omega), c, hk]
   simp only [sem, List.any_cons, List.any_nil, Bool.or_false, List.map_cons, List.map_nil]
   rw [h]
   constructor
   ·rintro ⟨q, h1, h2, h3⟩
    exact ⟨q, h1, h2, _, rfl, h3⟩
   ·rintro ⟨q, h1, h2, l, hl, h3⟩
    obtain rfl := (List.cons.inj hl).1
    exact ⟨q, h1, h2, h3⟩
  ·obtain ⟨k, hk⟩ := R.kid1 i hi (by omega)
   have hm : k ∈ (nd i).kids := by rw [hk]; simp
   rw [R.othE p i hi hp (by omega), c, hk]
   simp only [sem, List.any_cons, List.any_nil, Bool.or_false, List.map_cons, List.map_nil]
   rw [hkids k hm p hp]
   constructor
   ·rintro ⟨q, h1, h2, h3⟩
    rw [R.altB q i hi (by omega) (.inr c) k hm] at h2
    exact ⟨q, h1, h2, .inr ⟨_, rfl, h3⟩⟩
   ·rintro ⟨q, h1, h2, h3⟩
    rcases h3 with h3 | ⟨l, hl, h3⟩
    ·exact absurd h3 (seg_ne h1 hp)
    ·obtain rfl := (List.cons.inj hl).1
     exact ⟨q, h1, by rw [R.altB q i hi (by omega) (.inr c) k hm]; exact h2, h3⟩


abbrev Row := Int × Int × Int × Int × Int × NL
def row (x : WL rw_iuuuuL) (i : Nat) : Row := x.l.getD i (0, 0, 0, 0, 0, nl0)
def kidsI (x : WL rw_iuuuuL) (i : Nat) : List Int := (row x i).2.2.2.2.2.l
def IsSet (N : Nat) (S : List Bool) (p : Nat → Prop) : Prop := S.length = N ∧ ∀ j, j < N → (S.getD j false = true ↔ p j)
theorem IsSet.none (N : Nat) : IsSet N (List.replicate N false) (fun _ => False) := ⟨by simp, fun j hj => by simp [List.getD_eq_getElem?_getD, hj]⟩
theorem IsSet.put {N : Nat} {S : List Bool} {p : Nat → Prop} (h : IsSet N S p) {k : Nat} (hk : k < N) : IsSet N (S.set k true) (fun j => p j ∨ j = k) := by
 refine ⟨by rw [List.length_set, h.1], fun j hj => ?_⟩
 rw [qqu_ (by rw [h.1]; exact hk)]
 by_cases e : j = k
 ·rw [if_pos e]; simp [e]
 ·rw [if_neg e, h.2 j hj]; simp [e]
theorem IsSet.congr {N : Nat} {S : List Bool} {p q : Nat → Prop} (h : IsSet N S p) (e : ∀ j, j < N → (p j ↔ q j)) : IsSet N S q := ⟨h.1, fun j hj => (h.2 j hj).trans (e j hj)⟩
def KOK (i : Nat) (l : List Int) : Prop := (∀ k ∈ l, 0 ≤ k ∧ k < (i : Int)) ∧ l.Nodup
theorem kidsOf_ok {n N i : Nat} {a b c d e : Int} {K : NL} (hi : i < N) (hN : N ≤ 512) (hK : K.l.length ≤ 1000) (hn : 2000 < n) :
  (KOK i K.l ∧ ∃ S, IsSet N S (fun j => (j : Int) ∈ K.l) ∧ qda_ n a b c d e K (i : Int) (N : Int) = some (.inr S)) ∨ (¬ KOK i K.l ∧ qda_ n a b c d e K (i : Int) (N : Int) = some (.inl ())) := by
 obtain ⟨r, q1, q2⟩ := hoare (B := qca_ n (i : Int) N K ((K.l.length : Nat) : Int)) (σ := List Bool) (fun S t => (S, t))
  (fun t S => KOK i (K.l.take t) ∧ IsSet N S (fun j => (j : Int) ∈ K.l.take t))
  (fun r => (r = .inl () ∧ ¬ KOK i K.l) ∨ ∃ S, r = .inr S ∧ KOK i K.l ∧ IsSet N S (fun j => (j : Int) ∈ K.l)) K.l.length
  (fun t S ht hI => by
   obtain ⟨⟨h1, h2⟩, h3⟩ := hI
   have hget : K.l.getD t 0 = K.l[t] := by rw [List.getD_eq_getElem?_getD, List.getElem?_eq_getElem ht]; rfl
   have htk : K.l.take (t + 1) = K.l.take t ++ [K.l[t]] := by rw [List.take_add_one, List.getElem?_eq_getElem ht]; rfl
   have hmem : K.l[t] ∈ K.l := List.getElem_mem ht
   have step : qca_ n (i : Int) N K ((K.l.length : Nat) : Int) (S, (t : Int)) = (if K.l[t] < 0 then some (.inr (.inl ())) else if K.l[t] ≥ (i : Int) then some (.inr (.inl ())) else
     if 0 ≤ K.l[t] ∧ K.l[t] < ((N : Nat) : Int) then if (K.l[t]).toNat < S.length then (some (S.getD (K.l[t]).toNat false)).bind fun y => if y = true then some (.inr (.inl ())) else some (.inl (S.set (K.l[t]).toNat true, w64 ((t : Int) + 1))) else none else none) := by
    unfold qca_
    simp only []
    rw [if_pos (by omega), if_pos (by omega), if_pos (by rw [Int.toNat_natCast]; exact ht), Int.toNat_natCast, hget, Option.bind_some]
   rw [step]
   by_cases c1 : K.l[t] < 0
   ·exact .inr ⟨.inl (), .inl ⟨rfl, fun h => by have := (h.1 _ hmem).1; omega⟩, by rw [if_pos c1]⟩
   ·by_cases c2 : K.l[t] ≥ (i : Int)
    ·exact .inr ⟨.inl (), .inl ⟨rfl, fun h => by have := (h.1 _ hmem).2; omega⟩, by rw [if_neg c1, if_pos c2]⟩
    ·rw [if_neg c1, if_neg c2, if_pos (by omega), if_pos (by rw [h3.1]; omega), Option.bind_some]
     have h4 := h3.2 (K.l[t]).toNat (by omega)
     have h4 : S.getD (K.l[t]).toNat false = true ↔ (((K.l[t]).toNat : Nat) : Int) ∈ K.l.take t := h4
     rw [show (((K.l[t]).toNat : Nat) : Int) = K.l[t] by omega] at h4
     by_cases c3 : S.getD (K.l[t]).toNat false = true
     ·refine .inr ⟨.inl (), .inl ⟨rfl, fun h => ?_⟩, by rw [if_pos c3]⟩
      have hnd : (K.l.take (t + 1)).Nodup := h.2.sublist (List.take_sublist _ _)
      rw [htk, List.nodup_append] at hnd
      exact hnd.2.2 _ (h4.1 c3) _ (List.mem_singleton.2 rfl) rfl
     ·have hnm : K.l[t] ∉ K.l.take t := fun h => c3 (h4.2 h)
      refine .inl ⟨S.set (K.l[t]).toNat true, ⟨⟨fun k hk => ?_, ?_⟩, (h3.put (by omega)).congr fun j hj => ?_⟩, by rw [if_neg c3, qe1_ (by omega)]⟩
      ·rw [htk] at hk
       rcases List.mem_append.1 hk with hk | hk
       ·exact h1 k hk
       ·rw [List.mem_singleton.1 hk]; omega
      ·rw [htk, List.nodup_append]
       refine ⟨h2, by simp, fun u hu v hv e => ?_⟩
       rw [List.mem_singleton.1 hv] at e
       exact hnm (e ▸ hu)
      ·rw [htk, List.mem_append, List.mem_singleton]
       constructor
       ·rintro (h | h)
        ·exact .inl h
        ·right; omega
       ·rintro (h | h)
        ·exact .inl h
        ·right; omega)
  (fun S hI => ⟨.inr S, .inr ⟨S, rfl, by have := hI.1; rwa [List.take_length] at this, by have := hI.2; rwa [List.take_length] at this⟩, by
   unfold qca_
   simp only []
   rw [if_neg (by omega)]⟩) n 0 (List.replicate N false) (Nat.zero_le _) ⟨⟨by simp, by simp⟩, (IsSet.none N).congr fun j _ => by simp⟩ (by omega)
 have hrun : qfn_ n (i : Int) N K ((K.l.length : Nat) : Int) (List.replicate N false, 0) = some r := q2
 unfold qda_
 rw [if_pos (by omega), if_pos (by omega), Int.toNat_natCast, hrun]
 rcases q1 with ⟨rfl, h⟩ | ⟨S, rfl, h1, h2⟩
 ·exact .inr ⟨h, rfl⟩
 ·exact .inl ⟨h1, S, h2, rfl⟩
def Fit (r : Row) : Prop := (r.1 = 2 ∨ (r.2.1 = 0 ∧ r.2.2.1 = 0 ∧ r.2.2.2.1 = 0 ∧ r.2.2.2.2.1 = 0)) ∧ (((r.1 = 1 ∨ r.1 = 2) ∧ r.2.2.2.2.2.l.length = 0) ∨ ((r.1 = 3 ∨ r.1 = 4) ∧ 2 ≤ r.2.2.2.2.2.l.length) ∨ ((r.1 = 5 ∨ r.1 = 6 ∨ r.1 = 7) ∧ r.2.2.2.2.2.l.length = 1))
def fitK (k : Int) (a b c d : Int) (m : Nat) : Bool := (decide (k = 2) || (decide (a = 0) && (decide (b = 0) && (decide (c = 0) && decide (d = 0))))) && (((decide (k = 1) || decide (k = 2)) && decide (m = 0)) || (((decide (k = 3) || decide (k = 4)) && decide (2 ≤ m)) || ((decide (k = 5) || (decide (k = 6) || decide (k = 7))) && decide (m = 1))))
def fitB (r : Row) : Bool := fitK r.1 r.2.1 r.2.2.1 r.2.2.2.1 r.2.2.2.2.1 r.2.2.2.2.2.l.length
theorem fitB_iff {r : Row} : fitB r = true ↔ Fit r := by
 unfold fitB fitK Fit
 simp only [Bool.and_eq_true, Bool.or_eq_true, decide_eq_true_eq]
theorem fits_ok {n : Nat} (r : Row) : qfx_ n r.1 r.2.1 r.2.2.1 r.2.2.2.1 r.2.2.2.2.1 r.2.2.2.2.2 = some (fitB r) := by
 obtain ⟨k, a, b, c, d, K⟩ := r
 unfold qfx_ fitB fitK
 simp only []
 generalize K.l.length = m
 by_cases h2 : k = 2
 ·subst h2
  simp
  by_cases hm : m = 0 <;> simp [hm]
 ·rw [if_neg h2]
  by_cases hz : a = 0 ∧ b = 0 ∧ c = 0 ∧ d = 0
  ·obtain ⟨rfl, rfl, rfl, rfl⟩ := hz
   simp [h2]
   by_cases h1 : k = 1
   ·subst h1; simp; by_cases hm : m = 0 <;> simp [hm]
   ·by_cases h3 : k = 3
    ·subst h3; simp; by_cases hm : 2 ≤ m <;> simp [hm] <;> omega
    ·by_cases h4 : k = 4
     ·subst h4; simp; by_cases hm : 2 ≤ m <;> simp [hm] <;> omega
     ·by_cases h5 : k = 5
      ·subst h5; simp; by_cases hm : m = 1 <;> simp [hm] <;> omega
      ·by_cases h6 : k = 6
       ·subst h6; simp; by_cases hm : m = 1 <;> simp [hm] <;> omega
       ·by_cases h7 : k = 7
        ·subst h7; simp; by_cases hm : m = 1 <;> simp [hm] <;> omega
        ·simp [h1, h3, h4, h5, h6, h7]
  ·have : (!(a == 0 && (b == 0 && (c == 0 && (d == 0 && true))))) = true := by
    rw [Bool.not_eq_true', ← Bool.not_eq_true]
    simp only [Bool.and_eq_true, beq_iff_eq, and_true]
    exact hz
   rw [if_pos this]
   refine congrArg some (Eq.symm ?_)
   rw [← Bool.not_eq_true]
   intro h
   simp only [Bool.and_eq_true, Bool.or_eq_true, decide_eq_true_eq] at h
   rcases h.1 with h | h
   ·exact h2 h
   ·exact hz h
theorem join_ok {n N : Nat} {P S : List Bool} {p q : Nat → Prop} (hP : IsSet N P p) (hS : IsSet N S q) (hN : N ≤ 512) (hn : 2000 < n) : ∃ P' f, IsSet N P' (fun j => p j ∨ q j) ∧ (f = true ↔ ∀ j, j < N → ¬ (p j ∧ q j)) ∧ qdx_ n P N N S N N = some (P', f) := by
 obtain ⟨r, ⟨P', f', q0, qf, hr⟩, q2⟩ := hoare (B := qbx_ n S N N N N (N : Int)) (σ := List Bool × Bool) (fun s t => (s.1, s.2, t))
  (fun t s => IsSet N s.1 (fun j => p j ∨ (q j ∧ j < t)) ∧ (s.2 = true ↔ ∀ j, j < t → ¬ (p j ∧ q j)))
  (fun r => ∃ P' f, IsSet N P' (fun j => p j ∨ q j) ∧ (f = true ↔ ∀ j, j < N → ¬ (p j ∧ q j)) ∧ r = (P', f)) N
  (fun t s ht hI => by
   obtain ⟨Q, f⟩ := s
   obtain ⟨h1, h2⟩ := hI
   have e1 := h1.2 t ht
   have e2 := hS.2 t ht
   have hpt : (Q.getD t false = true ↔ p t) := by rw [e1]; constructor <;> simp
   refine .inl ⟨(Q.set t (Q.getD t false || S.getD t false), f && !(Q.getD t false && S.getD t false)), ⟨⟨by rw [List.length_set, h1.1], fun j hj => ?_⟩, ?_⟩, ?_⟩
   ·show ((Q.set t _).getD j false = true ↔ _)
    rw [qqu_ (by rw [h1.1]; exact ht)]
    by_cases e : j = t
    ·subst e
     rw [if_pos rfl, Bool.or_eq_true, hpt, e2]
     constructor
     ·rintro (h | h)
      ·exact .inl h
      ·exact .inr ⟨h, by omega⟩
     ·rintro (h | h)
      ·exact .inl h
      ·exact .inr h.1
    ·rw [if_neg e, h1.2 j hj]
     constructor
     ·rintro (h | h)
      ·exact .inl h
      ·exact .inr ⟨h.1, by omega⟩
     ·rintro (h | h)
      ·exact .inl h
      ·exact .inr ⟨h.1, by omega⟩
   ·show ((f && !(Q.getD t false && S.getD t false)) = true ↔ _)
    have hb : (!(Q.getD t false && S.getD t false)) = true ↔ ¬ (p t ∧ q t) := by
     rw [Bool.not_eq_true', ← Bool.not_eq_true, Bool.and_eq_true, hpt, e2]
    rw [Bool.and_eq_true, h2, hb]
    constructor
    ·rintro ⟨h3, h4⟩ j hj
     by_cases e : j = t
     ·rw [e]; exact h4
     ·exact h3 j (by omega)
    ·exact fun h => ⟨fun j hj => h j (by omega), h t (by omega)⟩
   ·unfold qbx_
    simp only []
    rw [if_pos (by omega), if_pos (by omega), if_pos (by rw [Int.toNat_natCast, hS.1]; exact ht), Option.bind_some, if_pos (show 0 ≤ (t : Int) ∧ (t : Int) < ((N : Nat) : Int) by omega), if_pos (show (t : Int).toNat < Q.length by rw [Int.toNat_natCast, h1.1]; exact ht), Int.toNat_natCast, Option.bind_some, qe1_ (by omega)]
    have hq : t < Q.length := by rw [h1.1]; exact ht
    cases f <;> cases Q.getD t false <;> cases S.getD t false <;> simp [ht, hq])
  (fun s hI => ⟨(s.1, s.2), ⟨s.1, s.2, hI.1.congr fun j hj => by
   constructor
   ·rintro (h | h)
    ·exact .inl h
    ·exact .inr h.1
   ·rintro (h | h)
    ·exact .inl h
    ·exact .inr ⟨h, hj⟩, hI.2, rfl⟩, by
   unfold qbx_
   simp only []
   rw [if_neg (by omega)]⟩) n 0 (P, true) (Nat.zero_le _) ⟨hP.congr fun j _ => by simp, by simp⟩ (by omega)
 refine ⟨P', f', q0, qf, ?_⟩
 unfold qdx_ qgq_
 have : iterM (qbx_ n S N N N N (N : Int)) n (P, true, 0) = some r := q2
 rw [this, hr]
 rfl


def Small (x : WL rw_iuuuuL) : Prop := ∀ i, i < x.l.length → (kidsI x i).length ≤ 1000
structure UpTo (x : WL rw_iuuuuL) (t : Nat) : Prop where
 kok : ∀ i, i < t → KOK i (kidsI x i)
 fit : ∀ i, i < t → Fit (row x i)
 apart : ∀ i, i < t → ∀ i', i' < i → ∀ k, ¬ (k ∈ kidsI x i' ∧ k ∈ kidsI x i)
structure Valid (x : WL rw_iuuuuL) : Prop where
 one : 1 ≤ x.l.length
 most : x.l.length ≤ 512
 up : UpTo x x.l.length
 cover : ∀ j, j < x.l.length - 1 → ∃ i, i < x.l.length ∧ (j : Int) ∈ kidsI x i
def below (x : WL rw_iuuuuL) (t : Nat) (j : Nat) : Prop := ∃ i, i < t ∧ (j : Int) ∈ kidsI x i
theorem UpTo.zero (x : WL rw_iuuuuL) : UpTo x 0 := ⟨fun i h => by omega, fun i h => by omega, fun i h => by omega⟩
theorem UpTo.mono {x : WL rw_iuuuuL} {t s : Nat} (h : UpTo x t) (hs : s ≤ t) : UpTo x s := ⟨fun i hi => h.kok i (by omega), fun i hi => h.fit i (by omega), fun i hi => h.apart i (by omega)⟩
open Classical in
theorem loop_ok {n : Nat} {x : WL rw_iuuuuL} (h1 : 1 ≤ x.l.length) (h2 : x.l.length ≤ 512) (hs : Small x) (hn : 2000 < n) :
  (UpTo x x.l.length ∧ ∃ S, IsSet x.l.length S (below x x.l.length) ∧ qdz_ n x x.l.length ((x.l.length : Nat) : Int) (List.replicate x.l.length false, 0) = some (.inr S)) ∨ (¬ UpTo x x.l.length ∧ qdz_ n x x.l.length ((x.l.length : Nat) : Int) (List.replicate x.l.length false, 0) = some (.inl ())) := by
 obtain ⟨r, q1, q2⟩ := hoare (B := qcp_ n x x.l.length ((x.l.length : Nat) : Int)) (σ := List Bool) (fun S t => (S, t)) (fun t S => UpTo x t ∧ IsSet x.l.length S (below x t))
  (fun r => (r = .inl () ∧ ¬ UpTo x x.l.length) ∨ ∃ S, r = .inr S ∧ UpTo x x.l.length ∧ IsSet x.l.length S (below x x.l.length)) x.l.length
  (fun t S ht hI => by
   obtain ⟨h3, h4⟩ := hI
   have hfit := fits_ok (n := n) (row x t)
   have hk := kidsOf_ok (n := n) (N := x.l.length) (i := t) (a := (row x t).1) (b := (row x t).2.1) (c := (row x t).2.2.1) (d := (row x t).2.2.2.1) (e := (row x t).2.2.2.2.1) (K := (row x t).2.2.2.2.2) ht h2 (hs t ht) hn
   have step : qcp_ n x x.l.length ((x.l.length : Nat) : Int) (S, (t : Int)) = match qda_ n (row x t).1 (row x t).2.1 (row x t).2.2.1 (row x t).2.2.2.1 (row x t).2.2.2.2.1 (row x t).2.2.2.2.2 (t : Int) (((x).l.length : Nat) : Int) with
    | none => none
    | some (.inl _) => some (.inr (.inl ()))
    | some (.inr y) =>
     (qfx_ n (row x t).1 (row x t).2.1 (row x t).2.2.1 (row x t).2.2.2.1 (row x t).2.2.2.2.1 (row x t).2.2.2.2.2).bind fun y6 =>
     if y6 = true then (qdx_ n S x.l.length x.l.length y (((x.l.length : Nat) : Int)).toNat (((x.l.length : Nat) : Int)).toNat).bind fun v => match v with
      | (y8, y9) => if y9 = true then some (.inl (y8, w64 ((t : Int) + 1))) else some (.inr (.inl ()))
     else some (.inr (.inl ())) := by
    unfold qcp_
    simp only []
    rw [if_pos (by omega), if_pos (by omega), Int.toNat_natCast, Option.bind_some]
    rfl
   rw [step]
   rcases hk with ⟨k1, S', k2, k3⟩ | ⟨k1, k3⟩
   ·rw [k3]
    simp only [Int.toNat_natCast]
    rw [hfit, Option.bind_some]
    by_cases hf : fitB (row x t) = true
    ·rw [if_pos hf]
     obtain ⟨P', f, j1, jf, j2⟩ := join_ok (n := n) h4 k2 h2 hn
     rw [j2, Option.bind_some]
     simp only []
     have hap : (∀ j, j < x.l.length → ¬ (below x t j ∧ (j : Int) ∈ (row x t).2.2.2.2.2.l)) ↔ ∀ i', i' < t → ∀ k, ¬ (k ∈ kidsI x i' ∧ k ∈ kidsI x t) := by
      constructor
      ·rintro h i' hi' k ⟨a1, a2⟩
       have hkk := k1.1 k a2
       exact h k.toNat (by omega) ⟨⟨i', hi', by rw [show ((k.toNat : Nat) : Int) = k by omega]; exact a1⟩, by rw [show ((k.toNat : Nat) : Int) = k by omega]; exact a2⟩
      ·rintro h j hj ⟨⟨i', hi', a1⟩, a2⟩
       exact h i' hi' _ ⟨a1, a2⟩
     by_cases ha : ∀ j, j < x.l.length → ¬ (below x t j ∧ (j : Int) ∈ (row x t).2.2.2.2.2.l)
     ·rw [if_pos (jf.2 ha)]
      refine .inl ⟨P', ⟨⟨fun i hi => ?_, fun i hi => ?_, fun i hi => ?_⟩, j1.congr fun j hj => ?_⟩, by rw [qe1_ (by omega)]⟩
      ·by_cases e : i = t
       ·rw [e]; exact k1
       ·exact h3.kok i (by omega)
      ·by_cases e : i = t
       ·rw [e]; exact fitB_iff.1 hf
       ·exact h3.fit i (by omega)
      ·by_cases e : i = t
       ·subst e; exact hap.1 ha
       ·exact h3.apart i (by omega)
      ·constructor
       ·rintro (⟨i, hi, h⟩ | h)
        ·exact ⟨i, by omega, h⟩
        ·exact ⟨t, by omega, h⟩
       ·rintro ⟨i, hi, h⟩
        by_cases e : i = t
        ·subst e; exact .inr h
        ·exact .inl ⟨i, by omega, h⟩
     ·rw [if_neg (fun h => ha (jf.1 h))]
      exact .inr ⟨.inl (), .inl ⟨rfl, fun h => ha (hap.2 (h.apart t ht))⟩, rfl⟩
    ·rw [if_neg hf]
     exact .inr ⟨.inl (), .inl ⟨rfl, fun h => hf (fitB_iff.2 (h.fit t ht))⟩, rfl⟩
   ·rw [k3]
    exact .inr ⟨.inl (), .inl ⟨rfl, fun h => k1 (h.kok t ht)⟩, rfl⟩)
  (fun S hI => ⟨.inr S, .inr ⟨S, rfl, hI.1, hI.2⟩, by
   unfold qcp_
   simp only []
   rw [if_neg (by omega)]⟩) n 0 (List.replicate x.l.length false) (Nat.zero_le _) ⟨.zero x, (IsSet.none _).congr fun j _ => ⟨fun h => h.elim, fun ⟨i, hi, _⟩ => by omega⟩⟩ (by omega)
 have hrun : qdz_ n x x.l.length ((x.l.length : Nat) : Int) (List.replicate x.l.length false, 0) = some r := q2
 rw [hrun]
 rcases q1 with ⟨rfl, h⟩ | ⟨S, rfl, a, b⟩
 ·exact .inr ⟨h, rfl⟩
 ·exact .inl ⟨a, S, b, rfl⟩
theorem contains_ok {n m c : Nat} {S : List Bool} (hm : m ≤ S.length) (hn : m < n) (hb : m ≤ 1000) :
  ((∀ j, j < m → S.getD j false = true) ∧ q8_ n S m c false = some false) ∨ (¬ (∀ j, j < m → S.getD j false = true) ∧ q8_ n S m c false = some true) := by
 obtain ⟨r, q1, q2⟩ := hoare (B := qt_ n S m c false ((m : Nat) : Int)) (σ := Unit) (fun _ t => t) (fun t _ => ∀ j, j < t → S.getD j false = true)
  (fun r => (r = .inr () ∧ ∀ j, j < m → S.getD j false = true) ∨ ∃ t : Nat, r = .inl (t : Int) ∧ ¬ ∀ j, j < m → S.getD j false = true) m
  (fun t s ht hI => by
   have step : qt_ n S m c false ((m : Nat) : Int) (t : Int) = if S.getD t false = true then some (.inl (w64 ((t : Int) + 1))) else some (.inr (.inl (t : Int))) := by
    unfold qt_
    simp only []
    rw [if_pos (by omega), if_pos (by omega), if_pos (by rw [Int.toNat_natCast]; omega), Option.bind_some, Int.toNat_natCast]
    cases S.getD t false <;> rfl
   rw [step]
   by_cases hc : S.getD t false = true
   ·rw [if_pos hc]
    exact .inl ⟨(), fun j hj => by
     by_cases e : j = t
     ·rw [e]; exact hc
     ·exact hI j (by omega), by rw [qe1_ (by omega)]⟩
   ·rw [if_neg hc]
    exact .inr ⟨_, .inr ⟨t, rfl, fun h => hc (h t ht)⟩, rfl⟩)
  (fun s hI => ⟨_, .inl ⟨rfl, hI⟩, by
   unfold qt_
   simp only []
   rw [if_neg (by omega)]⟩) n 0 () (Nat.zero_le _) (fun j hj => by omega) (by omega)
 have hrun : qb2_ n S m c false ((m : Nat) : Int) 0 = some r := q2
 unfold q8_ qcd_
 rw [hrun]
 rcases q1 with ⟨rfl, h⟩ | ⟨t, rfl, h⟩
 ·exact .inl ⟨h, by simp⟩
 ·exact .inr ⟨h, by simp⟩
open Classical in
theorem qsv_ {n : Nat} {x : WL rw_iuuuuL} (hs : Small x) (hl : x.l.length ≤ 512) (hn : 2000 < n) : qdr_ n x = some (if Valid x then 0 else 2) := by
 unfold qdr_
 by_cases h1 : 1 ≤ x.l.length
 ·rw [if_neg (by omega), if_neg (by omega), if_pos (by omega), if_pos (by omega)]
  simp only [Int.toNat_natCast]
  rcases loop_ok h1 hl hs hn with ⟨hu, S, hS, hr⟩ | ⟨hu, hr⟩
  ·rw [hr]
   simp only []
   have hw : w64 (((x.l.length : Nat) : Int) - 1) = ((x.l.length - 1 : Nat) : Int) := by rw [qoy_ (by omega) (by omega)]; omega
   rw [hw, Option.bind_some, if_pos (by omega), if_pos (by constructor; omega; left; show _ < 1180591620717411303424; omega), Int.toNat_natCast]
   have hcov : (∀ j, j < x.l.length - 1 → S.getD j false = true) ↔ ∀ j, j < x.l.length - 1 → ∃ i, i < x.l.length ∧ (j : Int) ∈ kidsI x i := by
    constructor
    ·exact fun h j hj => (hS.2 j (by omega)).1 (h j hj)
    ·exact fun h j hj => (hS.2 j (by omega)).2 (h j hj)
   rcases contains_ok (n := n) (m := x.l.length - 1) (c := x.l.length) (S := S) (by rw [hS.1]; omega) (by omega) (by omega) with ⟨hc, hr2⟩ | ⟨hc, hr2⟩
   ·rw [hr2, Option.bind_some, if_neg (by simp), if_pos ⟨h1, hl, hu, hcov.1 hc⟩]
   ·rw [hr2, Option.bind_some, if_pos rfl, if_neg (fun v => hc (hcov.2 v.cover))]
  ·rw [hr]
   simp only []
   rw [if_neg (fun v => hu v.up)]
 ·rw [if_pos (by omega), if_neg (fun v => h1 v.one)]


def hasB (r : Row) (b : Nat) : Bool := decide (bAnd .u64 (shrV .u64 (([r.2.1, r.2.2.1, r.2.2.2.1, r.2.2.2.2.1]).getD (b / 64) 0) ((b % 64 : Nat) : Int)) (1 : Int) = 1)
def nd (x : WL rw_iuuuuL) (i : Nat) : Nd := ⟨(row x i).1.toNat, hasB (row x i), (kidsI x i).map Int.toNat⟩
theorem has_ok {n b : Nat} (r : Row) (h : b < 256) : qh7_ n r.2.1 r.2.2.1 r.2.2.2.1 r.2.2.2.2.1 (b : Int) = some (hasB r b) := by
 unfold qh7_ hasB
 have hq : IntKind.u8.wrap (Int.tdiv (b : Int) (64 : Int)) = ((b / 64 : Nat) : Int) := by
  rw [show Int.tdiv (b : Int) (64 : Int) = ((b / 64 : Nat) : Int) from rfl]
  simp [IntKind.wrap, IntKind.bits, IntKind.signed]
  omega
 rw [hq, show Int.tmod (b : Int) (64 : Int) = ((b % 64 : Nat) : Int) from rfl]
 have h4 : b / 64 < 4 := by omega
 rw [if_pos (by omega), if_pos (by omega), if_pos (by rw [Int.toNat_natCast]; exact h4), Option.bind_some, if_pos (by omega), Option.bind_some, Int.toNat_natCast]
 split
 ·rename_i h; rw [decide_eq_true h]
 ·rename_i h; rw [decide_eq_false h]
section
variable {x : WL rw_iuuuuL} (v : Valid x)
include v
theorem qnl_ {i : Nat} (hi : i < x.l.length) {k : Int} (hk : k ∈ kidsI x i) : 0 ≤ k ∧ k < (i : Int) := (v.up.kok i hi).1 k hk
theorem qlw_ {i : Nat} (hi : i < x.l.length) {k : Nat} (hk : k ∈ (nd x i).kids) : k < i := by
 obtain ⟨z, hz, rfl⟩ := List.mem_map.1 hk
 have := qnl_ v hi hz
 omega
theorem lo : Lo (nd x) x.l.length := fun i hi k hk => qlw_ v hi hk
theorem mem_kids {i : Nat} (hi : i < x.l.length) {k : Nat} : k ∈ (nd x i).kids ↔ (k : Int) ∈ kidsI x i := by
 constructor
 ·intro h
  obtain ⟨z, hz, rfl⟩ := List.mem_map.1 h
  have := qnl_ v hi hz
  rw [show ((z.toNat : Nat) : Int) = z by omega]
  exact hz
 ·exact fun h => List.mem_map.2 ⟨_, h, by simp⟩
theorem kids_nodup {i : Nat} (hi : i < x.l.length) : (nd x i).kids.Nodup := by
 have h := (v.up.kok i hi).2
 show ((kidsI x i).map Int.toNat).Nodup
 refine List.pairwise_map.2 (List.Pairwise.imp_of_mem (fun {a b} ha hb hne e => hne ?_) h)
 have := qnl_ v hi ha
 have := qnl_ v hi hb
 omega
theorem kinds {i : Nat} (hi : i < x.l.length) : 1 ≤ (row x i).1 ∧ (row x i).1 ≤ 7 := by
 have h := (v.up.fit i hi).2
 omega
theorem one_kid {i : Nat} (hi : i < x.l.length) (h5 : 5 ≤ (row x i).1) : (kidsI x i).length = 1 := by
 have h := (v.up.fit i hi).2
 show (row x i).2.2.2.2.2.l.length = 1
 omega
theorem no_kid {i : Nat} (hi : i < x.l.length) (h5 : (row x i).1 ≤ 2) : kidsI x i = [] := by
 have h := (v.up.fit i hi).2
 apply List.eq_nil_of_length_eq_zero
 show (row x i).2.2.2.2.2.l.length = 0
 omega
end
theorem lcats_nil : ∀ l : List Lang, lcats l [] ↔ ∀ a ∈ l, a []
 | [] => by constructor <;> simp [lcats, leps]
 | a :: l => by
  show lcat a (lcats l) [] ↔ _
  have ih := lcats_nil l
  constructor
  ·rintro ⟨u, w, e, h1, h2⟩
   obtain ⟨rfl, rfl⟩ := List.append_eq_nil_iff.1 e.symm
   intro b hb
   rcases List.mem_cons.1 hb with rfl | hb
   ·exact h1
   ·exact ih.1 h2 b hb
  ·intro h
   exact ⟨[], [], rfl, h a (List.mem_cons_self ..), ih.2 fun b hb => h b (List.mem_cons_of_mem _ hb)⟩
theorem lplus_nil {a : Lang} : lplus a [] ↔ a [] := by
 constructor
 ·intro h
  generalize e : ([] : List Nat) = w at h
  induction h with
  | one h => exact h
  | more h h2 ih =>
   obtain ⟨e1, e2⟩ := List.append_eq_nil_iff.1 e.symm
   rw [e2] at h2
   rw [e1, e2]
   exact h2
 ·exact .one
theorem idx1_ok {n N : Nat} {S : List Bool} {K : NL} (hS : S.length = N) (hK : ∀ k ∈ K.l, 0 ≤ k ∧ k < (N : Int)) (hl : K.l.length ≤ 1000) (hn : 2000 < n) :
  qbn_ n K S N N = some (K.l.any fun k => !S.getD k.toNat false) := by
 obtain ⟨r, q1, q2⟩ := hoare (B := qv_ n S N N K ((K.l.length : Nat) : Int)) (σ := Unit) (fun _ t => t) (fun t _ => ∀ k ∈ K.l.take t, S.getD k.toNat false = true)
  (fun r => (r = .inr () ∧ (K.l.any fun k => !S.getD k.toNat false) = false) ∨ ∃ t : Nat, r = .inl (t : Int) ∧ (K.l.any fun k => !S.getD k.toNat false) = true) K.l.length
  (fun t s ht hI => by
   have hget : K.l.getD t 0 = K.l[t] := by rw [List.getD_eq_getElem?_getD, List.getElem?_eq_getElem ht]; rfl
   have hmem : K.l[t] ∈ K.l := List.getElem_mem ht
   have hb := hK _ hmem
   have step : qv_ n S N N K ((K.l.length : Nat) : Int) (t : Int) = if S.getD (K.l[t]).toNat false = true then some (.inl (w64 ((t : Int) + 1))) else some (.inr (.inl (t : Int))) := by
    unfold qv_ qen_
    simp only []
    rw [if_pos (by omega), if_pos (by omega), if_pos (by rw [Int.toNat_natCast]; exact ht), Option.bind_some, Int.toNat_natCast, hget, if_pos (by omega), if_pos (by rw [hS]; omega), Option.bind_some]
    cases S.getD (K.l[t]).toNat false <;> simp
   rw [step]
   by_cases hc : S.getD (K.l[t]).toNat false = true
   ·rw [if_pos hc]
    refine .inl ⟨(), fun k hk => ?_, by rw [qe1_ (by omega)]⟩
    rw [List.take_add_one, List.getElem?_eq_getElem ht] at hk
    rcases List.mem_append.1 hk with hk | hk
    ·exact hI k hk
    ·rw [List.mem_singleton.1 hk]; exact hc
   ·rw [if_neg hc]
    refine .inr ⟨_, .inr ⟨t, rfl, List.any_eq_true.2 ⟨_, hmem, by simpa using hc⟩⟩, rfl⟩)
  (fun s hI => ⟨_, .inl ⟨rfl, by
   rw [List.take_length] at hI
   rw [List.any_eq_false]
   intro k hk
   simp only [hI k hk, Bool.not_true, Bool.false_eq_true, not_false_eq_true]⟩, by
   unfold qv_
   simp only []
   rw [if_neg (by omega)]⟩) n 0 () (Nat.zero_le _) (by simp) (by omega)
 have hrun : qcf_ n S N N K ((K.l.length : Nat) : Int) 0 = some r := q2
 unfold qbn_ qct_
 rw [hrun]
 rcases q1 with ⟨rfl, h⟩ | ⟨t, rfl, h⟩
 ·rw [h]; simp
 ·rw [h]; simp
theorem idx2_ok {n N : Nat} {S : List Bool} {K : NL} (hS : S.length = N) (hK : ∀ k ∈ K.l, 0 ≤ k ∧ k < (N : Int)) (hl : K.l.length ≤ 1000) (hn : 2000 < n) :
  qbb_ n K S N N = some (K.l.any fun k => S.getD k.toNat false) := by
 obtain ⟨r, q1, q2⟩ := hoare (B := qw_ n S N N K ((K.l.length : Nat) : Int)) (σ := Unit) (fun _ t => t) (fun t _ => ∀ k ∈ K.l.take t, S.getD k.toNat false = false)
  (fun r => (r = .inr () ∧ (K.l.any fun k => S.getD k.toNat false) = false) ∨ ∃ t : Nat, r = .inl (t : Int) ∧ (K.l.any fun k => S.getD k.toNat false) = true) K.l.length
  (fun t s ht hI => by
   have hget : K.l.getD t 0 = K.l[t] := by rw [List.getD_eq_getElem?_getD, List.getElem?_eq_getElem ht]; rfl
   have hmem : K.l[t] ∈ K.l := List.getElem_mem ht
   have hb := hK _ hmem
   have step : qw_ n S N N K ((K.l.length : Nat) : Int) (t : Int) = if S.getD (K.l[t]).toNat false = true then some (.inr (.inl (t : Int))) else some (.inl (w64 ((t : Int) + 1))) := by
    unfold qw_ qeo_
    simp only []
    rw [if_pos (by omega), if_pos (by omega), if_pos (by rw [Int.toNat_natCast]; exact ht), Option.bind_some, Int.toNat_natCast, hget, if_pos (by omega), if_pos (by rw [hS]; omega), Option.bind_some, Option.bind_some]
   rw [step]
   by_cases hc : S.getD (K.l[t]).toNat false = true
   ·rw [if_pos hc]
    exact .inr ⟨_, .inr ⟨t, rfl, List.any_eq_true.2 ⟨_, hmem, hc⟩⟩, rfl⟩
   ·rw [if_neg hc]
    refine .inl ⟨(), fun k hk => ?_, by rw [qe1_ (by omega)]⟩
    rw [List.take_add_one, List.getElem?_eq_getElem ht] at hk
    rcases List.mem_append.1 hk with hk | hk
    ·exact hI k hk
    ·rw [List.mem_singleton.1 hk]; exact Bool.eq_false_iff.2 hc)
  (fun s hI => ⟨_, .inl ⟨rfl, by
   rw [List.take_length] at hI
   rw [List.any_eq_false]
   intro k hk
   simp only [hI k hk, Bool.false_eq_true, not_false_eq_true]⟩, by
   unfold qw_
   simp only []
   rw [if_neg (by omega)]⟩) n 0 () (Nat.zero_le _) (by simp) (by omega)
 have hrun : qch_ n S N N K ((K.l.length : Nat) : Int) 0 = some r := q2
 unfold qbb_ qcu_
 rw [hrun]
 rcases q1 with ⟨rfl, h⟩ | ⟨t, rfl, h⟩
 ·rw [h]; simp
 ·rw [h]; simp


theorem any_map {p : Nat → Bool} : ∀ l : List Int, (l.map Int.toNat).any p = l.any fun k => p k.toNat
 | [] => rfl
 | a :: l => by rw [List.map_cons, List.any_cons, List.any_cons, any_map l]
theorem qh9_ {x : WL rw_iuuuuL} (hs : Small x) {i : Nat} (hi : i < x.l.length) : (row x i).2.2.2.2.2.l.length ≤ 1000 := hs i hi
def nulOf (k : Nat) (any all : Bool) : Bool := decide (k = 1) || (decide (k = 5) || (decide (k = 7) || (decide (k = 3) && all || ((decide (k = 4) || decide (k = 6)) && any))))
theorem L_nil {x : WL rw_iuuuuL} (v : Valid x) {i : Nat} (hi : i < x.l.length) (f : Nat → Bool) (hf : ∀ k ∈ (nd x i).kids, (f k = true ↔ L (nd x) k [])) :
  nulOf (nd x i).k ((nd x i).kids.any f) (!(nd x i).kids.any fun k => !f k) = true ↔ L (nd x) i [] := by
 rw [L_eq (lo v) hi]
 have hk := kinds v hi
 have hkk : (nd x i).k = (row x i).1.toNat := rfl
 have hkids : (nd x i).kids = (kidsI x i).map Int.toNat := rfl
 have hall : (!(nd x i).kids.any fun k => !f k) = true ↔ ∀ k ∈ (nd x i).kids, L (nd x) k [] := by
  rw [Bool.not_eq_true', List.any_eq_false]
  constructor
  ·intro h k hm
   have := h k hm
   simp only [Bool.not_eq_true', Bool.not_eq_true, Bool.not_eq_false] at this
   exact (hf k hm).1 (by simpa using this)
  ·intro h k hm
   rw [(hf k hm).2 (h k hm)]
   simp
 have hany : (nd x i).kids.any f = true ↔ ∃ k ∈ (nd x i).kids, L (nd x) k [] := by
  rw [List.any_eq_true]
  constructor
  ·rintro ⟨k, hm, h⟩; exact ⟨k, hm, (hf k hm).1 h⟩
  ·rintro ⟨k, hm, h⟩; exact ⟨k, hm, (hf k hm).2 h⟩
 have hone : 5 ≤ (row x i).1 → ∃ c, (nd x i).kids = [c] := fun h5 => by
  have := one_kid v hi h5
  rw [hkids]
  match kidsI x i, this with
  | [c], _ => exact ⟨_, rfl⟩
 generalize hK : (nd x i).k = K at hkk ⊢
 have hc : K = 1 ∨ K = 2 ∨ K = 3 ∨ K = 4 ∨ K = 5 ∨ K = 6 ∨ K = 7 := by omega
 rcases hc with c | c | c | c | c | c | c <;> subst c
 ·simp [nulOf, sem]
 ·simp [nulOf, sem]
 ·simp only [nulOf, sem]
  rw [show (lcats ((nd x i).kids.map (L (nd x))) []) ↔ _ from lcats_nil _]
  simp only [List.mem_map, forall_exists_index, and_imp, forall_apply_eq_imp_iff₂]
  rw [← hall]
  simp
 ·unfold nulOf sem
  have : (∃ l ∈ (nd x i).kids.map (L (nd x)), l []) ↔ ∃ k ∈ (nd x i).kids, L (nd x) k [] := by
   constructor
   ·rintro ⟨l, hl, h⟩
    obtain ⟨k, hk, rfl⟩ := List.mem_map.1 hl
    exact ⟨k, hk, h⟩
   ·rintro ⟨k, hk, h⟩
    exact ⟨_, List.mem_map.2 ⟨k, hk, rfl⟩, h⟩
  rw [if_neg (by decide), if_neg (by decide), if_neg (by decide), if_pos rfl, this, ← hany]
  simp
 ·unfold nulOf sem
  obtain ⟨c, hc⟩ := hone (by omega)
  rw [if_neg (by decide), if_neg (by decide), if_neg (by decide), if_neg (by decide), if_pos rfl, hc]
  constructor
  ·intro _
   exact ⟨_, rfl, .inl rfl⟩
  ·intro _
   simp
 ·unfold nulOf sem
  obtain ⟨c, hc⟩ := hone (by omega)
  rw [if_neg (by decide), if_neg (by decide), if_neg (by decide), if_neg (by decide), if_neg (by decide), if_pos rfl]
  have : (∃ l, (nd x i).kids.map (L (nd x)) = [l] ∧ lplus l []) ↔ ∃ k ∈ (nd x i).kids, L (nd x) k [] := by
   rw [hc]
   constructor
   ·rintro ⟨l, hl, h⟩
    obtain rfl := (List.cons.inj hl).1
    exact ⟨c, by simp, lplus_nil.1 h⟩
   ·rintro ⟨k, hk, h⟩
    rw [List.mem_singleton.1 hk] at h
    exact ⟨_, rfl, lplus_nil.2 h⟩
  rw [this, ← hany]
  simp
 ·simp [nulOf, sem]
def NulS (x : WL rw_iuuuuL) (S : List Bool) : Prop := S.length = x.l.length ∧ ∀ j, j < x.l.length → (S.getD j false = true ↔ L (nd x) j [])
theorem nul_ok {n : Nat} {x : WL rw_iuuuuL} (v : Valid x) (hs : Small x) (hn : 2000 < n) : ∃ S, NulS x S ∧ qdd_ n x = some S := by
 have hN := v.most
 obtain ⟨r, q1, q2⟩ := hoare (B := qbo_ n x.l.length x ((x.l.length : Nat) : Int)) (σ := List Bool) (fun S t => (S, t))
  (fun t S => S.length = x.l.length ∧ (∀ j, j < t → (S.getD j false = true ↔ L (nd x) j [])) ∧ ∀ j, t ≤ j → j < x.l.length → S.getD j false = false) (fun S => NulS x S) x.l.length
  (fun t S ht hI => by
   obtain ⟨h1, h2, h3⟩ := hI
   have hkb : ∀ k ∈ (row x t).2.2.2.2.2.l, 0 ≤ k ∧ k < ((x.l.length : Nat) : Int) := fun k hk => by
    have := qnl_ v ht hk
    omega
   have hF := L_nil v ht (fun k => S.getD k false) (fun k hk => h2 k (qlw_ v ht hk))
   have hkids : (nd x t).kids = (row x t).2.2.2.2.2.l.map Int.toNat := rfl
   rw [hkids, any_map, any_map] at hF
   have hkd := kinds v ht
   have hst : S.getD t false = false := h3 t (Nat.le_refl _) ht
   have step : qbo_ n x.l.length x ((x.l.length : Nat) : Int) (S, (t : Int)) = some (.inl (S.set t (nulOf (nd x t).k ((row x t).2.2.2.2.2.l.any fun k => S.getD k.toNat false) (!(row x t).2.2.2.2.2.l.any fun k => !S.getD k.toNat false)), ((t + 1 : Nat) : Int))) := by
    unfold qbo_
    simp only []
    rw [if_pos (by omega), if_pos (by omega), Int.toNat_natCast, Option.bind_some]
    have hrow : x.l.getD t (0, 0, 0, 0, 0, nl0) = row x t := rfl
    rw [hrow, idx1_ok h1 hkb (qh9_ hs ht) hn, idx2_ok h1 hkb (qh9_ hs ht) hn, qe1_ (by omega)]
    have hself : S.set t false = S := by
     apply List.ext_getElem?
     intro j
     rw [List.getElem?_set]
     by_cases e : t = j
     ·subst e
      rw [if_pos rfl, if_pos (by omega)]
      rw [List.getD_eq_getElem?_getD, List.getElem?_eq_getElem (by omega)] at hst
      rw [List.getElem?_eq_getElem (by omega)]
      exact congrArg some hst.symm
     ·rw [if_neg e]
    have g1 : (0 : Int) ≤ (t : Int) ∧ (t : Int) < ((x.l.length : Nat) : Int) := by omega
    have g2 : t < S.length := by omega
    simp only [Option.bind_some, if_pos g1, if_pos g2]
    have hk : (nd x t).k = (row x t).1.toNat := rfl
    rw [hk]
    generalize (row x t).1 = k at hkd ⊢
    generalize ((row x t).2.2.2.2.2.l.any fun k => S.getD k.toNat false) = u
    generalize ((row x t).2.2.2.2.2.l.any fun k => !S.getD k.toNat false) = w
    have hc : k = 1 ∨ k = 2 ∨ k = 3 ∨ k = 4 ∨ k = 5 ∨ k = 6 ∨ k = 7 := by omega
    rcases hc with c | c | c | c | c | c | c <;> subst c
    ·simp [nulOf]
    ·simp [nulOf, hself]
    ·cases w <;> simp [nulOf]
    ·cases u <;> simp [nulOf]
    ·simp [nulOf]
    ·cases u <;> simp [nulOf]
    ·simp [nulOf]
   refine .inl ⟨_, ⟨by rw [List.length_set, h1], fun j hj => ?_, fun j hj hj2 => ?_⟩, step⟩
   ·rw [qqu_ (by omega)]
    by_cases e : j = t
    ·subst e
     rw [if_pos rfl]
     exact hF
    ·rw [if_neg e]
     exact h2 j (by omega)
   ·rw [qqu_ (by omega), if_neg (by omega)]
    exact h3 j (by omega) hj2)
  (fun S hI => ⟨S, ⟨hI.1, fun j hj => hI.2.1 j hj⟩, by
   unfold qbo_
   simp only []
   rw [if_neg (by omega)]⟩) n 0 (List.replicate x.l.length false) (Nat.zero_le _) ⟨by simp, fun j hj => by omega, fun j _ hj => by simp [List.getD_eq_getElem?_getD, hj]⟩ (by omega)
 refine ⟨r, q1, ?_⟩
 have hrun : qfr_ n x.l.length x ((x.l.length : Nat) : Int) (List.replicate x.l.length false, 0) = some r := q2
 unfold qdd_
 rw [if_pos (by omega), if_pos (by omega), Int.toNat_natCast, hrun]
 rfl


def IsFn (N : Nat) (G : List Bool) (g : Nat → Bool) : Prop := G.length = N ∧ ∀ j, j < N → G.getD j false = g j
theorem IsFn.set {N : Nat} {G : List Bool} {g : Nat → Bool} (h : IsFn N G g) {k : Nat} (hk : k < N) (b : Bool) : IsFn N (G.set k b) (fun j => if j = k then b else g j) := by
 refine ⟨by rw [List.length_set, h.1], fun j hj => ?_⟩
 rw [qqu_ (by rw [h.1]; exact hk)]
 by_cases e : j = k
 ·simp [e]
 ·rw [if_neg e, h.2 j hj]; simp [e]
def go (cat again : Bool) (e null : Nat → Bool) : List Nat → (Nat → Bool) → Bool → (Nat → Bool)
 | [], g, _ => g
 | k :: l, g, o => go cat again e null l (fun j => if j = k then (o || again && e k) else g j) (if cat = true then (e k || o && null k) else o)
theorem go_out {cat again : Bool} {e null : Nat → Bool} : ∀ (l : List Nat) (g : Nat → Bool) (o : Bool) (j : Nat), j ∉ l → go cat again e null l g o j = g j
 | [], _, _, _, _ => rfl
 | k :: l, g, o, j, h => by
  show go cat again e null l _ _ j = _
  rw [go_out l _ _ j (fun hm => h (List.mem_cons_of_mem _ hm)), if_neg (fun e => h (by rw [e]; exact List.mem_cons_self ..))]
theorem go_other {again : Bool} {e null : Nat → Bool} : ∀ (l : List Nat) (g : Nat → Bool) (o : Bool), l.Nodup → ∀ k ∈ l, go false again e null l g o k = (o || again && e k)
 | k' :: l, g, o, hnd, k, hk => by
  have hnd' := List.nodup_cons.1 hnd
  show go false again e null l _ (if false = true then _ else o) k = _
  rw [if_neg (by simp)]
  rcases List.mem_cons.1 hk with rfl | hk
  ·rw [go_out l _ _ k hnd'.1, if_pos rfl]
  ·exact go_other l _ o hnd'.2 k hk
theorem go_cat {e null : Nat → Bool} : ∀ (l : List Nat) (g : Nat → Bool) (o : Bool), l.Nodup → ∀ j, j < l.length → go true false e null l g o (l.getD j 0) = if j = 0 then o else (e (l.getD (j - 1) 0) || go true false e null l g o (l.getD (j - 1) 0) && null (l.getD (j - 1) 0))
 | k :: l, g, o, hnd, j, hj => by
  have hnd' := List.nodup_cons.1 hnd
  have ih := go_cat (e := e) (null := null) l (fun j => if j = k then (o || false && e k) else g j) (e k || o && null k) hnd'.2
  have hk : go true false e null (k :: l) g o k = o := by
   show go true false e null l _ _ k = o
   rw [go_out l _ _ k hnd'.1, if_pos rfl]
   simp
  have hgo : ∀ j, go true false e null (k :: l) g o j = go true false e null l (fun j => if j = k then (o || false && e k) else g j) (e k || o && null k) j := fun j => rfl
  cases j with
  | zero => rw [if_pos rfl]; exact hk
  | succ j =>
   rw [if_neg (by omega)]
   show go true false e null (k :: l) g o (l.getD j 0) = _
   rw [hgo, ih j (by simpa using hj)]
   cases j with
   | zero =>
    rw [if_pos rfl]
    show _ = (e k || go true false e null (k :: l) g o k && null k)
    rw [hk]
   | succ j =>
    rw [if_neg (by omega)]
    rfl
theorem inner_ok {n N : Nat} {x : WL rw_iuuuuL} {kind c1 c2 c3 c4 : Int} {NU EN G : List Bool} {null e g : Nat → Bool} {K : NL} {o : Bool} (hU : IsFn N NU null) (hE : IsFn N EN e) (hG : IsFn N G g) (hK : ∀ k ∈ K.l, 0 ≤ k ∧ k < (N : Int)) (hl : K.l.length ≤ 1000) (hn : 2000 < n) :
  ∃ G', IsFn N G' (go (decide (kind = 3)) (decide (kind = 5) || decide (kind = 6)) e null (K.l.map Int.toNat) g o) ∧ qfe_ n NU N N N N EN N N x kind c1 c2 c3 c4 K ((K.l.length : Nat) : Int) (G, o, 0) = some G' := by
 obtain ⟨r, q1, q2⟩ := hoare (B := qbk_ n NU N N N N EN N N x kind c1 c2 c3 c4 K ((K.l.length : Nat) : Int)) (σ := List Bool × Bool) (fun s t => (s.1, s.2, t))
  (fun t s => ∃ g', IsFn N s.1 g' ∧ go (decide (kind = 3)) (decide (kind = 5) || decide (kind = 6)) e null ((K.l.drop t).map Int.toNat) g' s.2 = go (decide (kind = 3)) (decide (kind = 5) || decide (kind = 6)) e null (K.l.map Int.toNat) g o)
  (fun G' => IsFn N G' (go (decide (kind = 3)) (decide (kind = 5) || decide (kind = 6)) e null (K.l.map Int.toNat) g o)) K.l.length
  (fun t s ht hI => by
   obtain ⟨S, f⟩ := s
   obtain ⟨g', h1, h2⟩ := hI
   have hget : K.l.getD t 0 = K.l[t] := by rw [List.getD_eq_getElem?_getD, List.getElem?_eq_getElem ht]; rfl
   have hmem : K.l[t] ∈ K.l := List.getElem_mem ht
   have hb := hK _ hmem
   have hkN : (K.l[t]).toNat < N := by omega
   have hdrop : K.l.drop t = K.l[t] :: K.l.drop (t + 1) := List.drop_eq_getElem_cons ht
   have e1 := hE.2 _ hkN
   have e2 := hU.2 _ hkN
   have step : qbk_ n NU N N N N EN N N x kind c1 c2 c3 c4 K ((K.l.length : Nat) : Int) (S, f, (t : Int)) = some (.inl (S.set (K.l[t]).toNat (f || (decide (kind = 5) || decide (kind = 6)) && e (K.l[t]).toNat), (if decide (kind = 3) = true then (e (K.l[t]).toNat || f && null (K.l[t]).toNat) else f), ((t + 1 : Nat) : Int))) := by
    unfold qbk_
    simp only []
    rw [if_pos (by omega), if_pos (by omega), if_pos (by rw [Int.toNat_natCast]; exact ht), Option.bind_some, Int.toNat_natCast, hget, qe1_ (by omega)]
    have g1 : 0 ≤ K.l[t] ∧ K.l[t] < ((N : Nat) : Int) := hb
    have g2 : (K.l[t]).toNat < S.length := by rw [h1.1]; exact hkN
    have g3 : (K.l[t]).toNat < EN.length := by rw [hE.1]; exact hkN
    have g4 : (K.l[t]).toNat < NU.length := by rw [hU.1]; exact hkN
    simp only [if_pos g1, if_pos g2, if_pos g3, if_pos g4, Option.bind_some, e1, e2]
    generalize e (K.l[t]).toNat = u
    generalize null (K.l[t]).toNat = w
    by_cases k5 : kind = 5
    ·subst k5
     cases f <;> cases u <;> simp
    ·by_cases k6 : kind = 6
     ·subst k6
      cases f <;> cases u <;> simp
     ·by_cases k3 : kind = 3
      ·subst k3
       cases f <;> cases u <;> simp
      ·cases f <;> cases u <;> simp [k5, k6, k3]
   refine .inl ⟨(S.set (K.l[t]).toNat (f || (decide (kind = 5) || decide (kind = 6)) && e (K.l[t]).toNat), (if decide (kind = 3) = true then (e (K.l[t]).toNat || f && null (K.l[t]).toNat) else f)), ⟨_, h1.set hkN _, ?_⟩, step⟩
   rw [← h2, hdrop]
   rfl)
  (fun s hI => ⟨s.1, by
   obtain ⟨g', h1, h2⟩ := hI
   rw [List.drop_length] at h2
   rw [← h2]
   exact h1, by
   unfold qbk_
   simp only []
   rw [if_neg (by omega)]⟩) n 0 (G, o) (Nat.zero_le _) ⟨g, hG, rfl⟩ (by omega)
 exact ⟨r, q1, q2⟩
structure Eqs (x : WL rw_iuuuuL) (null e g : Nat → Bool) (i : Nat) : Prop where
 cat : (row x i).1 = 3 → ∀ j, j < (nd x i).kids.length → g ((nd x i).kids.getD j 0) = if j = 0 then g i else (e ((nd x i).kids.getD (j - 1) 0) || g ((nd x i).kids.getD (j - 1) 0) && null ((nd x i).kids.getD (j - 1) 0))
 alt : (row x i).1 ≠ 3 → (row x i).1 ≠ 5 → (row x i).1 ≠ 6 → ∀ k ∈ (nd x i).kids, g k = g i
 rep : (row x i).1 = 5 ∨ (row x i).1 = 6 → ∀ k ∈ (nd x i).kids, g k = (g i || e k)
theorem Eqs.congr {x : WL rw_iuuuuL} {null e g g' : Nat → Bool} {i : Nat} (h : Eqs x null e g i) (h1 : g' i = g i) (h2 : ∀ k ∈ (nd x i).kids, g' k = g k) : Eqs x null e g' i where
 cat := fun c j hj => by
  rw [h2 _ (getD_mem hj), h.cat c j hj, h1]
  by_cases e0 : j = 0
  ·rw [if_pos e0, if_pos e0]
  ·rw [if_neg e0, if_neg e0, h2 _ (getD_mem (by omega))]
 alt := fun a b c k hk => by rw [h2 k hk, h.alt a b c k hk, h1]
 rep := fun a k hk => by rw [h2 k hk, h.rep a k hk, h1]
theorem Eqs.of_go {x : WL rw_iuuuuL} (v : Valid x) {null e g : Nat → Bool} {i : Nat} (hi : i < x.l.length) : Eqs x null e (go (decide ((row x i).1 = 3)) (decide ((row x i).1 = 5) || decide ((row x i).1 = 6)) e null (nd x i).kids g (g i)) i := by
 have hnd := kids_nodup v hi
 have hni : i ∉ (nd x i).kids := fun h => by have := qlw_ v hi h; omega
 refine ⟨fun c j hj => ?_, fun a b c k hk => ?_, fun a k hk => ?_⟩
 ·rw [go_out _ _ _ i hni, c]
  exact go_cat _ _ _ hnd j hj
 ·rw [go_out _ _ _ i hni, decide_eq_false a, decide_eq_false b, decide_eq_false c, go_other _ _ _ hnd k hk]
  simp
 ·rw [go_out _ _ _ i hni]
  have h3 : ¬ (row x i).1 = 3 := by omega
  rw [decide_eq_false h3, go_other _ _ _ hnd k hk]
  rcases a with a | a <;> rw [a] <;> simp
theorem spread_ok {n : Nat} {x : WL rw_iuuuuL} (v : Valid x) (hs : Small x) (hn : 2000 < n) {NU EN G : List Bool} {null e g0 : Nat → Bool} (hU : IsFn x.l.length NU null) (hE : IsFn x.l.length EN e) (hG : IsFn x.l.length G g0) :
  ∃ G' g, IsFn x.l.length G' g ∧ (∀ i, i < x.l.length → Eqs x null e g i) ∧ g (x.l.length - 1) = g0 (x.l.length - 1) ∧ qej_ n x NU x.l.length x.l.length G x.l.length x.l.length EN x.l.length x.l.length = some G' := by
 have hN := v.most
 have hN1 := v.one
 obtain ⟨r, ⟨g, q0, q1, q3⟩, q2⟩ := hoare (B := qy_ n NU x.l.length x.l.length x.l.length x.l.length EN x.l.length x.l.length x) (σ := List Bool) (fun S t => (S, ((x.l.length : Nat) : Int) - 1 - t))
  (fun t S => ∃ g, IsFn x.l.length S g ∧ (∀ i, x.l.length - t ≤ i → i < x.l.length → Eqs x null e g i) ∧ g (x.l.length - 1) = g0 (x.l.length - 1))
  (fun S => ∃ g, IsFn x.l.length S g ∧ (∀ i, i < x.l.length → Eqs x null e g i) ∧ g (x.l.length - 1) = g0 (x.l.length - 1)) x.l.length
  (fun t S ht hI => by
   obtain ⟨g, h1, h2, h3⟩ := hI
   have hi : x.l.length - 1 - t < x.l.length := by omega
   generalize hidef : x.l.length - 1 - t = i at hi
   have hidx : ((x.l.length : Nat) : Int) - 1 - (t : Int) = (i : Int) := by omega
   have hkb : ∀ k ∈ (row x i).2.2.2.2.2.l, 0 ≤ k ∧ k < ((x.l.length : Nat) : Int) := fun k hk => by
    have := qnl_ v hi hk
    omega
   obtain ⟨G', i1, i2⟩ := inner_ok (n := n) (x := x) (kind := (row x i).1) (c1 := (row x i).2.1) (c2 := (row x i).2.2.1) (c3 := (row x i).2.2.2.1) (c4 := (row x i).2.2.2.2.1) (K := (row x i).2.2.2.2.2) (o := g i) hU hE h1 hkb (qh9_ hs hi) hn
   have hout : ∀ j, j ∉ (nd x i).kids → go (decide ((row x i).1 = 3)) (decide ((row x i).1 = 5) || decide ((row x i).1 = 6)) e null (nd x i).kids g (g i) j = g j := fun j hj => go_out _ _ _ j hj
   refine .inl ⟨G', ⟨_, i1, fun m hm hm2 => ?_, ?_⟩, ?_⟩
   ·by_cases em : m = i
    ·subst em
     exact Eqs.of_go v hi
    ·refine (h2 m (by omega) hm2).congr (hout m fun h => by have := qlw_ v hi h; omega) fun k hk => hout k fun h => ?_
     exact v.up.apart m hm2 i (by omega) (k : Int) ⟨(mem_kids v hi).1 h, (mem_kids v hm2).1 hk⟩
   ·show go _ _ e null (nd x i).kids g (g i) (x.l.length - 1) = _
    rw [hout _ fun h => by have := qlw_ v hi h; omega]
    exact h3
   ·unfold qy_
    simp only []
    rw [hidx, if_pos (by omega), if_pos (by omega), Int.toNat_natCast, Option.bind_some]
    have hrow : x.l.getD i (0, 0, 0, 0, 0, nl0) = row x i := rfl
    rw [hrow]
    unfold qep_
    rw [if_pos (by omega), if_pos (by rw [Int.toNat_natCast, h1.1]; exact hi), Option.bind_some, Int.toNat_natCast, h1.2 i hi, i2, Option.bind_some, Option.bind_some]
    rw [show w64 ((i : Int) - 1) = ((x.l.length : Nat) : Int) - 1 - ((t + 1 : Nat) : Int) by rw [qoy_ (by omega) (by omega)]; omega])
  (fun S hI => ⟨S, by
   obtain ⟨g, h1, h2, h3⟩ := hI
   exact ⟨g, h1, fun i hi => h2 i (by omega) hi, h3⟩, by
   unfold qy_
   simp only []
   rw [if_neg (by omega)]⟩) n 0 G (Nat.zero_le _) ⟨g0, hG, fun i h1 h2 => by omega, rfl⟩ (by omega)
 refine ⟨r, g, q0, q1, q3, ?_⟩
 have hw : w64 (((x.l.length : Nat) : Int) - 1) = ((x.l.length : Nat) : Int) - 1 - ((0 : Nat) : Int) := by rw [qoy_ (by omega) (by omega)]; omega
 unfold qej_ qcv_ qcm_ qdg_
 rw [Option.bind_some, hw, Option.bind_some, q2]
 rfl


def accG (cat : Bool) (e null : Nat → Bool) : List Nat → Bool → Bool
 | [], acc => acc
 | k :: l, acc => accG cat e null l (e k || acc && (!cat || null k))
theorem qsw_ {e null : Nat → Bool} : ∀ (l : List Nat) (acc : Bool), accG true e null l acc = accC e null l acc
 | [], _ => rfl
 | k :: l, acc => by
  show accG true e null l _ = accC e null l _
  rw [qsw_ l]
  simp
theorem accG_any {e null : Nat → Bool} : ∀ (l : List Nat) (acc : Bool), accG false e null l acc = (acc || l.any e)
 | [], acc => by simp [accG]
 | k :: l, acc => by
  show accG false e null l _ = _
  rw [accG_any l, List.any_cons]
  cases e k <;> cases acc <;> simp
theorem qnm_ {cat : Bool} {e e' null : Nat → Bool} : ∀ (l : List Nat) (acc : Bool), (∀ k ∈ l, e k = e' k) → accG cat e null l acc = accG cat e' null l acc
 | [], _, _ => rfl
 | k :: l, acc, h => by
  show accG cat e null l _ = accG cat e' null l _
  rw [qnm_ l _ fun k hk => h k (List.mem_cons_of_mem _ hk), h k (List.mem_cons_self ..)]
theorem rin_ok {n N i : Nat} {x : WL rw_iuuuuL} {kind c1 c2 c3 c4 c5 c6 : Int} {NU BG S : List Bool} {null b e : Nat → Bool} {K : NL} (hU : IsFn N NU null) (hS : IsFn N S e) (hi : i < N) (hK : ∀ k ∈ K.l, 0 ≤ k ∧ k < (i : Int)) (hl : K.l.length ≤ 1000) (hn : 2000 < n) :
  ∃ S', IsFn N S' (fun j => if j = i then accG (decide (kind = 3)) e null (K.l.map Int.toNat) (e i) else e j) ∧ qjg_ n NU BG N N N N c5 N (i : Int) kind c1 c2 c3 c4 K x c6 ((K.l.length : Nat) : Int) (S, 0) = some S' := by
 obtain ⟨r, q1, q2⟩ := hoare (B := qdb_ n NU BG N N N N c5 N (i : Int) kind c1 c2 c3 c4 K x c6 ((K.l.length : Nat) : Int)) (σ := List Bool) (fun s t => (s, t))
  (fun t s => ∃ acc, IsFn N s (fun j => if j = i then acc else e j) ∧ accG (decide (kind = 3)) e null ((K.l.drop t).map Int.toNat) acc = accG (decide (kind = 3)) e null (K.l.map Int.toNat) (e i))
  (fun S' => IsFn N S' (fun j => if j = i then accG (decide (kind = 3)) e null (K.l.map Int.toNat) (e i) else e j)) K.l.length
  (fun t s ht hI => by
   obtain ⟨acc, h1, h2⟩ := hI
   have hget : K.l.getD t 0 = K.l[t] := by rw [List.getD_eq_getElem?_getD, List.getElem?_eq_getElem ht]; rfl
   have hb := hK _ (List.getElem_mem ht)
   have hkN : (K.l[t]).toNat < N := by omega
   have hdrop : K.l.drop t = K.l[t] :: K.l.drop (t + 1) := List.drop_eq_getElem_cons ht
   have e1 : s.getD (K.l[t]).toNat false = e (K.l[t]).toNat := (h1.2 _ hkN).trans (if_neg (by omega))
   have e2 := hU.2 _ hkN
   have e3 : s.getD i false = acc := (h1.2 _ hi).trans (if_pos rfl)
   have step : qdb_ n NU BG N N N N c5 N (i : Int) kind c1 c2 c3 c4 K x c6 ((K.l.length : Nat) : Int) (s, (t : Int)) = some (.inl (s.set i (e (K.l[t]).toNat || acc && (!(decide (kind = 3)) || null (K.l[t]).toNat)), ((t + 1 : Nat) : Int))) := by
    unfold qdb_
    simp only []
    rw [if_pos (by omega), if_pos (by omega), if_pos (by rw [Int.toNat_natCast]; exact ht), Option.bind_some, Int.toNat_natCast, hget, qe1_ (by omega)]
    have g1 : 0 ≤ K.l[t] ∧ K.l[t] < ((N : Nat) : Int) := by omega
    have g2 : (K.l[t]).toNat < s.length := by rw [h1.1]; exact hkN
    have g3 : 0 ≤ (i : Int) ∧ (i : Int) < ((N : Nat) : Int) := by omega
    have g4 : (K.l[t]).toNat < NU.length := by rw [hU.1]; exact hkN
    have g5 : i < s.length := by rw [h1.1]; exact hi
    simp only [if_pos g1, if_pos g2, if_pos g3, if_pos g4, Int.toNat_natCast, if_pos g5, Option.bind_some, e1, e2, e3]
    generalize e (K.l[t]).toNat = u
    generalize null (K.l[t]).toNat = w
    by_cases k3 : kind = 3
    ·subst k3
     cases acc <;> cases u <;> simp
    ·cases acc <;> cases u <;> simp [k3]
   refine .inl ⟨s.set i (e (K.l[t]).toNat || acc && (!(decide (kind = 3)) || null (K.l[t]).toNat)), ⟨(e (K.l[t]).toNat || acc && (!(decide (kind = 3)) || null (K.l[t]).toNat)), ⟨(h1.set hi _).1, fun j hj => ?_⟩, ?_⟩, step⟩
   ·refine ((h1.set hi _).2 j hj).trans ?_
    by_cases ej : j = i
    ·simp [ej]
    ·simp [ej]
   ·rw [← h2, hdrop]
    rfl)
  (fun s hI => ⟨s, by
   obtain ⟨acc, h1, h2⟩ := hI
   rw [List.drop_length] at h2
   have h2 : acc = _ := h2
   rw [h2] at h1
   exact h1, by
   unfold qdb_
   simp only []
   rw [if_neg (by omega)]⟩) n 0 S (Nat.zero_le _) ⟨e i, ⟨hS.1, fun j hj => by
    rw [hS.2 j hj]
    by_cases ej : j = i
    ·simp [ej]
    ·simp [ej]⟩, rfl⟩ (by omega)
 exact ⟨r, q1, q2⟩
def REq (x : WL rw_iuuuuL) (null b e : Nat → Bool) (c : Nat) (i : Nat) : Prop :=
 e i = if (row x i).1 = 2 then (b i && hasB (row x i) c) else accG (decide ((row x i).1 = 3)) e null (nd x i).kids false
theorem read_ok {n : Nat} {x : WL rw_iuuuuL} (v : Valid x) (hs : Small x) (hn : 2000 < n) {NU BG : List Bool} {null b : Nat → Bool} {c : Nat} (hc : c < 256) (hU : IsFn x.l.length NU null) (hB : IsFn x.l.length BG b) :
  ∃ S e, IsFn x.l.length S e ∧ (∀ i, i < x.l.length → REq x null b e c i) ∧ qg2_ n x NU x.l.length x.l.length BG x.l.length x.l.length (c : Int) = some S := by
 have hN := v.most
 obtain ⟨r, ⟨e, q0, q1⟩, q2⟩ := hoare (B := qdc_ n NU BG x.l.length x.l.length x.l.length x.l.length (c : Int) x.l.length x ((x.l.length : Nat) : Int)) (σ := List Bool) (fun S t => (S, t))
  (fun t S => ∃ e, IsFn x.l.length S e ∧ (∀ i, i < t → REq x null b e c i) ∧ ∀ i, t ≤ i → i < x.l.length → e i = false)
  (fun S => ∃ e, IsFn x.l.length S e ∧ ∀ i, i < x.l.length → REq x null b e c i) x.l.length
  (fun t S ht hI => by
   obtain ⟨e, h1, h2, h3⟩ := hI
   have hkb : ∀ k ∈ (row x t).2.2.2.2.2.l, 0 ≤ k ∧ k < (t : Int) := fun k hk => qnl_ v ht hk
   have het : e t = false := h3 t (Nat.le_refl _) ht
   have hkeep : ∀ (val : Bool) (i : Nat), i < t → REq x null b e c i → REq x null b (fun j => if j = t then val else e j) c i := fun val i hi h => by
    unfold REq at h ⊢
    show (if i = t then val else e i) = _
    rw [if_neg (show ¬ i = t by omega), h]
    by_cases k2 : (row x i).1 = 2
    ·rw [if_pos k2, if_pos k2]
    ·rw [if_neg k2, if_neg k2]
     exact qnm_ _ _ fun k hk => by
      have := qlw_ v (by omega) hk
      rw [if_neg (show ¬ k = t by omega)]
   have g1 : (0 : Int) ≤ (t : Int) ∧ (t : Int) < ((x.l.length : Nat) : Int) := by omega
   have hrow : x.l.getD t (0, 0, 0, 0, 0, nl0) = row x t := rfl
   by_cases k2 : (row x t).1 = 2
   ·refine .inl ⟨S.set t (b t && hasB (row x t) c), ⟨_, h1.set ht _, fun i hi => ?_, fun i hi hi2 => ?_⟩, ?_⟩
    ·by_cases ei : i = t
     ·subst ei
      unfold REq
      show (if i = i then _ else e i) = _
      rw [if_pos rfl, if_pos k2]
     ·exact hkeep _ i (by omega) (h2 i (by omega))
    ·show (if i = t then _ else e i) = false
     rw [if_neg (show ¬ i = t by omega)]
     exact h3 i (by omega) hi2
    ·unfold qdc_
     simp only []
     rw [if_pos (by omega), if_pos g1, Int.toNat_natCast, Option.bind_some, hrow, if_pos k2, if_pos g1, if_pos (by rw [hB.1]; exact ht), Option.bind_some, hB.2 t ht, has_ok _ hc, Option.bind_some, qe1_ (by omega)]
     have g2 : t < S.length := by rw [h1.1]; exact ht
     simp only [if_pos g1, if_pos g2]
     cases b t <;> simp
   ·obtain ⟨S', i1, i2⟩ := rin_ok (n := n) (i := t) (x := x) (kind := (row x t).1) (c1 := (row x t).2.1) (c2 := (row x t).2.2.1) (c3 := (row x t).2.2.2.1) (c4 := (row x t).2.2.2.2.1) (c5 := (c : Int)) (c6 := ((x.l.length : Nat) : Int)) (BG := BG) (K := (row x t).2.2.2.2.2) (b := b) hU h1 ht hkb (qh9_ hs ht) hn
    refine .inl ⟨S', ⟨_, i1, fun i hi => ?_, fun i hi hi2 => ?_⟩, ?_⟩
    ·by_cases ei : i = t
     ·subst ei
      unfold REq
      show (if i = i then _ else e i) = _
      rw [if_pos rfl, if_neg k2, het]
      exact qnm_ _ _ fun k hk => by
       have := qlw_ v ht hk
       rw [if_neg (show ¬ k = i by omega)]
     ·exact hkeep _ i (by omega) (h2 i (by omega))
    ·show (if i = t then _ else e i) = false
     rw [if_neg (show ¬ i = t by omega)]
     exact h3 i (by omega) hi2
    ·unfold qdc_
     simp only []
     rw [if_pos (by omega), if_pos g1, Int.toNat_natCast, Option.bind_some, hrow, if_neg k2, i2, Option.bind_some, qe1_ (by omega)])
  (fun S hI => ⟨S, by
   obtain ⟨e, h1, h2, _⟩ := hI
   exact ⟨e, h1, h2⟩, by
   unfold qdc_
   simp only []
   rw [if_neg (by omega)]⟩) n 0 (List.replicate x.l.length false) (Nat.zero_le _) ⟨fun _ => false, ⟨by simp, fun j hj => by simp [List.getD_eq_getElem?_getD, hj]⟩, fun i hi => by omega, fun _ _ _ => rfl⟩ (by omega)
 refine ⟨r, e, q0, q1, ?_⟩
 have hrun : qjh_ n NU BG x.l.length x.l.length x.l.length x.l.length (c : Int) x.l.length x ((x.l.length : Nat) : Int) (List.replicate x.l.length false, 0) = some r := q2
 unfold qg2_
 rw [if_pos (by omega), if_pos (by omega), Int.toNat_natCast, hrun]
 rfl


def word (s : ByteArray) : List Nat := s.data.toList.map UInt8.toNat
theorem qsx_ (s : ByteArray) : (word s).length = s.size := by
 unfold word
 rw [List.length_map, Array.length_toList]
 rfl
theorem word_at {s : ByteArray} {i : Nat} (h : i < s.size) : byteAt s i = (((word s).getD i 0 : Nat) : Int) := by
 unfold byteAt word
 have h2 : i < s.data.toList.length := by rw [Array.length_toList]; exact h
 rw [List.getD_eq_getElem?_getD, List.getElem?_map, List.getElem?_eq_getElem h2]
 simp only [Option.map_some, Option.getD_some]
 rw [Array.getD_eq_getD_getElem?, ← Array.getElem?_toList, List.getElem?_eq_getElem h2]
 rfl
theorem word_lt (s : ByteArray) (i : Nat) : (word s).getD i 0 < 256 := by
 unfold word
 rw [List.getD_eq_getElem?_getD, List.getElem?_map]
 cases s.data.toList[i]? with
 | none => simp
 | some b => simpa using b.toNat_lt
theorem accC_false {null : Nat → Bool} : ∀ l : List Nat, accC (fun _ => false) null l false = false
 | [] => rfl
 | k :: l => by
  show accC _ null l (false || false && null k) = false
  exact accC_false l
theorem accC_congr {e e' null : Nat → Bool} (l : List Nat) (acc : Bool) (h : ∀ k ∈ l, e k = e' k) : accC e null l acc = accC e' null l acc := by
 rw [← qsw_, ← qsw_]
 exact qnm_ l acc h
structure Told (x : WL rw_iuuuuL) (w : List Nat) (null : Nat → Bool) (B E : Nat → Nat → Bool) (t : Nat) : Prop where
 e0 : ∀ i, i < x.l.length → E 0 i = false
 eqs : ∀ p, p ≤ t → ∀ i, i < x.l.length → Eqs x null (E p) (B p) i
 rd : ∀ p, p < t → ∀ i, i < x.l.length → REq x null (B p) (E (p + 1)) (w.getD p 0) i
 b0 : B 0 (x.l.length - 1) = true
 bs : ∀ p, 1 ≤ p → p ≤ t → B p (x.l.length - 1) = false
theorem Told.run {x : WL rw_iuuuuL} (v : Valid x) {w : List Nat} {null : Nat → Bool} {B E : Nat → Nat → Bool} (h : Told x w null B E w.length) (hn : ∀ i, i < x.l.length → (null i = true ↔ L (nd x) i [])) : Run (nd x) x.l.length w null B E where
 lo := lo v
 nul := hn
 kd := fun i hi => by
  have := kinds v hi
  have : (nd x i).k = (row x i).1.toNat := rfl
  omega
 kid1 := fun i hi h5 => by
  have : (nd x i).k = (row x i).1.toNat := rfl
  have h1 := one_kid v hi (by omega)
  have hkids : (nd x i).kids = (kidsI x i).map Int.toNat := rfl
  rw [hkids]
  match kidsI x i, h1 with
  | [c], _ => exact ⟨_, rfl⟩
 e0 := h.e0
 emp := fun p i hi hp hk => by
  have hk' : (nd x i).k = (row x i).1.toNat := rfl
  have hkd := kinds v hi
  have hkids : (nd x i).kids = (kidsI x i).map Int.toNat := rfl
  cases p with
  | zero => exact h.e0 i hi
  | succ p =>
   have := h.rd p hp i hi
   unfold REq at this
   rw [this, if_neg (by omega), hkids, no_kid v hi (by omega)]
   rfl
 cls := fun p i hi hp hk => by
  have hk' : (nd x i).k = (row x i).1.toNat := rfl
  have hkd := kinds v hi
  have := h.rd p hp i hi
  unfold REq at this
  rw [this, if_pos (by omega)]
  rfl
 catE := fun p i hi hp hk => by
  have hk' : (nd x i).k = (row x i).1.toNat := rfl
  have hkd := kinds v hi
  cases p with
  | zero =>
   rw [h.e0 i hi, accC_congr (e' := fun _ => false) _ _ fun k hk => h.e0 k (by have := qlw_ v hi hk; omega), accC_false]
  | succ p =>
   have := h.rd p hp i hi
   unfold REq at this
   rw [this, if_neg (by omega), decide_eq_true (by omega), qsw_]
 othE := fun p i hi hp hk => by
  have hk' : (nd x i).k = (row x i).1.toNat := rfl
  have hkd := kinds v hi
  cases p with
  | zero =>
   rw [h.e0 i hi]
   symm
   rw [List.any_eq_false]
   intro k hk
   rw [h.e0 k (by have := qlw_ v hi hk; omega)]
   simp
  | succ p =>
   have := h.rd p hp i hi
   unfold REq at this
   rw [this, if_neg (by omega), decide_eq_false (by omega), accG_any, Bool.false_or]
 catB := fun p i hi hp hk j hj => by
  have hk' : (nd x i).k = (row x i).1.toNat := rfl
  have hkd := kinds v hi
  exact (h.eqs p hp i hi).cat (by omega) j hj
 altB := fun p i hi hp hk => by
  have hk' : (nd x i).k = (row x i).1.toNat := rfl
  have hkd := kinds v hi
  exact (h.eqs p hp i hi).alt (by omega) (by omega) (by omega)
 repB := fun p i hi hp hk => by
  have hk' : (nd x i).k = (row x i).1.toNat := rfl
  have hkd := kinds v hi
  exact (h.eqs p hp i hi).rep (by omega)
theorem seg_all (w : List Nat) : seg w 0 w.length = w := by simp [seg]
theorem match_ok {n : Nat} {x : WL rw_iuuuuL} (v : Valid x) (hs : Small x) {s : ByteArray} (hsz : s.size ≤ 1000) (hn : 2000 < n) : ∃ f, qd_ n x s = some f ∧ (f = true ↔ L (nd x) (x.l.length - 1) (word s)) := by
 have hN := v.most
 have hN1 := v.one
 obtain ⟨NU, hNU, hnul⟩ := nul_ok v hs hn
 have hU : IsFn x.l.length NU (fun j => NU.getD j false) := ⟨hNU.1, fun _ _ => rfl⟩
 have hroot : x.l.length - 1 < x.l.length := by omega
 have hz : IsFn x.l.length (List.replicate x.l.length false) (fun _ => false) := ⟨by simp, fun j hj => by simp [List.getD_eq_getElem?_getD, hj]⟩
 obtain ⟨BL0, b0, s1, s2, s3, s4⟩ := spread_ok v hs hn hU hz (hz.set hroot true)
 have s3 : b0 (x.l.length - 1) = true := s3.trans (if_pos rfl)
 obtain ⟨r, ⟨E, B, ht, EL, rfl, hEL⟩, q2⟩ := hoare (B := qcl_ n x s ((x.l.length - 1 : Nat) : Int) NU x.l.length ((s.size : Nat) : Int)) (σ := List Bool × List Bool) (fun S t => (S.1, x.l.length, S.2, x.l.length, t))
  (fun t S => ∃ E B, Told x (word s) (fun j => NU.getD j false) B E t ∧ IsFn x.l.length S.2 (B t) ∧ IsFn x.l.length S.1 (fun i => if t = 0 ∧ i = x.l.length - 1 then NU.getD i false else E t i))
  (fun r => ∃ E B, Told x (word s) (fun j => NU.getD j false) B E s.size ∧ ∃ EL, r = (EL, x.l.length) ∧ IsFn x.l.length EL (fun i => if s.size = 0 ∧ i = x.l.length - 1 then NU.getD i false else E s.size i)) s.size
  (fun t S ht hI => by
   obtain ⟨E, B, h1, h2, h3⟩ := hI
   obtain ⟨EL, e, r1, r2, r3⟩ := read_ok v hs hn (word_lt s t) hU h2
   obtain ⟨BL, g, t1, t2, t3, t4⟩ := spread_ok v hs hn hU r1 hz
   refine .inl ⟨(EL, BL), ⟨fun p => if p = t + 1 then e else E p, fun p => if p = t + 1 then g else B p, ⟨fun i hi => ?_, fun p hp i hi => ?_, fun p hp i hi => ?_, ?_, fun p hp hp2 => ?_⟩, ?_, ?_⟩, ?_⟩
   ·rw [if_neg (by omega)]
    exact h1.e0 i hi
   ·by_cases ep : p = t + 1
    ·rw [if_pos ep, if_pos ep]
     exact t2 i hi
    ·rw [if_neg ep, if_neg ep]
     exact h1.eqs p (by omega) i hi
   ·rw [if_neg (show ¬ p = t + 1 by omega)]
    by_cases ep : p = t
    ·subst ep
     rw [if_pos rfl]
     exact r2 i hi
    ·rw [if_neg (show ¬ p + 1 = t + 1 by omega)]
     exact h1.rd p (by omega) i hi
   ·rw [if_neg (by omega)]
    exact h1.b0
   ·by_cases ep : p = t + 1
    ·rw [if_pos ep]
     exact t3
    ·rw [if_neg ep]
     exact h1.bs p hp (by omega)
   ·show IsFn x.l.length BL (if t + 1 = t + 1 then g else B (t + 1))
    rw [if_pos rfl]
    exact t1
   ·refine ⟨r1.1, fun j hj => (r1.2 j hj).trans ?_⟩
    show e j = if t + 1 = 0 ∧ j = x.l.length - 1 then NU.getD j false else (if t + 1 = t + 1 then e else E (t + 1)) j
    rw [if_neg (by omega), if_pos rfl]
   ·unfold qcl_
    simp only []
    rw [if_pos (by omega), if_pos (by omega), Int.toNat_natCast, word_at ht, r3, Option.bind_some, if_pos (by omega), if_pos (by omega)]
    simp only [Int.toNat_natCast]
    rw [t4, Option.bind_some, qe1_ (by omega)])
  (fun S hI => ⟨_, by
   obtain ⟨E, B, h1, h2, h3⟩ := hI
   exact ⟨E, B, h1, S.1, rfl, h3⟩, by
   unfold qcl_
   simp only []
   rw [if_neg (by omega)]⟩) n 0 ((List.replicate x.l.length false).set (x.l.length - 1) (NU.getD (x.l.length - 1) false), BL0) (Nat.zero_le _)
  ⟨fun _ _ => false, fun _ => b0, ⟨fun _ _ => rfl, fun p hp i hi => s2 i hi, fun p hp => by omega, s3, fun p hp hp2 => by omega⟩, s1, ⟨by simp, fun j hj => by
   refine ((hz.set hroot _).2 j hj).trans ?_
   show (if j = x.l.length - 1 then NU.getD (x.l.length - 1) false else false) = if 0 = 0 ∧ j = x.l.length - 1 then NU.getD j false else false
   by_cases ej : j = x.l.length - 1
   ·rw [if_pos ej, if_pos ⟨rfl, ej⟩, ej]
   ·rw [if_neg ej, if_neg (fun h => ej h.2)]⟩⟩ (by omega)
 have hrun : qgr_ n x s ((x.l.length - 1 : Nat) : Int) NU x.l.length ((s.size : Nat) : Int) ((List.replicate x.l.length false).set (x.l.length - 1) (NU.getD (x.l.length - 1) false), x.l.length, BL0, x.l.length, 0) = some (EL, x.l.length) := q2
 refine ⟨EL.getD (x.l.length - 1) false, ?_, ?_⟩
 ·unfold qd_
  have hw : w64 (((x.l.length : Nat) : Int) - 1) = ((x.l.length - 1 : Nat) : Int) := by rw [qoy_ (by omega) (by omega)]; omega
  rw [qsv_ hs hN hn, Option.bind_some, if_pos v, if_pos rfl, hw, Option.bind_some, hnul, Option.bind_some, if_pos (by omega), if_pos (by omega)]
  simp only [Int.toNat_natCast]
  have g1 : (0 : Int) ≤ ((x.l.length - 1 : Nat) : Int) ∧ ((x.l.length - 1 : Nat) : Int) < ((x.l.length : Nat) : Int) := by omega
  rw [if_pos g1, if_pos (by simpa using hroot), s4, Option.bind_some, if_pos g1, if_pos (by rw [hNU.1]; exact hroot), Option.bind_some, hrun, Option.bind_some]
  simp only []
  rw [if_pos g1, if_pos (by rw [hEL.1]; exact hroot), Option.bind_some]
 ·rw [hEL.2 _ hroot]
  show (if s.size = 0 ∧ x.l.length - 1 = x.l.length - 1 then NU.getD (x.l.length - 1) false else E s.size (x.l.length - 1)) = true ↔ _
  by_cases h0 : s.size = 0
  ·rw [if_pos ⟨h0, rfl⟩, hNU.2 _ hroot]
   have : word s = [] := List.eq_nil_of_length_eq_zero (by rw [qsx_, h0])
   rw [this]
  ·rw [if_neg (fun h => h0 h.1)]
   have hl := qsx_ s
   rw [← hl] at ht
   have R := ht.run v fun i hi => hNU.2 i hi
   have hg := R.good (x.l.length - 1) hroot (word s).length (Nat.le_refl _)
   rw [← hl, hg]
   constructor
   ·rintro ⟨q, h1, h2, h3⟩
    by_cases hq : q = 0
    ·subst hq
     rwa [seg_all] at h3
    ·rw [ht.bs q (by omega) (by omega)] at h2
     cases h2
   ·intro h
    exact ⟨0, by omega, ht.b0, by rw [seg_all]; exact h⟩
theorem lplus_app {a : Lang} {x y : List Nat} (hx : lplus a x) (hy : lplus a y) : lplus a (x ++ y) := by
 induction hy with
 | one h => exact .more hx h
 | more h h2 ih => rw [← List.append_assoc]; exact .more ih h2
theorem lstar_app {a : Lang} {x y : List Nat} (hx : lstar a x) (hy : lstar a y) : lstar a (x ++ y) := by
 rcases hx with rfl | hx
 ·exact hy
 ·rcases hy with rfl | hy
  ·rw [List.append_nil]; exact .inr hx
  ·exact .inr (lplus_app hx hy)
theorem cat2 {a b : Lang} {w : List Nat} : lcats [a, b] w ↔ ∃ x y, w = x ++ y ∧ a x ∧ b y := by
 show lcat a (lcat b leps) w ↔ _
 constructor
 ·rintro ⟨x, y, rfl, hx, u, v, rfl, hu, hv⟩
  have hv : v = [] := hv
  exact ⟨x, u, by rw [hv, List.append_nil], hx, hu⟩
 ·rintro ⟨x, y, rfl, hx, hy⟩
  exact ⟨x, y, rfl, hx, y, [], by simp, hy, rfl⟩
structure Part (x y : WL rw_iuuuuL) (by_ : Nat) : Prop where
 room : by_ + x.l.length ≤ y.l.length
 same : ∀ i, i < x.l.length → (row y (by_ + i)).1 = (row x i).1 ∧ (row y (by_ + i)).2.1 = (row x i).2.1 ∧ (row y (by_ + i)).2.2.1 = (row x i).2.2.1 ∧ (row y (by_ + i)).2.2.2.1 = (row x i).2.2.2.1 ∧ (row y (by_ + i)).2.2.2.2.1 = (row x i).2.2.2.2.1 ∧ kidsI y (by_ + i) = (kidsI x i).map (· + (by_ : Int))
theorem Part.nodes {x y : WL rw_iuuuuL} {by_ : Nat} (v : Valid x) (h : Part x y by_) {i : Nat} (hi : i < x.l.length) : (nd y (by_ + i)).k = (nd x i).k ∧ (nd y (by_ + i)).p = (nd x i).p ∧ (nd y (by_ + i)).kids = (nd x i).kids.map (by_ + ·) := by
 obtain ⟨h1, h2, h3, h4, h5, h6⟩ := h.same i hi
 refine ⟨?_, ?_, ?_⟩
 ·show (row y (by_ + i)).1.toNat = (row x i).1.toNat
  rw [h1]
 ·show hasB (row y (by_ + i)) = hasB (row x i)
  funext b
  unfold hasB
  rw [h2, h3, h4, h5]
 ·show (kidsI y (by_ + i)).map Int.toNat = ((kidsI x i).map Int.toNat).map (by_ + ·)
  rw [h6, List.map_map, List.map_map]
  apply List.map_congr_left
  intro k hk
  have := qnl_ v hi hk
  show (k + (by_ : Int)).toNat = by_ + k.toNat
  omega
theorem Part.lang {x y : WL rw_iuuuuL} {by_ : Nat} (v : Valid x) (hy : Lo (nd y) y.l.length) (h : Part x y by_) : ∀ i, i < x.l.length → L (nd y) (by_ + i) = L (nd x) i := by
 intro i
 induction i using Nat.strongRecOn with
 | ind i ih =>
  intro hi
  obtain ⟨h1, h2, h3⟩ := h.nodes v hi
  rw [L_eq hy (by have := h.room; omega), L_eq (lo v) hi, h1, h2, h3, List.map_map]
  congr 1
  apply List.map_congr_left
  intro k hk
  have := qlw_ v hi hk
  exact ih k this (by omega)
structure Top (y : WL rw_iuuuuL) (kind : Int) (ks : List Int) : Prop where
 pos : 1 ≤ y.l.length
 kind : (row y (y.l.length - 1)).1 = kind
 c0 : (row y (y.l.length - 1)).2.1 = 0 ∧ (row y (y.l.length - 1)).2.2.1 = 0 ∧ (row y (y.l.length - 1)).2.2.2.1 = 0 ∧ (row y (y.l.length - 1)).2.2.2.2.1 = 0
 kids : kidsI y (y.l.length - 1) = ks
theorem valid_one {x y : WL rw_iuuuuL} {kind : Int} (v : Valid x) (hp : Part x y 0) (hl : y.l.length = x.l.length + 1) (hm : y.l.length ≤ 512) (hk : kind = 5 ∨ kind = 6 ∨ kind = 7) (ht : Top y kind [((x.l.length - 1 : Nat) : Int)]) : Valid y := by
 have hN := v.one
 have htop : y.l.length - 1 = x.l.length := by omega
 have hkids : ∀ i, i < x.l.length → kidsI y i = kidsI x i := fun i hi => by
  have := (hp.same i hi).2.2.2.2.2
  rw [Nat.zero_add] at this
  rw [this]
  simp
 have htk : kidsI y x.l.length = [((x.l.length - 1 : Nat) : Int)] := by have := ht.kids; rw [htop] at this; exact this
 have hrk : (row y x.l.length).1 = kind := by rw [← htop]; exact ht.kind
 have hrc := ht.c0
 rw [htop] at hrc
 refine ⟨by omega, hm, ⟨fun i hi => ?_, fun i hi => ?_, fun i hi i' hi' k => ?_⟩, fun j hj => ?_⟩
 ·by_cases e : i = x.l.length
  ·subst e
   rw [htk]
   refine ⟨fun k hk => ?_, by simp⟩
   rw [List.mem_singleton.1 hk]
   omega
  ·rw [hkids i (by omega)]
   exact v.up.kok i (by omega)
 ·by_cases e : i = x.l.length
  ·subst e
   refine ⟨.inr hrc, .inr (.inr ⟨by rw [hrk]; exact hk, ?_⟩)⟩
   have : (row y x.l.length).2.2.2.2.2.l = [((x.l.length - 1 : Nat) : Int)] := htk
   rw [this]
   rfl
  ·have hi2 : i < x.l.length := by omega
   obtain ⟨h1, h2, h3, h4, h5, h6⟩ := hp.same i hi2
   rw [Nat.zero_add] at h1 h2 h3 h4 h5 h6
   have hf := v.up.fit i hi2
   have h7 : (row y i).2.2.2.2.2.l.length = (row x i).2.2.2.2.2.l.length := by
    have := congrArg List.length (hkids i hi2)
    exact this
   unfold Fit at hf ⊢
   rw [h1, h2, h3, h4, h5, h7]
   exact hf
 ·rintro ⟨k1, k2⟩
  by_cases e : i = x.l.length
  ·subst e
   rw [htk] at k2
   rw [hkids i' (by omega)] at k1
   have := qnl_ v (by omega) k1
   rw [List.mem_singleton.1 k2] at this
   omega
  ·rw [hkids i (by omega)] at k2
   rw [hkids i' (by omega)] at k1
   exact v.up.apart i (by omega) i' hi' k ⟨k1, k2⟩
 ·by_cases e : j = x.l.length - 1
  ·exact ⟨x.l.length, by omega, by rw [htk, e]; simp⟩
  ·obtain ⟨i, hi, h⟩ := v.cover j (by omega)
   exact ⟨i, by omega, by rw [hkids i hi]; exact h⟩
theorem lang_one {x y : WL rw_iuuuuL} {kind : Int} (v : Valid x) (hp : Part x y 0) (hl : y.l.length = x.l.length + 1) (hm : y.l.length ≤ 512) (hk : kind = 5 ∨ kind = 6 ∨ kind = 7) (ht : Top y kind [((x.l.length - 1 : Nat) : Int)]) :
  L (nd y) (y.l.length - 1) = sem kind.toNat (nd y (y.l.length - 1)).p [L (nd x) (x.l.length - 1)] := by
 have vy := valid_one v hp hl hm hk ht
 have hN := v.one
 rw [L_eq (lo vy) (by omega)]
 have h1 : (nd y (y.l.length - 1)).k = kind.toNat := by
  show (row y (y.l.length - 1)).1.toNat = _
  rw [ht.kind]
 have h2 : (nd y (y.l.length - 1)).kids = [x.l.length - 1] := by
  show (kidsI y (y.l.length - 1)).map Int.toNat = _
  rw [ht.kids]
  rfl
 rw [h1, h2]
 have h3 := hp.lang v (lo vy) (x.l.length - 1) (by omega)
 rw [Nat.zero_add] at h3
 rw [List.map_cons, List.map_nil, h3]


theorem in1_ok {n : Nat} {x : WL rw_iuuuuL} {a b c d e f g : Int} {K : NL} {out : List Row} (hK : ∀ k ∈ K.l, 0 ≤ k ∧ k < 512) (hl : K.l.length ≤ 1000) (hn : 2000 < n) : ∃ M : NL, M.l = K.l ∧ qc4_ n x a b c d e f g K (out, [], 0) = some (out, M) := by
 obtain ⟨r, ⟨M, q1, rfl⟩, q2⟩ := hoare (B := q1_ n x a b c d e f g K) (σ := List Int) (fun s t => (out, s, t)) (fun t s => s = K.l.take t) (fun r => ∃ M : NL, M.l = K.l ∧ r = (out, M)) K.l.length
  (fun t s ht hI => by
   subst hI
   have hget : K.l.getD t 0 = K.l[t] := by rw [List.getD_eq_getElem?_getD, List.getElem?_eq_getElem ht]; rfl
   have hb := hK _ (List.getElem_mem ht)
   have htk : K.l.take (t + 1) = K.l.take t ++ [K.l[t]] := by rw [List.take_add_one, List.getElem?_eq_getElem ht]; rfl
   have hw : w64 (K.l[t] + 0) = K.l[t] := by rw [qoy_ (by omega) (by omega)]; omega
   have hlen : (K.l.take t).length ≤ 1000 := by rw [List.length_take]; omega
   refine .inl ⟨_, rfl, ?_⟩
   unfold q1_
   rw [htk]
   generalize K.l.take t = m at hlen ⊢
   have g1 : 0 ≤ (t : Int) ∧ (t : Int) < ((K.l.length : Nat) : Int) := by omega
   have g0 : (t : Int) < ((K.l.length : Nat) : Int) := by omega
   cases out <;> cases m <;> simp only [] <;> rw [if_pos g0, if_pos g1, if_pos (by rw [Int.toNat_natCast]; exact ht), Option.bind_some, Int.toNat_natCast, hget, hw, qe1_ (by omega)]
   ·rfl
   ·rw [if_pos (by omega)]
   ·rfl
   ·rw [if_pos (by omega)])
  (fun s hI => by
   rw [List.take_length] at hI
   subst hI
   have g0 : ¬ ((K.l.length : Nat) : Int) < ((K.l.length : Nat) : Int) := by omega
   cases hm : K.l with
   | nil =>
    refine ⟨_, ⟨nl0, rfl, rfl⟩, ?_⟩
    unfold q1_
    cases out <;> simp only [] <;> rw [hm] <;> rfl
   | cons z l =>
    have hb : (z :: l).length ≤ 140737488355328 := by rw [← hm]; omega
    refine ⟨_, ⟨frzL (z :: l) hb, rfl, rfl⟩, ?_⟩
    unfold q1_
    cases out <;> simp only [] <;> rw [hm] <;> rw [if_neg (by omega), dif_pos hb]) n 0 [] (Nat.zero_le _) rfl (by omega)
 exact ⟨M, q1, q2⟩
def Like (r s : Row) : Prop := s.1 = r.1 ∧ s.2.1 = r.2.1 ∧ s.2.2.1 = r.2.2.1 ∧ s.2.2.2.1 = r.2.2.2.1 ∧ s.2.2.2.2.1 = r.2.2.2.2.1 ∧ s.2.2.2.2.2.l = r.2.2.2.2.2.l
theorem out1_ok {n : Nat} {x : WL rw_iuuuuL} {kind : Int} (v : Valid x) (hs : Small x) (hn : 2000 < n) : ∃ O : List Row, O.length = x.l.length ∧ (∀ i, i < x.l.length → Like (row x i) (O.getD i (0, 0, 0, 0, 0, nl0))) ∧ qd2_ n x kind ([], 0) = some O := by
 have hN := v.most
 obtain ⟨r, ⟨q0, q1⟩, q2⟩ := hoare (B := qbh_ n x kind) (σ := List Row) (fun s t => (s, t)) (fun t O => O.length = t ∧ ∀ i, i < t → Like (row x i) (O.getD i (0, 0, 0, 0, 0, nl0)))
  (fun O => O.length = x.l.length ∧ ∀ i, i < x.l.length → Like (row x i) (O.getD i (0, 0, 0, 0, 0, nl0))) x.l.length
  (fun t O ht hI => by
   obtain ⟨h1, h2⟩ := hI
   have hrow : x.l.getD t (0, 0, 0, 0, 0, nl0) = row x t := rfl
   obtain ⟨M, m1, m2⟩ := in1_ok (n := n) (x := x) (a := kind) (b := (t : Int)) (c := (row x t).1) (d := (row x t).2.1) (e := (row x t).2.2.1) (f := (row x t).2.2.2.1) (g := (row x t).2.2.2.2.1) (K := (row x t).2.2.2.2.2) (out := O) (fun k hk => by have := qnl_ v ht hk; omega) (qh9_ hs ht) hn
   refine .inl ⟨O ++ [((row x t).1, (row x t).2.1, (row x t).2.2.1, (row x t).2.2.2.1, (row x t).2.2.2.2.1, M)], ⟨by rw [List.length_append, h1]; rfl, fun i hi => ?_⟩, ?_⟩
   ·by_cases e : i = t
    ·subst e
     rw [List.getD_eq_getElem?_getD, List.getElem?_append_right (by omega), h1, Nat.sub_self]
     exact ⟨rfl, rfl, rfl, rfl, rfl, m1⟩
    ·rw [List.getD_eq_getElem?_getD, List.getElem?_append_left (by omega), ← List.getD_eq_getElem?_getD]
     exact h2 i (by omega)
   ·unfold qbh_
    have g1 : 0 ≤ (t : Int) ∧ (t : Int) < ((x.l.length : Nat) : Int) := by omega
    have g0 : (t : Int) < ((x.l.length : Nat) : Int) := by omega
    cases O with
    | nil =>
     simp only []
     rw [if_pos g0, if_pos g1, Option.bind_some, Int.toNat_natCast, hrow, m2, Option.bind_some, qe1_ (by omega)]
     rfl
    | cons o O =>
     simp only []
     rw [if_pos g0, if_pos g1, Option.bind_some, Int.toNat_natCast, hrow, m2, Option.bind_some, qe1_ (by omega)]
     simp only []
     rw [if_pos (by omega)])
  (fun O hI => ⟨O, hI, by
   unfold qbh_
   have g0 : ¬ ((x.l.length : Nat) : Int) < ((x.l.length : Nat) : Int) := by omega
   cases O <;> simp only [] <;> rw [if_neg g0]⟩) n 0 [] (Nat.zero_le _) ⟨rfl, fun i hi => by omega⟩ (by omega)
 exact ⟨r, q0, q1, q2⟩
theorem join1_ok {n : Nat} {x : WL rw_iuuuuL} {kind : Int} (v : Valid x) (hs : Small x) (hn : 2000 < n) : ∃ y : WL rw_iuuuuL, qf_ n kind x = some y ∧ y.l.length = x.l.length + 1 ∧ Part x y 0 ∧ Top y kind [((x.l.length - 1 : Nat) : Int)] := by
 have hN := v.most
 have hN1 := v.one
 obtain ⟨O, o1, o2, o3⟩ := out1_ok (n := n) (kind := kind) v hs hn
 have hw : w64 (((O.length : Nat) : Int) - 1) = ((x.l.length - 1 : Nat) : Int) := by rw [o1, qoy_ (by omega) (by omega)]; omega
 have hb : [((x.l.length - 1 : Nat) : Int)].length ≤ 140737488355328 := by simp
 have hb2 : (O ++ [(kind, (0 : Int), (0 : Int), (0 : Int), (0 : Int), frzL [((x.l.length - 1 : Nat) : Int)] hb)]).length ≤ 9223372036854775807 := by rw [List.length_append, o1, List.length_singleton]; omega
 obtain ⟨y, hy, hyl⟩ : ∃ y : WL rw_iuuuuL, qf_ n kind x = some y ∧ y.l = O ++ [(kind, (0 : Int), (0 : Int), (0 : Int), (0 : Int), frzL [((x.l.length - 1 : Nat) : Int)] hb)] := by
  refine ⟨frzR qfg_ (O ++ [(kind, (0 : Int), (0 : Int), (0 : Int), (0 : Int), frzL [((x.l.length - 1 : Nat) : Int)] hb)]) hb2, ?_, rfl⟩
  unfold qf_
  rw [o3, Option.bind_some]
  cases O with
  | nil => simp at o1; omega
  | cons o O =>
   simp only []
   rw [hw, Option.bind_some, dif_pos hb]
   unfold qbz_
   simp only []
   rw [if_pos (by omega), dif_pos hb2]
   rfl
 have hlen : y.l.length = x.l.length + 1 := by
  rw [hyl, List.length_append, o1]
  rfl
 have hr : ∀ i, i < x.l.length → row y i = O.getD i (0, 0, 0, 0, 0, nl0) := fun i hi => by
  unfold row
  rw [hyl, List.getD_eq_getElem?_getD, List.getElem?_append_left (by omega), ← List.getD_eq_getElem?_getD]
 have hl : row y (y.l.length - 1) = (kind, (0 : Int), (0 : Int), (0 : Int), (0 : Int), frzL [((x.l.length - 1 : Nat) : Int)] hb) := by
  unfold row
  rw [hlen, Nat.add_sub_cancel, hyl, List.getD_eq_getElem?_getD, List.getElem?_append_right (by omega), o1, Nat.sub_self]
  rfl
 refine ⟨y, hy, hlen, ⟨by omega, fun i hi => ?_⟩, ⟨by omega, by rw [hl], by rw [hl]; exact ⟨rfl, rfl, rfl, rfl⟩, by unfold kidsI; rw [hl]; rfl⟩⟩
 rw [Nat.zero_add]
 obtain ⟨h1, h2, h3, h4, h5, h6⟩ := o2 i hi
 unfold kidsI
 rw [hr i hi]
 refine ⟨h1, h2, h3, h4, h5, h6.trans ?_⟩
 simp


theorem in2_ok {n : Nat} {x y : WL rw_iuuuuL} {a b c d e f g : Int} {K : NL} {out : List Row} (hK : ∀ k ∈ K.l, 0 ≤ k ∧ k < 512) (hl : K.l.length ≤ 1000) (hn : 2000 < n) : ∃ M : NL, M.l = K.l ∧ qcx_ n x y a b c d e f g K (out, [], 0) = some (out, M) := by
 obtain ⟨r, ⟨M, q1, rfl⟩, q2⟩ := hoare (B := qz_ n x y a b c d e f g K) (σ := List Int) (fun s t => (out, s, t)) (fun t s => s = K.l.take t) (fun r => ∃ M : NL, M.l = K.l ∧ r = (out, M)) K.l.length
  (fun t s ht hI => by
   subst hI
   have hget : K.l.getD t 0 = K.l[t] := by rw [List.getD_eq_getElem?_getD, List.getElem?_eq_getElem ht]; rfl
   have hb := hK _ (List.getElem_mem ht)
   have htk : K.l.take (t + 1) = K.l.take t ++ [K.l[t]] := by rw [List.take_add_one, List.getElem?_eq_getElem ht]; rfl
   have hw : w64 (K.l[t] + 0) = K.l[t] := by rw [qoy_ (by omega) (by omega)]; omega
   have hlen : (K.l.take t).length ≤ 1000 := by rw [List.length_take]; omega
   refine .inl ⟨_, rfl, ?_⟩
   unfold qz_
   rw [htk]
   generalize K.l.take t = m at hlen ⊢
   have g1 : 0 ≤ (t : Int) ∧ (t : Int) < ((K.l.length : Nat) : Int) := by omega
   have g0 : (t : Int) < ((K.l.length : Nat) : Int) := by omega
   cases out <;> cases m <;> simp only [] <;> rw [if_pos g0, if_pos g1, if_pos (by rw [Int.toNat_natCast]; exact ht), Option.bind_some, Int.toNat_natCast, hget, hw, qe1_ (by omega)]
   ·rfl
   ·rw [if_pos (by omega)]
   ·rfl
   ·rw [if_pos (by omega)])
  (fun s hI => by
   rw [List.take_length] at hI
   subst hI
   have g0 : ¬ ((K.l.length : Nat) : Int) < ((K.l.length : Nat) : Int) := by omega
   cases hm : K.l with
   | nil =>
    refine ⟨_, ⟨nl0, rfl, rfl⟩, ?_⟩
    unfold qz_
    cases out <;> simp only [] <;> rw [hm] <;> rfl
   | cons z l =>
    have hb : (z :: l).length ≤ 140737488355328 := by rw [← hm]; omega
    refine ⟨_, ⟨frzL (z :: l) hb, rfl, rfl⟩, ?_⟩
    unfold qz_
    cases out <;> simp only [] <;> rw [hm] <;> rw [if_neg (by omega), dif_pos hb]) n 0 [] (Nat.zero_le _) rfl (by omega)
 exact ⟨M, q1, q2⟩
theorem out2_ok {n : Nat} {x y : WL rw_iuuuuL} {kind : Int} (v : Valid x) (hs : Small x) (hn : 2000 < n) : ∃ O : List Row, O.length = x.l.length ∧ (∀ i, i < x.l.length → Like (row x i) (O.getD i (0, 0, 0, 0, 0, nl0))) ∧ qd1_ n x y kind ([], 0) = some O := by
 have hN := v.most
 obtain ⟨r, ⟨q0, q1⟩, q2⟩ := hoare (B := qbd_ n x y kind) (σ := List Row) (fun s t => (s, t)) (fun t O => O.length = t ∧ ∀ i, i < t → Like (row x i) (O.getD i (0, 0, 0, 0, 0, nl0)))
  (fun O => O.length = x.l.length ∧ ∀ i, i < x.l.length → Like (row x i) (O.getD i (0, 0, 0, 0, 0, nl0))) x.l.length
  (fun t O ht hI => by
   obtain ⟨h1, h2⟩ := hI
   have hrow : x.l.getD t (0, 0, 0, 0, 0, nl0) = row x t := rfl
   obtain ⟨M, m1, m2⟩ := in2_ok (n := n) (x := x) (y := y) (a := kind) (b := (t : Int)) (c := (row x t).1) (d := (row x t).2.1) (e := (row x t).2.2.1) (f := (row x t).2.2.2.1) (g := (row x t).2.2.2.2.1) (K := (row x t).2.2.2.2.2) (out := O) (fun k hk => by have := qnl_ v ht hk; omega) (qh9_ hs ht) hn
   refine .inl ⟨O ++ [((row x t).1, (row x t).2.1, (row x t).2.2.1, (row x t).2.2.2.1, (row x t).2.2.2.2.1, M)], ⟨by rw [List.length_append, h1]; rfl, fun i hi => ?_⟩, ?_⟩
   ·by_cases e : i = t
    ·subst e
     rw [List.getD_eq_getElem?_getD, List.getElem?_append_right (by omega), h1, Nat.sub_self]
     exact ⟨rfl, rfl, rfl, rfl, rfl, m1⟩
    ·rw [List.getD_eq_getElem?_getD, List.getElem?_append_left (by omega), ← List.getD_eq_getElem?_getD]
     exact h2 i (by omega)
   ·unfold qbd_
    have g1 : 0 ≤ (t : Int) ∧ (t : Int) < ((x.l.length : Nat) : Int) := by omega
    have g0 : (t : Int) < ((x.l.length : Nat) : Int) := by omega
    cases O with
    | nil =>
     simp only []
     rw [if_pos g0, if_pos g1, Option.bind_some, Int.toNat_natCast, hrow, m2, Option.bind_some, qe1_ (by omega)]
     rfl
    | cons o O =>
     simp only []
     rw [if_pos g0, if_pos g1, Option.bind_some, Int.toNat_natCast, hrow, m2, Option.bind_some, qe1_ (by omega)]
     simp only []
     rw [if_pos (by omega)])
  (fun O hI => ⟨O, hI, by
   unfold qbd_
   have g0 : ¬ ((x.l.length : Nat) : Int) < ((x.l.length : Nat) : Int) := by omega
   cases O <;> simp only [] <;> rw [if_neg g0]⟩) n 0 [] (Nat.zero_le _) ⟨rfl, fun i hi => by omega⟩ (by omega)
 exact ⟨r, q0, q1, q2⟩
theorem in4_ok {n : Nat} {x y : WL rw_iuuuuL} {ls : List Int} {mv : Nat} (hmv : mv ≤ 600) {a b c d e f g : Int} {K : NL} {out : List Row} (hK : ∀ k ∈ K.l, 0 ≤ k ∧ k < 512) (hl : K.l.length ≤ 1000) (hn : 2000 < n) : ∃ M : NL, M.l = K.l.map (· + (mv : Int)) ∧ qcz_ n x y a ls (mv : Int) b c d e f g K (out, [], 0) = some (out, M) := by
 obtain ⟨r, ⟨M, q1, rfl⟩, q2⟩ := hoare (B := q0_ n x y a ls (mv : Int) b c d e f g K) (σ := List Int) (fun s t => (out, s, t)) (fun t s => s = (K.l.take t).map (· + (mv : Int))) (fun r => ∃ M : NL, M.l = K.l.map (· + (mv : Int)) ∧ r = (out, M)) K.l.length
  (fun t s ht hI => by
   subst hI
   have hget : K.l.getD t 0 = K.l[t] := by rw [List.getD_eq_getElem?_getD, List.getElem?_eq_getElem ht]; rfl
   have hb := hK _ (List.getElem_mem ht)
   have htk : K.l.take (t + 1) = K.l.take t ++ [K.l[t]] := by rw [List.take_add_one, List.getElem?_eq_getElem ht]; rfl
   have hw : w64 (K.l[t] + (mv : Int)) = K.l[t] + (mv : Int) := qoy_ (by omega) (by omega)
   have hlen : ((K.l.take t).map (· + (mv : Int))).length ≤ 1000 := by rw [List.length_map, List.length_take]; omega
   refine .inl ⟨_, rfl, ?_⟩
   unfold q0_
   rw [htk, List.map_append, List.map_singleton]
   generalize (K.l.take t).map (· + (mv : Int)) = m at hlen ⊢
   have g1 : 0 ≤ (t : Int) ∧ (t : Int) < ((K.l.length : Nat) : Int) := by omega
   have g0 : (t : Int) < ((K.l.length : Nat) : Int) := by omega
   cases out <;> cases m <;> simp only [] <;> rw [if_pos g0, if_pos g1, if_pos (by rw [Int.toNat_natCast]; exact ht), Option.bind_some, Int.toNat_natCast, hget, hw, qe1_ (by omega)]
   ·rfl
   ·rw [if_pos (by omega)]
   ·rfl
   ·rw [if_pos (by omega)])
  (fun s hI => by
   rw [List.take_length] at hI
   subst hI
   have g0 : ¬ ((K.l.length : Nat) : Int) < ((K.l.length : Nat) : Int) := by omega
   cases hm : K.l with
   | nil =>
    refine ⟨_, ⟨nl0, rfl, rfl⟩, ?_⟩
    unfold q0_
    cases out <;> simp only [] <;> rw [hm] <;> rfl
   | cons z l =>
    have hb : ((z + (mv : Int)) :: l.map (· + (mv : Int))).length ≤ 140737488355328 := by
     have : (z :: l).length = (K.l).length := by rw [hm]
     rw [List.length_cons, List.length_map]
     rw [List.length_cons] at this
     omega
    refine ⟨_, ⟨frzL ((z + (mv : Int)) :: l.map (· + (mv : Int))) hb, rfl, rfl⟩, ?_⟩
    unfold q0_
    cases out <;> simp only [] <;> rw [hm, List.map_cons] <;> simp only [] <;> rw [if_neg (by omega), dif_pos hb]) n 0 [] (Nat.zero_le _) rfl (by omega)
 exact ⟨M, q1, q2⟩
def LikeM (mv : Nat) (r s : Row) : Prop := s.1 = r.1 ∧ s.2.1 = r.2.1 ∧ s.2.2.1 = r.2.2.1 ∧ s.2.2.2.1 = r.2.2.2.1 ∧ s.2.2.2.2.1 = r.2.2.2.2.1 ∧ s.2.2.2.2.2.l = r.2.2.2.2.2.l.map (· + (mv : Int))
theorem out4_ok {n : Nat} {x y : WL rw_iuuuuL} {ls : List Int} {mv : Nat} (hmv : mv ≤ 600) {kind : Int} (v : Valid y) (hs : Small y) {P : List Row} (hP : P.length ≤ 1000) (hn : 2000 < n) : ∃ O : List Row, O.length = y.l.length ∧ (∀ i, i < y.l.length → LikeM mv (row y i) (O.getD i (0, 0, 0, 0, 0, nl0))) ∧ qc2_ n x y kind ls (mv : Int) (P, 0) = some (P ++ O) := by
 have hN := v.most
 obtain ⟨r, ⟨O, q0, q1, rfl⟩, q2⟩ := hoare (B := qbe_ n x y kind ls (mv : Int)) (σ := List Row) (fun s t => (s, t)) (fun t Q => ∃ O : List Row, Q = P ++ O ∧ O.length = t ∧ ∀ i, i < t → LikeM mv (row y i) (O.getD i (0, 0, 0, 0, 0, nl0)))
  (fun Q => ∃ O : List Row, O.length = y.l.length ∧ (∀ i, i < y.l.length → LikeM mv (row y i) (O.getD i (0, 0, 0, 0, 0, nl0))) ∧ Q = P ++ O) y.l.length
  (fun t Q ht hI => by
   obtain ⟨O, rfl, h1, h2⟩ := hI
   have hrow : y.l.getD t (0, 0, 0, 0, 0, nl0) = row y t := rfl
   have hQ : (P ++ O).length ≤ 2000 := by rw [List.length_append]; omega
   have hin := fun out => in4_ok (n := n) (x := x) (y := y) (ls := ls) hmv (a := kind) (b := (t : Int)) (c := (row y t).1) (d := (row y t).2.1) (e := (row y t).2.2.1) (f := (row y t).2.2.2.1) (g := (row y t).2.2.2.2.1) (K := (row y t).2.2.2.2.2) (out := out) (fun k hk => by have := qnl_ v ht hk; omega) (qh9_ hs ht) hn
   obtain ⟨M, m1, m2⟩ := hin (P ++ O)
   refine .inl ⟨P ++ (O ++ [((row y t).1, (row y t).2.1, (row y t).2.2.1, (row y t).2.2.2.1, (row y t).2.2.2.2.1, M)]), ⟨_, rfl, by rw [List.length_append, h1]; rfl, fun i hi => ?_⟩, ?_⟩
   ·by_cases e : i = t
    ·subst e
     rw [List.getD_eq_getElem?_getD, List.getElem?_append_right (by omega), h1, Nat.sub_self]
     exact ⟨rfl, rfl, rfl, rfl, rfl, m1⟩
    ·rw [List.getD_eq_getElem?_getD, List.getElem?_append_left (by omega), ← List.getD_eq_getElem?_getD]
     exact h2 i (by omega)
   ·unfold qbe_
    rw [← List.append_assoc]
    have g1 : 0 ≤ (t : Int) ∧ (t : Int) < ((y.l.length : Nat) : Int) := by omega
    have g0 : (t : Int) < ((y.l.length : Nat) : Int) := by omega
    generalize P ++ O = Q at hQ m2 ⊢
    cases Q with
    | nil =>
     simp only []
     rw [if_pos g0, if_pos g1, Option.bind_some, Int.toNat_natCast, hrow, m2, Option.bind_some, qe1_ (by omega)]
     rfl
    | cons o Q =>
     simp only []
     rw [if_pos g0, if_pos g1, Option.bind_some, Int.toNat_natCast, hrow, m2, Option.bind_some, qe1_ (by omega)]
     simp only []
     rw [if_pos (by omega)])
  (fun Q hI => ⟨Q, by
   obtain ⟨O, h1, h2, h3⟩ := hI
   exact ⟨O, h2, h3, h1⟩, by
   unfold qbe_
   have g0 : ¬ ((y.l.length : Nat) : Int) < ((y.l.length : Nat) : Int) := by omega
   cases Q <;> simp only [] <;> rw [if_neg g0]⟩) n 0 P (Nat.zero_le _) ⟨[], by simp, rfl, fun i hi => by omega⟩ (by omega)
 exact ⟨O, q0, q1, q2⟩
theorem join2_ok {n : Nat} {x y : WL rw_iuuuuL} {kind : Int} (v : Valid x) (hs : Small x) (v2 : Valid y) (hs2 : Small y) (hn : 2000 < n) : ∃ z : WL rw_iuuuuL, qr_ n kind x y = some z ∧ z.l.length = x.l.length + y.l.length + 1 ∧ Part x z 0 ∧ Part y z x.l.length ∧ Top z kind [((x.l.length - 1 : Nat) : Int), ((x.l.length + y.l.length - 1 : Nat) : Int)] := by
 have hN := v.most
 have hN1 := v.one
 have hM := v2.most
 have hM1 := v2.one
 obtain ⟨O, o1, o2, o3⟩ := out2_ok (n := n) (y := y) (kind := kind) v hs hn
 have hw : w64 (((O.length : Nat) : Int) - 1) = ((x.l.length - 1 : Nat) : Int) := by rw [o1, qoy_ (by omega) (by omega)]; omega
 obtain ⟨U, u1, u2, u3⟩ := out4_ok (n := n) (x := x) (y := y) (ls := [((x.l.length - 1 : Nat) : Int)]) (mv := O.length) (by omega) (kind := kind) v2 hs2 (P := O) (by omega) hn
 have hOU : (O ++ U).length = x.l.length + y.l.length := by rw [List.length_append, o1, u1]
 have hw2 : w64 ((((O ++ U).length : Nat) : Int) - 1) = ((x.l.length + y.l.length - 1 : Nat) : Int) := by rw [hOU, qoy_ (by omega) (by omega)]; omega
 have hb : ([((x.l.length - 1 : Nat) : Int)] ++ [((x.l.length + y.l.length - 1 : Nat) : Int)]).length ≤ 140737488355328 := by simp
 have hb2 : (O ++ U ++ [(kind, (0 : Int), (0 : Int), (0 : Int), (0 : Int), frzL ([((x.l.length - 1 : Nat) : Int)] ++ [((x.l.length + y.l.length - 1 : Nat) : Int)]) hb)]).length ≤ 9223372036854775807 := by rw [List.length_append, hOU, List.length_singleton]; omega
 obtain ⟨z, hz, hzl⟩ : ∃ z : WL rw_iuuuuL, qr_ n kind x y = some z ∧ z.l = O ++ U ++ [(kind, (0 : Int), (0 : Int), (0 : Int), (0 : Int), frzL ([((x.l.length - 1 : Nat) : Int)] ++ [((x.l.length + y.l.length - 1 : Nat) : Int)]) hb)] := by
  cases O with
  | nil => simp at o1; omega
  | cons o O =>
   revert hb2
   generalize hQ : o :: O ++ U = Q at hw2 hOU u3 ⊢
   intro hb2
   refine ⟨frzR qfg_ _ hb2, ?_, rfl⟩
   unfold qr_
   rw [o3, Option.bind_some]
   simp only []
   rw [hw, Option.bind_some, u3, Option.bind_some]
   cases Q with
   | nil => simp at hOU; omega
   | cons q Q =>
    simp only []
    rw [hw2, Option.bind_some, if_pos (by simp), dif_pos hb]
    unfold qbf_
    simp only []
    rw [if_pos (by omega), dif_pos hb2]
    rfl
 have hlen : z.l.length = x.l.length + y.l.length + 1 := by
  rw [hzl, List.length_append, hOU]
  rfl
 have hr : ∀ i, i < x.l.length → row z i = O.getD i (0, 0, 0, 0, 0, nl0) := fun i hi => by
  unfold row
  rw [hzl, List.getD_eq_getElem?_getD, List.append_assoc, List.getElem?_append_left (by omega), ← List.getD_eq_getElem?_getD]
 have hr2 : ∀ i, i < y.l.length → row z (x.l.length + i) = U.getD i (0, 0, 0, 0, 0, nl0) := fun i hi => by
  unfold row
  rw [hzl, List.getD_eq_getElem?_getD, List.append_assoc, List.getElem?_append_right (by omega), List.getElem?_append_left (by omega), ← List.getD_eq_getElem?_getD, o1, Nat.add_sub_cancel_left]
 have hl : row z (z.l.length - 1) = (kind, (0 : Int), (0 : Int), (0 : Int), (0 : Int), frzL ([((x.l.length - 1 : Nat) : Int)] ++ [((x.l.length + y.l.length - 1 : Nat) : Int)]) hb) := by
  unfold row
  rw [hlen, Nat.add_sub_cancel, hzl, List.getD_eq_getElem?_getD, List.getElem?_append_right (by omega), hOU, Nat.sub_self]
  rfl
 refine ⟨z, hz, hlen, ⟨by omega, fun i hi => ?_⟩, ⟨by omega, fun i hi => ?_⟩, ⟨by omega, by rw [hl], by rw [hl]; exact ⟨rfl, rfl, rfl, rfl⟩, by unfold kidsI; rw [hl]; rfl⟩⟩
 ·rw [Nat.zero_add]
  obtain ⟨h1, h2, h3, h4, h5, h6⟩ := o2 i hi
  unfold kidsI
  rw [hr i hi]
  refine ⟨h1, h2, h3, h4, h5, h6.trans ?_⟩
  simp
 ·obtain ⟨h1, h2, h3, h4, h5, h6⟩ := u2 i hi
  unfold kidsI
  rw [hr2 i hi]
  rw [o1] at h6
  exact ⟨h1, h2, h3, h4, h5, h6⟩


theorem valid_two {x y z : WL rw_iuuuuL} {kind : Int} (v : Valid x) (v2 : Valid y) (hp : Part x z 0) (hq : Part y z x.l.length) (hl : z.l.length = x.l.length + y.l.length + 1) (hm : z.l.length ≤ 512) (hk : kind = 3 ∨ kind = 4) (ht : Top z kind [((x.l.length - 1 : Nat) : Int), ((x.l.length + y.l.length - 1 : Nat) : Int)]) : Valid z := by
 have hN := v.one
 have hM := v2.one
 have htop : z.l.length - 1 = x.l.length + y.l.length := by omega
 have k1 : ∀ i, i < x.l.length → kidsI z i = kidsI x i := fun i hi => by
  have := (hp.same i hi).2.2.2.2.2
  rw [Nat.zero_add] at this
  rw [this]
  simp
 have k2 : ∀ i, i < y.l.length → kidsI z (x.l.length + i) = (kidsI y i).map (· + ((x.l.length : Nat) : Int)) := fun i hi => (hq.same i hi).2.2.2.2.2
 have k3 : kidsI z (x.l.length + y.l.length) = [((x.l.length - 1 : Nat) : Int), ((x.l.length + y.l.length - 1 : Nat) : Int)] := by have := ht.kids; rw [htop] at this; exact this
 have hrk : (row z (x.l.length + y.l.length)).1 = kind := by have := ht.kind; rw [htop] at this; exact this
 have hrc := ht.c0
 rw [htop] at hrc
 -- where a number lies that is a part of a node
 have inx : ∀ i, i < x.l.length → ∀ k ∈ kidsI z i, 0 ≤ k ∧ k < (i : Int) := fun i hi k hk => by rw [k1 i hi] at hk; exact qnl_ v hi hk
 have iny : ∀ i, i < y.l.length → ∀ k ∈ kidsI z (x.l.length + i), ((x.l.length : Nat) : Int) ≤ k ∧ k < ((x.l.length + i : Nat) : Int) ∧ k - ((x.l.length : Nat) : Int) ∈ kidsI y i := fun i hi k hk => by
  rw [k2 i hi] at hk
  obtain ⟨u, hu, rfl⟩ := List.mem_map.1 hk
  have := qnl_ v2 hi hu
  refine ⟨by omega, by omega, ?_⟩
  rw [show u + ((x.l.length : Nat) : Int) - ((x.l.length : Nat) : Int) = u by omega]
  exact hu
 have three : ∀ i, i < z.l.length → i < x.l.length ∨ (∃ j, j < y.l.length ∧ i = x.l.length + j) ∨ i = x.l.length + y.l.length := fun i hi => by
  by_cases h1 : i < x.l.length
  ·exact .inl h1
  ·by_cases h2 : i < x.l.length + y.l.length
   ·exact .inr (.inl ⟨i - x.l.length, by omega, by omega⟩)
   ·exact .inr (.inr (by omega))
 refine ⟨by omega, hm, ⟨fun i hi => ?_, fun i hi => ?_, fun i hi i' hi' k => ?_⟩, fun j hj => ?_⟩
 ·rcases three i hi with h | ⟨j, hj, rfl⟩ | rfl
  ·rw [k1 i h]
   exact v.up.kok i h
  ·refine ⟨fun k hk => by have := iny j hj k hk; omega, ?_⟩
   rw [k2 j hj]
   refine List.pairwise_map.2 ((v2.up.kok j hj).2.imp fun h e => h ?_)
   omega
  ·rw [k3]
   refine ⟨fun k hk => ?_, ?_⟩
   ·simp only [List.mem_cons, List.not_mem_nil, or_false] at hk
    rcases hk with rfl | rfl <;> omega
   ·refine List.nodup_cons.2 ⟨fun h => ?_, by simp⟩
    have := List.mem_singleton.1 h
    omega
 ·rcases three i hi with h | ⟨j, hj, rfl⟩ | rfl
  ·obtain ⟨h1, h2, h3, h4, h5, h6⟩ := hp.same i h
   rw [Nat.zero_add] at h1 h2 h3 h4 h5 h6
   have hf := v.up.fit i h
   have h7 : (row z i).2.2.2.2.2.l.length = (row x i).2.2.2.2.2.l.length := congrArg List.length (k1 i h)
   unfold Fit at hf ⊢
   rw [h1, h2, h3, h4, h5, h7]
   exact hf
  ·obtain ⟨h1, h2, h3, h4, h5, h6⟩ := hq.same j hj
   have hf := v2.up.fit j hj
   have h7 : (row z (x.l.length + j)).2.2.2.2.2.l.length = (row y j).2.2.2.2.2.l.length := by
    have := congrArg List.length (k2 j hj)
    rw [List.length_map] at this
    exact this
   unfold Fit at hf ⊢
   rw [h1, h2, h3, h4, h5, h7]
   exact hf
  ·refine ⟨.inr hrc, .inr (.inl ⟨by rw [hrk]; exact hk, ?_⟩)⟩
   have : (row z (x.l.length + y.l.length)).2.2.2.2.2.l = _ := k3
   rw [this]
   exact Nat.le_refl _
 ·rintro ⟨a1, a2⟩
  rcases three i hi with h | ⟨j, hj, rfl⟩ | rfl
  ·rw [k1 i h] at a2
   rw [k1 i' (by omega)] at a1
   exact v.up.apart i h i' hi' k ⟨a1, a2⟩
  ·obtain ⟨b1, b2, b3⟩ := iny j hj k a2
   rcases three i' (by omega) with h' | ⟨j', hj', rfl⟩ | rfl
   ·have := inx i' h' k a1
    omega
   ·obtain ⟨_, _, c3⟩ := iny j' hj' k a1
    exact v2.up.apart j hj j' (by omega) _ ⟨c3, b3⟩
   ·omega
  ·rw [k3] at a2
   simp only [List.mem_cons, List.not_mem_nil, or_false] at a2
   rcases three i' (by omega) with h' | ⟨j', hj', rfl⟩ | rfl
   ·have := inx i' h' k a1
    rcases a2 with rfl | rfl <;> omega
   ·obtain ⟨c1, c2, _⟩ := iny j' hj' k a1
    rcases a2 with rfl | rfl <;> omega
   ·omega
 ·by_cases e1 : j = x.l.length - 1
  ·exact ⟨x.l.length + y.l.length, by omega, by rw [k3, e1]; simp⟩
  ·by_cases e2 : j = x.l.length + y.l.length - 1
   ·exact ⟨x.l.length + y.l.length, by omega, by rw [k3, e2]; simp⟩
   ·by_cases h : j < x.l.length
    ·obtain ⟨i, hi, h⟩ := v.cover j (by omega)
     exact ⟨i, by omega, by rw [k1 i hi]; exact h⟩
    ·obtain ⟨i, hi, h⟩ := v2.cover (j - x.l.length) (by omega)
     exact ⟨x.l.length + i, by omega, by
      rw [k2 i hi]
      exact List.mem_map.2 ⟨_, h, by omega⟩⟩
theorem lang_two {x y z : WL rw_iuuuuL} {kind : Int} (v : Valid x) (v2 : Valid y) (hp : Part x z 0) (hq : Part y z x.l.length) (hl : z.l.length = x.l.length + y.l.length + 1) (hm : z.l.length ≤ 512) (hk : kind = 3 ∨ kind = 4) (ht : Top z kind [((x.l.length - 1 : Nat) : Int), ((x.l.length + y.l.length - 1 : Nat) : Int)]) :
  L (nd z) (z.l.length - 1) = sem kind.toNat (nd z (z.l.length - 1)).p [L (nd x) (x.l.length - 1), L (nd y) (y.l.length - 1)] := by
 have vz := valid_two v v2 hp hq hl hm hk ht
 have hN := v.one
 have hM := v2.one
 rw [L_eq (lo vz) (by omega)]
 have h1 : (nd z (z.l.length - 1)).k = kind.toNat := by
  show (row z (z.l.length - 1)).1.toNat = _
  rw [ht.kind]
 have h2 : (nd z (z.l.length - 1)).kids = [x.l.length - 1, x.l.length + (y.l.length - 1)] := by
  show (kidsI z (z.l.length - 1)).map Int.toNat = _
  rw [ht.kids]
  show [x.l.length - 1, x.l.length + y.l.length - 1] = _
  rw [show x.l.length + y.l.length - 1 = x.l.length + (y.l.length - 1) by omega]
 rw [h1, h2]
 have h3 := hp.lang v (lo vz) (x.l.length - 1) (by omega)
 rw [Nat.zero_add] at h3
 have h4 := hq.lang v2 (lo vz) (y.l.length - 1) (by omega)
 rw [List.map_cons, List.map_cons, List.map_nil, h3, h4]


theorem Valid.small {x : WL rw_iuuuuL} (v : Valid x) : Small x := fun i hi => by
 -- the parts are apart, and below i
 have h := v.up.kok i hi
 have hN := v.most
 have : (kidsI x i).length ≤ i := by
  have hnd := kids_nodup v hi
  have hlt : ∀ k ∈ (nd x i).kids, k < i := fun k hk => qlw_ v hi hk
  have hlen : (nd x i).kids.length = (kidsI x i).length := by
   show ((kidsI x i).map Int.toNat).length = _
   rw [List.length_map]
  rw [← hlen]
  have hsub : (nd x i).kids ⊆ List.range i := fun k hk => List.mem_range.2 (hlt k hk)
  have := List.Nodup.length_le_of_subset hnd hsub
  rw [List.length_range] at this
  exact this
 omega
structure Is (x : WL rw_iuuuuL) (a : Lang) (most : Nat) : Prop where
 v : Valid x
 len : x.l.length ≤ most
 lang : L (nd x) (x.l.length - 1) = a
theorem Is.match {x : WL rw_iuuuuL} {a : Lang} {m n : Nat} (h : Is x a m) {s : ByteArray} (hs : s.size ≤ 1000) (hn : 2000 < n) : ∃ f, qd_ n x s = some f ∧ (f = true ↔ a (word s)) := by
 obtain ⟨f, h1, h2⟩ := match_ok h.v h.v.small hs hn
 rw [h.lang] at h2
 exact ⟨f, h1, h2⟩
theorem Is.one {x : WL rw_iuuuuL} {a : Lang} {m n : Nat} (h : Is x a m) (hm : m < 512) {kind : Int} (hk : kind = 5 ∨ kind = 6 ∨ kind = 7) (hn : 2000 < n) : ∃ y, qf_ n kind x = some y ∧ ∃ p, Is y (sem kind.toNat p [a]) (m + 1) := by
 obtain ⟨y, h1, h2, h3, h4⟩ := join1_ok (n := n) (kind := kind) h.v h.v.small hn
 have hl := h.len
 refine ⟨y, h1, (nd y (y.l.length - 1)).p, valid_one h.v h3 h2 (by omega) hk h4, by omega, ?_⟩
 rw [lang_one h.v h3 h2 (by omega) hk h4, h.lang]
theorem Is.two {x y : WL rw_iuuuuL} {a b : Lang} {m l n : Nat} (h : Is x a m) (g : Is y b l) (hm : m + l < 512) {kind : Int} (hk : kind = 3 ∨ kind = 4) (hn : 2000 < n) : ∃ z, qr_ n kind x y = some z ∧ ∃ p, Is z (sem kind.toNat p [a, b]) (m + l + 1) := by
 obtain ⟨z, h1, h2, h3, h4, h5⟩ := join2_ok (n := n) (kind := kind) h.v h.v.small g.v g.v.small hn
 have hl := h.len
 have hl2 := g.len
 refine ⟨z, h1, (nd z (z.l.length - 1)).p, valid_two h.v g.v h3 h4 h2 (by omega) hk h5, by omega, ?_⟩
 rw [lang_two h.v g.v h3 h4 h2 (by omega) hk h5, h.lang, g.lang]


theorem light_some {n : Nat} (x : WL rw_iuuuuL) (hn : 2000 < n) : ∃ f, qbm_ n x 25 = some f ∧ (f = true → x.l.length ≤ 25 ∧ Small x) := by
 obtain ⟨r, q1, q2⟩ := hoare (B := q2_ n x 25) (σ := Int) (fun s t => (s, t)) (fun t s => ∃ m : Nat, s = (m : Int) ∧ m ≤ t * 140737488355328 ∧ ∀ i, i < t → (kidsI x i).length ≤ m) (fun r => x.l.length ≤ 25 → ∃ m : Nat, r = (m : Int) ∧ ∀ i, i < x.l.length → (kidsI x i).length ≤ m) (min x.l.length 26)
  (fun t s ht hI => by
   obtain ⟨m, rfl, hm, hk⟩ := hI
   unfold q2_
   simp only []
   have h1 : (t : Int) < ((x.l.length : Nat) : Int) := by omega
   have hrow : x.l.getD t (0, 0, 0, 0, 0, nl0) = row x t := rfl
   have hle := (row x t).2.2.2.2.2.le
   rw [if_pos h1, if_pos (by omega), if_pos (by omega), Option.bind_some, Option.bind_some, qe1_ (by omega), Int.toNat_natCast, hrow, w64_id (by omega) (by omega)]
   refine .inl ⟨((m + (row x t).2.2.2.2.2.l.length : Nat) : Int), ⟨_, rfl, by omega, fun i hi => ?_⟩, by congr 1⟩
   by_cases e : i = t
   ·rw [e]
    show (row x t).2.2.2.2.2.l.length ≤ _
    omega
   ·have := hk i (by omega)
    omega)
  (fun s hI => ⟨s, fun h25 => by
   obtain ⟨m, h1, _, h3⟩ := hI
   exact ⟨m, h1, fun i hi => h3 i (by omega)⟩, by
   unfold q2_
   simp only []
   by_cases c : ((min x.l.length 26 : Nat) : Int) < ((x.l.length : Nat) : Int)
   ·rw [if_pos c, if_neg (by omega)]
   ·rw [if_neg c]⟩) n 0 0 (Nat.zero_le _) ⟨0, rfl, by omega, fun i hi => by omega⟩ (by omega)
 have hrun : qdj_ n x 25 (0, 0) = some r := q2
 unfold qbm_
 rw [hrun, Option.bind_some]
 by_cases c : ((x.l.length : Nat) : Int) ≤ 25
 ·rw [if_pos c]
  obtain ⟨m, rfl, hm⟩ := q1 (by omega)
  have hw : w64 ((2 : Int) * 25) = 50 := by decide
  rw [hw]
  by_cases c2 : (m : Int) ≤ 50
  ·rw [if_pos c2]
   exact ⟨_, rfl, fun _ => ⟨by omega, fun i hi => by have := hm i hi; omega⟩⟩
  ·rw [if_neg c2]
   exact ⟨_, rfl, fun h => by cases h⟩
 ·rw [if_neg c]
  exact ⟨_, rfl, fun h => by cases h⟩
theorem iff_bool {a b : Bool} {p q : Prop} (h1 : a = true ↔ p) (h2 : b = true ↔ q) (h : p ↔ q) : a = b := by
 rw [Bool.eq_iff_iff, h1, h2, h]
theorem sem5 {p : Nat → Bool} {a : Lang} {w : List Nat} : sem 5 p [a] w ↔ lstar a w := by
 show (∃ l, [a] = [l] ∧ lstar l w) ↔ _
 constructor
 ·rintro ⟨l, hl, h⟩
  obtain rfl := (List.cons.inj hl).1
  exact h
 ·exact fun h => ⟨_, rfl, h⟩
theorem sem6 {p : Nat → Bool} {a : Lang} {w : List Nat} : sem 6 p [a] w ↔ lplus a w := by
 show (∃ l, [a] = [l] ∧ lplus l w) ↔ _
 constructor
 ·rintro ⟨l, hl, h⟩
  obtain rfl := (List.cons.inj hl).1
  exact h
 ·exact fun h => ⟨_, rfl, h⟩
theorem sem7 {p : Nat → Bool} {a : Lang} {w : List Nat} : sem 7 p [a] w ↔ w = [] ∨ a w := by
 show (w = [] ∨ ∃ l, [a] = [l] ∧ l w) ↔ _
 constructor
 ·rintro (h | ⟨l, hl, h⟩)
  ·exact .inl h
  ·obtain rfl := (List.cons.inj hl).1
   exact .inr h
 ·rintro (h | h)
  ·exact .inl h
  ·exact .inr ⟨_, rfl, h⟩
theorem sem4 {p : Nat → Bool} {a b : Lang} {w : List Nat} : sem 4 p [a, b] w ↔ a w ∨ b w := by
 show (∃ l ∈ [a, b], l w) ↔ _
 simp
theorem lang_eq {a b : Lang} (h : ∀ w, a w ↔ b w) : a = b := funext fun w => propext (h w)


theorem word_take (s : ByteArray) (i : Nat) : word (ByteArray.extract s 0 i) = (word s).take i := by
 unfold word
 rw [ByteArray.data_extract, Array.toList_extract, List.extract_eq_take_drop, List.drop_zero, Nat.sub_zero, List.map_take]
theorem word_drop (s : ByteArray) (i : Nat) : word (ByteArray.extract s i s.size) = (word s).drop i := by
 unfold word
 rw [ByteArray.data_extract, Array.toList_extract, List.extract_eq_take_drop, ← List.map_drop, List.take_of_length_le]
 rw [List.length_drop, Array.length_toList]
 exact Nat.le_refl _
theorem take_size (s : ByteArray) (i : Nat) : (ByteArray.extract s 0 i).size ≤ s.size := by
 rw [ByteArray.size_extract]; omega
theorem drop_size (s : ByteArray) (i : Nat) : (ByteArray.extract s i s.size).size ≤ s.size := by
 rw [ByteArray.size_extract]; omega
theorem cat_cut {a b : Lang} {w : List Nat} : lcats [a, b] w ↔ ∃ i, i < w.length + 1 ∧ a (w.take i) ∧ b (w.drop i) := by
 rw [cat2]
 constructor
 ·rintro ⟨x, y, rfl, hx, hy⟩
  refine ⟨x.length, by rw [List.length_append]; omega, ?_, ?_⟩
  ·rw [List.take_left]; exact hx
  ·rw [List.drop_left]; exact hy
 ·rintro ⟨i, _, h1, h2⟩
  exact ⟨_, _, (List.take_append_drop i w).symm, h1, h2⟩
theorem plus_first {a : Lang} {w : List Nat} (h : lplus a w) (hw : w ≠ []) : ∃ x y, w = x ++ y ∧ x ≠ [] ∧ a x ∧ lstar a y := by
 induction h with
 | @one x hx => exact ⟨x, [], by simp, hw, hx, .inl rfl⟩
 | @more x y hx hy ih =>
  by_cases hn : x = []
  ·subst hn
   exact ⟨y, [], by simp, by simpa using hw, hy, .inl rfl⟩
  ·obtain ⟨u, v, e, h1, h2, h3⟩ := ih hn
   refine ⟨u, v ++ y, by rw [e, List.append_assoc], h1, h2, .inr ?_⟩
   rcases h3 with rfl | h3
   ·exact .one hy
   ·exact .more h3 hy
theorem star_cut {a : Lang} {w : List Nat} : lstar a w ↔ w = [] ∨ ∃ i, i < w.length + 1 ∧ 0 < i ∧ a (w.take i) ∧ lstar a (w.drop i) := by
 constructor
 ·rintro (h | h)
  ·exact .inl h
  ·by_cases hw : w = []
   ·exact .inl hw
   ·obtain ⟨x, y, rfl, h1, h2, h3⟩ := plus_first h hw
    have := List.length_pos_iff.2 h1
    refine .inr ⟨x.length, by rw [List.length_append]; omega, this, ?_, ?_⟩
    ·rw [List.take_left]; exact h2
    ·rw [List.drop_left]; exact h3
 ·rintro (h | ⟨i, _, _, h1, h2⟩)
  ·exact .inl h
  ·rw [← List.take_append_drop i w]
   exact lstar_app (.inr (.one h1)) h2
theorem plus_star {a : Lang} {w : List Nat} : lplus a w ↔ (lstar a w ∧ w ≠ []) ∨ (w = [] ∧ a w) := by
 by_cases hw : w = []
 ·subst hw
  rw [lplus_nil]
  simp
 ·constructor
  ·exact fun h => .inl ⟨.inr h, hw⟩
  ·rintro (⟨h | h, _⟩ | ⟨h, _⟩)
   ·exact absurd h hw
   ·exact h
   ·exact absurd h hw

theorem t7_ok {n i : Nat} {x y z : WL rw_iuuuuL} {s : ByteArray} {p q c r fa fb fs : Bool} (hi : i < s.size + 1) (h1 : qd_ n x (ByteArray.extract s 0 i) = some fa) (h2 : qd_ n y (ByteArray.extract s i s.size) = some fb) (h3 : qf_ n 5 x = some z) (h4 : qd_ n z (ByteArray.extract s i s.size) = some fs) :
  qbs_ n x y s p q c r (i : Int) () = some (c || (fa && fb), r || (decide (0 < i) && (fa && fs))) := by
 have hg : 0 ≤ (i : Int) ∧ (i : Int) ≤ ((s.size : Nat) : Int) := by omega
 have hp : (i : Int) > 0 ↔ 0 < i := by omega
 unfold qbs_
 simp only [hg, and_self, if_true, Int.toNat_natCast, h1, h2, h3, h4, Option.bind_some, hp]
 by_cases h0 : 0 < i
 ·simp only [h0, if_true, decide_true]
  cases c <;> cases r <;> cases fa <;> simp
 ·simp only [h0, if_false, decide_false]
  cases c <;> cases r <;> cases fa <;> simp
theorem loop_cut {n : Nat} {x y z : WL rw_iuuuuL} {s : ByteArray} {p q r0 : Bool} {fa fb fs : Nat → Bool} (hs : s.size ≤ 1000) (hn : 2000 < n) (h1 : ∀ i, qd_ n x (ByteArray.extract s 0 i) = some (fa i)) (h2 : ∀ i, qd_ n y (ByteArray.extract s i s.size) = some (fb i)) (h3 : qf_ n 5 x = some z) (h4 : ∀ i, qd_ n z (ByteArray.extract s i s.size) = some (fs i)) :
  ∃ c r, qbt_ n x y s p q (false, r0, 0) = some (c, r) ∧ (c = true ↔ ∃ i, i < s.size + 1 ∧ fa i = true ∧ fb i = true) ∧ (r = true ↔ r0 = true ∨ ∃ i, i < s.size + 1 ∧ 0 < i ∧ fa i = true ∧ fs i = true) := by
 obtain ⟨⟨c, r⟩, q1, q2⟩ := hoare (B := q6_ n x y s p q) (σ := Bool × Bool) (fun u t => (u.1, u.2, t)) (fun t u => (u.1 = true ↔ ∃ i, i < t ∧ fa i = true ∧ fb i = true) ∧ (u.2 = true ↔ r0 = true ∨ ∃ i, i < t ∧ 0 < i ∧ fa i = true ∧ fs i = true))
  (fun u => (u.1 = true ↔ ∃ i, i < s.size + 1 ∧ fa i = true ∧ fb i = true) ∧ (u.2 = true ↔ r0 = true ∨ ∃ i, i < s.size + 1 ∧ 0 < i ∧ fa i = true ∧ fs i = true)) (s.size + 1)
  (fun t u ht hI => by
   obtain ⟨c, r⟩ := u
   obtain ⟨hc, hr⟩ := hI
   have hc : c = true ↔ ∃ i, i < t ∧ fa i = true ∧ fb i = true := hc
   have hr : r = true ↔ r0 = true ∨ ∃ i, i < t ∧ 0 < i ∧ fa i = true ∧ fs i = true := hr
   unfold q6_
   simp only []
   rw [if_pos (by omega), t7_ok ht (h1 t) (h2 t) h3 (h4 t), Option.bind_some]
   refine .inl ⟨(c || (fa t && fb t), r || (decide (0 < t) && (fa t && fs t))), ⟨?_, ?_⟩, by rw [qe1_ (by omega)]⟩
   ·show (c || (fa t && fb t)) = true ↔ _
    rw [Bool.or_eq_true, Bool.and_eq_true, hc]
    constructor
    ·rintro (⟨i, h, k⟩ | h)
     ·exact ⟨i, by omega, k⟩
     ·exact ⟨t, by omega, h⟩
    ·rintro ⟨i, h, k⟩
     by_cases e : i = t
     ·exact .inr (e ▸ k)
     ·exact .inl ⟨i, by omega, k⟩
   ·show (r || (decide (0 < t) && (fa t && fs t))) = true ↔ _
    rw [Bool.or_eq_true, Bool.and_eq_true, Bool.and_eq_true, decide_eq_true_iff, hr]
    constructor
    ·rintro ((h | ⟨i, h, k⟩) | h)
     ·exact .inl h
     ·exact .inr ⟨i, by omega, k⟩
     ·exact .inr ⟨t, by omega, h⟩
    ·rintro (h | ⟨i, h, k⟩)
     ·exact .inl (.inl h)
     ·by_cases e : i = t
      ·exact .inr (e ▸ k)
      ·exact .inl (.inr ⟨i, by omega, k⟩))
  (fun u hI => ⟨u, hI, by
   obtain ⟨c, r⟩ := u
   unfold q6_
   simp only []
   rw [if_neg (by omega)]⟩) n 0 (false, r0) (Nat.zero_le _) ⟨by simp, by simp⟩ (by omega)
 exact ⟨c, r, q2, q1⟩
theorem nullable_ok {n : Nat} {x : WL rw_iuuuuL} (v : Valid x) (hn : 2000 < n) : ∃ f, q9_ n x = some f ∧ (f = true ↔ L (nd x) (x.l.length - 1) []) := by
 obtain ⟨S, ⟨hl, hS⟩, h1⟩ := nul_ok (n := n) v v.small hn
 have h0 := v.one
 have h5 := v.most
 unfold q9_
 rw [qsv_ v.small (by omega) hn, if_pos v, Option.bind_some, if_pos rfl, h1, Option.bind_some, Option.bind_some, qoy_ (by omega) (by omega)]
 have e : (((x.l.length : Nat) : Int) - 1).toNat = x.l.length - 1 := by omega
 rw [if_pos (by omega), e, if_pos (by omega), Option.bind_some]
 exact ⟨_, rfl, hS _ (by omega)⟩
theorem t8_ok {n : Nat} {x y z3 z4 z5 z6 z7 : WL rw_iuuuuL} {s : ByteArray} {fx fy c r g : Bool} (k3 : qr_ n 3 x y = some z3) (k4 : qr_ n 4 x y = some z4) (k5 : qf_ n 5 x = some z5) (k6 : qf_ n 6 x = some z6) (k7 : qf_ n 7 x = some z7) {e : Bool} (he : e = true ↔ s.data.toList = (ByteArray.mk #[]).data.toList)
  (m3 : qd_ n z3 s = some c) (m4 : qd_ n z4 s = some (fx || fy)) (m5 : qd_ n z5 s = some r) (m6 : qd_ n z6 s = some ((r && !e) || (e && fx))) (m7 : qd_ n z7 s = some (fx || e)) (hN : q9_ n x = some g) (mE : qd_ n x (ByteArray.mk #[]) = some g) :
  q7_ n x y s fx fy c r () = some () := by
 unfold q7_
 simp only [k3, k4, k5, k6, k7, m3, m4, m5, m6, m7, hN, mE, Option.bind_some, ← he]
 cases fx <;> cases fy <;> cases r <;> cases e <;> simp
theorem qq5_ (s : ByteArray) : ∃ n, qc6_ n s = some () := by
 refine ⟨2001, ?_⟩
 have hn : 2000 < 2001 := by omega
 generalize 2001 = n at hn
 have main : qbw_ n wA wB s () = some () := by
  unfold qbw_
  obtain ⟨fa, a1, a2⟩ := light_some (n := n) wA hn
  obtain ⟨fb, b1, b2⟩ := light_some (n := n) wB hn
  have t3 : qg_ n wA wB s true () = some (.inl ()) := by unfold qg_; rw [if_pos rfl]
  have t3f : qg_ n wA wB s false () = some (.inr ()) := by unfold qg_; rw [if_neg (by decide)]
  rw [a1, Option.bind_some, t3]
  cases fa with
  | false => rw [if_neg (by decide)]
  | true =>
   rw [if_pos rfl, b1, Option.bind_some]
   cases fb with
   | false => rw [if_neg (by decide)]
   | true =>
    obtain ⟨al, sa⟩ := a2 rfl
    obtain ⟨bl, sb⟩ := b2 rfl
    rw [if_pos rfl]
    by_cases hs : ((s.size : Nat) : Int) > 8
    ·rw [if_pos hs]
    ·have hsz : s.size ≤ 1000 := by omega
     rw [if_neg hs, qsv_ sa (by omega) hn, Option.bind_some]
     by_cases va : Valid wA
     ·rw [if_pos va, if_pos rfl, qsv_ sb (by omega) hn, Option.bind_some]
      by_cases vb : Valid wB
      ·rw [if_pos vb, if_pos rfl, t3f]
       have A : Is wA (L (nd wA) (wA.l.length - 1)) 25 := ⟨va, al, rfl⟩
       have B : Is wB (L (nd wB) (wB.l.length - 1)) 25 := ⟨vb, bl, rfl⟩
       obtain ⟨g, hN, hg⟩ := nullable_ok (n := n) va hn
       generalize L (nd wA) (wA.l.length - 1) = a at A hg
       generalize L (nd wB) (wB.l.length - 1) = b at B
       obtain ⟨z5, r5, p5, Z5⟩ := A.one (n := n) (by omega) (kind := 5) (.inl rfl) hn
       obtain ⟨z6, r6, p6, Z6⟩ := A.one (n := n) (by omega) (kind := 6) (.inr (.inl rfl)) hn
       obtain ⟨z7, r7, p7, Z7⟩ := A.one (n := n) (by omega) (kind := 7) (.inr (.inr rfl)) hn
       obtain ⟨z3, r3, p3, Z3⟩ := A.two (n := n) B (by omega) (kind := 3) (.inl rfl) hn
       obtain ⟨z4, r4, p4, Z4⟩ := A.two (n := n) B (by omega) (kind := 4) (.inr rfl) hn
       have h5 : sem 5 p5 [a] = lstar a := lang_eq fun w => sem5
       have h6 : sem 6 p6 [a] = lplus a := lang_eq fun w => sem6
       have h7 : sem 7 p7 [a] = fun w => w = [] ∨ a w := lang_eq fun w => sem7
       have h4 : sem 4 p4 [a, b] = fun w => a w ∨ b w := lang_eq fun w => sem4
       have h3 : sem 3 p3 [a, b] = lcats [a, b] := rfl
       have Z5 : Is z5 (lstar a) 26 := h5 ▸ Z5
       have Z6 : Is z6 (lplus a) 26 := h6 ▸ Z6
       have Z7 : Is z7 (fun w => w = [] ∨ a w) 26 := h7 ▸ Z7
       have Z4 : Is z4 (fun w => a w ∨ b w) 51 := h4 ▸ Z4
       have Z3 : Is z3 (lcats [a, b]) 51 := Z3
       obtain ⟨fx, mx, ex⟩ := A.match (n := n) hsz hn
       obtain ⟨fy, my, ey⟩ := B.match (n := n) hsz hn
       obtain ⟨f3, m3, e3⟩ := Z3.match (n := n) hsz hn
       obtain ⟨f4, m4, e4⟩ := Z4.match (n := n) hsz hn
       obtain ⟨f5, m5, e5⟩ := Z5.match (n := n) hsz hn
       obtain ⟨f6, m6, e6⟩ := Z6.match (n := n) hsz hn
       obtain ⟨f7, m7, e7⟩ := Z7.match (n := n) hsz hn
       obtain ⟨fe, me, ee⟩ := A.match (n := n) (s := ByteArray.mk #[]) (Nat.zero_le _) hn
       have ege : fe = g := iff_bool ee hg Iff.rfl
       subst ege
       obtain ⟨fa, ha⟩ := Classical.skolem.1 fun i => A.match (n := n) (s := ByteArray.extract s 0 i) (Nat.le_trans (take_size s i) hsz) hn
       obtain ⟨fb, hb⟩ := Classical.skolem.1 fun i => B.match (n := n) (s := ByteArray.extract s i s.size) (Nat.le_trans (drop_size s i) hsz) hn
       obtain ⟨fs, hf⟩ := Classical.skolem.1 fun i => Z5.match (n := n) (s := ByteArray.extract s i s.size) (Nat.le_trans (drop_size s i) hsz) hn
       have qa : ∀ i, fa i = true ↔ a ((word s).take i) := fun i => by rw [(ha i).2, word_take]
       have qb : ∀ i, fb i = true ↔ b ((word s).drop i) := fun i => by rw [(hb i).2, word_drop]
       have qs : ∀ i, fs i = true ↔ lstar a ((word s).drop i) := fun i => by rw [(hf i).2, word_drop]
       have hem : s.data.toList = (ByteArray.mk #[]).data.toList ↔ word s = [] := by
        unfold word
        rw [List.map_eq_nil_iff]
       have fin : ∀ r0 : Bool, (r0 = true ↔ s.data.toList = (ByteArray.mk #[]).data.toList) → ∃ c r, qbt_ n wA wB s fx fy (false, r0, 0) = some (c, r) ∧ q7_ n wA wB s fx fy c r () = some () := by
        intro r0 hr0
        obtain ⟨c, r, l1, l2, l3⟩ := loop_cut (p := fx) (q := fy) (r0 := r0) hsz hn (fun i => (ha i).1) (fun i => (hb i).1) r5 fun i => (hf i).1
        have l2 : c = true ↔ lcats [a, b] (word s) := by
         rw [l2, cat_cut, qsx_]
         exact exists_congr fun i => by rw [qa, qb]
        have hr1 : r0 = true ↔ word s = [] := hr0.trans hem
        have l3 : r = true ↔ lstar a (word s) := by
         rw [l3, star_cut, qsx_, hr1]
         exact or_congr Iff.rfl (exists_congr fun i => by rw [qa, qs])
        have c3 : f3 = c := iff_bool e3 l2 Iff.rfl
        have c5 : f5 = r := iff_bool e5 l3 Iff.rfl
        have c4 : f4 = (fx || fy) := Bool.eq_iff_iff.2 (by rw [e4, Bool.or_eq_true, ex, ey])
        have c7 : f7 = (fx || r0) := Bool.eq_iff_iff.2 (by rw [e7, Bool.or_eq_true, ex, hr1]; exact or_comm)
        have c6 : f6 = ((r && !r0) || (r0 && fx)) := Bool.eq_iff_iff.2 (by
         rw [e6, plus_star, Bool.or_eq_true, Bool.and_eq_true, Bool.and_eq_true, Bool.not_eq_true', ← Bool.not_eq_true, hr1, l3, ex])
        rw [c3] at m3
        rw [c4] at m4
        rw [c5] at m5
        rw [c6] at m6
        rw [c7] at m7
        exact ⟨c, r, l1, t8_ok r3 r4 r5 r6 r7 hr0 m3 m4 m5 m6 m7 hN me⟩
       have t5 : qbv_ n wA wB s fx fy () = some () := by
        unfold qbv_
        by_cases he : s.data.toList = (ByteArray.mk #[]).data.toList
        ·obtain ⟨c, r, l1, l2⟩ := fin true ⟨fun _ => he, fun _ => rfl⟩
         rw [if_pos he, l1, Option.bind_some]
         simp only []
         rw [l2, Option.bind_some]
        ·obtain ⟨c, r, l1, l2⟩ := fin false ⟨fun h => (nomatch h), fun h => absurd h he⟩
         rw [if_neg he, l1, Option.bind_some]
         simp only []
         rw [l2, Option.bind_some]
       show (ql_ n wA wB s ()).bind _ = _
       unfold ql_
       rw [mx, Option.bind_some, my, Option.bind_some, t5]
       rfl
      ·rw [if_neg vb, if_neg (by decide)]
     ·rw [if_neg va, if_neg (by decide)]
 unfold qc6_ qfq_ qcj_
 rw [Option.bind_some, Option.bind_some, main]
 rfl

end Go.Proofs.YtgiceoflfmmlcaaDoor.rkx02
