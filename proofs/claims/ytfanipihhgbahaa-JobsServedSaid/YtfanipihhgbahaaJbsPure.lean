/-
  The pure side. No condition.
-/
import Derived.Test.YtfanipihhgbahaaJbsBTold
import Derived.IntWalk
set_option linter.unusedSimpArgs false
set_option linter.unusedVariables false
set_option linter.unusedSectionVars false
set_option linter.unnecessarySimpa false
namespace Go.Proofs.Ytfanipihhgbahaa.jbs24
open Go Go.Proofs.Ytfanipihhgbahaa Ax
variable [Args]


theorem w64_id {x : Int} (h1 : -9223372036854775808 ≤ x) (h2 : x < 9223372036854775808) : w64 x = x := IntWalk.i64_in _ (by omega)
theorem w64_sm {x : Int} (h1 : -1000000000000 ≤ x) (h2 : x ≤ 1000000000000) : w64 x = x := w64_id (by omega) (by omega)
theorem w64_inc {i : Nat} (h : i ≤ 1000000000) : w64 ((i : Int) + 1) = ((i + 1 : Nat) : Int) := by rw [w64_sm (by omega) (by omega)]; rfl
/-! loops -/
theorem whileI {st ρ : Type} {B : st → Option (st ⊕ ρ)} (I : st → Prop) (μ : st → Nat) (Q : ρ → Prop) (h : ∀ s, I s → (∃ s', I s' ∧ μ s' < μ s ∧ B s = some (.inl s')) ∨ ∃ r, Q r ∧ B s = some (.inr r)) : ∀ (n : Nat) (s : st), I s → μ s < n → ∃ r, Q r ∧ iterM B n s = some r
 | 0, s, _, hm => absurd hm (Nat.not_lt_zero _)
 | n + 1, s, hi, hm => by
  rcases h s hi with ⟨s', h1, h2, h3⟩ | ⟨r, h1, h2⟩
  ·obtain ⟨r, q1, q2⟩ := whileI I μ Q h n s' h1 (by omega)
   exact ⟨r, q1, by rw [iterM_succ, h3]; exact q2⟩
  ·exact ⟨r, h1, by rw [iterM_succ, h2]; rfl⟩
theorem hoare {σ st ρ : Type} {B : st → Option (st ⊕ ρ)} (S : σ → Int → st) (I : Nat → σ → Prop) (Q : ρ → Prop) (len : Nat)
  (h1 : ∀ (i : Nat) (s : σ), i < len → I i s → (∃ s', I (i + 1) s' ∧ B (S s (i : Int)) = some (.inl (S s' ((i + 1 : Nat) : Int)))) ∨ ∃ r, Q r ∧ B (S s (i : Int)) = some (.inr r))
  (h2 : ∀ s, I len s → ∃ r, Q r ∧ B (S s (len : Int)) = some (.inr r)) : ∀ (n i : Nat) (s : σ), i ≤ len → I i s → len - i < n → ∃ r, Q r ∧ iterM B n (S s (i : Int)) = some r
 | 0, i, s, _, _, hm => absurd hm (Nat.not_lt_zero _)
 | n + 1, i, s, hl, hi, hm => by
  have main : (∃ s', i < len ∧ I (i + 1) s' ∧ B (S s (i : Int)) = some (.inl (S s' ((i + 1 : Nat) : Int)))) ∨ ∃ r, Q r ∧ B (S s (i : Int)) = some (.inr r) := by
   by_cases hlt : i < len
   ·rcases h1 i s hlt hi with ⟨s', a, b⟩ | h
    ·exact .inl ⟨s', hlt, a, b⟩
    ·exact .inr h
   ·obtain rfl : i = len := by omega
    exact .inr (h2 s hi)
  rcases main with ⟨s', g0, g1, g3⟩ | ⟨r, g1, g2⟩
  ·obtain ⟨r, q1, q2⟩ := hoare S I Q len h1 h2 n (i + 1) s' (by omega) g1 (by omega)
   exact ⟨r, q1, by rw [iterM_succ, g3]; exact q2⟩
  ·exact ⟨r, g1, by rw [iterM_succ, g2]; rfl⟩
/-- a search: the first place that is not so ends it -/
theorem scan {β γ : Type} {B : Int → Option (Int ⊕ (β ⊕ γ))} (len : Nat) (p : Nat → Bool) (a : β) (c : γ)
  (h1 : ∀ i : Nat, i < len → B (i : Int) = some (if p i = true then .inl ((i + 1 : Nat) : Int) else .inr (.inl a))) (h2 : B (len : Int) = some (.inr (.inr c))) (n : Nat) (hn : len < n) :
  iterM B n 0 = some (if (List.range len).all p = true then .inr c else .inl a) := by
 obtain ⟨r, q1, q2⟩ := hoare (B := B) (σ := Unit) (fun _ i => i) (fun i _ => ∀ j, j < i → p j = true) (fun r => r = if (List.range len).all p = true then .inr c else .inl a) len
  (fun i s hi hI => by
   by_cases hp : p i = true
   ·refine .inl ⟨(), fun j hj => ?_, by rw [h1 i hi, if_pos hp]⟩
    rcases Nat.lt_or_ge j i with h | h
    ·exact hI j h
    ·obtain rfl : j = i := by omega
     exact hp
   ·refine .inr ⟨.inl a, ?_, by rw [h1 i hi, if_neg hp]⟩
    rw [if_neg]
    intro hall
    exact hp (List.all_eq_true.1 hall i (List.mem_range.2 hi)))
  (fun s hI => ⟨.inr c, by rw [if_pos (List.all_eq_true.2 fun j hj => hI j (List.mem_range.1 hj))], h2⟩) n 0 () (Nat.zero_le _) (fun j hj => absurd hj (Nat.not_lt_zero _)) (by omega)
 rw [show (0 : Int) = ((0 : Nat) : Int) from rfl, q2, q1]
theorem all_range {α : Type} {l : List α} {d : α} {p : α → Bool} : (List.range l.length).all (fun i => p (l.getD i d)) = l.all p := by
 rw [Bool.eq_iff_iff, List.all_eq_true, List.all_eq_true]
 constructor
 ·intro h x hx
  obtain ⟨i, hi, rfl⟩ := List.mem_iff_getElem.1 hx
  have := h i (List.mem_range.2 hi)
  simpa [List.getD_eq_getElem?_getD, hi] using this
 ·intro h i hi
  have hi := List.mem_range.1 hi
  have := h l[i] (List.getElem_mem hi)
  simpa [List.getD_eq_getElem?_getD, hi] using this
theorem getD_mem {α : Type} {l : List α} {i : Nat} {d : α} (h : i < l.length) : l.getD i d ∈ l := by
 rw [List.getD_eq_getElem?_getD, List.getElem?_eq_getElem h]; exact List.getElem_mem h
theorem mem_getD {α : Type} {l : List α} {x : α} (d : α) (h : x ∈ l) : ∃ i, i < l.length ∧ l.getD i d = x := by
 obtain ⟨i, hi, rfl⟩ := List.mem_iff_getElem.1 h
 exact ⟨i, hi, by simp [List.getD_eq_getElem?_getD, hi]⟩
theorem getD_set {α : Type} {l : List α} {i j : Nat} {x d : α} (h : i < l.length) : (l.set i x).getD j d = if j = i then x else l.getD j d := by
 simp only [List.getD_eq_getElem?_getD, List.getElem?_set]
 by_cases hj : i = j
 ·subst hj; simp [h]
 ·rw [if_neg hj, if_neg (Ne.symm hj)]
theorem count_set_lt {L : List Bool} {i : Nat} (h : i < L.length) (hf : ¬ L.getD i false = true) : (L.set i true).count false < L.count false := by
 have h0 : L[i] = false := by simpa [List.getD_eq_getElem?_getD, h] using hf
 have hc := List.count_set (l := L) (a := true) (b := false) (i := i) h
 have hp : 0 < L.count false := List.count_pos_iff.2 (h0 ▸ List.getElem_mem h)
 rw [h0] at hc
 simp at hc
 omega


/-! an order that goes from one number to the next -/
def lx : List Int → List Int → Prop
 | x :: xs, y :: ys => x < y ∨ (x = y ∧ lx xs ys)
 | _, _ => False
theorem lx_trans : ∀ {a b c : List Int}, lx a b → lx b c → lx a c
 | [], _, _, h, _ => by simp [lx] at h
 | _ :: _, [], _, h, _ => by simp [lx] at h
 | _ :: _, _ :: _, [], _, h => by simp [lx] at h
 | x :: a, y :: b, z :: c, h, k => by
  unfold lx at *
  rcases h with h | ⟨h, h'⟩
  ·rcases k with k | ⟨k, k'⟩
   ·left; omega
   ·left; omega
  ·rcases k with k | ⟨k, k'⟩
   ·left; omega
   ·exact .inr ⟨by omega, lx_trans h' k'⟩
theorem lx_asymm : ∀ {a b : List Int}, lx a b → ¬ lx b a
 | [], _, h => by simp [lx] at h
 | _ :: _, [], h => by simp [lx] at h
 | x :: a, y :: b, h => by
  unfold lx at *
  rintro (k | ⟨k, k'⟩)
  ·rcases h with h | ⟨h, h'⟩ <;> omega
  ·rcases h with h | ⟨h, h'⟩
   ·omega
   ·exact lx_asymm h' k'
theorem nlx_trans : ∀ {a b c : List Int}, a.length = b.length → b.length = c.length → ¬ lx a b → ¬ lx b c → ¬ lx a c
 | [], _, _, _, _, _, _ => by simp [lx]
 | _ :: _, [], _, h, _, _, _ => by simp at h
 | _ :: _, _ :: _, [], _, h, _, _ => by simp at h
 | x :: a, y :: b, z :: c, h1, h2, h, k => by
  unfold lx at *
  rintro (q | ⟨q, q'⟩)
  ·apply h
   left
   rcases Int.lt_trichotomy y z with u | u | u
   ·exact absurd (.inl u) k
   ·omega
   ·omega
  ·subst q
   rcases Int.lt_trichotomy x y with u | u | u
   ·exact h (.inl u)
   ·subst u
    exact nlx_trans (by simpa using h1) (by simpa using h2) (fun e => h (.inr ⟨rfl, e⟩)) (fun e => k (.inr ⟨rfl, e⟩)) q'
   ·exact k (.inl u)
/-! the order of jobs: a row holds turn, slot, from, to, age, level -/
abbrev E6 := Int × Int × Int × Int × Int × Int
def e0 : E6 := (0, 0, 0, 0, 0, 0)
theorem far_tot (a b v0 v1 : Int) : ∃ r, ∀ n, m_shiftFarq1 n a b v0 v1 = some r := by
 unfold m_shiftFarq1 m_shiftTouchq1 m_shiftspanq1 m_shiftboundintq1
 dsimp only [Option.bind_some]
 by_cases c1 : (minB (maxB (minB (maxB a (-1099511627776)) 1099511627776) (-1099511627776)) 1099511627776) ≤ (minB (maxB (minB (maxB v1 (-1099511627776)) 1099511627776) (-1099511627776)) 1099511627776)
 ·rw [if_pos c1]
  by_cases c2 : (minB (maxB (minB (maxB v0 (-1099511627776)) 1099511627776) (-1099511627776)) 1099511627776) ≤ (minB (maxB (minB (maxB b (-1099511627776)) 1099511627776) (-1099511627776)) 1099511627776)
  ·rw [if_pos c2]; exact ⟨_, fun _ => rfl⟩
  ·rw [if_neg c2]
   dsimp only [Option.bind_some]
   rw [if_neg (by decide)]
   by_cases c3 : (minB (maxB b (-1099511627776)) 1099511627776) < (minB (maxB v0 (-1099511627776)) 1099511627776)
   ·rw [if_pos c3]; exact ⟨_, fun _ => rfl⟩
   ·rw [if_neg c3]; exact ⟨_, fun _ => rfl⟩
 ·rw [if_neg c1]
  dsimp only [Option.bind_some]
  rw [if_neg (by decide)]
  by_cases c3 : (minB (maxB b (-1099511627776)) 1099511627776) < (minB (maxB v0 (-1099511627776)) 1099511627776)
  ·rw [if_pos c3]; exact ⟨_, fun _ => rfl⟩
  ·rw [if_neg c3]; exact ⟨_, fun _ => rfl⟩
noncomputable def farV (v0 v1 a b : Int) : Int := (far_tot a b v0 v1).choose
theorem far_ok (n : Nat) (a b v0 v1 : Int) : m_shiftFarq1 n a b v0 v1 = some (farV v0 v1 a b) := (far_tot a b v0 v1).choose_spec n
def wt (w a : Int) : Int := if a ≥ w then a else -1
noncomputable def K4 (w v0 v1 s f t a : Int) : List Int := [-(wt w a), if wt w a < 0 then farV v0 v1 f t else 0, if wt w a < 0 then f else 0, s]
theorem cmp_ok (n : Nat) (a b : Int) : m_cmpCompareintq1 n a b = some (if a < b then -1 else if a > b then 1 else 0) := by
 unfold m_cmpCompareintq1 m_cmpisNaNintq1
 dsimp only [Option.bind_some]
 by_cases h : a < b
 ·rw [if_pos h, if_pos h]
 ·rw [if_neg h, if_neg h]
  by_cases k : a > b
  ·rw [if_pos k, if_pos k]
  ·rw [if_neg k, if_neg k]
theorem or2_ok (n : Nat) (a b : Int) : m_cmpOrintq1 n a b = some (if a = 0 then b else a) := by
 unfold m_cmpOrintq1
 by_cases h : a = 0
 ·rw [if_pos h, if_pos h]
  by_cases k : b = 0
  ·rw [if_pos k, k]
  ·rw [if_neg k]
 ·rw [if_neg h, if_neg h]
theorem or3_ok (n : Nat) (a b c : Int) : m_cmpOrintq2 n a b c = some (if a = 0 then if b = 0 then c else b else a) := by
 unfold m_cmpOrintq2
 by_cases h : a = 0
 ·rw [if_pos h, if_pos h]
  by_cases k : b = 0
  ·rw [if_pos k, if_pos k]
   by_cases l : c = 0
   ·rw [if_pos l, l]
   ·rw [if_neg l]
  ·rw [if_neg k, if_neg k]
 ·rw [if_neg h, if_neg h]
theorem waited_ok (n : Nat) (s f t a l w : Int) : m_jobswaitedq1 n s f t a l w = some (wt w a) := by
 unfold m_jobswaitedq1 wt
 by_cases h : a ≥ w
 ·rw [if_pos h, if_pos h]
 ·rw [if_neg h, if_neg h]
def cm (a b : Int) : Int := if a < b then -1 else if a > b then 1 else 0
theorem cm_cases (a b : Int) : (a < b ∧ cm a b = -1) ∨ (a = b ∧ cm a b = 0) ∨ (a > b ∧ cm a b = 1) := by
 unfold cm
 rcases Int.lt_trichotomy a b with h | h | h
 ·left; exact ⟨h, if_pos h⟩
 ·right; left; exact ⟨h, by rw [if_neg (by omega), if_neg (by omega)]⟩
 ·right; right; exact ⟨h, by rw [if_neg (by omega), if_pos h]⟩
theorem order_ok {n : Nat} {w v0 v1 s f t a l s' f' t' a' l' : Int} : ∃ c, m_jobsorder1q1 n s f t a l s' f' t' a' l' w v0 v1 = some c ∧ (c < 0 ↔ lx (K4 w v0 v1 s f t a) (K4 w v0 v1 s' f' t' a')) ∧ (c = 0 ↔ K4 w v0 v1 s f t a = K4 w v0 v1 s' f' t' a') := by
 unfold m_jobsorder1q1
 rw [waited_ok, waited_ok]
 dsimp only [Option.bind_some]
 simp only [cmp_ok, or2_ok, or3_ok, far_ok, Option.bind_some]
 unfold K4
 generalize wt w a = x
 generalize wt w a' = y
 generalize farV v0 v1 f t = p
 generalize farV v0 v1 f' t' = q
 change ∃ c, (if x < 0 then if y < 0 then some (if cm y x = 0 then if (if cm p q = 0 then cm f f' else cm p q) = 0 then cm s s' else (if cm p q = 0 then cm f f' else cm p q) else cm y x) else some (if cm y x = 0 then if (0 : Int) = 0 then cm s s' else 0 else cm y x) else some (if cm y x = 0 then if (0 : Int) = 0 then cm s s' else 0 else cm y x)) = some c ∧ _
 rcases cm_cases y x with ⟨h1, e1⟩ | ⟨h1, e1⟩ | ⟨h1, e1⟩
 ·rw [e1]
  simp only [if_neg (show ¬ (-1 : Int) = 0 by decide), ite_self]
  refine ⟨-1, rfl, ⟨fun _ => .inl (by omega), fun _ => by decide⟩, ⟨fun h => absurd h (by decide), fun h => by injection h with h _; omega⟩⟩
 ·subst h1
  rw [e1]
  simp only [if_true]
  by_cases hy : y < 0
  ·rw [if_pos hy, if_pos hy]
   simp only [if_pos hy]
   rcases cm_cases p q with ⟨h2, e2⟩ | ⟨h2, e2⟩ | ⟨h2, e2⟩
   ·rw [e2]
    refine ⟨-1, rfl, ⟨fun _ => .inr ⟨rfl, .inl h2⟩, fun _ => by decide⟩, ⟨fun h => absurd h (by decide), fun h => by simp at h; omega⟩⟩
   ·rw [e2]
    simp only [if_true]
    rcases cm_cases f f' with ⟨h3, e3⟩ | ⟨h3, e3⟩ | ⟨h3, e3⟩
    ·rw [e3]
     refine ⟨-1, rfl, ⟨fun _ => .inr ⟨rfl, .inr ⟨h2, .inl h3⟩⟩, fun _ => by decide⟩, ⟨fun h => absurd h (by decide), fun h => by simp at h; omega⟩⟩
    ·rw [e3]
     simp only [if_true]
     rcases cm_cases s s' with ⟨h4, e4⟩ | ⟨h4, e4⟩ | ⟨h4, e4⟩
     ·refine ⟨_, rfl, ⟨fun _ => .inr ⟨rfl, .inr ⟨h2, .inr ⟨h3, .inl h4⟩⟩⟩, fun _ => by rw [e4]; decide⟩, ⟨fun h => by omega, fun h => by simp at h; omega⟩⟩
     ·refine ⟨_, rfl, ⟨fun h => by omega, fun h => ?_⟩, ⟨fun _ => by rw [h2, h3, h4], fun _ => e4⟩⟩
      simp [lx, h2, h3, h4] at h
     ·refine ⟨_, rfl, ⟨fun h => by omega, fun h => ?_⟩, ⟨fun h => by omega, fun h => by simp at h; omega⟩⟩
      simp [lx, h2, h3] at h
      omega
    ·rw [e3]
     refine ⟨1, rfl, ⟨fun h => absurd h (by decide), fun h => ?_⟩, ⟨fun h => absurd h (by decide), fun h => by simp at h; omega⟩⟩
     simp [lx, h2] at h
     omega
   ·rw [e2]
    refine ⟨1, rfl, ⟨fun h => absurd h (by decide), fun h => ?_⟩, ⟨fun h => absurd h (by decide), fun h => by simp at h; omega⟩⟩
    simp [lx] at h
    omega
  ·rw [if_neg hy]
   simp only [if_neg hy]
   rcases cm_cases s s' with ⟨h4, e4⟩ | ⟨h4, e4⟩ | ⟨h4, e4⟩
   ·refine ⟨_, rfl, ⟨fun _ => .inr ⟨rfl, .inr ⟨rfl, .inr ⟨rfl, .inl h4⟩⟩⟩, fun _ => by rw [e4]; decide⟩, ⟨fun h => by omega, fun h => by simp at h; omega⟩⟩
   ·refine ⟨_, rfl, ⟨fun h => by omega, fun h => ?_⟩, ⟨fun _ => by rw [h4], fun _ => e4⟩⟩
    simp [lx, h4] at h
   ·refine ⟨_, rfl, ⟨fun h => by omega, fun h => ?_⟩, ⟨fun h => by omega, fun h => by simp at h; omega⟩⟩
    simp [lx] at h
    omega
 ·rw [e1]
  simp only [if_neg (show ¬ (1 : Int) = 0 by decide), ite_self]
  refine ⟨1, rfl, ⟨fun h => absurd h (by decide), fun h => ?_⟩, ⟨fun h => absurd h (by decide), fun h => by injection h with h _; omega⟩⟩
  rcases h with h | ⟨h, _⟩ <;> omega
noncomputable def key (w v0 v1 : Int) (e : E6) : List Int := K4 w v0 v1 e.2.1 e.2.2.1 e.2.2.2.1 e.2.2.2.2.1 ++ [e.1]
theorem key_len {w v0 v1 : Int} {e : E6} : (key w v0 v1 e).length = 5 := rfl


/-! heaps of jobs -/
theorem lx_app : ∀ {a b : List Int} {t u : Int}, a.length = b.length → (lx (a ++ [t]) (b ++ [u]) ↔ (lx a b ∨ (a = b ∧ t < u)))
 | [], [], t, u, _ => by simp [lx]
 | [], _ :: _, _, _, h => by simp at h
 | _ :: _, [], _, _, h => by simp at h
 | x :: a, y :: b, t, u, h => by
  have ih := @lx_app a b t u (by simpa using h)
  show (x < y ∨ (x = y ∧ lx (a ++ [t]) (b ++ [u]))) ↔ ((x < y ∨ (x = y ∧ lx a b)) ∨ (x :: a = y :: b ∧ t < u))
  rw [ih, List.cons.injEq]
  constructor
  ·rintro (h | ⟨h, h' | ⟨h1, h2⟩⟩)
   ·exact .inl (.inl h)
   ·exact .inl (.inr ⟨h, h'⟩)
   ·exact .inr ⟨⟨h, h1⟩, h2⟩
  ·rintro ((h | ⟨h, h2⟩) | ⟨⟨h, h1⟩, h2⟩)
   ·exact .inl h
   ·exact .inr ⟨h, .inl h2⟩
   ·exact .inr ⟨h, .inr ⟨h1, h2⟩⟩
noncomputable def lt (W : Int × Int × Int) (a b : E6) : Prop := lx (key W.1 W.2.1 W.2.2 a) (key W.1 W.2.1 W.2.2 b)
variable {W : Int × Int × Int}
theorem lt_trans {a b c : E6} (h : lt W a b) (k : lt W b c) : lt W a c := lx_trans h k
theorem lt_asymm {a b : E6} (h : lt W a b) : ¬ lt W b a := lx_asymm h
theorem nlt_trans {a b c : E6} (h : ¬ lt W a b) (k : ¬ lt W b c) : ¬ lt W a c := nlx_trans (b := key W.1 W.2.1 W.2.2 b) rfl rfl h k
theorem before_ok {n k i j : Nat} {L : List E6} {x : Int} (hi : i < k) (hj : j < k) (hk : k ≤ L.length) : ∃ b, m_heapHeapapiDirtybeforeq2 n W.1 W.2.1 W.2.2 L k x i j = some b ∧ (b = true ↔ lt W (L.getD i e0) (L.getD j e0)) := by
 unfold m_heapHeapapiDirtybeforeq2
 rw [if_pos (by omega), Int.toNat_natCast, if_pos (by omega)]
 simp only [Option.bind_some]
 rw [if_pos (by omega), Int.toNat_natCast, if_pos (by omega)]
 obtain ⟨c, e1, e2, e3⟩ := order_ok (n := n) (w := W.1) (v0 := W.2.1) (v1 := W.2.2) (s := (L.getD i e0).2.1) (f := (L.getD i e0).2.2.1) (t := (L.getD i e0).2.2.2.1) (a := (L.getD i e0).2.2.2.2.1) (l := (L.getD i e0).2.2.2.2.2) (s' := (L.getD j e0).2.1) (f' := (L.getD j e0).2.2.1) (t' := (L.getD j e0).2.2.2.1) (a' := (L.getD j e0).2.2.2.2.1) (l' := (L.getD j e0).2.2.2.2.2)
 have e1 : m_jobsorder1q1 n (L.getD i (0, 0, 0, 0, 0, 0)).2.1 (L.getD i (0, 0, 0, 0, 0, 0)).2.2.1 (L.getD i (0, 0, 0, 0, 0, 0)).2.2.2.1 (L.getD i (0, 0, 0, 0, 0, 0)).2.2.2.2.1 (L.getD i (0, 0, 0, 0, 0, 0)).2.2.2.2.2 (L.getD j (0, 0, 0, 0, 0, 0)).2.1 (L.getD j (0, 0, 0, 0, 0, 0)).2.2.1 (L.getD j (0, 0, 0, 0, 0, 0)).2.2.2.1 (L.getD j (0, 0, 0, 0, 0, 0)).2.2.2.2.1 (L.getD j (0, 0, 0, 0, 0, 0)).2.2.2.2.2 W.1 W.2.1 W.2.2 = some c := e1
 rw [e1]
 simp only [Option.bind_some]
 have hlt : lt W (L.getD i e0) (L.getD j e0) ↔ (c < 0 ∨ (c = 0 ∧ (L.getD i e0).1 < (L.getD j e0).1)) := by
  unfold lt key
  refine (lx_app ?_).trans ?_
  ·rfl
  ·rw [← e2, ← e3]
 rw [hlt]
 by_cases c0 : c = 0
 ·rw [if_pos c0]
  by_cases h : (L.getD i e0).1 < (L.getD j e0).1
  ·rw [if_pos (show (L.getD i (0, 0, 0, 0, 0, 0)).1 < (L.getD j (0, 0, 0, 0, 0, 0)).1 from h)]
   exact ⟨true, rfl, fun _ => .inr ⟨c0, h⟩, fun _ => rfl⟩
  ·rw [if_neg (show ¬ (L.getD i (0, 0, 0, 0, 0, 0)).1 < (L.getD j (0, 0, 0, 0, 0, 0)).1 from h)]
   exact ⟨false, rfl, (fun h => by cases h), fun k => by rcases k with k | ⟨_, k⟩; omega; exact absurd k h⟩
 ·rw [if_neg c0]
  by_cases h : c < 0
  ·rw [if_pos h]; exact ⟨true, rfl, fun _ => .inl h, fun _ => rfl⟩
  ·rw [if_neg h]; exact ⟨false, rfl, (fun h => by cases h), fun k => by rcases k with k | ⟨k, _⟩; exact absurd k h; exact absurd k c0⟩
def swapL (L : List E6) (i j : Nat) : List E6 := (L.set i (L.getD j e0)).set j (L.getD i e0)
theorem swap_len {L : List E6} {i j : Nat} : (swapL L i j).length = L.length := by simp [swapL]
theorem swap_get {L : List E6} {i j q : Nat} (hi : i < L.length) (hj : j < L.length) : (swapL L i j).getD q e0 = if q = j then L.getD i e0 else if q = i then L.getD j e0 else L.getD q e0 := by
 unfold swapL
 rw [getD_set (by simpa using hj), getD_set hi]
theorem getD_eq {L : List E6} {i : Nat} (h : i < L.length) : L.getD i e0 = L[i] := by simp [List.getD_eq_getElem?_getD, h]
theorem swap_perm {L : List E6} {i j : Nat} (hi : i < L.length) (hj : j < L.length) : (swapL L i j).Perm L := by
 unfold swapL
 rw [getD_eq hi, getD_eq hj]
 exact List.set_set_perm hi hj
def Hp (W : Int × Int × Int) (L : List E6) (k : Nat) : Prop := ∀ j, 0 < j → j < k → ¬ lt W (L.getD j e0) (L.getD ((j - 1) / 2) e0)
structure Up (W : Int × Int × Int) (L : List E6) (i k : Nat) : Prop where
 a : ∀ j, 0 < j → j < k → j ≠ i → ¬ lt W (L.getD j e0) (L.getD ((j - 1) / 2) e0)
 b : 0 < i → ∀ j, 0 < j → j < k → (j - 1) / 2 = i → ¬ lt W (L.getD j e0) (L.getD ((i - 1) / 2) e0)
theorem Up.step {L : List E6} {i k : Nat} (h : Up W L i k) (hi : 0 < i) (hk : i < k) (hL : k ≤ L.length) (hlt : lt W (L.getD i e0) (L.getD ((i - 1) / 2) e0)) : Up W (swapL L i ((i - 1) / 2)) ((i - 1) / 2) k := by
 have hp : (i - 1) / 2 < i := by omega
 generalize hpe : (i - 1) / 2 = p at *
 have g : ∀ q, (swapL L i p).getD q e0 = if q = p then L.getD i e0 else if q = i then L.getD p e0 else L.getD q e0 := fun q => swap_get (by omega) (by omega)
 refine ⟨fun j h0 h1 hne => ?_, fun h2 j h0 h1 hj => ?_⟩
 ·rw [g, g, if_neg hne]
  by_cases e : j = i
  ·subst e
   rw [if_pos rfl, hpe, if_pos rfl]
   exact lt_asymm hlt
  ·rw [if_neg e]
   by_cases e2 : (j - 1) / 2 = p
   ·rw [if_pos e2]
    have := h.a j h0 h1 e
    rw [e2] at this
    exact fun hc => this (lt_trans hc hlt)
   ·rw [if_neg e2]
    by_cases e3 : (j - 1) / 2 = i
    ·rw [if_pos e3]
     have := h.b hi j h0 h1 e3
     rwa [hpe] at this
    ·rw [if_neg e3]
     exact h.a j h0 h1 e
 ·have hpp : (p - 1) / 2 < p := by omega
  rw [g, g, if_neg (show j ≠ p by omega), if_neg (show (p - 1) / 2 ≠ p by omega), if_neg (show (p - 1) / 2 ≠ i by omega)]
  have hpa := h.a p h2 (by omega) (by omega)
  by_cases e : j = i
  ·rw [if_pos e]; exact hpa
  ·rw [if_neg e]
   have := h.a j h0 h1 e
   rw [hj] at this
   exact nlt_trans this hpa
theorem Up.done {L : List E6} {i k : Nat} (h : Up W L i k) (hd : i = 0 ∨ ¬ lt W (L.getD i e0) (L.getD ((i - 1) / 2) e0)) : Hp W L k := fun j h0 h1 => by
 by_cases e : j = i
 ·subst e
  rcases hd with hd | hd
  ·omega
  ·exact hd
 ·exact h.a j h0 h1 e
theorem fdiv2 {i : Nat} (h : 0 < i) (hs : i ≤ 1000000) : Int.fdiv (w64 ((i : Int) - 1)) 2 = (((i - 1) / 2 : Nat) : Int) := by
 rw [w64_sm (by omega) (by omega), show (i : Int) - 1 = ((i - 1 : Nat) : Int) by omega, Int.fdiv_eq_ediv_of_nonneg _ (by decide)]
 rfl
def absI (i : Nat) : Int := if i = 0 then Int.fdiv (w64 ((0 : Int) - 1)) 2 else (((i - 1) / 2 : Nat) : Int)
theorem absI_ok {i : Nat} (hs : i ≤ 1000000) : Int.fdiv (w64 ((i : Int) - 1)) 2 = absI i := by
 unfold absI
 by_cases h : i = 0
 ·subst h; rfl
 ·rw [if_neg h, fdiv2 (by omega) hs]
theorem up_ok {n k i : Nat} {L : List E6} {x : Int} (hn : 1000 ≤ n) (hk : k ≤ 300) (hL : k = L.length) (hi : i < k) (hU : Up W L i k) : ∃ M, m_heapHeapapiDirtyupq1 n W.1 W.2.1 W.2.2 L x i = some M ∧ M.Perm L ∧ Hp W M k := by
 subst hL
 obtain ⟨M, hM, hloop⟩ := whileI (B := B_heapHeapapiDirtyupq1_1 n W.1 W.2.1 W.2.2 L.length x) (fun s => ∃ j : Nat, s.2.1 = j ∧ s.2.2 = absI j ∧ j < L.length ∧ s.1.Perm L ∧ Up W s.1 j L.length) (fun s => s.2.1.toNat) (fun M => M.Perm L ∧ Hp W M L.length)
  (fun s hI => by
   obtain ⟨M, a, b⟩ := s
   obtain ⟨j, rfl, rfl, hj, hp, hu⟩ := hI
   dsimp only at hp hu
   have hlen := hp.length_eq
   unfold B_heapHeapapiDirtyupq1_1
   dsimp only
   by_cases h0 : j = 0
   ·subst h0
    rw [if_neg (by omega)]
    exact .inr ⟨_, ⟨hp, hu.done (.inl rfl)⟩, rfl⟩
   ·rw [if_pos (by omega), show absI j = (((j - 1) / 2 : Nat) : Int) by unfold absI; rw [if_neg h0]]
    obtain ⟨c, e1, e2⟩ := before_ok (n := n) (k := L.length) (i := j) (j := (j - 1) / 2) (L := M) (x := x) hj (by omega) (by omega)
    rw [e1]
    simp only [Option.bind_some]
    cases c with
    | false =>
     rw [if_neg (by simp)]
     exact .inr ⟨_, ⟨hp, hu.done (.inr fun h => by have := e2.2 h; cases this)⟩, rfl⟩
    | true =>
     have hlt := e2.1 rfl
     rw [if_pos rfl, if_pos (by omega), Int.toNat_natCast, if_pos (by omega), if_pos (by omega), Int.toNat_natCast, if_pos (by omega), if_pos (by rw [List.length_set]; omega), absI_ok (by omega)]
     refine .inl ⟨(swapL M j ((j - 1) / 2), (((j - 1) / 2 : Nat) : Int), absI ((j - 1) / 2)), ⟨(j - 1) / 2, rfl, rfl, by omega, (swap_perm (by omega) (by omega)).trans hp, hu.step (by omega) hj (by omega) hlt⟩, ?_, rfl⟩
     show ((((j - 1) / 2 : Nat) : Int)).toNat < ((j : Nat) : Int).toNat
     rw [Int.toNat_natCast, Int.toNat_natCast]
     omega) n (L, (i : Int), Int.fdiv (w64 ((i : Int) - 1)) 2) ⟨i, rfl, absI_ok (by omega), hi, .refl _, hU⟩ (by show (i : Int).toNat < n; omega)
 refine ⟨M, ?_, hM⟩
 unfold m_heapHeapapiDirtyupq1 m_heapHeapapiDirtyupq1_1
 rw [hloop]
 rfl
theorem getD_append_l {L : List E6} {e : E6} {i : Nat} (h : i < L.length) : (L ++ [e]).getD i e0 = L.getD i e0 := by
 simp [List.getD_eq_getElem?_getD, List.getElem?_append_left h]
theorem up_start {L : List E6} {e : E6} (h : Hp W L L.length) : Up W (L ++ [e]) L.length (L.length + 1) := by
 refine ⟨fun j h0 h1 hne => ?_, fun h2 j h0 h1 hj => by omega⟩
 rw [getD_append_l (by omega), getD_append_l (by omega)]
 exact h j h0 (by omega)
theorem put1_ok {n : Nat} {t s f u a l : Int} (hn : 1000 ≤ n) : ∃ M, m_heapHeapapiDirtyPutq1 n W.1 W.2.1 W.2.2 t s f u a l = some M ∧ M.Perm [(t, s, f, u, a, l)] ∧ Hp W M 1 := by
 have h0 : Up W [(t, s, f, u, a, l)] 0 1 := ⟨fun j h0 h1 _ => by omega, fun h => by omega⟩
 obtain ⟨M, e, h1, h2⟩ := up_ok (x := w64 (t + 1)) (i := 0) (k := 1) hn (by omega) rfl (by omega) h0
 refine ⟨M, ?_, h1, h2⟩
 unfold m_heapHeapapiDirtyPutq1 m_heapHeapapiDirtyvalidq1
 simp only [Option.bind_some]
 have e : m_heapHeapapiDirtyupq1 n W.1 W.2.1 W.2.2 [(t, s, f, u, a, l)] (w64 (t + 1)) 0 = some M := e
 rw [e]
 rfl
theorem put3_ok {n q : Nat} {L : List E6} {t s f u a l : Int} (hn : 1000 ≤ n) (hq : q ≤ L.length) (hL : q ≤ 250) (h : Hp W (L.take q) q) : ∃ M, m_heapHeapapiDirtyPutq3 n W.1 W.2.1 W.2.2 L q t s f u a l = some (M, q + 1) ∧ M.Perm (L.take q ++ [(t, s, f, u, a, l)]) ∧ Hp W M (q + 1) := by
 have hlen : (L.take q).length = q := by rw [List.length_take]; omega
 obtain ⟨M, e, h1, h2⟩ := up_ok (L := L.take q ++ [(t, s, f, u, a, l)]) (x := w64 (t + 1)) (i := q) hn (by omega) (k := q + 1) (by simp; omega) (by omega) (by have := up_start (L := L.take q) (e := (t, s, f, u, a, l)) (by rw [hlen]; exact h); rwa [hlen] at this)
 refine ⟨M, ?_, h1, h2⟩
 unfold m_heapHeapapiDirtyPutq3 m_heapHeapapiDirtyvalidq3
 simp only [Option.bind_some]
 have hl : (L.take q ++ [(t, s, f, u, a, l)]).length = q + 1 := by rw [List.length_append, hlen]; rfl
 rw [if_pos hq, if_pos (by omega), hl, show w64 (((q + 1 : Nat) : Int) - 1) = ((q : Nat) : Int) by rw [w64_sm (by omega) (by omega)]; omega, e]
 rfl
theorem Hp.root {L : List E6} {k : Nat} (h : Hp W L k) : ∀ j, j < k → ¬ lt W (L.getD j e0) (L.getD 0 e0) := by
 intro j
 induction j using Nat.strongRecOn with
 | _ j ih =>
  intro hj
  by_cases h0 : j = 0
  ·subst h0; exact fun h => lt_asymm h h
  ·exact nlt_trans (h j (by omega) hj) (ih _ (by omega) (by omega))


/-! the queue of jobs -/
theorem cons_of' {α : Type} {L : List α} (h : 0 < L.length) : ∃ a t, L = a :: t := by
 cases L with
 | nil => simp at h
 | cons a t => exact ⟨a, t, rfl⟩
abbrev R5 := Int × Int × Int × Int × Int
abbrev r0 : R5 := (0, 0, 0, 0, 0)
abbrev at' (i : Nat) : R5 := Args.A.getD i r0
abbrev sl (i : Nat) : Int := (at' i).1
abbrev row (f : Nat → Int) (i : Nat) : R5 := ((at' i).1, (at' i).2.1, (at' i).2.2.1, f i, (at' i).2.2.2.2)
structure Sf (f : Nat → Int) (L : List R5) : Prop where
 len : L.length = Args.A.length
 val : ∀ i, i < Args.A.length → L.getD i r0 = row f i
def okR (j : Nat) : Prop := 0 ≤ sl j ∧ sl j ≤ 63 ∧ 0 ≤ (at' j).2.1 ∧ (at' j).2.1 ≤ (at' j).2.2.1 ∧ 0 ≤ (at' j).2.2.2.1 ∧ 0 ≤ (at' j).2.2.2.2 ∧ (0 < j → sl (j - 1) < sl j)
structure Ok : Prop where
 len : Args.A.length ≤ 32
 r : ∀ j, j < Args.A.length → okR j
theorem Ok.inj (h : Ok) : ∀ {i j : Nat}, i < j → j < Args.A.length → sl i < sl j := fun {i j} hij hj => by
 induction j with
 | zero => omega
 | succ j ih =>
  have h1 := (h.r (j + 1) hj).2.2.2.2.2.2 (by omega)
  rw [Nat.add_sub_cancel] at h1
  rcases Nat.lt_or_ge i j with h2 | h2
  ·have := ih h2 (by omega); omega
  ·obtain rfl : i = j := by omega
   exact h1
theorem Ok.eq (h : Ok) {i j : Nat} (hi : i < Args.A.length) (hj : j < Args.A.length) (e : sl i = sl j) : i = j := by
 rcases Nat.lt_trichotomy i j with h1 | h1 | h1
 ·have := h.inj h1 hj; omega
 ·exact h1
 ·have := h.inj h1 hi; omega
theorem refCheck {n : Nat} (hn : 1000 ≤ n) : ∃ c, m_viewportref22Checkq1 n = some c ∧ (c = 0 → Ok) := by
 unfold m_viewportref22Checkq1
 by_cases h32 : ((Args.A.length : Nat) : Int) > 32
 ·rw [if_pos h32]; exact ⟨2, rfl, fun h => absurd h (by decide)⟩
 rw [if_neg h32]
 obtain ⟨r, q1, q2⟩ := hoare (B := B_viewportref22Checkq1_1 n) (σ := Unit) (fun _ i => i) (fun i _ => ∀ j, j < i → okR j) (fun r => ∀ u, r = .inr u → Ok) Args.A.length
  (fun i s hi hI => by
   have stop : ∃ r, (∀ u, r = .inr u → Ok) ∧ (some (.inr (.inl ())) : Option (Int ⊕ (Unit ⊕ Unit))) = some (.inr r) := ⟨.inl (), (fun u h => by cases h), rfl⟩
   unfold B_viewportref22Checkq1_1
   dsimp only
   rw [if_pos (by omega), if_pos (by omega), Int.toNat_natCast]
   simp only [Option.bind_some]
   by_cases h1 : sl i < 0
   ·right; rw [if_pos h1]; exact stop
   by_cases h2 : sl i ≥ 64
   ·right; rw [if_neg h1, if_pos h2]; exact stop
   by_cases h3 : (at' i).2.1 < 0
   ·right; rw [if_neg h1, if_neg h2, if_pos h3]; exact stop
   by_cases h4 : (at' i).2.1 > (at' i).2.2.1
   ·right; rw [if_neg h1, if_neg h2, if_neg h3, if_pos h4]; exact stop
   by_cases h5 : (at' i).2.2.2.1 < 0
   ·right; rw [if_neg h1, if_neg h2, if_neg h3, if_neg h4, if_pos h5]; exact stop
   by_cases h6 : (at' i).2.2.2.2 < 0
   ·right; rw [if_neg h1, if_neg h2, if_neg h3, if_neg h4, if_neg h5, if_pos h6]; exact stop
   rw [if_neg h1, if_neg h2, if_neg h3, if_neg h4, if_neg h5, if_neg h6]
   by_cases h7 : i = 0
   ·left
    rw [if_neg (by omega), w64_inc (by omega)]
    refine ⟨(), fun j hj => ?_, rfl⟩
    obtain rfl : j = i := by omega
    exact ⟨by omega, by omega, by omega, by omega, by omega, by omega, fun h => by omega⟩
   ·rw [if_pos (by omega), show w64 ((i : Int) - 1) = ((i - 1 : Nat) : Int) by rw [w64_sm (by omega) (by omega)]; omega, if_pos (by omega), Int.toNat_natCast]
    by_cases h8 : sl (i - 1) ≥ sl i
    ·right; rw [if_pos h8]; exact stop
    ·left
     rw [if_neg h8, w64_inc (by omega)]
     refine ⟨(), fun j hj => ?_, rfl⟩
     rcases Nat.lt_or_ge j i with h | h
     ·exact hI j h
     ·obtain rfl : j = i := by omega
      exact ⟨by omega, by omega, by omega, by omega, by omega, by omega, fun _ => by omega⟩)
  (fun s hI => ⟨.inr (), fun _ _ => ⟨by omega, hI⟩, by unfold B_viewportref22Checkq1_1; dsimp only; rw [if_neg (by omega)]⟩) n 0 () (Nat.zero_le _) (fun j hj => absurd hj (Nat.not_lt_zero _)) (by omega)
 have q2 : m_viewportref22Checkq1_1 n 0 = some r := q2
 rw [q2]
 cases r with
 | inl _ => exact ⟨2, rfl, fun h => absurd h (by decide)⟩
 | inr u => exact ⟨0, rfl, fun _ => q1 u rfl⟩
def pv (i : Nat) : Int := if i = 0 then -1 else sl (i - 1)
theorem dirtyCheck {n : Nat} {f : Nat → Int} {L : List R5} (hn : 1000 ≤ n) (hO : Ok) (hS : Sf f L) (hf : ∀ i, i < Args.A.length → 0 ≤ f i) : m_dirtyCheckq1 n L Args.A.length = some 0 := by
 have hl := hO.len
 unfold m_dirtyCheckq1
 rw [if_neg (by omega)]
 obtain ⟨r, q1, q2⟩ := hoare (B := B_dirtyCheckq1_1 n L Args.A.length ((Args.A.length : Nat) : Int)) (σ := Int) (fun p i => (p, i)) (fun i p => p = pv i) (fun r => r = .inr ()) Args.A.length
  (fun i p hi hI => by
   left
   obtain ⟨a1, a2, a3, a4, a5, a6, a7⟩ := hO.r i hi
   unfold B_dirtyCheckq1_1
   dsimp only
   rw [if_pos (by omega), if_pos (by omega), Int.toNat_natCast, if_pos (by rw [hS.len]; exact hi)]
   simp only [Option.bind_some]
   have hv : L.getD i (0, 0, 0, 0, 0) = row f i := hS.val i hi
   rw [hv]
   have hf := hf i hi
   have hp : ¬ sl i ≤ p := by
    rw [hI]
    unfold pv
    by_cases h : i = 0
    ·rw [if_pos h]; omega
    ·rw [if_neg h]; have := a7 (by omega); omega
   rw [if_neg hp, if_neg (show ¬ sl i > 63 by omega), if_neg (show ¬ (at' i).2.1 < 0 by omega), if_neg (show ¬ (at' i).2.1 > (at' i).2.2.1 by omega), if_neg (show ¬ f i < 0 by omega), if_neg (show ¬ (at' i).2.2.2.2 < 0 by omega), w64_inc (by omega)]
   exact ⟨sl i, by unfold pv; rw [if_neg (by omega)]; rfl, rfl⟩)
  (fun s hI => ⟨.inr (), rfl, by unfold B_dirtyCheckq1_1; dsimp only; rw [if_neg (by omega)]⟩) n 0 (-1) (Nat.zero_le _) rfl (by omega)
 subst q1
 have q2 : m_dirtyCheckq1_1 n L Args.A.length ((Args.A.length : Nat) : Int) (-1, 0) = some (.inr ()) := q2
 rw [q2]
def ent (f : Nat → Int) (j : Nat) : E6 := ((j : Int), row f j)
def ents (f : Nat → Int) (k : Nat) : List E6 := (List.range k).map (ent f)
theorem ents_succ {f : Nat → Int} {k : Nat} : ents f (k + 1) = ents f k ++ [ent f k] := by simp [ents, List.range_succ]
theorem ents_len {f : Nat → Int} {k : Nat} : (ents f k).length = k := by simp [ents]
theorem queueLoop {n : Nat} {f : Nat → Int} {L : List R5} {W : Int × Int × Int} (hn : 1000 ≤ n) (hl : Args.A.length ≤ 32) (hS : Sf f L) : ∃ H, m_jobsqueueq1_1 n L W.1 W.2.1 W.2.2 Args.A.length ((Args.A.length : Nat) : Int) ([], 0, 0, 0) = some (H, Args.A.length, ((Args.A.length : Nat) : Int)) ∧ H.Perm (ents f Args.A.length) ∧ Hp W H Args.A.length := by
 obtain ⟨r, q1, q2⟩ := hoare (B := B_jobsqueueq1_1 n L W.1 W.2.1 W.2.2 Args.A.length ((Args.A.length : Nat) : Int)) (σ := List E6 × Nat × Int) (fun s i => (s.1, s.2.1, s.2.2, i)) (fun i s => s.2.1 = i ∧ s.2.2 = (i : Int) ∧ s.1.Perm (ents f i) ∧ Hp W s.1 i)
  (fun r => r.2.1 = Args.A.length ∧ r.2.2 = ((Args.A.length : Nat) : Int) ∧ r.1.Perm (ents f Args.A.length) ∧ Hp W r.1 Args.A.length) Args.A.length
  (fun i s hi hI => by
   left
   obtain ⟨H, k, p⟩ := s
   obtain ⟨h1, h2, hp, hh⟩ := hI
   dsimp only at h1 h2 hp hh ⊢
   subst h1
   subst h2
   have hlen := hp.length_eq
   rw [ents_len] at hlen
   have hv : L.getD k (0, 0, 0, 0, 0) = row f k := hS.val k hi
   cases H with
   | nil =>
    obtain rfl : k = 0 := by simpa using hlen.symm
    unfold B_jobsqueueq1_1
    dsimp only
    rw [if_pos (by omega), if_pos (by omega), Int.toNat_natCast, if_pos (by rw [hS.len]; exact hi)]
    simp only [Option.bind_some]
    rw [hv]
    obtain ⟨M, e1, e2, e3⟩ := put1_ok (W := W) (n := n) (t := ((0 : Nat) : Int)) (s := (row f 0).1) (f := (row f 0).2.1) (u := (row f 0).2.2.1) (a := (row f 0).2.2.2.1) (l := (row f 0).2.2.2.2) hn
    rw [e1]
    obtain ⟨ma, mt, rfl⟩ := cons_of' (L := M) (by have := e2.length_eq; simp at this; omega)
    simp only [Option.bind_some]
    exact ⟨(ma :: mt, 1, ((1 : Nat) : Int)), ⟨rfl, rfl, e2, e3⟩, rfl⟩
   | cons a t =>
    unfold B_jobsqueueq1_1
    dsimp only
    rw [if_pos (by omega), if_pos (by omega), Int.toNat_natCast, if_pos (by rw [hS.len]; exact hi)]
    simp only [Option.bind_some]
    rw [hv]
    have ht : (a :: t).take k = a :: t := List.take_of_length_le (by omega)
    obtain ⟨M, e1, e2, e3⟩ := put3_ok (W := W) (n := n) (q := k) (L := a :: t) (t := ((k : Nat) : Int)) (s := (row f k).1) (f := (row f k).2.1) (u := (row f k).2.2.1) (a := (row f k).2.2.2.1) (l := (row f k).2.2.2.2) hn (by omega) (by omega) (by rw [ht]; exact hh)
    rw [e1]
    obtain ⟨ma, mt, rfl⟩ := cons_of' (L := M) (by have := e2.length_eq; simp at this; omega)
    simp only [Option.bind_some]
    rw [w64_inc (by omega)]
    refine ⟨(ma :: mt, k + 1, ((k + 1 : Nat) : Int)), ⟨rfl, rfl, ?_, e3⟩, rfl⟩
    rw [ht] at e2
    rw [ents_succ]
    exact e2.trans (hp.append_right _))
  (fun s hI => by
   obtain ⟨H, k, p⟩ := s
   obtain ⟨h1, h2, hp, hh⟩ := hI
   dsimp only at h1 h2 hp hh ⊢
   subst h2
   cases H with
   | nil =>
    have hlen := hp.length_eq
    rw [ents_len] at hlen
    refine ⟨([], 0, ((Args.A.length : Nat) : Int)), ⟨by simpa using hlen, rfl, hp, hh⟩, ?_⟩
    unfold B_jobsqueueq1_1
    dsimp only
    rw [if_neg (by omega)]
   | cons a t =>
    refine ⟨(a :: t, k, ((Args.A.length : Nat) : Int)), ⟨h1, rfl, hp, hh⟩, ?_⟩
    unfold B_jobsqueueq1_1
    dsimp only
    rw [if_neg (by omega)]) n 0 ([], 0, 0) (Nat.zero_le _) ⟨rfl, rfl, .refl _, fun j h0 h1 => by omega⟩ (by omega)
 obtain ⟨H, k, p⟩ := r
 obtain ⟨h1, h2, h3, h4⟩ := q1
 dsimp only at h1 h2 h3 h4
 subst h1
 subst h2
 exact ⟨H, q2, h3, h4⟩
theorem next_ok {n : Nat} {f : Nat → Int} {L : List R5} {v0 v1 w : Int} (hn : 1000 ≤ n) (hO : Ok) (hS : Sf f L) (hf : ∀ i, i < Args.A.length → 0 ≤ f i) (h0 : 0 < Args.A.length) : ∃ s, s < Args.A.length ∧ m_jobsNextq1 n L Args.A.length v0 v1 w = some (sl s, true) ∧ ∀ j, j < Args.A.length → wt w (f j) ≤ wt w (f s) := by
 obtain ⟨H, e1, e2, e3⟩ := queueLoop (n := n) (W := (w, v0, v1)) hn hO.len hS
 dsimp only at e1
 have hlen := e2.length_eq
 rw [ents_len] at hlen
 have hr := e3.root
 obtain ⟨a, t, rfl⟩ := cons_of' (L := H) (by omega)
 have hm : a ∈ ents f Args.A.length := e2.mem_iff.1 (by simp)
 obtain ⟨s, hs, rfl⟩ := List.mem_map.1 hm
 have hs := List.mem_range.1 hs
 refine ⟨s, hs, ?_, fun j hj => ?_⟩
 ·unfold m_jobsNextq1 m_jobsqueueq1 m_jobsorderq1 m_heapNewapiDirtyq1
  rw [dirtyCheck hn hO hS hf]
  simp only [Option.bind_some]
  rw [if_pos trivial, e1]
  simp only [Option.bind_some]
  unfold m_heapHeapapiDirtyLeastq2 m_heapHeapapiDirtyLenq2 m_heapHeapapiDirtyvalidq3
  simp only [Option.bind_some]
  rw [if_neg (by omega), if_pos (by omega), if_pos (by simp)]
  rfl
 ·have hm : ent f j ∈ ents f Args.A.length := List.mem_map.2 ⟨j, List.mem_range.2 hj, rfl⟩
  obtain ⟨q, hq, e⟩ := mem_getD e0 (e2.mem_iff.2 hm)
  have h := hr q (by omega)
  rw [e] at h
  have h : ¬ lx (key w v0 v1 (ent f j)) (key w v0 v1 (ent f s)) := h
  refine Classical.byContradiction fun hc => h ?_
  show -(wt w (f j)) < -(wt w (f s)) ∨ _
  left
  omega


/-! serving and ticking -/
theorem mgetL_put {α : Type} {k x : Int} {v : α} : ∀ {l : List (Int × α)}, mgetL x (mputL k v l) = if x = k then some v else mgetL x l
 | [] => by
  unfold mputL mgetL mgetL
  by_cases h : x = k
  ·rw [if_pos h, if_pos h.symm]
  ·rw [if_neg h, if_neg (Ne.symm h)]
 | p :: l => by
  unfold mputL
  by_cases e : p.1 = k
  ·rw [if_pos e]
   unfold mgetL
   by_cases h : x = k
   ·rw [if_pos h, if_pos h.symm]
   ·rw [if_neg h, if_neg (Ne.symm h), if_neg (by rw [e]; exact Ne.symm h)]
  ·rw [if_neg e]
   unfold mgetL
   by_cases h : p.1 = x
   ·rw [if_pos h, if_neg (by rw [← h]; exact e), if_pos h]
   ·rw [if_neg h, if_neg h]; exact mgetL_put
theorem mGetI_put {M : MapI Int} {k x v : Int} : mGetI (mPut M k v) x = if x = k then v else mGetI M x := by
 show ((mgetL x (mputL k v M.l)).getD 0) = _
 rw [mgetL_put]
 by_cases h : x = k
 ·rw [if_pos h, if_pos h]; rfl
 ·rw [if_neg h, if_neg h]; rfl
theorem mHas_one {k x : Int} : mHas (mPut (mNil : MapI Unit) k ()) x = true ↔ x = k := by
 show (mgetL x (mputL k () [])).isSome = true ↔ _
 rw [mgetL_put]
 by_cases h : x = k
 ·rw [if_pos h]; exact ⟨fun _ => h, fun _ => rfl⟩
 ·rw [if_neg h]
  exact ⟨fun e => (by cases e), fun e => absurd e h⟩
theorem setloop {n : Nat} {B : List R5 × Int → Option ((List R5 × Int) ⊕ List R5)} {f g : Nat → Int} {L : List R5} (hS : Sf f L) (hn : Args.A.length < n)
  (h1 : ∀ (M : List R5) (i : Nat), i < Args.A.length → M.length = Args.A.length → M.getD i r0 = row f i → B (M, (i : Int)) = some (.inl (M.set i (row g i), ((i + 1 : Nat) : Int))))
  (h2 : ∀ (M : List R5), B (M, ((Args.A.length : Nat) : Int)) = some (.inr M)) : ∃ M, iterM B n (L, 0) = some M ∧ Sf g M := by
 obtain ⟨r, q1, q2⟩ := hoare (B := B) (σ := List R5) (fun M i => (M, i)) (fun i M => M.length = Args.A.length ∧ (∀ j, j < i → j < Args.A.length → M.getD j r0 = row g j) ∧ ∀ j, i ≤ j → j < Args.A.length → M.getD j r0 = row f j) (fun M => Sf g M) Args.A.length
  (fun i M hi hI => by
   left
   obtain ⟨a, b, c⟩ := hI
   refine ⟨M.set i (row g i), ⟨by simpa using a, fun j h1 h2 => ?_, fun j h1 h2 => ?_⟩, h1 M i hi a (c i (Nat.le_refl _) hi)⟩
   ·rw [getD_set (by omega)]
    by_cases e : j = i
    ·rw [if_pos e, e]
    ·rw [if_neg e]; exact b j (by omega) h2
   ·rw [getD_set (by omega), if_neg (by omega)]
    exact c j (by omega) h2)
  (fun M hI => ⟨M, ⟨hI.1, fun i hi => hI.2.1 i hi hi⟩, h2 M⟩) n 0 L (Nat.zero_le _) ⟨hS.len, fun j h => by omega, fun j _ h => hS.val j h⟩ (by omega)
 exact ⟨r, q2, q1⟩
theorem set_same {M : List R5} {i : Nat} {x : R5} (h : i < M.length) (e : M.getD i r0 = x) : M.set i x = M := by
 subst e
 rw [List.getD_eq_getElem?_getD, List.getElem?_eq_getElem h]
 exact List.set_getElem_self h
theorem clone_ok {n : Nat} {f : Nat → Int} {L : List R5} (hS : Sf f L) (hl : Args.A.length ≤ 32) (h0 : 0 < Args.A.length) : m_slicesCloneapiDirtyq1 n L Args.A.length = some L := by
 unfold m_slicesCloneapiDirtyq1
 rw [if_pos h0, if_pos (by rw [hS.len]; omega), if_pos (by omega), if_pos (by omega), List.drop_zero, ← hS.len, List.take_length]
 rfl
def sv (f : Nat → Int) (s i : Nat) : Int := if i = s then 0 else f i
def nf (f : Nat → Int) (s i : Nat) : Int := if i = s then 0 else f i + 1
theorem serve_ok {n s : Nat} {f : Nat → Int} {L : List R5} (hn : 1000 ≤ n) (hO : Ok) (hS : Sf f L) (hs : s < Args.A.length) : ∃ M, m_jobsServeq1 n L Args.A.length (sl s) = some (M, Args.A.length) ∧ Sf (sv f s) M := by
 have hl := hO.len
 unfold m_jobsServeq1 m_jobsServeq1_1
 rw [clone_ok hS hl (by omega)]
 simp only [Option.bind_some]
 obtain ⟨M, e, h⟩ := setloop (B := B_jobsServeq1_1 n L (sl s) L.length ((L.length : Nat) : Int)) (g := sv f s) hS (n := n) (by omega)
  (fun M i hi hl hv => by
   have hv' : M.getD i (0, 0, 0, 0, 0) = row f i := hv
   unfold B_jobsServeq1_1
   dsimp only
   rw [hS.len, if_pos (by omega), if_pos (by omega), Int.toNat_natCast, if_pos (by omega)]
   simp only [Option.bind_some]
   rw [hv', w64_inc (by omega)]
   by_cases h : sl i = sl s
   ·rw [if_pos h]
    obtain rfl := hO.eq hi hs h
    rw [show row (sv f i) i = ((at' i).1, (at' i).2.1, (at' i).2.2.1, 0, (at' i).2.2.2.2) by unfold row; rw [show sv f i i = 0 from if_pos rfl]]
   ·rw [if_neg h]
    rw [set_same (by omega) (by rw [hv]; unfold row; rw [show sv f s i = f i from if_neg (by rintro rfl; exact h rfl)])])
  (fun M => by unfold B_jobsServeq1_1; dsimp only; rw [hS.len, if_neg (by omega)])
 rw [e]
 simp only [Option.bind_some]
 exact ⟨M, by rw [hS.len], h⟩
theorem ticked_ok {n s : Nat} {f : Nat → Int} {L : List R5} (hn : 1000 ≤ n) (hO : Ok) (hS : Sf f L) (hs : s < Args.A.length) (hf : ∀ i, i < Args.A.length → 0 ≤ f i ∧ f i < 1000000) : ∃ M, m_jobsTickedq1 n L Args.A.length [sl s] = some (M, Args.A.length) ∧ Sf (nf f s) M := by
 have hl := hO.len
 obtain ⟨m, rfl⟩ : ∃ m, n = m + 2 := ⟨n - 2, by omega⟩
 have e1 : m_jobsTickedq1_1 (m + 2) L [sl s] Args.A.length ((([sl s] : List Int).length : Nat) : Int) (mNil, 0) = some (mPut mNil (sl s) ()) := by
  unfold m_jobsTickedq1_1
  rw [iterM_succ]
  rfl
 unfold m_jobsTickedq1
 rw [e1, clone_ok hS hl (by omega)]
 simp only [Option.bind_some]
 unfold m_jobsTickedq1_2
 obtain ⟨M, e, h⟩ := setloop (B := B_jobsTickedq1_2 (m + 2) L [sl s] (mPut mNil (sl s) ()) L.length ((L.length : Nat) : Int)) (g := nf f s) hS (n := m + 2) (by omega)
  (fun M i hi hl hv => by
   have hv' : M.getD i (0, 0, 0, 0, 0) = row f i := hv
   unfold B_jobsTickedq1_2
   dsimp only
   rw [hS.len, if_pos (by omega), if_pos (by omega), Int.toNat_natCast, if_pos (by omega)]
   simp only [Option.bind_some]
   rw [hv', w64_inc (by omega)]
   by_cases h : sl i = sl s
   ·rw [if_pos (mHas_one.2 h)]
    obtain rfl := hO.eq hi hs h
    rw [show row (nf f i) i = ((at' i).1, (at' i).2.1, (at' i).2.2.1, 0, (at' i).2.2.2.2) by unfold row; rw [show nf f i i = 0 from if_pos rfl]]
   ·rw [if_neg (fun e => h (mHas_one.1 e))]
    have hb := hf i hi
    rw [if_pos (show (row f i).2.2.2.1 < 1000000 from hb.2)]
    show some (Sum.inl (M.set i ((row f i).1, (row f i).2.1, (row f i).2.2.1, w64 (f i + 1), (row f i).2.2.2.2), _)) = _
    rw [w64_sm (by omega) (by omega)]
    rw [show row (nf f s) i = ((at' i).1, (at' i).2.1, (at' i).2.2.1, f i + 1, (at' i).2.2.2.2) by unfold row; rw [show nf f s i = f i + 1 from if_neg (by rintro rfl; exact h rfl)]])
  (fun M => by unfold B_jobsTickedq1_2; dsimp only; rw [hS.len, if_neg (by omega)])
 rw [e]
 simp only [Option.bind_some]
 exact ⟨M, by rw [hS.len], h⟩
/-! counting -/
def cn (p : Nat → Bool) : Nat → Nat
 | 0 => 0
 | n + 1 => cn p n + (if p n = true then 1 else 0)
theorem cn_le {p : Nat → Bool} : ∀ {n : Nat}, cn p n ≤ n
 | 0 => Nat.le_refl _
 | n + 1 => by
  have := @cn_le p n
  unfold cn
  split <;> omega
theorem cn_mono {p q : Nat → Bool} : ∀ {n : Nat}, (∀ j, j < n → q j = true → p j = true) → cn q n ≤ cn p n
 | 0, _ => Nat.le_refl _
 | n + 1, h => by
  have := @cn_mono p q n (fun j hj => h j (by omega))
  have h1 := h n (by omega)
  unfold cn
  by_cases hq : q n = true
  ·rw [if_pos hq, if_pos (h1 hq)]; omega
  ·rw [if_neg hq]; split <;> omega
theorem cn_lt {p q : Nat → Bool} {s : Nat} : ∀ {n : Nat}, (∀ j, j < n → q j = true → p j = true) → s < n → p s = true → ¬ q s = true → cn q n < cn p n
 | 0, _, h, _, _ => absurd h (Nat.not_lt_zero _)
 | n + 1, h, hs, hp, hq => by
  unfold cn
  by_cases e : s = n
  ·subst e
   have := cn_mono (p := p) (q := q) (n := s) (fun j hj => h j (by omega))
   rw [if_pos hp, if_neg hq]; omega
  ·have := @cn_lt p q s n (fun j hj => h j (by omega)) (by omega) hp hq
   have h1 := h n (by omega)
   by_cases hq' : q n = true
   ·rw [if_pos hq', if_pos (h1 hq')]; omega
   ·rw [if_neg hq']; split <;> omega
theorem cn_true : ∀ {n : Nat}, cn (fun _ => true) n = n
 | 0 => rfl
 | n + 1 => by unfold cn; rw [cn_true]; rfl
def ahead (f : Nat → Int) (i : Nat) : Nat := cn (fun j => decide (j ≠ i ∧ f i ≤ f j)) Args.A.length
theorem ahead_lt {f : Nat → Int} {i : Nat} (hi : i < Args.A.length) : ahead f i + 1 ≤ Args.A.length := by
 have := cn_lt (p := fun _ => true) (q := fun j => decide (j ≠ i ∧ f i ≤ f j)) (s := i) (n := Args.A.length) (fun _ _ _ => rfl) hi rfl (by simp)
 rw [cn_true] at this
 exact this
/-- no job waits too long -/
def Fair (w : Int) (f : Nat → Int) : Prop := ∀ i, i < Args.A.length → w ≤ f i → f i - w + ahead f i + 1 ≤ Args.A.length
theorem Fair.next {w : Int} {f : Nat → Int} {s : Nat} (h : Fair w f) (hw : 1 ≤ w) (hs : s < Args.A.length) (hm : ∀ j, j < Args.A.length → wt w (f j) ≤ wt w (f s)) : Fair w (nf f s) := fun i hi hge => by
 have hne : i ≠ s := fun e => by
  subst e
  unfold nf at hge
  rw [if_pos rfl] at hge
  omega
 have hv : nf f s i = f i + 1 := if_neg hne
 rw [hv] at hge ⊢
 by_cases hwi : w ≤ f i
 ·have h1 := h i hi hwi
  have h2 := hm i hi
  unfold wt at h2
  rw [if_pos hwi] at h2
  have h3 : f i ≤ f s := by
   by_cases e : f s ≥ w
   ·rw [if_pos e] at h2; exact h2
   ·rw [if_neg e] at h2; omega
  have h4 : ahead (nf f s) i < ahead f i := cn_lt (s := s) (fun j hj hq => by
   have hq := of_decide_eq_true hq
   rw [hv] at hq
   refine decide_eq_true ⟨hq.1, ?_⟩
   have h5 := hq.2
   unfold nf at h5
   by_cases e : j = s
   ·subst e; exact h3
   ·rw [if_neg e] at h5; omega) hs (decide_eq_true ⟨Ne.symm hne, h3⟩) (fun hq => by
   have hq := of_decide_eq_true hq
   rw [hv] at hq
   have h5 := hq.2
   unfold nf at h5
   rw [if_pos rfl] at h5
   omega)
  omega
 ·have := ahead_lt (f := nf f s) hi
  omega
theorem Fair.le {w : Int} {f : Nat → Int} (h : Fair w f) (hw : 1 ≤ w) : ∀ i, i < Args.A.length → f i + 1 ≤ w + Args.A.length := fun i hi => by
 by_cases e : w ≤ f i
 ·have := h i hi e; omega
 ·omega


/-! the rounds -/
theorem nf_sv {f : Nat → Int} {s : Nat} : nf (sv f s) s = nf f s := funext fun i => by
 unfold nf sv
 by_cases h : i = s
 ·rw [if_pos h, if_pos h]
 ·rw [if_neg h, if_neg h, if_neg h]
theorem own_ok {n : Nat} (hl : Args.A.length ≤ 32) (h0 : 0 < Args.A.length) : m_viewportkitOwnapiDirtyq1 n = some Args.A := by
 unfold m_viewportkitOwnapiDirtyq1
 rw [if_pos h0, if_pos (by omega), if_pos (by omega)]
 rfl
theorem own_sf : Sf (fun i => (at' i).2.2.2.1) Args.A := ⟨rfl, fun i _ => rfl⟩
theorem loop1 {n : Nat} {w : Int} (hn : 1000 ≤ n) (hl : Args.A.length ≤ 32) : ∃ M, m_V_1 n Args.A.length w (Args.A, 0) = some M ∧ Sf (fun _ => 0) M :=
 setloop (B := B_V_1 n Args.A.length w) own_sf (by omega)
  (fun M i hi hl hv => by
   have hv' : M.getD i (0, 0, 0, 0, 0) = row (fun i => (at' i).2.2.2.1) i := hv
   unfold B_V_1
   dsimp only
   rw [if_pos (by omega), if_pos (by omega), Int.toNat_natCast, if_pos (by omega)]
   simp only [Option.bind_some]
   rw [hv', w64_inc (by omega)])
  (fun M => by unfold B_V_1; dsimp only; rw [if_neg (by omega)])
theorem loop3 {n : Nat} {w m s : Int} {f : Nat → Int} {L : List R5} {M : MapI Int} (hn : 1000 ≤ n) (hl : Args.A.length ≤ 32) (hS : Sf f L) (hw : 0 ≤ w ∧ w ≤ 1000) (hM : ∀ i, i < Args.A.length → -1000 ≤ m - mGetI M (sl i) ∧ m - mGetI M (sl i) ≤ w + Args.A.length) : m_V_3 n L Args.A.length w M m s 0 = some () := by
 obtain ⟨r, q1, q2⟩ := hoare (B := B_V_3 n L Args.A.length w M m s) (σ := Unit) (fun _ i => i) (fun _ _ => True) (fun r => r = ()) Args.A.length
  (fun i _ hi _ => by
   left
   unfold B_V_3
   dsimp only
   rw [if_pos (by omega), if_pos (by omega), Int.toNat_natCast, if_pos (by rw [hS.len]; exact hi)]
   simp only [Option.bind_some]
   rw [show L.getD i (0, 0, 0, 0, 0) = row f i from hS.val i hi]
   have := hM i hi
   rw [if_neg (show ¬ w64 (m - mGetI M (sl i)) > w64 (w + ((Args.A.length : Nat) : Int)) by rw [w64_sm (by omega) (by omega), w64_sm (by omega) (by omega)]; omega), w64_inc (by omega)]
   exact ⟨(), trivial, rfl⟩)
  (fun _ _ => ⟨(), rfl, by unfold B_V_3; dsimp only; rw [if_neg (by omega)]⟩) n 0 () (Nat.zero_le _) trivial (by omega)
 exact q2
structure J (w m : Int) (f : Nat → Int) (M : MapI Int) : Prop where
 m1 : 1 ≤ m
 last : ∀ i, i < Args.A.length → mGetI M (sl i) = m - 1 - f i
 nn : ∀ i, i < Args.A.length → 0 ≤ f i
 fair : Fair w f
theorem J.next {w m : Int} {f : Nat → Int} {M : MapI Int} {s : Nat} (h : J w m f M) (hO : Ok) (hw : 1 ≤ w) (hs : s < Args.A.length) (hm : ∀ j, j < Args.A.length → wt w (f j) ≤ wt w (f s)) : J w (m + 1) (nf f s) (mPut M (sl s) m) := by
 have h1 := h.m1
 refine ⟨by omega, fun i hi => ?_, fun i hi => ?_, h.fair.next hw hs hm⟩
 ·rw [mGetI_put]
  unfold nf
  by_cases e : i = s
  ·subst e
   rw [if_pos rfl, if_pos rfl]; omega
  ·rw [if_neg (fun q => e (hO.eq hi hs q)), if_neg e, h.last i hi]; omega
 ·have := h.nn i hi
  unfold nf
  split <;> omega
theorem loop2 {n : Nat} {w : Int} {L : List R5} (hn : 1000 ≤ n) (hO : Ok) (h20 : Args.A.length ≤ 20) (h0 : 0 < Args.A.length) (hB0 : 0 < Args.B.length) (hB : Args.B.length ≤ 200) (hw : 1 ≤ w) (hw2 : w ≤ 30) (hS : Sf (fun _ => 0) L) : m_V_2 n w (L, Args.A.length, mNil, 1) = some () := by
 obtain ⟨r, q1, q2⟩ := whileI (B := B_V_2 n w) (fun s => s.2.1 = Args.A.length ∧ s.2.2.2 ≤ 151 ∧ ∃ f, Sf f s.1 ∧ J w s.2.2.2 f s.2.2.1) (fun s => (200 - s.2.2.2).toNat) (fun _ => True)
  (fun s hI => by
   obtain ⟨L, k, M, m⟩ := s
   obtain ⟨h1, h2, f, hS, hJ⟩ := hI
   dsimp only at h1 h2 hS hJ
   subst h1
   have hm1 := hJ.m1
   have y1 : w64 (3 * w64 (w + ((Args.A.length : Nat) : Int))) = 3 * (w + Args.A.length) := by
    rw [w64_sm (x := w + ((Args.A.length : Nat) : Int)) (by omega) (by omega), w64_sm (by omega) (by omega)]
   unfold B_V_2
   dsimp only
   rw [y1]
   simp only [Option.bind_some]
   by_cases hc : m ≤ 3 * (w + Args.A.length)
   ·left
    rw [if_pos hc]
    have y2 : ∃ q : Nat, q < Args.B.length ∧ w64 (minB m ((Args.B.length : Nat) : Int) - 1) = (q : Int) := by
     unfold minB
     by_cases e : ((Args.B.length : Nat) : Int) < m
     ·rw [if_pos e]
      exact ⟨Args.B.length - 1, by omega, by rw [w64_sm (by omega) (by omega)]; omega⟩
     ·rw [if_neg e]
      exact ⟨(m - 1).toNat, by omega, by rw [w64_sm (by omega) (by omega)]; omega⟩
    obtain ⟨q, hq, y2⟩ := y2
    rw [y2, if_pos (by omega), Int.toNat_natCast]
    obtain ⟨s, hs, e1, hmax⟩ := next_ok (n := n) (v0 := (Args.B.getD q (0, 0)).1) (v1 := (Args.B.getD q (0, 0)).2) (w := w) hn hO hS hJ.nn h0
    have hle := hJ.fair.le hw
    rw [e1]
    simp only [Option.bind_some]
    rw [if_pos trivial]
    have hlast : ∀ i, i < Args.A.length → -1000 ≤ m - mGetI (mPut M (sl s) m) (sl i) ∧ m - mGetI (mPut M (sl s) m) (sl i) ≤ w + Args.A.length := fun i hi => by
     have a := hle i hi
     have b := hJ.nn i hi
     have c := hJ.last i hi
     rw [mGetI_put]
     by_cases e : sl i = sl s
     ·rw [if_pos e]; omega
     ·rw [if_neg e, c]; omega
    rw [loop3 hn hO.len hS ⟨by omega, by omega⟩ hlast]
    simp only [Option.bind_some]
    obtain ⟨L1, e2, hS1⟩ := serve_ok (n := n) hn hO hS hs
    rw [e2]
    simp only [Option.bind_some]
    obtain ⟨L2, e3, hS2⟩ := ticked_ok (n := n) hn hO hS1 hs (fun i hi => by
     have a := hle i hi
     have b := hJ.nn i hi
     unfold sv
     split <;> omega)
    rw [e3]
    simp only [Option.bind_some]
    rw [nf_sv] at hS2
    refine ⟨(L2, Args.A.length, mPut M (sl s) m, m + 1), ⟨rfl, ?_, nf f s, hS2, hJ.next hO hw hs hmax⟩, ?_, ?_⟩
    ·show m + 1 ≤ 151
     omega
    ·show (200 - (m + 1)).toNat < (200 - m).toNat
     omega
    ·rw [w64_sm (by omega) (by omega)]
   ·right
    rw [if_neg hc]
    exact ⟨(), trivial, rfl⟩) n (L, Args.A.length, mNil, 1) ⟨rfl, by show (1 : Int) ≤ 151; decide, fun _ => 0, hS, ⟨by show (1 : Int) ≤ 1; decide, fun i hi => rfl, fun i _ => Int.le_refl _, fun i hi h => by omega⟩⟩ (by show (200 - (1 : Int)).toNat < n; omega)
 exact q2
theorem pick_ok {n : Nat} {x : Int} : ∃ q, m_viewportkitPickq1 n x 30 = some q ∧ 0 ≤ q ∧ q < 30 := by
 unfold m_viewportkitPickq1
 rw [if_neg (by decide), if_pos (by decide)]
 have h1 := Int.tmod_lt_of_pos x (show (0 : Int) < 30 by decide)
 have h2 : -30 < Int.tmod x 30 := by
  rcases Int.le_total 0 x with h | h
  ·have := Int.tmod_nonneg 30 h; omega
  ·have h3 := Int.neg_tmod x 30
   have h4 := Int.tmod_lt_of_pos (-x) (show (0 : Int) < 30 by decide)
   omega
 by_cases h : Int.tmod x 30 < 0
 ·rw [if_pos h]
  exact ⟨_, rfl, by rw [w64_sm (by omega) (by omega)]; omega, by rw [w64_sm (by omega) (by omega)]; omega⟩
 ·rw [if_neg h]
  exact ⟨_, rfl, by omega, h1⟩
theorem jobsServed_true (g2 : Int) : ∃ n, m_V n g2 = some () := by
 refine ⟨1000, ?_⟩
 unfold m_V m_viewportlaw24lives
 simp only [Option.bind_some]
 by_cases h1 : ((Args.A.length : Nat) : Int) > 20
 ·rw [if_pos h1]
 rw [if_neg h1]
 by_cases h2 : ((Args.A.length : Nat) : Int) = 0
 ·rw [if_pos h2]
 rw [if_neg h2]
 obtain ⟨c, e, hO⟩ := refCheck (n := 1000) (Nat.le_refl _)
 rw [e]
 simp only [Option.bind_some]
 by_cases hc : c = 0
 ·have hO := hO hc
  rw [if_pos hc]
  by_cases h3 : ((Args.B.length : Nat) : Int) = 0
  ·rw [if_pos h3]
  rw [if_neg h3]
  by_cases h4 : ((Args.B.length : Nat) : Int) > 200
  ·rw [if_pos h4]
  rw [if_neg h4, own_ok hO.len (by omega)]
  simp only [Option.bind_some]
  obtain ⟨M, e1, hS⟩ := loop1 (n := 1000) (w := g2) (Nat.le_refl _) hO.len
  rw [e1]
  simp only [Option.bind_some]
  obtain ⟨q, e2, q0, q1⟩ := pick_ok (n := 1000) (x := g2)
  rw [e2]
  simp only [Option.bind_some]
  rw [w64_sm (by omega) (by omega), loop2 (Nat.le_refl _) hO (by omega) (by omega) (by omega) (by omega) (by omega) (by omega) hS]
  rfl
 ·rw [if_neg hc]

end Go.Proofs.Ytfanipihhgbahaa.jbs24
