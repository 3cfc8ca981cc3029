/-
  The pure side. No condition.
-/
import Derived.Test.YtpbaplmodomfeaaJboDTold
import Derived.IntWalk
set_option linter.unusedSimpArgs false
set_option linter.unusedVariables false
set_option linter.unusedSectionVars false
set_option linter.unnecessarySimpa false
namespace Go.Proofs.Ytpbaplmodomfeaa.jbo24
open Go Go.Proofs.Ytpbaplmodomfeaa Ax
variable [Args]


theorem w64_id {x : Int} (h1 : -9223372036854775808 ≤ x) (h2 : x < 9223372036854775808) : w64 x = x := IntWalk.i64_in _ (by omega)
theorem w64_sm {x : Int} (h1 : -1000000000000 ≤ x) (h2 : x ≤ 1000000000000) : w64 x = x := w64_id (by omega) (by omega)
theorem w64_inc {i : Nat} (h : i ≤ 1000000000) : w64 ((i : Int) + 1) = ((i + 1 : Nat) : Int) := by rw [w64_sm (by omega) (by omega)]; rfl
/-! loops -/
theorem whileI {st ρ : Type} {B : st → Option (st ⊕ ρ)} (I : st → Prop) (μ : st → Nat) (Q : ρ → Prop) (h : ∀ s, I s → (∃ s', I s' ∧ μ s' < μ s ∧ B s = some (.inl s')) ∨ ∃ r, Q r ∧ B s = some (.inr r)) : ∀ (n : Nat) (s : st), I s → μ s < n → ∃ r, Q r ∧ iterM B n s = some r
 | 0, s, _, hm => absurd hm (Nat.not_lt_zero _)
 | n + 1, s, hi, hm => by
  rcases h s hi with ⟨s', h1, h2, h3⟩ | ⟨r, h1, h2⟩
  ·obtain ⟨r, q1, q2⟩ := whileI I μ Q h n s' h1 (by omega)
   exact ⟨r, q1, by rw [iterM_succ, h3]; exact q2⟩
  ·exact ⟨r, h1, by rw [iterM_succ, h2]; rfl⟩
theorem hoare {σ st ρ : Type} {B : st → Option (st ⊕ ρ)} (S : σ → Int → st) (I : Nat → σ → Prop) (Q : ρ → Prop) (len : Nat)
  (h1 : ∀ (i : Nat) (s : σ), i < len → I i s → (∃ s', I (i + 1) s' ∧ B (S s (i : Int)) = some (.inl (S s' ((i + 1 : Nat) : Int)))) ∨ ∃ r, Q r ∧ B (S s (i : Int)) = some (.inr r))
  (h2 : ∀ s, I len s → ∃ r, Q r ∧ B (S s (len : Int)) = some (.inr r)) : ∀ (n i : Nat) (s : σ), i ≤ len → I i s → len - i < n → ∃ r, Q r ∧ iterM B n (S s (i : Int)) = some r
 | 0, i, s, _, _, hm => absurd hm (Nat.not_lt_zero _)
 | n + 1, i, s, hl, hi, hm => by
  have main : (∃ s', i < len ∧ I (i + 1) s' ∧ B (S s (i : Int)) = some (.inl (S s' ((i + 1 : Nat) : Int)))) ∨ ∃ r, Q r ∧ B (S s (i : Int)) = some (.inr r) := by
   by_cases hlt : i < len
   ·rcases h1 i s hlt hi with ⟨s', a, b⟩ | h
    ·exact .inl ⟨s', hlt, a, b⟩
    ·exact .inr h
   ·obtain rfl : i = len := by omega
    exact .inr (h2 s hi)
  rcases main with ⟨s', g0, g1, g3⟩ | ⟨r, g1, g2⟩
  ·obtain ⟨r, q1, q2⟩ := hoare S I Q len h1 h2 n (i + 1) s' (by omega) g1 (by omega)
   exact ⟨r, q1, by rw [iterM_succ, g3]; exact q2⟩
  ·exact ⟨r, g1, by rw [iterM_succ, g2]; rfl⟩
/-- a search: the first place that is not so ends it -/
theorem scan {β γ : Type} {B : Int → Option (Int ⊕ (β ⊕ γ))} (len : Nat) (p : Nat → Bool) (a : β) (c : γ)
  (h1 : ∀ i : Nat, i < len → B (i : Int) = some (if p i = true then .inl ((i + 1 : Nat) : Int) else .inr (.inl a))) (h2 : B (len : Int) = some (.inr (.inr c))) (n : Nat) (hn : len < n) :
  iterM B n 0 = some (if (List.range len).all p = true then .inr c else .inl a) := by
 obtain ⟨r, q1, q2⟩ := hoare (B := B) (σ := Unit) (fun _ i => i) (fun i _ => ∀ j, j < i → p j = true) (fun r => r = if (List.range len).all p = true then .inr c else .inl a) len
  (fun i s hi hI => by
   by_cases hp : p i = true
   ·refine .inl ⟨(), fun j hj => ?_, by rw [h1 i hi, if_pos hp]⟩
    rcases Nat.lt_or_ge j i with h | h
    ·exact hI j h
    ·obtain rfl : j = i := by omega
     exact hp
   ·refine .inr ⟨.inl a, ?_, by rw [h1 i hi, if_neg hp]⟩
    rw [if_neg]
    intro hall
    exact hp (List.all_eq_true.1 hall i (List.mem_range.2 hi)))
  (fun s hI => ⟨.inr c, by rw [if_pos (List.all_eq_true.2 fun j hj => hI j (List.mem_range.1 hj))], h2⟩) n 0 () (Nat.zero_le _) (fun j hj => absurd hj (Nat.not_lt_zero _)) (by omega)
 rw [show (0 : Int) = ((0 : Nat) : Int) from rfl, q2, q1]
theorem all_range {α : Type} {l : List α} {d : α} {p : α → Bool} : (List.range l.length).all (fun i => p (l.getD i d)) = l.all p := by
 rw [Bool.eq_iff_iff, List.all_eq_true, List.all_eq_true]
 constructor
 ·intro h x hx
  obtain ⟨i, hi, rfl⟩ := List.mem_iff_getElem.1 hx
  have := h i (List.mem_range.2 hi)
  simpa [List.getD_eq_getElem?_getD, hi] using this
 ·intro h i hi
  have hi := List.mem_range.1 hi
  have := h l[i] (List.getElem_mem hi)
  simpa [List.getD_eq_getElem?_getD, hi] using this
theorem getD_mem {α : Type} {l : List α} {i : Nat} {d : α} (h : i < l.length) : l.getD i d ∈ l := by
 rw [List.getD_eq_getElem?_getD, List.getElem?_eq_getElem h]; exact List.getElem_mem h
theorem mem_getD {α : Type} {l : List α} {x : α} (d : α) (h : x ∈ l) : ∃ i, i < l.length ∧ l.getD i d = x := by
 obtain ⟨i, hi, rfl⟩ := List.mem_iff_getElem.1 h
 exact ⟨i, hi, by simp [List.getD_eq_getElem?_getD, hi]⟩
theorem getD_set {α : Type} {l : List α} {i j : Nat} {x d : α} (h : i < l.length) : (l.set i x).getD j d = if j = i then x else l.getD j d := by
 simp only [List.getD_eq_getElem?_getD, List.getElem?_set]
 by_cases hj : i = j
 ·subst hj; simp [h]
 ·rw [if_neg hj, if_neg (Ne.symm hj)]
theorem count_set_lt {L : List Bool} {i : Nat} (h : i < L.length) (hf : ¬ L.getD i false = true) : (L.set i true).count false < L.count false := by
 have h0 : L[i] = false := by simpa [List.getD_eq_getElem?_getD, h] using hf
 have hc := List.count_set (l := L) (a := true) (b := false) (i := i) h
 have hp : 0 < L.count false := List.count_pos_iff.2 (h0 ▸ List.getElem_mem h)
 rw [h0] at hc
 simp at hc
 omega


/-! an order that goes from one number to the next -/
def lx : List Int → List Int → Prop
 | x :: xs, y :: ys => x < y ∨ (x = y ∧ lx xs ys)
 | _, _ => False
theorem lx_trans : ∀ {a b c : List Int}, lx a b → lx b c → lx a c
 | [], _, _, h, _ => by simp [lx] at h
 | _ :: _, [], _, h, _ => by simp [lx] at h
 | _ :: _, _ :: _, [], _, h => by simp [lx] at h
 | x :: a, y :: b, z :: c, h, k => by
  unfold lx at *
  rcases h with h | ⟨h, h'⟩
  ·rcases k with k | ⟨k, k'⟩
   ·left; omega
   ·left; omega
  ·rcases k with k | ⟨k, k'⟩
   ·left; omega
   ·exact .inr ⟨by omega, lx_trans h' k'⟩
theorem lx_asymm : ∀ {a b : List Int}, lx a b → ¬ lx b a
 | [], _, h => by simp [lx] at h
 | _ :: _, [], h => by simp [lx] at h
 | x :: a, y :: b, h => by
  unfold lx at *
  rintro (k | ⟨k, k'⟩)
  ·rcases h with h | ⟨h, h'⟩ <;> omega
  ·rcases h with h | ⟨h, h'⟩
   ·omega
   ·exact lx_asymm h' k'
theorem nlx_trans : ∀ {a b c : List Int}, a.length = b.length → b.length = c.length → ¬ lx a b → ¬ lx b c → ¬ lx a c
 | [], _, _, _, _, _, _ => by simp [lx]
 | _ :: _, [], _, h, _, _, _ => by simp at h
 | _ :: _, _ :: _, [], _, h, _, _ => by simp at h
 | x :: a, y :: b, z :: c, h1, h2, h, k => by
  unfold lx at *
  rintro (q | ⟨q, q'⟩)
  ·apply h
   left
   rcases Int.lt_trichotomy y z with u | u | u
   ·exact absurd (.inl u) k
   ·omega
   ·omega
  ·subst q
   rcases Int.lt_trichotomy x y with u | u | u
   ·exact h (.inl u)
   ·subst u
    exact nlx_trans (by simpa using h1) (by simpa using h2) (fun e => h (.inr ⟨rfl, e⟩)) (fun e => k (.inr ⟨rfl, e⟩)) q'
   ·exact k (.inl u)
/-! the order of jobs: a row holds turn, slot, from, to, age, level -/
abbrev E6 := Int × Int × Int × Int × Int × Int
def e0 : E6 := (0, 0, 0, 0, 0, 0)
theorem far_tot (a b v0 v1 : Int) : ∃ r, ∀ n, m_shiftFarq1 n a b v0 v1 = some r := by
 unfold m_shiftFarq1 m_shiftTouchq1 m_shiftspanq1 m_shiftboundintq1
 dsimp only [Option.bind_some]
 by_cases c1 : (minB (maxB (minB (maxB a (-1099511627776)) 1099511627776) (-1099511627776)) 1099511627776) ≤ (minB (maxB (minB (maxB v1 (-1099511627776)) 1099511627776) (-1099511627776)) 1099511627776)
 ·rw [if_pos c1]
  by_cases c2 : (minB (maxB (minB (maxB v0 (-1099511627776)) 1099511627776) (-1099511627776)) 1099511627776) ≤ (minB (maxB (minB (maxB b (-1099511627776)) 1099511627776) (-1099511627776)) 1099511627776)
  ·rw [if_pos c2]; exact ⟨_, fun _ => rfl⟩
  ·rw [if_neg c2]
   dsimp only [Option.bind_some]
   rw [if_neg (by decide)]
   by_cases c3 : (minB (maxB b (-1099511627776)) 1099511627776) < (minB (maxB v0 (-1099511627776)) 1099511627776)
   ·rw [if_pos c3]; exact ⟨_, fun _ => rfl⟩
   ·rw [if_neg c3]; exact ⟨_, fun _ => rfl⟩
 ·rw [if_neg c1]
  dsimp only [Option.bind_some]
  rw [if_neg (by decide)]
  by_cases c3 : (minB (maxB b (-1099511627776)) 1099511627776) < (minB (maxB v0 (-1099511627776)) 1099511627776)
  ·rw [if_pos c3]; exact ⟨_, fun _ => rfl⟩
  ·rw [if_neg c3]; exact ⟨_, fun _ => rfl⟩
noncomputable def farV (v0 v1 a b : Int) : Int := (far_tot a b v0 v1).choose
theorem far_ok (n : Nat) (a b v0 v1 : Int) : m_shiftFarq1 n a b v0 v1 = some (farV v0 v1 a b) := (far_tot a b v0 v1).choose_spec n
def wt (w a : Int) : Int := if a ≥ w then a else -1
noncomputable def K4 (w v0 v1 s f t a : Int) : List Int := [-(wt w a), if wt w a < 0 then farV v0 v1 f t else 0, if wt w a < 0 then f else 0, s]
theorem cmp_ok (n : Nat) (a b : Int) : m_cmpCompareintq1 n a b = some (if a < b then -1 else if a > b then 1 else 0) := by
 unfold m_cmpCompareintq1 m_cmpisNaNintq1
 dsimp only [Option.bind_some]
 by_cases h : a < b
 ·rw [if_pos h, if_pos h]
 ·rw [if_neg h, if_neg h]
  by_cases k : a > b
  ·rw [if_pos k, if_pos k]
  ·rw [if_neg k, if_neg k]
theorem or2_ok (n : Nat) (a b : Int) : m_cmpOrintq1 n a b = some (if a = 0 then b else a) := by
 unfold m_cmpOrintq1
 by_cases h : a = 0
 ·rw [if_pos h, if_pos h]
  by_cases k : b = 0
  ·rw [if_pos k, k]
  ·rw [if_neg k]
 ·rw [if_neg h, if_neg h]
theorem or3_ok (n : Nat) (a b c : Int) : m_cmpOrintq2 n a b c = some (if a = 0 then if b = 0 then c else b else a) := by
 unfold m_cmpOrintq2
 by_cases h : a = 0
 ·rw [if_pos h, if_pos h]
  by_cases k : b = 0
  ·rw [if_pos k, if_pos k]
   by_cases l : c = 0
   ·rw [if_pos l, l]
   ·rw [if_neg l]
  ·rw [if_neg k, if_neg k]
 ·rw [if_neg h, if_neg h]
theorem waited_ok (n : Nat) (s f t a l w : Int) : m_jobswaitedq1 n s f t a l w = some (wt w a) := by
 unfold m_jobswaitedq1 wt
 by_cases h : a ≥ w
 ·rw [if_pos h, if_pos h]
 ·rw [if_neg h, if_neg h]
def cm (a b : Int) : Int := if a < b then -1 else if a > b then 1 else 0
theorem cm_cases (a b : Int) : (a < b ∧ cm a b = -1) ∨ (a = b ∧ cm a b = 0) ∨ (a > b ∧ cm a b = 1) := by
 unfold cm
 rcases Int.lt_trichotomy a b with h | h | h
 ·left; exact ⟨h, if_pos h⟩
 ·right; left; exact ⟨h, by rw [if_neg (by omega), if_neg (by omega)]⟩
 ·right; right; exact ⟨h, by rw [if_neg (by omega), if_pos h]⟩
theorem order_ok {n : Nat} {w v0 v1 s f t a l s' f' t' a' l' : Int} : ∃ c, m_jobsorder1q1 n s f t a l s' f' t' a' l' w v0 v1 = some c ∧ (c < 0 ↔ lx (K4 w v0 v1 s f t a) (K4 w v0 v1 s' f' t' a')) ∧ (c = 0 ↔ K4 w v0 v1 s f t a = K4 w v0 v1 s' f' t' a') := by
 unfold m_jobsorder1q1
 rw [waited_ok, waited_ok]
 dsimp only [Option.bind_some]
 simp only [cmp_ok, or2_ok, or3_ok, far_ok, Option.bind_some]
 unfold K4
 generalize wt w a = x
 generalize wt w a' = y
 generalize farV v0 v1 f t = p
 generalize farV v0 v1 f' t' = q
 change ∃ c, (if x < 0 then if y < 0 then some (if cm y x = 0 then if (if cm p q = 0 then cm f f' else cm p q) = 0 then cm s s' else (if cm p q = 0 then cm f f' else cm p q) else cm y x) else some (if cm y x = 0 then if (0 : Int) = 0 then cm s s' else 0 else cm y x) else some (if cm y x = 0 then if (0 : Int) = 0 then cm s s' else 0 else cm y x)) = some c ∧ _
 rcases cm_cases y x with ⟨h1, e1⟩ | ⟨h1, e1⟩ | ⟨h1, e1⟩
 ·rw [e1]
  simp only [if_neg (show ¬ (-1 : Int) = 0 by decide), ite_self]
  refine ⟨-1, rfl, ⟨fun _ => .inl (by omega), fun _ => by decide⟩, ⟨fun h => absurd h (by decide), fun h => by injection h with h _; omega⟩⟩
 ·subst h1
  rw [e1]
  simp only [if_true]
  by_cases hy : y < 0
  ·rw [if_pos hy, if_pos hy]
   simp only [if_pos hy]
   rcases cm_cases p q with ⟨h2, e2⟩ | ⟨h2, e2⟩ | ⟨h2, e2⟩
   ·rw [e2]
    refine ⟨-1, rfl, ⟨fun _ => .inr ⟨rfl, .inl h2⟩, fun _ => by decide⟩, ⟨fun h => absurd h (by decide), fun h => by simp at h; omega⟩⟩
   ·rw [e2]
    simp only [if_true]
    rcases cm_cases f f' with ⟨h3, e3⟩ | ⟨h3, e3⟩ | ⟨h3, e3⟩
    ·rw [e3]
     refine ⟨-1, rfl, ⟨fun _ => .inr ⟨rfl, .inr ⟨h2, .inl h3⟩⟩, fun _ => by decide⟩, ⟨fun h => absurd h (by decide), fun h => by simp at h; omega⟩⟩
    ·rw [e3]
     simp only [if_true]
     rcases cm_cases s s' with ⟨h4, e4⟩ | ⟨h4, e4⟩ | ⟨h4, e4⟩
     ·refine ⟨_, rfl, ⟨fun _ => .inr ⟨rfl, .inr ⟨h2, .inr ⟨h3, .inl h4⟩⟩⟩, fun _ => by rw [e4]; decide⟩, ⟨fun h => by omega, fun h => by simp at h; omega⟩⟩
     ·refine ⟨_, rfl, ⟨fun h => by omega, fun h => ?_⟩, ⟨fun _ => by rw [h2, h3, h4], fun _ => e4⟩⟩
      simp [lx, h2, h3, h4] at h
     ·refine ⟨_, rfl, ⟨fun h => by omega, fun h => ?_⟩, ⟨fun h => by omega, fun h => by simp at h; omega⟩⟩
      simp [lx, h2, h3] at h
      omega
    ·rw [e3]
     refine ⟨1, rfl, ⟨fun h => absurd h (by decide), fun h => ?_⟩, ⟨fun h => absurd h (by decide), fun h => by simp at h; omega⟩⟩
     simp [lx, h2] at h
     omega
   ·rw [e2]
    refine ⟨1, rfl, ⟨fun h => absurd h (by decide), fun h => ?_⟩, ⟨fun h => absurd h (by decide), fun h => by simp at h; omega⟩⟩
    simp [lx] at h
    omega
  ·rw [if_neg hy]
   simp only [if_neg hy]
   rcases cm_cases s s' with ⟨h4, e4⟩ | ⟨h4, e4⟩ | ⟨h4, e4⟩
   ·refine ⟨_, rfl, ⟨fun _ => .inr ⟨rfl, .inr ⟨rfl, .inr ⟨rfl, .inl h4⟩⟩⟩, fun _ => by rw [e4]; decide⟩, ⟨fun h => by omega, fun h => by simp at h; omega⟩⟩
   ·refine ⟨_, rfl, ⟨fun h => by omega, fun h => ?_⟩, ⟨fun _ => by rw [h4], fun _ => e4⟩⟩
    simp [lx, h4] at h
   ·refine ⟨_, rfl, ⟨fun h => by omega, fun h => ?_⟩, ⟨fun h => by omega, fun h => by simp at h; omega⟩⟩
    simp [lx] at h
    omega
 ·rw [e1]
  simp only [if_neg (show ¬ (1 : Int) = 0 by decide), ite_self]
  refine ⟨1, rfl, ⟨fun h => absurd h (by decide), fun h => ?_⟩, ⟨fun h => absurd h (by decide), fun h => by injection h with h _; omega⟩⟩
  rcases h with h | ⟨h, _⟩ <;> omega
noncomputable def key (w v0 v1 : Int) (e : E6) : List Int := K4 w v0 v1 e.2.1 e.2.2.1 e.2.2.2.1 e.2.2.2.2.1 ++ [e.1]
theorem key_len {w v0 v1 : Int} {e : E6} : (key w v0 v1 e).length = 5 := rfl


/-! heaps of jobs -/
theorem lx_app : ∀ {a b : List Int} {t u : Int}, a.length = b.length → (lx (a ++ [t]) (b ++ [u]) ↔ (lx a b ∨ (a = b ∧ t < u)))
 | [], [], t, u, _ => by simp [lx]
 | [], _ :: _, _, _, h => by simp at h
 | _ :: _, [], _, _, h => by simp at h
 | x :: a, y :: b, t, u, h => by
  have ih := @lx_app a b t u (by simpa using h)
  show (x < y ∨ (x = y ∧ lx (a ++ [t]) (b ++ [u]))) ↔ ((x < y ∨ (x = y ∧ lx a b)) ∨ (x :: a = y :: b ∧ t < u))
  rw [ih, List.cons.injEq]
  constructor
  ·rintro (h | ⟨h, h' | ⟨h1, h2⟩⟩)
   ·exact .inl (.inl h)
   ·exact .inl (.inr ⟨h, h'⟩)
   ·exact .inr ⟨⟨h, h1⟩, h2⟩
  ·rintro ((h | ⟨h, h2⟩) | ⟨⟨h, h1⟩, h2⟩)
   ·exact .inl h
   ·exact .inr ⟨h, .inl h2⟩
   ·exact .inr ⟨h, .inr ⟨h1, h2⟩⟩
noncomputable def lt (W : Int × Int × Int) (a b : E6) : Prop := lx (key W.1 W.2.1 W.2.2 a) (key W.1 W.2.1 W.2.2 b)
variable {W : Int × Int × Int}
theorem lt_trans {a b c : E6} (h : lt W a b) (k : lt W b c) : lt W a c := lx_trans h k
theorem lt_asymm {a b : E6} (h : lt W a b) : ¬ lt W b a := lx_asymm h
theorem nlt_trans {a b c : E6} (h : ¬ lt W a b) (k : ¬ lt W b c) : ¬ lt W a c := nlx_trans (b := key W.1 W.2.1 W.2.2 b) rfl rfl h k
theorem before_ok {n k i j : Nat} {L : List E6} {x : Int} (hi : i < k) (hj : j < k) (hk : k ≤ L.length) : ∃ b, m_heapHeapapiDirtybeforeq2 n W.1 W.2.1 W.2.2 L k x i j = some b ∧ (b = true ↔ lt W (L.getD i e0) (L.getD j e0)) := by
 unfold m_heapHeapapiDirtybeforeq2
 rw [if_pos (by omega), Int.toNat_natCast, if_pos (by omega)]
 simp only [Option.bind_some]
 rw [if_pos (by omega), Int.toNat_natCast, if_pos (by omega)]
 obtain ⟨c, e1, e2, e3⟩ := order_ok (n := n) (w := W.1) (v0 := W.2.1) (v1 := W.2.2) (s := (L.getD i e0).2.1) (f := (L.getD i e0).2.2.1) (t := (L.getD i e0).2.2.2.1) (a := (L.getD i e0).2.2.2.2.1) (l := (L.getD i e0).2.2.2.2.2) (s' := (L.getD j e0).2.1) (f' := (L.getD j e0).2.2.1) (t' := (L.getD j e0).2.2.2.1) (a' := (L.getD j e0).2.2.2.2.1) (l' := (L.getD j e0).2.2.2.2.2)
 have e1 : m_jobsorder1q1 n (L.getD i (0, 0, 0, 0, 0, 0)).2.1 (L.getD i (0, 0, 0, 0, 0, 0)).2.2.1 (L.getD i (0, 0, 0, 0, 0, 0)).2.2.2.1 (L.getD i (0, 0, 0, 0, 0, 0)).2.2.2.2.1 (L.getD i (0, 0, 0, 0, 0, 0)).2.2.2.2.2 (L.getD j (0, 0, 0, 0, 0, 0)).2.1 (L.getD j (0, 0, 0, 0, 0, 0)).2.2.1 (L.getD j (0, 0, 0, 0, 0, 0)).2.2.2.1 (L.getD j (0, 0, 0, 0, 0, 0)).2.2.2.2.1 (L.getD j (0, 0, 0, 0, 0, 0)).2.2.2.2.2 W.1 W.2.1 W.2.2 = some c := e1
 rw [e1]
 simp only [Option.bind_some]
 have hlt : lt W (L.getD i e0) (L.getD j e0) ↔ (c < 0 ∨ (c = 0 ∧ (L.getD i e0).1 < (L.getD j e0).1)) := by
  unfold lt key
  refine (lx_app ?_).trans ?_
  ·rfl
  ·rw [← e2, ← e3]
 rw [hlt]
 by_cases c0 : c = 0
 ·rw [if_pos c0]
  by_cases h : (L.getD i e0).1 < (L.getD j e0).1
  ·rw [if_pos (show (L.getD i (0, 0, 0, 0, 0, 0)).1 < (L.getD j (0, 0, 0, 0, 0, 0)).1 from h)]
   exact ⟨true, rfl, fun _ => .inr ⟨c0, h⟩, fun _ => rfl⟩
  ·rw [if_neg (show ¬ (L.getD i (0, 0, 0, 0, 0, 0)).1 < (L.getD j (0, 0, 0, 0, 0, 0)).1 from h)]
   exact ⟨false, rfl, (fun h => by cases h), fun k => by rcases k with k | ⟨_, k⟩; omega; exact absurd k h⟩
 ·rw [if_neg c0]
  by_cases h : c < 0
  ·rw [if_pos h]; exact ⟨true, rfl, fun _ => .inl h, fun _ => rfl⟩
  ·rw [if_neg h]; exact ⟨false, rfl, (fun h => by cases h), fun k => by rcases k with k | ⟨k, _⟩; exact absurd k h; exact absurd k c0⟩
def swapL (L : List E6) (i j : Nat) : List E6 := (L.set i (L.getD j e0)).set j (L.getD i e0)
theorem swap_len {L : List E6} {i j : Nat} : (swapL L i j).length = L.length := by simp [swapL]
theorem swap_get {L : List E6} {i j q : Nat} (hi : i < L.length) (hj : j < L.length) : (swapL L i j).getD q e0 = if q = j then L.getD i e0 else if q = i then L.getD j e0 else L.getD q e0 := by
 unfold swapL
 rw [getD_set (by simpa using hj), getD_set hi]
theorem getD_eq {L : List E6} {i : Nat} (h : i < L.length) : L.getD i e0 = L[i] := by simp [List.getD_eq_getElem?_getD, h]
theorem swap_perm {L : List E6} {i j : Nat} (hi : i < L.length) (hj : j < L.length) : (swapL L i j).Perm L := by
 unfold swapL
 rw [getD_eq hi, getD_eq hj]
 exact List.set_set_perm hi hj
def Hp (W : Int × Int × Int) (L : List E6) (k : Nat) : Prop := ∀ j, 0 < j → j < k → ¬ lt W (L.getD j e0) (L.getD ((j - 1) / 2) e0)
structure Up (W : Int × Int × Int) (L : List E6) (i k : Nat) : Prop where
 a : ∀ j, 0 < j → j < k → j ≠ i → ¬ lt W (L.getD j e0) (L.getD ((j - 1) / 2) e0)
 b : 0 < i → ∀ j, 0 < j → j < k → (j - 1) / 2 = i → ¬ lt W (L.getD j e0) (L.getD ((i - 1) / 2) e0)
theorem Up.step {L : List E6} {i k : Nat} (h : Up W L i k) (hi : 0 < i) (hk : i < k) (hL : k ≤ L.length) (hlt : lt W (L.getD i e0) (L.getD ((i - 1) / 2) e0)) : Up W (swapL L i ((i - 1) / 2)) ((i - 1) / 2) k := by
 have hp : (i - 1) / 2 < i := by omega
 generalize hpe : (i - 1) / 2 = p at *
 have g : ∀ q, (swapL L i p).getD q e0 = if q = p then L.getD i e0 else if q = i then L.getD p e0 else L.getD q e0 := fun q => swap_get (by omega) (by omega)
 refine ⟨fun j h0 h1 hne => ?_, fun h2 j h0 h1 hj => ?_⟩
 ·rw [g, g, if_neg hne]
  by_cases e : j = i
  ·subst e
   rw [if_pos rfl, hpe, if_pos rfl]
   exact lt_asymm hlt
  ·rw [if_neg e]
   by_cases e2 : (j - 1) / 2 = p
   ·rw [if_pos e2]
    have := h.a j h0 h1 e
    rw [e2] at this
    exact fun hc => this (lt_trans hc hlt)
   ·rw [if_neg e2]
    by_cases e3 : (j - 1) / 2 = i
    ·rw [if_pos e3]
     have := h.b hi j h0 h1 e3
     rwa [hpe] at this
    ·rw [if_neg e3]
     exact h.a j h0 h1 e
 ·have hpp : (p - 1) / 2 < p := by omega
  rw [g, g, if_neg (show j ≠ p by omega), if_neg (show (p - 1) / 2 ≠ p by omega), if_neg (show (p - 1) / 2 ≠ i by omega)]
  have hpa := h.a p h2 (by omega) (by omega)
  by_cases e : j = i
  ·rw [if_pos e]; exact hpa
  ·rw [if_neg e]
   have := h.a j h0 h1 e
   rw [hj] at this
   exact nlt_trans this hpa
theorem Up.done {L : List E6} {i k : Nat} (h : Up W L i k) (hd : i = 0 ∨ ¬ lt W (L.getD i e0) (L.getD ((i - 1) / 2) e0)) : Hp W L k := fun j h0 h1 => by
 by_cases e : j = i
 ·subst e
  rcases hd with hd | hd
  ·omega
  ·exact hd
 ·exact h.a j h0 h1 e
theorem fdiv2 {i : Nat} (h : 0 < i) (hs : i ≤ 1000000) : Int.fdiv (w64 ((i : Int) - 1)) 2 = (((i - 1) / 2 : Nat) : Int) := by
 rw [w64_sm (by omega) (by omega), show (i : Int) - 1 = ((i - 1 : Nat) : Int) by omega, Int.fdiv_eq_ediv_of_nonneg _ (by decide)]
 rfl
def absI (i : Nat) : Int := if i = 0 then Int.fdiv (w64 ((0 : Int) - 1)) 2 else (((i - 1) / 2 : Nat) : Int)
theorem absI_ok {i : Nat} (hs : i ≤ 1000000) : Int.fdiv (w64 ((i : Int) - 1)) 2 = absI i := by
 unfold absI
 by_cases h : i = 0
 ·subst h; rfl
 ·rw [if_neg h, fdiv2 (by omega) hs]
theorem up_ok {n k i : Nat} {L : List E6} {x : Int} (hn : 1000 ≤ n) (hk : k ≤ 300) (hL : k = L.length) (hi : i < k) (hU : Up W L i k) : ∃ M, m_heapHeapapiDirtyupq1 n W.1 W.2.1 W.2.2 L x i = some M ∧ M.Perm L ∧ Hp W M k := by
 subst hL
 obtain ⟨M, hM, hloop⟩ := whileI (B := B_heapHeapapiDirtyupq1_1 n W.1 W.2.1 W.2.2 L.length x) (fun s => ∃ j : Nat, s.2.1 = j ∧ s.2.2 = absI j ∧ j < L.length ∧ s.1.Perm L ∧ Up W s.1 j L.length) (fun s => s.2.1.toNat) (fun M => M.Perm L ∧ Hp W M L.length)
  (fun s hI => by
   obtain ⟨M, a, b⟩ := s
   obtain ⟨j, rfl, rfl, hj, hp, hu⟩ := hI
   dsimp only at hp hu
   have hlen := hp.length_eq
   unfold B_heapHeapapiDirtyupq1_1
   dsimp only
   by_cases h0 : j = 0
   ·subst h0
    rw [if_neg (by omega)]
    exact .inr ⟨_, ⟨hp, hu.done (.inl rfl)⟩, rfl⟩
   ·rw [if_pos (by omega), show absI j = (((j - 1) / 2 : Nat) : Int) by unfold absI; rw [if_neg h0]]
    obtain ⟨c, e1, e2⟩ := before_ok (n := n) (k := L.length) (i := j) (j := (j - 1) / 2) (L := M) (x := x) hj (by omega) (by omega)
    rw [e1]
    simp only [Option.bind_some]
    cases c with
    | false =>
     rw [if_neg (by simp)]
     exact .inr ⟨_, ⟨hp, hu.done (.inr fun h => by have := e2.2 h; cases this)⟩, rfl⟩
    | true =>
     have hlt := e2.1 rfl
     rw [if_pos rfl, if_pos (by omega), Int.toNat_natCast, if_pos (by omega), if_pos (by omega), Int.toNat_natCast, if_pos (by omega), if_pos (by rw [List.length_set]; omega), absI_ok (by omega)]
     refine .inl ⟨(swapL M j ((j - 1) / 2), (((j - 1) / 2 : Nat) : Int), absI ((j - 1) / 2)), ⟨(j - 1) / 2, rfl, rfl, by omega, (swap_perm (by omega) (by omega)).trans hp, hu.step (by omega) hj (by omega) hlt⟩, ?_, rfl⟩
     show ((((j - 1) / 2 : Nat) : Int)).toNat < ((j : Nat) : Int).toNat
     rw [Int.toNat_natCast, Int.toNat_natCast]
     omega) n (L, (i : Int), Int.fdiv (w64 ((i : Int) - 1)) 2) ⟨i, rfl, absI_ok (by omega), hi, .refl _, hU⟩ (by show (i : Int).toNat < n; omega)
 refine ⟨M, ?_, hM⟩
 unfold m_heapHeapapiDirtyupq1 m_heapHeapapiDirtyupq1_1
 rw [hloop]
 rfl
theorem getD_append_l {L : List E6} {e : E6} {i : Nat} (h : i < L.length) : (L ++ [e]).getD i e0 = L.getD i e0 := by
 simp [List.getD_eq_getElem?_getD, List.getElem?_append_left h]
theorem up_start {L : List E6} {e : E6} (h : Hp W L L.length) : Up W (L ++ [e]) L.length (L.length + 1) := by
 refine ⟨fun j h0 h1 hne => ?_, fun h2 j h0 h1 hj => by omega⟩
 rw [getD_append_l (by omega), getD_append_l (by omega)]
 exact h j h0 (by omega)
theorem put1_ok {n : Nat} {t s f u a l : Int} (hn : 1000 ≤ n) : ∃ M, m_heapHeapapiDirtyPutq1 n W.1 W.2.1 W.2.2 t s f u a l = some M ∧ M.Perm [(t, s, f, u, a, l)] ∧ Hp W M 1 := by
 have h0 : Up W [(t, s, f, u, a, l)] 0 1 := ⟨fun j h0 h1 _ => by omega, fun h => by omega⟩
 obtain ⟨M, e, h1, h2⟩ := up_ok (x := w64 (t + 1)) (i := 0) (k := 1) hn (by omega) rfl (by omega) h0
 refine ⟨M, ?_, h1, h2⟩
 unfold m_heapHeapapiDirtyPutq1 m_heapHeapapiDirtyvalidq1
 simp only [Option.bind_some]
 have e : m_heapHeapapiDirtyupq1 n W.1 W.2.1 W.2.2 [(t, s, f, u, a, l)] (w64 (t + 1)) 0 = some M := e
 rw [e]
 rfl
theorem put3_ok {n q : Nat} {L : List E6} {t s f u a l : Int} (hn : 1000 ≤ n) (hq : q ≤ L.length) (hL : q ≤ 250) (h : Hp W (L.take q) q) : ∃ M, m_heapHeapapiDirtyPutq3 n W.1 W.2.1 W.2.2 L q t s f u a l = some (M, q + 1) ∧ M.Perm (L.take q ++ [(t, s, f, u, a, l)]) ∧ Hp W M (q + 1) := by
 have hlen : (L.take q).length = q := by rw [List.length_take]; omega
 obtain ⟨M, e, h1, h2⟩ := up_ok (L := L.take q ++ [(t, s, f, u, a, l)]) (x := w64 (t + 1)) (i := q) hn (by omega) (k := q + 1) (by simp; omega) (by omega) (by have := up_start (L := L.take q) (e := (t, s, f, u, a, l)) (by rw [hlen]; exact h); rwa [hlen] at this)
 refine ⟨M, ?_, h1, h2⟩
 unfold m_heapHeapapiDirtyPutq3 m_heapHeapapiDirtyvalidq3
 simp only [Option.bind_some]
 have hl : (L.take q ++ [(t, s, f, u, a, l)]).length = q + 1 := by rw [List.length_append, hlen]; rfl
 rw [if_pos hq, if_pos (by omega), hl, show w64 (((q + 1 : Nat) : Int) - 1) = ((q : Nat) : Int) by rw [w64_sm (by omega) (by omega)]; omega, e]
 rfl
theorem Hp.root {L : List E6} {k : Nat} (h : Hp W L k) : ∀ j, j < k → ¬ lt W (L.getD j e0) (L.getD 0 e0) := by
 intro j
 induction j using Nat.strongRecOn with
 | _ j ih =>
  intro hj
  by_cases h0 : j = 0
  ·subst h0; exact fun h => lt_asymm h h
  ·exact nlt_trans (h j (by omega) hj) (ih _ (by omega) (by omega))


/-! down: the heap is one again -/
variable {W : Int × Int × Int}
structure Dn (W : Int × Int × Int) (L : List E6) (i k : Nat) : Prop where
 a : ∀ j, 0 < j → j < k → (j - 1) / 2 ≠ i → ¬ lt W (L.getD j e0) (L.getD ((j - 1) / 2) e0)
 b : 0 < i → ∀ j, 0 < j → j < k → (j - 1) / 2 = i → ¬ lt W (L.getD j e0) (L.getD ((i - 1) / 2) e0)
theorem lt_irrefl (a : E6) : ¬ lt W a a := by exact fun h => lt_asymm h h
theorem down2_ok {n k i : Nat} {L : List E6} {x : Int} (hn : 1000 ≤ n) (hk : k ≤ L.length) (hi : i ≤ 1000) (hik : i < k) : ∃ y : Nat, m_heapHeapapiDirtydownq1_2 n W.1 W.2.1 W.2.2 L k x i (i, w64 (w64 ((i : Int) * 2) + 1)) = some (y : Int) ∧ (y = i ∨ (y < k ∧ 0 < y ∧ (y - 1) / 2 = i ∧ lt W (L.getD y e0) (L.getD i e0))) ∧ ∀ j, 0 < j → j < k → (j - 1) / 2 = i → ¬ lt W (L.getD j e0) (L.getD y e0) := by
 have hw : w64 (w64 ((i : Int) * 2) + 1) = ((2 * i + 1 : Nat) : Int) := by rw [w64_sm (x := (i : Int) * 2) (by omega) (by omega), w64_sm (by omega) (by omega)]; omega
 have hw2 : w64 (w64 ((i : Int) * 2) + 2) = ((2 * i + 2 : Nat) : Int) := by rw [w64_sm (x := (i : Int) * 2) (by omega) (by omega), w64_sm (by omega) (by omega)]; omega
 obtain ⟨r, hr, hloop⟩ := whileI (B := B_heapHeapapiDirtydownq1_2 n W.1 W.2.1 W.2.2 L k x i) (fun s => ∃ l b : Nat, s.1 = l ∧ s.2 = b ∧ (l = i ∨ (l < k ∧ 0 < l ∧ (l - 1) / 2 = i ∧ lt W (L.getD l e0) (L.getD i e0))) ∧ 2 * i + 1 ≤ b ∧ b ≤ 2 * i + 3 ∧ ∀ j, 0 < j → j < k → (j - 1) / 2 = i → j < b → ¬ lt W (L.getD j e0) (L.getD l e0)) (fun s => 2 * i + 4 - s.2.toNat) (fun r => ∃ y : Nat, r = y ∧ (y = i ∨ (y < k ∧ 0 < y ∧ (y - 1) / 2 = i ∧ lt W (L.getD y e0) (L.getD i e0))) ∧ ∀ j, 0 < j → j < k → (j - 1) / 2 = i → ¬ lt W (L.getD j e0) (L.getD y e0))
  (fun s hI => by
   obtain ⟨p, q⟩ := s
   obtain ⟨l, b, rfl, rfl, h1, h2, h3, h4⟩ := hI
   unfold B_heapHeapapiDirtydownq1_2
   dsimp only
   rw [hw2]
   simp only [Option.bind_some]
   by_cases a1 : (b : Int) ≤ ((2 * i + 2 : Nat) : Int)
   ·rw [if_pos a1]
    by_cases a2 : (b : Int) < (k : Int)
    ·rw [if_pos a2]
     obtain ⟨c, e1, e2⟩ := before_ok (n := n) (k := k) (i := b) (j := l) (L := L) (x := x) (by omega) (by omega) hk
     rw [e1]
     simp only [Option.bind_some]
     have hb : w64 ((b : Int) + 1) = ((b + 1 : Nat) : Int) := w64_inc (by omega)
     rw [hb]
     cases c with
     | true =>
      have hlt := e2.1 rfl
      rw [if_pos rfl]
      refine .inl ⟨((b : Int), ((b + 1 : Nat) : Int)), ⟨b, b + 1, rfl, rfl, .inr ⟨by omega, by omega, by omega, ?_⟩, by omega, by omega, fun j j0 jk jp jb => ?_⟩, by show 2 * i + 4 - (((b + 1 : Nat) : Int)).toNat < 2 * i + 4 - ((b : Int)).toNat; omega, rfl⟩
      ·rcases h1 with rfl | ⟨_, _, _, h1⟩
       ·exact hlt
       ·exact lt_trans hlt h1
      ·rcases Nat.lt_or_ge j b with hj | hj
       ·exact fun hc => h4 j j0 jk jp hj (lt_trans hc hlt)
       ·obtain rfl : j = b := by omega
        exact lt_irrefl _
     | false =>
      rw [if_neg (by simp)]
      refine .inl ⟨((l : Int), ((b + 1 : Nat) : Int)), ⟨l, b + 1, rfl, rfl, h1, by omega, by omega, fun j j0 jk jp jb => ?_⟩, by show 2 * i + 4 - (((b + 1 : Nat) : Int)).toNat < 2 * i + 4 - ((b : Int)).toNat; omega, rfl⟩
      rcases Nat.lt_or_ge j b with hj | hj
      ·exact h4 j j0 jk jp hj
      ·obtain rfl : j = b := by omega
       exact fun hc => by have := e2.2 hc; cases this
    ·rw [if_neg a2]
     exact .inr ⟨_, ⟨l, rfl, h1, fun j j0 jk jp => h4 j j0 jk jp (by omega)⟩, rfl⟩
   ·rw [if_neg a1]
    exact .inr ⟨_, ⟨l, rfl, h1, fun j j0 jk jp => h4 j j0 jk jp (by omega)⟩, rfl⟩) n ((i : Int), ((2 * i + 1 : Nat) : Int)) ⟨i, 2 * i + 1, rfl, rfl, .inl rfl, by omega, by omega, fun j j0 jk jp jb => by omega⟩ (by show 2 * i + 4 - (((2 * i + 1 : Nat) : Int)).toNat < n; omega)
 obtain ⟨y, rfl, hy⟩ := hr
 refine ⟨y, ?_, hy⟩
 rw [hw]
 exact hloop
theorem Dn.step {L : List E6} {i y k : Nat} (h : Dn W L i k) (hk : k ≤ L.length) (hy : y < k) (h0 : 0 < y) (hp : (y - 1) / 2 = i) (hlt : lt W (L.getD y e0) (L.getD i e0)) (hc : ∀ j, 0 < j → j < k → (j - 1) / 2 = i → ¬ lt W (L.getD j e0) (L.getD y e0)) : Dn W (swapL L i y) y k := by
 have g : ∀ q, (swapL L i y).getD q e0 = if q = y then L.getD i e0 else if q = i then L.getD y e0 else L.getD q e0 := fun q => swap_get (by omega) (by omega)
 refine ⟨fun j j0 jk hne => ?_, fun _ j j0 jk jp => ?_⟩
 ·rw [g, g]
  by_cases e1 : j = y
  ·subst e1
   rw [if_pos rfl, hp, if_neg (by omega), if_pos rfl]
   exact lt_asymm hlt
  ·rw [if_neg e1, if_neg hne]
   by_cases e2 : j = i
   ·subst e2
    rw [if_pos rfl, if_neg (by omega)]
    exact h.b j0 y h0 hy hp
   ·rw [if_neg e2]
    by_cases e3 : (j - 1) / 2 = i
    ·rw [if_pos e3]
     exact hc j j0 jk e3
    ·rw [if_neg e3]
     exact h.a j j0 jk e3
 ·rw [g, g, if_neg (show j ≠ y by omega), if_neg (show j ≠ i by omega), hp, if_neg (show i ≠ y by omega), if_pos rfl]
  have := h.a j j0 jk (by omega)
  rwa [jp] at this
theorem getD_take {L : List E6} {j k : Nat} (h : j < k) : (L.take k).getD j e0 = L.getD j e0 := by
 rw [List.getD_eq_getElem?_getD, List.getElem?_take_of_lt h, ← List.getD_eq_getElem?_getD]
theorem swap_take {L : List E6} {i j k : Nat} (hi : i < k) (hj : j < k) (hk : k ≤ L.length) : ((swapL L i j).take k).Perm (L.take k) := by
 have e : (swapL L i j).take k = swapL (L.take k) i j := by
  unfold swapL
  rw [List.take_set, List.take_set, getD_take hi, getD_take hj]
 rw [e]
 exact swap_perm (by rw [List.length_take]; omega) (by rw [List.length_take]; omega)
theorem down_ok {n k : Nat} {L : List E6} {x : Int} (hn : 1000 ≤ n) (hk : k ≤ L.length) (hk2 : k ≤ 300) (hD : Dn W L 0 k) : ∃ M, m_heapHeapapiDirtydownq1 n W.1 W.2.1 W.2.2 L k x 0 = some M ∧ M.length = L.length ∧ (M.take k).Perm (L.take k) ∧ Hp W M k := by
 by_cases h0 : k = 0
 ·subst h0
  refine ⟨L, ?_, rfl, by simp, fun j _ hj => by omega⟩
  obtain ⟨m, rfl⟩ : ∃ m, n = m + 2 := ⟨n - 2, by omega⟩
  rfl
 obtain ⟨M, hM, hloop⟩ := whileI (B := B_heapHeapapiDirtydownq1_1 n W.1 W.2.1 W.2.2 k x) (fun s => ∃ i : Nat, s.2 = i ∧ i < k ∧ s.1.length = L.length ∧ (s.1.take k).Perm (L.take k) ∧ Dn W s.1 i k) (fun s => 300 - s.2.toNat) (fun M => M.length = L.length ∧ (M.take k).Perm (L.take k) ∧ Hp W M k)
  (fun s hI => by
   obtain ⟨M, a⟩ := s
   obtain ⟨i, rfl, h1, h2, h3, h4⟩ := hI
   dsimp only at h2 h3 h4
   unfold B_heapHeapapiDirtydownq1_1
   dsimp only
   simp only [Option.bind_some]
   obtain ⟨y, e1, e2, e3⟩ := down2_ok (n := n) (k := k) (i := i) (L := M) (x := x) hn (by omega) (by omega) h1
   rw [e1]
   simp only [Option.bind_some]
   by_cases a1 : y = i
   ·rw [if_pos (by omega)]
    subst a1
    refine .inr ⟨_, ⟨h2, h3, fun j j0 jk => ?_⟩, rfl⟩
    by_cases hp : (j - 1) / 2 = y
    ·rw [hp]; exact e3 j j0 jk hp
    ·exact h4.a j j0 jk hp
   ·have h5 := e2.resolve_left a1
    rw [if_neg (by omega), if_pos (by omega), Int.toNat_natCast, if_pos (by omega), if_pos (by omega), Int.toNat_natCast, if_pos (by omega), if_pos (by rw [List.length_set]; omega)]
    refine .inl ⟨(swapL M i y, (y : Int)), ⟨y, rfl, h5.1, by rw [swap_len]; exact h2, (swap_take h1 h5.1 (by omega)).trans h3, h4.step (by omega) h5.1 h5.2.1 h5.2.2.1 h5.2.2.2 e3⟩, ?_, rfl⟩
    show 300 - ((y : Int)).toNat < 300 - ((i : Int)).toNat
    omega) n (L, 0) ⟨0, rfl, by omega, rfl, .refl _, hD⟩ (by show 300 - ((0 : Int)).toNat < n; omega)
 refine ⟨M, ?_, hM⟩
 unfold m_heapHeapapiDirtydownq1 m_heapHeapapiDirtydownq1_1
 rw [hloop]
 rfl
/-- what is there without its root -/
def cutL (L : List E6) (k : Nat) : List E6 := (L.set 0 (L.getD (k - 1) e0)).set (k - 1) e0
theorem cut_get {L : List E6} {k j : Nat} (hk : k ≤ L.length) (hj : j < k - 1) : (cutL L k).getD j e0 = if j = 0 then L.getD (k - 1) e0 else L.getD j e0 := by
 unfold cutL
 rw [getD_set (by rw [List.length_set]; omega), if_neg (by omega), getD_set (by omega)]
theorem cut_Dn {L : List E6} {k : Nat} (hk : k ≤ L.length) (h : Hp W L k) : Dn W (cutL L k) 0 (k - 1) := by
 refine ⟨fun j j0 jk hne => ?_, fun h => by omega⟩
 rw [cut_get hk jk, cut_get hk (by omega), if_neg (by omega), if_neg hne]
 exact h j j0 (by omega)
theorem cut_perm {L : List E6} {k : Nat} (h0 : 0 < k) (hk : k ≤ L.length) : (L.getD 0 e0 :: (cutL L k).take (k - 1)).Perm (L.take k) := by
 have e : (cutL L k).take (k - 1) = (L.set 0 (L.getD (k - 1) e0)).take (k - 1) := by
  unfold cutL
  rw [List.take_set_of_le (Nat.le_refl _)]
 rw [e]
 obtain ⟨a, T, rfl⟩ : ∃ a T, L = a :: T := by
  cases L with
  | nil => simp at hk; omega
  | cons a T => exact ⟨a, T, rfl⟩
 obtain ⟨q, rfl⟩ : ∃ q, k = q + 1 := ⟨k - 1, by omega⟩
 simp only [Nat.add_sub_cancel, List.set_cons_zero, List.take_succ_cons]
 show (a :: ((a :: T).getD q e0 :: T).take q).Perm (a :: T.take q)
 refine .cons a ?_
 cases q with
 | zero => exact .refl _
 | succ q =>
  have hq : q < T.length := by simp at hk; omega
  rw [List.take_succ_cons]
  have e1 : (a :: T).getD (q + 1) e0 = T[q] := by simp [List.getD_eq_getElem?_getD, hq]
  rw [e1, List.take_add_one, List.getElem?_eq_getElem hq]
  exact List.perm_append_singleton _ _ |>.symm
theorem take_ok {n k : Nat} {L : List E6} {x : Int} (hn : 1000 ≤ n) (h0 : 0 < k) (hk : k ≤ L.length) (hk2 : k ≤ 300) (hH : Hp W L k) : ∃ M, m_heapHeapapiDirtyTakeq2 n W.1 W.2.1 W.2.2 L k x = some (M, k - 1, (L.getD 0 e0).2.1, (L.getD 0 e0).2.2.1, (L.getD 0 e0).2.2.2.1, (L.getD 0 e0).2.2.2.2.1, (L.getD 0 e0).2.2.2.2.2, true) ∧ M.length = L.length ∧ (L.getD 0 e0 :: M.take (k - 1)).Perm (L.take k) ∧ Hp W M (k - 1) := by
 have hw : w64 ((k : Int) - 1) = ((k - 1 : Nat) : Int) := by rw [w64_sm (by omega) (by omega)]; omega
 obtain ⟨M, e, h1, h2, h3⟩ := down_ok (n := n) (x := x) (L := cutL L k) hn (by unfold cutL; rw [List.length_set, List.length_set]; omega) (by omega) (cut_Dn hk hH)
 refine ⟨M, ?_, by rw [h1]; unfold cutL; rw [List.length_set, List.length_set], (h2.cons _).trans (cut_perm h0 hk), h3⟩
 unfold m_heapHeapapiDirtyTakeq2 m_heapHeapapiDirtyLeastq2 m_heapHeapapiDirtyLenq3 m_heapHeapapiDirtyvalidq3
 simp only [Option.bind_some]
 rw [if_neg (by omega), if_pos (by omega), if_pos (by simp; omega)]
 simp only [Option.bind_some]
 rw [if_pos trivial, hw, if_pos (by omega), Int.toNat_natCast, if_pos (by omega), if_pos (by omega), if_pos (by simp; omega), if_pos (by rw [List.length_set]; omega), if_pos (by omega)]
 have e : m_heapHeapapiDirtydownq1 n W.1 W.2.1 W.2.2 ((L.set ((0 : Int)).toNat ((L.getD (k - 1) (0, 0, 0, 0, 0, 0)).1, (L.getD (k - 1) (0, 0, 0, 0, 0, 0)).2.1, (L.getD (k - 1) (0, 0, 0, 0, 0, 0)).2.2.1, (L.getD (k - 1) (0, 0, 0, 0, 0, 0)).2.2.2.1, (L.getD (k - 1) (0, 0, 0, 0, 0, 0)).2.2.2.2.1, (L.getD (k - 1) (0, 0, 0, 0, 0, 0)).2.2.2.2.2)).set (k - 1) ((0 : Int), (0 : Int), (0 : Int), (0 : Int), (0 : Int), (0 : Int))) (k - 1) x 0 = some M := e
 rw [e]
 rfl


/-! the queue of jobs -/
theorem cons_of' {α : Type} {L : List α} (h : 0 < L.length) : ∃ a t, L = a :: t := by
 cases L with
 | nil => simp at h
 | cons a t => exact ⟨a, t, rfl⟩
abbrev R5 := Int × Int × Int × Int × Int
abbrev r0 : R5 := (0, 0, 0, 0, 0)
structure good (x : R5) : Prop where
 a1 : 0 ≤ x.1
 a2 : x.1 ≤ 63
 a3 : 0 ≤ x.2.1
 a4 : x.2.1 ≤ x.2.2.1
 a5 : 0 ≤ x.2.2.2.1
 a6 : 0 ≤ x.2.2.2.2
structure Ok (L : List R5) : Prop where
 len : L.length ≤ 32
 r : ∀ x ∈ L, good x
 up : L.Pairwise (fun a b => a.1 < b.1)
theorem q1_check (n : Nat) : m_dirtyCheckq1 n = m_dirtyCheckq3 n Args.A := rfl
theorem q1_queue (n : Nat) (v0 v1 w : Int) : m_jobsqueueq1 n v0 v1 w = m_jobsqueueq3 n Args.A v0 v1 w := rfl
theorem q1_next (n : Nat) (v0 v1 w : Int) : m_jobsNextq1 n v0 v1 w = m_jobsNextq3 n Args.A v0 v1 w := rfl
theorem q1_order (n : Nat) (v0 v1 w : Int) : m_jobsOrderq1 n v0 v1 w = m_jobsOrderq2 n Args.A v0 v1 w := rfl
theorem q1_drop (n : Nat) (s : Int) : m_viewportref22Dropq1 n s = m_viewportref22Dropq2 n Args.A s := rfl
abbrev at' (L : List R5) (i : Nat) : R5 := L.getD i r0
theorem chain {L : List R5} (h : ∀ j, 0 < j → j < L.length → (at' L (j - 1)).1 < (at' L j).1) : L.Pairwise (fun a b => a.1 < b.1) := by
 rw [List.pairwise_iff_getElem]
 intro i j hi hj hij
 have key : ∀ j, i < j → j < L.length → (at' L i).1 < (at' L j).1 := fun j => by
  induction j with
  | zero => intro h; omega
  | succ j ih =>
   intro h1 h2
   have h3 := h (j + 1) (by omega) h2
   rw [Nat.add_sub_cancel] at h3
   rcases Nat.lt_or_ge i j with h4 | h4
   ·have := ih h4 (by omega); omega
   ·obtain rfl : i = j := by omega
    exact h3
 have := key j hij hj
 simp only [at', List.getD_eq_getElem?_getD, List.getElem?_eq_getElem hi, List.getElem?_eq_getElem hj, Option.getD_some] at this
 exact this
theorem refCheck {n : Nat} (hn : 1000 ≤ n) : ∃ c, m_viewportref22Checkq1 n = some c ∧ (c = 0 → Ok Args.A) := by
 unfold m_viewportref22Checkq1
 by_cases h32 : ((Args.A.length : Nat) : Int) > 32
 ·rw [if_pos h32]; exact ⟨2, rfl, fun h => absurd h (by decide)⟩
 rw [if_neg h32]
 obtain ⟨r, q1, q2⟩ := hoare (B := B_viewportref22Checkq1_1 n) (σ := Unit) (fun _ i => i) (fun i _ => ∀ j, j < i → good (at' Args.A j) ∧ (0 < j → (at' Args.A (j - 1)).1 < (at' Args.A j).1)) (fun r => ∀ u, r = .inr u → Ok Args.A) Args.A.length
  (fun i s hi hI => by
   have stop : ∃ r, (∀ u, r = .inr u → Ok Args.A) ∧ (some (.inr (.inl ())) : Option (Int ⊕ (Unit ⊕ Unit))) = some (.inr r) := ⟨.inl (), (fun u h => by cases h), rfl⟩
   unfold B_viewportref22Checkq1_1
   dsimp only
   rw [if_pos (by omega), if_pos (by omega), Int.toNat_natCast]
   simp only [Option.bind_some]
   by_cases h1 : (at' Args.A i).1 < 0
   ·right; rw [if_pos h1]; exact stop
   by_cases h2 : (at' Args.A i).1 ≥ 64
   ·right; rw [if_neg h1, if_pos h2]; exact stop
   by_cases h3 : (at' Args.A i).2.1 < 0
   ·right; rw [if_neg h1, if_neg h2, if_pos h3]; exact stop
   by_cases h4 : (at' Args.A i).2.1 > (at' Args.A i).2.2.1
   ·right; rw [if_neg h1, if_neg h2, if_neg h3, if_pos h4]; exact stop
   by_cases h5 : (at' Args.A i).2.2.2.1 < 0
   ·right; rw [if_neg h1, if_neg h2, if_neg h3, if_neg h4, if_pos h5]; exact stop
   by_cases h6 : (at' Args.A i).2.2.2.2 < 0
   ·right; rw [if_neg h1, if_neg h2, if_neg h3, if_neg h4, if_neg h5, if_pos h6]; exact stop
   rw [if_neg h1, if_neg h2, if_neg h3, if_neg h4, if_neg h5, if_neg h6]
   by_cases h7 : i = 0
   ·left
    rw [if_neg (by omega), w64_inc (by omega)]
    refine ⟨(), fun j hj => ?_, rfl⟩
    obtain rfl : j = i := by omega
    exact ⟨⟨by omega, by omega, by omega, by omega, by omega, by omega⟩, fun h => by omega⟩
   ·rw [if_pos (by omega), show w64 ((i : Int) - 1) = ((i - 1 : Nat) : Int) by rw [w64_sm (by omega) (by omega)]; omega, if_pos (by omega), Int.toNat_natCast]
    by_cases h8 : (at' Args.A (i - 1)).1 ≥ (at' Args.A i).1
    ·right; rw [if_pos h8]; exact stop
    ·left
     rw [if_neg h8, w64_inc (by omega)]
     refine ⟨(), fun j hj => ?_, rfl⟩
     rcases Nat.lt_or_ge j i with h | h
     ·exact hI j h
     ·obtain rfl : j = i := by omega
      exact ⟨⟨by omega, by omega, by omega, by omega, by omega, by omega⟩, fun _ => by omega⟩)
  (fun s hI => ⟨.inr (), fun _ _ => ⟨by omega, fun x hx => by obtain ⟨j, hj, rfl⟩ := mem_getD r0 hx; exact (hI j hj).1, chain (fun j h0 hj => (hI j hj).2 h0)⟩, by unfold B_viewportref22Checkq1_1; dsimp only; rw [if_neg (by omega)]⟩) n 0 () (Nat.zero_le _) (fun j hj => absurd hj (Nat.not_lt_zero _)) (by omega)
 have q2 : m_viewportref22Checkq1_1 n 0 = some r := q2
 rw [q2]
 cases r with
 | inl _ => exact ⟨2, rfl, fun h => absurd h (by decide)⟩
 | inr u => exact ⟨0, rfl, fun _ => q1 u rfl⟩
def pv (L : List R5) (i : Nat) : Int := if i = 0 then -1 else (at' L (i - 1)).1
theorem dirtyCheck {n : Nat} {L : List R5} (hn : 1000 ≤ n) (hO : Ok L) : m_dirtyCheckq3 n L = some 0 := by
 have hl := hO.len
 unfold m_dirtyCheckq3
 rw [if_neg (by omega)]
 obtain ⟨r, q1, q2⟩ := hoare (B := B_dirtyCheckq3_1 n L ((L.length : Nat) : Int)) (σ := Int) (fun p i => (p, i)) (fun i p => p = pv L i) (fun r => r = .inr ()) L.length
  (fun i p hi hI => by
   left
   obtain ⟨a1, a2, a3, a4, a5, a6⟩ := hO.r (at' L i) (getD_mem hi)
   unfold B_dirtyCheckq3_1
   dsimp only
   rw [if_pos (by omega), if_pos (by omega), Int.toNat_natCast]
   simp only [Option.bind_some]
   have hp : ¬ (at' L i).1 ≤ p := by
    rw [hI]
    unfold pv
    by_cases h : i = 0
    ·rw [if_pos h]; omega
    ·rw [if_neg h]
     have := List.pairwise_iff_getElem.1 hO.up (i - 1) i (by omega) hi (by omega)
     simp only [at', List.getD_eq_getElem?_getD, List.getElem?_eq_getElem hi, List.getElem?_eq_getElem (show i - 1 < L.length by omega), Option.getD_some]
     omega
   rw [if_neg hp, if_neg (show ¬ (at' L i).1 > 63 by omega), if_neg (show ¬ (at' L i).2.1 < 0 by omega), if_neg (show ¬ (at' L i).2.1 > (at' L i).2.2.1 by omega), if_neg (show ¬ (at' L i).2.2.2.1 < 0 by omega), if_neg (show ¬ (at' L i).2.2.2.2 < 0 by omega), w64_inc (by omega)]
   exact ⟨(at' L i).1, by unfold pv; rw [if_neg (by omega)]; rfl, rfl⟩)
  (fun s hI => ⟨.inr (), rfl, by unfold B_dirtyCheckq3_1; dsimp only; rw [if_neg (by omega)]⟩) n 0 (-1) (Nat.zero_le _) rfl (by omega)
 subst q1
 have q2 : m_dirtyCheckq3_1 n L ((L.length : Nat) : Int) (-1, 0) = some (.inr ()) := q2
 rw [q2]
def rows (H : List E6) : List R5 := H.map Prod.snd
theorem queueLoop {n : Nat} {L : List R5} {W : Int × Int × Int} (hn : 1000 ≤ n) (hl : L.length ≤ 32) : ∃ H, m_jobsqueueq3_1 n L W.1 W.2.1 W.2.2 ((L.length : Nat) : Int) ([], 0, 0, 0) = some (H, L.length, ((L.length : Nat) : Int)) ∧ (rows H).Perm L ∧ Hp W H L.length := by
 obtain ⟨r, q1, q2⟩ := hoare (B := B_jobsqueueq3_1 n L W.1 W.2.1 W.2.2 ((L.length : Nat) : Int)) (σ := List E6 × Nat × Int) (fun s i => (s.1, s.2.1, s.2.2, i)) (fun i s => s.2.1 = i ∧ s.2.2 = (i : Int) ∧ (rows s.1).Perm (L.take i) ∧ Hp W s.1 i)
  (fun r => r.2.1 = L.length ∧ r.2.2 = ((L.length : Nat) : Int) ∧ (rows r.1).Perm L ∧ Hp W r.1 L.length) L.length
  (fun i s hi hI => by
   left
   obtain ⟨H, k, p⟩ := s
   obtain ⟨h1, h2, hp, hh⟩ := hI
   dsimp only at h1 h2 hp hh ⊢
   subst h1
   subst h2
   have hlen := hp.length_eq
   rw [List.length_take, rows, List.length_map] at hlen
   have htk : L.take (k + 1) = L.take k ++ [at' L k] := by
    rw [List.take_add_one, List.getElem?_eq_getElem hi]
    simp [at', List.getD_eq_getElem?_getD, hi]
   cases H with
   | nil =>
    obtain rfl : k = 0 := by simp at hlen; omega
    unfold B_jobsqueueq3_1
    dsimp only
    rw [if_pos (by omega), if_pos (by omega), Int.toNat_natCast]
    simp only [Option.bind_some]
    obtain ⟨M, e1, e2, e3⟩ := put1_ok (W := W) (n := n) (t := ((0 : Nat) : Int)) (s := (at' L 0).1) (f := (at' L 0).2.1) (u := (at' L 0).2.2.1) (a := (at' L 0).2.2.2.1) (l := (at' L 0).2.2.2.2) hn
    rw [e1]
    obtain ⟨ma, mt, rfl⟩ := cons_of' (L := M) (by have := e2.length_eq; simp at this; omega)
    simp only [Option.bind_some]
    refine ⟨(ma :: mt, 1, ((1 : Nat) : Int)), ⟨rfl, rfl, ?_, e3⟩, rfl⟩
    rw [htk]
    exact e2.map Prod.snd
   | cons a t =>
    unfold B_jobsqueueq3_1
    dsimp only
    rw [if_pos (by omega), if_pos (by omega), Int.toNat_natCast]
    simp only [Option.bind_some]
    have hk : (a :: t).length = k := by omega
    have ht : (a :: t).take k = a :: t := List.take_of_length_le (by omega)
    obtain ⟨M, e1, e2, e3⟩ := put3_ok (W := W) (n := n) (q := k) (L := a :: t) (t := ((k : Nat) : Int)) (s := (at' L k).1) (f := (at' L k).2.1) (u := (at' L k).2.2.1) (a := (at' L k).2.2.2.1) (l := (at' L k).2.2.2.2) hn (by omega) (by omega) (by rw [ht]; exact hh)
    rw [e1]
    obtain ⟨ma, mt, rfl⟩ := cons_of' (L := M) (by have := e2.length_eq; simp at this; omega)
    simp only [Option.bind_some]
    rw [w64_inc (by omega)]
    refine ⟨(ma :: mt, k + 1, ((k + 1 : Nat) : Int)), ⟨rfl, rfl, ?_, e3⟩, rfl⟩
    rw [ht] at e2
    rw [htk]
    have e4 := e2.map Prod.snd
    rw [List.map_append] at e4
    exact e4.trans (hp.append_right _))
  (fun s hI => by
   obtain ⟨H, k, p⟩ := s
   obtain ⟨h1, h2, hp, hh⟩ := hI
   dsimp only at h1 h2 hp hh ⊢
   subst h2
   rw [List.take_length] at hp
   cases H with
   | nil =>
    have hlen := hp.length_eq
    refine ⟨([], 0, ((L.length : Nat) : Int)), ⟨by simpa [rows] using hlen, rfl, hp, hh⟩, ?_⟩
    unfold B_jobsqueueq3_1
    dsimp only
    rw [if_neg (by omega)]
   | cons a t =>
    refine ⟨(a :: t, k, ((L.length : Nat) : Int)), ⟨h1, rfl, hp, hh⟩, ?_⟩
    unfold B_jobsqueueq3_1
    dsimp only
    rw [if_neg (by omega)]) n 0 ([], 0, 0) (Nat.zero_le _) ⟨rfl, rfl, .refl _, fun j h0 h1 => by omega⟩ (by omega)
 obtain ⟨H, k, p⟩ := r
 obtain ⟨h1, h2, h3, h4⟩ := q1
 dsimp only at h1 h2 h3 h4
 subst h1
 subst h2
 exact ⟨H, q2, h3, h4⟩
theorem queue_ok {n : Nat} {L : List R5} {v0 v1 w : Int} (hn : 1000 ≤ n) (hO : Ok L) : ∃ H, m_jobsqueueq3 n L v0 v1 w = some (H, L.length, ((L.length : Nat) : Int)) ∧ (rows H).Perm L ∧ Hp (w, v0, v1) H L.length := by
 obtain ⟨H, e1, e2, e3⟩ := queueLoop (n := n) (W := (w, v0, v1)) hn hO.len
 dsimp only at e1
 refine ⟨H, ?_, e2, e3⟩
 unfold m_jobsqueueq3 m_jobsorderq1 m_heapNewapiDirtyq1
 rw [dirtyCheck hn hO]
 simp only [Option.bind_some]
 rw [if_pos trivial, e1]
 simp only [Option.bind_some]
 cases H with
 | nil =>
  have := e2.length_eq
  have : L.length = 0 := by simpa [rows] using this.symm
  rw [this]
 | cons a t => rfl


/-! the order of rows -/
theorem lx_tri : ∀ {a b : List Int}, a.length = b.length → lx a b ∨ a = b ∨ lx b a
 | [], [], _ => .inr (.inl rfl)
 | [], _ :: _, h => by simp at h
 | _ :: _, [], h => by simp at h
 | x :: a, y :: b, h => by
  unfold lx
  rcases Int.lt_trichotomy x y with h1 | h1 | h1
  ·exact .inl (.inl h1)
  ·subst h1
   rcases lx_tri (a := a) (b := b) (by simpa using h) with h2 | h2 | h2
   ·exact .inl (.inr ⟨rfl, h2⟩)
   ·subst h2; exact .inr (.inl rfl)
   ·exact .inr (.inr (.inr ⟨rfl, h2⟩))
  ·exact .inr (.inr (.inl h1))
noncomputable def K5 (W : Int × Int × Int) (x : R5) : List Int := K4 W.1 W.2.1 W.2.2 x.1 x.2.1 x.2.2.1 x.2.2.2.1
def rl (W : Int × Int × Int) (x y : R5) : Prop := lx (K5 W x) (K5 W y)
variable {W : Int × Int × Int}
theorem rl_lt {e f : E6} (h : rl W e.2 f.2) : lt W e f := by
 show lx (K5 W e.2 ++ [e.1]) (K5 W f.2 ++ [f.1])
 refine (lx_app (a := K5 W e.2) (b := K5 W f.2) ?_).2 (.inl h)
 rfl
theorem Ok.slot {L : List R5} (h : Ok L) {x y : R5} (hx : x ∈ L) (hy : y ∈ L) (e : x.1 = y.1) : x = y := by
 obtain ⟨i, hi, rfl⟩ := List.mem_iff_getElem.1 hx
 obtain ⟨j, hj, rfl⟩ := List.mem_iff_getElem.1 hy
 have up := List.pairwise_iff_getElem.1 h.up
 rcases Nat.lt_trichotomy i j with h1 | h1 | h1
 ·have := up i j hi hj h1; omega
 ·subst h1; rfl
 ·have := up j i hj hi h1; omega
theorem rl_eq {L : List R5} (h : Ok L) {x y : R5} (hx : x ∈ L) (hy : y ∈ L) (h1 : ¬ rl W x y) (h2 : ¬ rl W y x) : x = y := by
 rcases lx_tri (a := K5 W x) (b := K5 W y) rfl with h3 | h3 | h3
 ·exact absurd h3 h1
 ·refine h.slot hx hy ?_
  unfold K5 K4 at h3
  simp only [List.cons.injEq] at h3
  exact h3.2.2.2.1
 ·exact absurd h3 h2
structure Srt (W : Int × Int × Int) (R L : List R5) : Prop where
 perm : R.Perm L
 srt : R.Pairwise (fun a b => ¬ rl W b a)
theorem uniq {L : List R5} (h : Ok L) : ∀ {R T : List R5}, (∀ x ∈ R, x ∈ L) → R.Perm T → R.Pairwise (fun a b => ¬ rl W b a) → T.Pairwise (fun a b => ¬ rl W b a) → R = T
 | [], T, _, hp, _, _ => by rw [List.nil_perm.1 hp]
 | a :: R, [], _, hp, _, _ => by have := hp.length_eq; simp at this
 | a :: R, b :: T, hm, hp, h1, h2 => by
  rw [List.pairwise_cons] at h1 h2
  have hab : a = b := by
   refine Classical.byContradiction fun hne => hne ?_
   have ha : a ∈ T := by
    have := hp.mem_iff.1 (List.mem_cons_self (a := a) (l := R))
    rcases List.mem_cons.1 this with h3 | h3
    ·exact absurd h3 hne
    ·exact h3
   have hb : b ∈ R := by
    have := hp.mem_iff.2 (List.mem_cons_self (a := b) (l := T))
    rcases List.mem_cons.1 this with h3 | h3
    ·exact absurd h3.symm hne
    ·exact h3
   exact rl_eq (W := W) h (hm a (by simp)) (hm b (by simp [hb])) (h2.1 a ha) (h1.1 b hb)
  subst hab
  rw [uniq h (fun x hx => hm x (by simp [hx])) (List.perm_cons a |>.1 hp) h1.2 h2.2]
theorem Srt.eq {R T L : List R5} (hO : Ok L) (h : Srt W R L) (k : Srt W T L) : R = T := uniq hO (fun x hx => h.perm.mem_iff.1 hx) (h.perm.trans k.perm.symm) h.srt k.srt
/-! who is next -/
theorem rows_take {H : List E6} {k : Nat} : rows (H.take k) = (rows H).take k := by simp [rows]
theorem next_ok {n : Nat} {L : List R5} {v0 v1 w : Int} (hn : 1000 ≤ n) (hO : Ok L) {a : R5} {R : List R5} (hS : Srt (w, v0, v1) (a :: R) L) : m_jobsNextq3 n L v0 v1 w = some (a.1, true) := by
 obtain ⟨H, e1, e2, e3⟩ := queue_ok (n := n) (v0 := v0) (v1 := v1) (w := w) hn hO
 have hl := hS.perm.length_eq
 have hl2 := e2.length_eq
 simp only [rows, List.length_map, List.length_cons] at hl hl2
 obtain ⟨b, T, rfl⟩ := cons_of' (L := H) (by omega)
 unfold m_jobsNextq3
 rw [e1]
 simp only [Option.bind_some]
 unfold m_heapHeapapiDirtyLeastq2 m_heapHeapapiDirtyLenq3 m_heapHeapapiDirtyvalidq3
 simp only [Option.bind_some]
 rw [if_neg (by omega), if_pos (by omega), if_pos (by simp)]
 show some (b.2.1, true) = _
 have hb : b.2 ∈ L := e2.mem_iff.1 (by simp [rows])
 have ha : a ∈ L := hS.perm.mem_iff.1 (by simp)
 have h1 : ¬ rl (w, v0, v1) b.2 a := by
  have := hS.perm.mem_iff.2 hb
  rcases List.mem_cons.1 this with h | h
  ·rw [h]; exact fun q => lx_asymm q q
  ·exact (List.pairwise_cons.1 hS.srt).1 _ h
 have h2 : ¬ rl (w, v0, v1) a b.2 := fun q => by
  have := e2.mem_iff.2 ha
  obtain ⟨e, he, rfl⟩ := List.mem_map.1 this
  obtain ⟨j, hj, hje⟩ := mem_getD e0 he
  have h3 := e3.root j (by rw [← hl2]; simpa using hj)
  rw [hje] at h3
  exact h3 (rl_lt q)
 rw [rl_eq hO hb ha h1 h2]
/-! all, in order -/
structure Dr (W : Int × Int × Int) (L : List R5) (s : List Int × List E6 × Nat) (S : List R5) : Prop where
 out : s.1 = S.map Prod.fst
 hk : s.2.2 ≤ s.2.1.length
 h300 : s.2.2 ≤ 300
 perm : (S ++ rows (s.2.1.take s.2.2)).Perm L
 srt : S.Pairwise (fun a b => ¬ rl W b a)
 low : ∀ a ∈ S, ∀ b ∈ rows (s.2.1.take s.2.2), ¬ rl W b a
 hp : Hp W s.2.1 s.2.2
theorem Dr.take {L : List R5} {s : List Int × List E6 × Nat} {S : List R5} (h : Dr W L s S) (hk : 0 < s.2.2) {n : Nat} {x : Int} (hn : 1000 ≤ n) : ∃ M, m_heapHeapapiDirtyTakeq2 n W.1 W.2.1 W.2.2 s.2.1 s.2.2 x = some (M, s.2.2 - 1, (s.2.1.getD 0 e0).2.1, (s.2.1.getD 0 e0).2.2.1, (s.2.1.getD 0 e0).2.2.2.1, (s.2.1.getD 0 e0).2.2.2.2.1, (s.2.1.getD 0 e0).2.2.2.2.2, true) ∧ Dr W L (s.1 ++ [(s.2.1.getD 0 e0).2.1], M, s.2.2 - 1) (S ++ [(s.2.1.getD 0 e0).2]) := by
 obtain ⟨M, e, h1, h2, h3⟩ := take_ok (W := W) (n := n) (x := x) hn hk h.hk h.h300 h.hp
 have h2' : ((s.2.1.getD 0 e0).2 :: rows (M.take (s.2.2 - 1))).Perm (rows (s.2.1.take s.2.2)) := h2.map Prod.snd
 refine ⟨M, e, ⟨by rw [h.out]; simp, by have := h.hk; show s.2.2 - 1 ≤ M.length; omega, by have := h.h300; show s.2.2 - 1 ≤ 300; omega, ?_, ?_, ?_, h3⟩⟩
 ·show ((S ++ [(s.2.1.getD 0 e0).2]) ++ rows (M.take (s.2.2 - 1))).Perm L
  rw [List.append_assoc]
  exact (h2'.append_left S).trans h.perm
 ·rw [List.pairwise_append]
  refine ⟨h.srt, List.pairwise_singleton _ _, fun a ha b hb => ?_⟩
  obtain rfl := List.mem_singleton.1 hb
  exact h.low a ha _ (h2'.mem_iff.1 (by simp))
 ·intro a ha b hb
  have hb' := h2'.mem_iff.1 (List.mem_cons_of_mem _ hb)
  rcases List.mem_append.1 ha with ha | ha
  ·exact h.low a ha b hb'
  ·obtain rfl := List.mem_singleton.1 ha
   obtain ⟨f, hf, rfl⟩ := List.mem_map.1 hb'
   obtain ⟨j, hj, hje⟩ := mem_getD e0 hf
   rw [List.length_take] at hj
   have h4 := h.hp.root j (by omega)
   rw [← getD_take (k := s.2.2) (by omega), hje] at h4
   exact fun q => h4 (rl_lt q)
theorem drain_ok {n : Nat} {L : List R5} {H G : List E6} {c : Nat} {x y : Int} (hn : 1000 ≤ n) (hl : L.length ≤ 32) (hp : (rows H).Perm L) (hh : Hp W H L.length) : ∃ R M k, m_heapHeapapiDirtydrain1q2_1 n W.1 W.2.1 W.2.2 G c x y ([], H, H.length) = some (R.map Prod.fst, M, k) ∧ Srt W R L := by
 have hlen := hp.length_eq
 simp only [rows, List.length_map] at hlen
 obtain ⟨r, q1, q2⟩ := whileI (B := B_heapHeapapiDirtydrain1q2_1 n W.1 W.2.1 W.2.2 G c x y) (fun s => ∃ S, Dr W L s S) (fun s => s.2.2) (fun r => ∃ S, r.1 = S.map Prod.fst ∧ Srt W S L)
  (fun s hI => by
   obtain ⟨S, h⟩ := hI
   obtain ⟨out, M, k⟩ := s
   have hol : out.length ≤ 32 := by
    have h1 := h.out
    have h2 := h.perm.length_eq
    rw [List.length_append] at h2
    dsimp only at h1
    rw [h1, List.length_map]; omega
   by_cases hk : 0 < k
   ·left
    obtain ⟨M', e, h'⟩ := h.take (n := n) (x := y) hk hn
    dsimp only at e h'
    refine ⟨(out ++ [(M.getD 0 e0).2.1], M', k - 1), ⟨_, h'⟩, by show k - 1 < k; omega, ?_⟩
    unfold B_heapHeapapiDirtydrain1q2_1 m_heapHeapapiDirtyLenq3 m_heapHeapapiDirtyvalidq3
    cases out with
    | nil =>
     dsimp only
     simp only [Option.bind_some]
     rw [if_pos (by omega), e]
     rfl
    | cons oa ot =>
     dsimp only
     simp only [Option.bind_some]
     rw [if_pos (by omega), e]
     simp only [Option.bind_some]
     unfold m_heapHeapapiDirtyAll1_111110y2 m_jobsOrder_11010y2
     rw [if_pos (by omega)]
     rfl
   ·right
    obtain rfl : k = 0 := by omega
    refine ⟨(out, M, 0), ⟨S, h.out, ?_, h.srt⟩, ?_⟩
    ·have := h.perm
     simpa [rows] using this
    ·unfold B_heapHeapapiDirtydrain1q2_1 m_heapHeapapiDirtyLenq3 m_heapHeapapiDirtyvalidq3
     cases out with
     | nil => rfl
     | cons oa ot => rfl) n ([], H, H.length) ⟨[], ⟨rfl, Nat.le_refl _, by show H.length ≤ 300; omega, by show ([] ++ rows (H.take H.length)).Perm L; rw [List.take_length]; exact hp, .nil, fun a ha => by simp at ha, by show Hp W H H.length; rw [hlen]; exact hh⟩⟩ (by show H.length < n; omega)
 obtain ⟨out, M, k⟩ := r
 obtain ⟨S, rfl, hS⟩ := q1
 exact ⟨S, M, k, q2, hS⟩
theorem order_ok' {n : Nat} {L : List R5} {v0 v1 w : Int} (hn : 1000 ≤ n) (hO : Ok L) : ∃ R, m_jobsOrderq2 n L v0 v1 w = some (R.map Prod.fst) ∧ Srt (w, v0, v1) R L := by
 obtain ⟨H, e1, e2, e3⟩ := queue_ok (n := n) (v0 := v0) (v1 := v1) (w := w) hn hO
 have hl := hO.len
 have hl2 := e2.length_eq
 simp only [rows, List.length_map] at hl2
 unfold m_jobsOrderq2
 rw [e1]
 simp only [Option.bind_some]
 cases H with
 | nil =>
  obtain rfl : L = [] := List.eq_nil_of_length_eq_zero (by simpa using hl2.symm)
  refine ⟨[], ?_, .refl _, .nil⟩
  unfold m_heapHeapapiDirtyAllq1 m_heapHeapapiDirtyAll1q1 m_heapHeapapiDirtyvalidq1 m_heapNewapiDirtyq1 m_slicesCloneapiDirtyq1 m_heapHeapapiDirtydrainq1 m_heapHeapapiDirtydrain1q1 m_heapHeapapiDirtydrain1q1_1
  obtain ⟨m, rfl⟩ : ∃ m, n = m + 1 := ⟨n - 1, by omega⟩
  rfl
 | cons a T =>
  obtain ⟨R, M, k, e4, hR⟩ := drain_ok (n := n) (W := (w, v0, v1)) (H := a :: T) (G := a :: T) (c := L.length) (x := ((L.length : Nat) : Int)) (y := 0) hn hO.len e2 e3
  refine ⟨R, ?_, hR⟩
  unfold m_heapHeapapiDirtyAllq2 m_heapHeapapiDirtyAll1q2 m_heapHeapapiDirtyvalidq3 m_heapNewapiDirtyq1
  simp only [Option.bind_some]
  have e5 : m_slicesCloneapiDirtyq2 n (a :: T) L.length = some (.inl (a :: T)) := by
   unfold m_slicesCloneapiDirtyq2
   rw [← hl2, if_pos (by simp), if_pos (by omega), if_pos (by omega), if_pos (by simp), List.drop_zero, List.take_length]
   rfl
  rw [e5]
  dsimp only
  unfold m_heapHeapapiDirtydrainq2 m_heapHeapapiDirtydrain1q2
  simp only [Option.bind_some]
  dsimp only at e4
  rw [e4]
  simp only [Option.bind_some]
  cases R with
  | nil => rfl
  | cons b R => rfl

variable {W : Int × Int × Int}

/-! without the first one -/
def noS (s : Int) (x : R5) : Bool := decide (¬ x.1 = s)
theorem take_snoc {L : List R5} {i : Nat} (hi : i < L.length) : L.take (i + 1) = L.take i ++ [at' L i] := by
 rw [List.take_add_one, List.getElem?_eq_getElem hi]
 simp [at', List.getD_eq_getElem?_getD, hi]
theorem filter_no {α : Type} {p : α → Bool} {x : α} (h : p x = false) : [x].filter p = [] := by simp [h]
theorem filter_yes {α : Type} {p : α → Bool} {x : α} (h : p x = true) : [x].filter p = [x] := by simp [h]
theorem drop_ok {n : Nat} {L : List R5} {s : Int} (hn : 1000 ≤ n) (hl : L.length ≤ 32) : m_viewportref22Dropq2 n L s = some (L.filter (noS s)) := by
 obtain ⟨r, q1, q2⟩ := hoare (B := B_viewportref22Dropq2_1 n L s) (σ := List R5) (fun M i => (M, i)) (fun i M => M = (L.take i).filter (noS s)) (fun M => M = L.filter (noS s)) L.length
  (fun i M hi hI => by
   left
   have hml : M.length ≤ 32 := by
    rw [hI]
    have h1 := List.length_filter_le (noS s) (L.take i)
    rw [List.length_take] at h1
    omega
   by_cases h : (at' L i).1 = s
   ·refine ⟨M, ?_, ?_⟩
    ·rw [take_snoc hi, List.filter_append, ← hI, filter_no (p := noS s) (x := at' L i) (decide_eq_false fun q => q h), List.append_nil]
    ·unfold B_viewportref22Dropq2_1
     cases M with
     | nil =>
      dsimp only
      rw [if_pos (by omega), if_pos (by omega), Int.toNat_natCast]
      simp only [Option.bind_some]
      rw [if_pos h, w64_inc (by omega)]
     | cons a t =>
      dsimp only
      rw [if_pos (by omega), if_pos (by omega), Int.toNat_natCast]
      simp only [Option.bind_some]
      rw [if_pos h, w64_inc (by omega)]
   ·refine ⟨M ++ [at' L i], ?_, ?_⟩
    ·rw [take_snoc hi, List.filter_append, ← hI, filter_yes (p := noS s) (x := at' L i) (decide_eq_true h)]
    ·unfold B_viewportref22Dropq2_1
     cases M with
     | nil =>
      dsimp only
      rw [if_pos (by omega), if_pos (by omega), Int.toNat_natCast]
      simp only [Option.bind_some]
      rw [if_neg h, w64_inc (by omega)]
      rfl
     | cons a t =>
      dsimp only
      rw [if_pos (by omega), if_pos (by omega), Int.toNat_natCast]
      simp only [Option.bind_some]
      rw [if_neg h, if_pos (by omega), w64_inc (by omega)])
  (fun M hI => ⟨M, by rw [hI, List.take_length], by
   unfold B_viewportref22Dropq2_1
   cases M with
   | nil => dsimp only; rw [if_neg (by omega)]
   | cons a t => dsimp only; rw [if_neg (by omega)]⟩) n 0 [] (Nat.zero_le _) (by simp) (by omega)
 subst q1
 have q2 : m_viewportref22Dropq2_1 n L s ([], 0) = some (L.filter (noS s)) := q2
 unfold m_viewportref22Dropq2
 rw [q2]
 simp only [Option.bind_some]
 cases L.filter (noS s) with
 | nil => rfl
 | cons a t => rfl
theorem Ok.drop {L : List R5} (h : Ok L) (s : Int) : Ok (L.filter (noS s)) := ⟨Nat.le_trans (List.length_filter_le _ _) h.len, fun x hx => h.r x (List.mem_filter.1 hx).1, h.up.sublist List.filter_sublist⟩
theorem Srt.drop {L R : List R5} {a : R5} (hO : Ok L) (h : Srt W (a :: R) L) : Srt W R (L.filter (noS a.1)) := by
 refine ⟨?_, (List.pairwise_cons.1 h.srt).2⟩
 have hnd : ((a :: R).map Prod.fst).Nodup := by
  refine (h.perm.map Prod.fst).nodup_iff.2 ?_
  refine (hO.up.map (S := fun x y => x ≠ y) Prod.fst fun x y hxy => ?_)
  exact fun e => by omega
 have e : (a :: R).filter (noS a.1) = R := by
  rw [List.filter_cons_of_neg (by simp [noS])]
  refine List.filter_eq_self.2 fun x hx => ?_
  unfold noS
  refine decide_eq_true fun q => ?_
  rw [List.map_cons, List.nodup_cons] at hnd
  exact hnd.1 (q ▸ List.mem_map.2 ⟨x, hx, rfl⟩)
 have := h.perm.filter (noS a.1)
 rw [e] at this
 exact this
theorem same_ok {n i k : Nat} {l o : List Int} (hn : 1000 ≤ n) (hi : i ≤ o.length) (h : l = o.drop i) (hk : k = l.length) (ho : o.length ≤ 32) : m_viewportkitSameintq2 n l o i k = some true := by
 have hl : l.length = o.length - i := by rw [h, List.length_drop]
 subst hk
 unfold m_viewportkitSameintq2
 rw [if_pos rfl]
 obtain ⟨r, q1, q2⟩ := hoare (B := B_viewportkitSameintq2_1 n l o i l.length) (σ := Unit) (fun _ i => i) (fun _ _ => True) (fun r => r = .inr ()) l.length
  (fun j _ hj _ => by
   left
   have e : o.getD ((i + j) * 1) 0 = l.getD j 0 := by
    rw [Nat.mul_one, h, List.getD_eq_getElem?_getD, List.getD_eq_getElem?_getD, List.getElem?_drop]
   unfold B_viewportkitSameintq2_1
   dsimp only
   rw [if_pos (by omega), if_pos (by omega), Int.toNat_natCast]
   simp only [Option.bind_some]
   rw [if_pos (by omega), if_pos (show (i + j) * 1 < o.length by omega), e]
   simp only [Option.bind_some]
   rw [if_pos trivial, w64_inc (by omega)]
   exact ⟨(), trivial, rfl⟩)
  (fun _ _ => ⟨.inr (), rfl, by unfold B_viewportkitSameintq2_1; dsimp only; rw [if_neg (by omega)]⟩) n 0 () (Nat.zero_le _) trivial (by omega)
 subst q1
 have q2 : m_viewportkitSameintq2_1 n l o i l.length 0 = some (.inr ()) := q2
 rw [q2]
theorem ordr_ok {n : Nat} {L R : List R5} {v0 v1 w : Int} (hn : 1000 ≤ n) (hO : Ok L) (hS : Srt (w, v0, v1) R L) : m_jobsOrderq2 n L v0 v1 w = some (R.map Prod.fst) := by
 obtain ⟨T, e, hT⟩ := order_ok' (n := n) (v0 := v0) (v1 := v1) (w := w) hn hO
 rw [e, Srt.eq hO hT hS]
theorem drop_cons {o : List Int} {i : Nat} {a : Int} {T : List Int} (h : a :: T = o.drop i) : i < o.length ∧ o.getD i 0 = a ∧ T = o.drop (i + 1) := by
 have hi : i < o.length := by
  have := congrArg List.length h
  simp at this
  omega
 rw [List.drop_eq_getElem_cons hi] at h
 injection h with h1 h2
 exact ⟨hi, by rw [h1]; simp [List.getD_eq_getElem?_getD, hi], h2⟩
theorem lawLoop {n : Nat} {o : List Int} {L : List R5} {v0 v1 w : Int} (hn : 1000 ≤ n) (ho : o.length ≤ 32) (h0 : 1 ≤ o.length) (hO : Ok L) {R : List R5} (hS : Srt (w, v0, v1) R L) (hR : R.map Prod.fst = o.drop 1) : m_V_1 n w v0 v1 o (L, 1) = some [] := by
 obtain ⟨r, q1, q2⟩ := hoare (B := B_V_1 n w v0 v1 o) (σ := List R5) (fun M i => (M, i)) (fun i M => Ok M ∧ ∃ R, Srt (w, v0, v1) R M ∧ R.map Prod.fst = o.drop i) (fun r => r = []) o.length
  (fun i M hi hI => by
   left
   obtain ⟨hO, R, hS, hR⟩ := hI
   cases R with
   | nil =>
    exfalso
    have := congrArg List.length hR
    simp at this
    omega
   | cons a R =>
    obtain ⟨_, ha, hT⟩ := drop_cons (i := i) (o := o) (a := a.1) (T := R.map Prod.fst) hR
    have e1 := next_ok (n := n) hn hO hS
    have e2 := ordr_ok (n := n) hn hO hS
    have e3 := drop_ok (n := n) (s := a.1) hn hO.len
    have e4 := same_ok (n := n) (i := i) (k := o.length - i) (l := (a :: R).map Prod.fst) hn (by omega) hR (by rw [hR, List.length_drop]) ho
    refine ⟨M.filter (noS a.1), ⟨hO.drop _, R, Srt.drop hO hS, hT⟩, ?_⟩
    unfold B_V_1
    cases M with
    | nil =>
     exfalso
     have := hS.perm.length_eq
     simp at this
    | cons m M =>
     dsimp only
     rw [if_pos (by omega), e1]
     simp only [Option.bind_some]
     rw [if_pos trivial, if_pos (by omega), Int.toNat_natCast]
     rw [if_pos ha.symm, e2]
     simp only [Option.bind_some]
     rw [List.map_cons] at e4 ⊢
     dsimp only
     rw [if_pos (by omega), e4]
     simp only [Option.bind_some]
     rw [if_pos trivial, e3]
     simp only [Option.bind_some]
     rw [w64_inc (by omega)]
     cases (m :: M).filter (noS a.1) with
     | nil => rfl
     | cons _ _ => rfl)
  (fun M hI => by
   obtain ⟨hO, R, hS, hR⟩ := hI
   rw [List.drop_length] at hR
   obtain rfl : R = [] := by simpa using hR
   obtain rfl : M = [] := List.nil_perm.1 hS.perm
   refine ⟨[], rfl, ?_⟩
   unfold B_V_1
   dsimp only
   rw [if_neg (by omega)]) n 1 L h0 ⟨hO, R, hS, hR⟩ (by omega)
 subst q1
 exact q2
theorem next_nil {n : Nat} {L : List R5} {v0 v1 w : Int} (hn : 1000 ≤ n) (hO : Ok L) (h0 : L = []) : m_jobsNextq3 n L v0 v1 w = some (0, false) := by
 subst h0
 obtain ⟨H, e1, e2, e3⟩ := queue_ok (n := n) (v0 := v0) (v1 := v1) (w := w) hn hO
 obtain rfl : H = [] := by simpa [rows] using List.perm_nil.1 e2
 unfold m_jobsNextq3
 rw [e1]
 simp only [Option.bind_some]
 rfl
theorem jobsOrder_true (g10 g11 g2 : Int) : ∃ n, m_V n g10 g11 g2 = some () := by
 refine ⟨1000, ?_⟩
 have hn : 1000 ≤ 1000 := Nat.le_refl _
 unfold m_V m_viewportlaw24lives
 simp only [Option.bind_some]
 by_cases h1 : ((Args.A.length : Nat) : Int) > 40
 ·rw [if_pos h1]
 rw [if_neg h1]
 obtain ⟨c, e, hO⟩ := refCheck hn
 rw [e]
 simp only [Option.bind_some]
 by_cases hc : c = 0
 ·have hO := hO hc
  have hl := hO.len
  rw [if_pos hc, q1_order]
  obtain ⟨R, e1, hS⟩ := order_ok' (n := 1000) (v0 := g10) (v1 := g11) (w := g2) hn hO
  have hlen := hS.perm.length_eq
  rw [e1]
  simp only [Option.bind_some]
  cases R with
  | nil =>
   have hA : Args.A = [] := List.nil_perm.1 hS.perm
   have hA0 : Args.A.length = 0 := by rw [hA]; rfl
   rw [if_pos (by omega), q1_next, next_nil hn hO hA]
   simp only [Option.bind_some]
   rw [if_neg (by simp), if_pos (by omega)]
   rfl
  | cons a R =>
   have ol : (a.1 :: R.map Prod.fst).length = Args.A.length := by rw [← hlen]; simp
   rw [List.length_cons] at ol
   rw [List.map_cons]
   dsimp only
   have e2 := next_ok (n := 1000) hn hO hS
   have e3 := drop_ok (n := 1000) (s := a.1) hn hO.len
   have e4 := same_ok (n := 1000) (i := 0) (k := (a.1 :: R.map Prod.fst).length - 0) (l := a.1 :: R.map Prod.fst) (o := a.1 :: R.map Prod.fst) hn (Nat.zero_le _) rfl rfl (by rw [List.length_cons]; omega)
   have hO2 := hO.drop a.1
   have hS2 := Srt.drop hO hS
   have e5 := lawLoop (n := 1000) (o := a.1 :: R.map Prod.fst) hn (by rw [List.length_cons]; omega) (by rw [List.length_cons]; omega) hO2 hS2 rfl
   rw [if_pos (by rw [List.length_cons]; omega), if_pos (by rw [List.length_cons]; omega), q1_next, e2]
   simp only [Option.bind_some]
   rw [if_pos trivial, if_pos (by rw [List.length_cons]; omega)]
   rw [if_pos (show a.1 = (a.1 :: R.map Prod.fst).getD ((0 : Int)).toNat 0 from rfl)]
   rw [if_pos (by rw [List.length_cons]; omega)]
   have e4 : m_viewportkitSameintq2 1000 (a.1 :: R.map Prod.fst) (a.1 :: R.map Prod.fst) ((0 : Int)).toNat ((a.1 :: R.map Prod.fst).length - ((0 : Int)).toNat) = some true := e4
   rw [e4]
   simp only [Option.bind_some]
   rw [if_pos trivial, q1_drop, e3]
   simp only [Option.bind_some]
   cases hf : Args.A.filter (noS a.1) with
   | nil =>
    dsimp only
    rw [hf] at e5
    rw [e5]
    rfl
   | cons b T =>
    dsimp only
    rw [hf] at e5
    rw [e5]
    rfl
 ·rw [if_neg hc]

end Go.Proofs.Ytpbaplmodomfeaa.jbo24
