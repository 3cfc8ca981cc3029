/-
  A trie of values, by number. Own work, plain lemmas.
-/
import Derived.WalkKit
import Derived.Below
import Derived.OrdersIn
import Derived.RangeFuncLeaves
set_option linter.unusedSimpArgs false
set_option linter.unusedVariables false
set_option linter.unnecessarySimpa false
set_option linter.deprecated false
namespace Go.Proofs.Ythomkiindjhdmaa.Ax

inductive Tr (α : Type) where
  | nil
  | node (l : Tr α) (v : Option α) (r : Tr α)

noncomputable def sel {α : Type} (b : Bool) (x y : α) : α := @Bool.rec (fun _ => α) y x b
noncomputable def oc {α β : Type} (o : Option α) (d : β) (f : α → β) : β := @Option.rec α (fun _ => β) d f o

@[simp] theorem sel_true {α : Type} (x y : α) : sel true x y = x := rfl
@[simp] theorem sel_false {α : Type} (x y : α) : sel false x y = y := rfl
@[simp] theorem oc_none {α β : Type} (d : β) (f : α → β) : oc none d f = d := rfl
@[simp] theorem oc_some {α β : Type} (x : α) (d : β) (f : α → β) : oc (some x) d f = f x := rfl
theorem oc_eq_some {α β : Type} {o : Option α} {f : α → Option β} {y : β} (h : oc o none f = some y) : ∃ x, o = some x ∧ f x = some y := by
  cases o with
  | none => exact absurd h (by simp)
  | some x => exact ⟨x, rfl, h⟩
theorem sel_eq_some {β : Type} {b : Bool} {x y : Option β} {z : β} (h : sel b x y = some z) : (b = true ∧ x = some z) ∨ (b = false ∧ y = some z) := by
  cases b
  · exact .inr ⟨rfl, h⟩
  · exact .inl ⟨rfl, h⟩
theorem sel_none {β : Type} {b : Bool} {x : Option β} {z : β} (h : sel b x none = some z) : b = true ∧ x = some z := by
  rcases sel_eq_some h with h | h
  · exact h
  · exact absurd h.2 (by simp)

noncomputable def gsB {α : Type} (gl gr : Nat → Option α) (n : Nat) (odd : Bool) : Option α := @Bool.rec (fun _ => Option α) (gr (Nat.sub n 1)) (gl n) odd
noncomputable def gsA {α : Type} (v : Option α) (gl gr : Nat → Option α) (n : Nat) (z : Bool) : Option α := @Bool.rec (fun _ => Option α) (gsB gl gr (Nat.shiftRight n 1) (Nat.beq (Nat.land n 1) 1)) v z
noncomputable def Tr.get {α : Type} (t : Tr α) : Nat → Option α :=
  @Tr.rec α (fun _ => Nat → Option α) (fun _ => none) (fun _ v _ gl gr n => gsA v gl gr n (Nat.beq n 0)) t
noncomputable def trL {α : Type} (t : Tr α) : Tr α := @Tr.rec α (fun _ => Tr α) .nil (fun l _ _ _ _ => l) t
noncomputable def trR {α : Type} (t : Tr α) : Tr α := @Tr.rec α (fun _ => Tr α) .nil (fun _ _ r _ _ => r) t
noncomputable def trV {α : Type} (t : Tr α) : Option α := @Tr.rec α (fun _ => Option α) none (fun _ v _ _ _ => v) t
noncomputable def stB {α : Type} (ih : Tr α → Nat → Option α → Tr α) (t : Tr α) (x : Option α) (n : Nat) (odd : Bool) : Tr α := @Bool.rec (fun _ => Tr α) (.node (trL t) (trV t) (ih (trR t) (Nat.sub n 1) x)) (.node (ih (trL t) n x) (trV t) (trR t)) odd
noncomputable def stA {α : Type} (ih : Tr α → Nat → Option α → Tr α) (t : Tr α) (x : Option α) (n : Nat) (z : Bool) : Tr α := @Bool.rec (fun _ => Tr α) (stB ih t x (Nat.shiftRight n 1) (Nat.beq (Nat.land n 1) 1)) (.node (trL t) x (trR t)) z
noncomputable def Tr.setF {α : Type} (f : Nat) : Tr α → Nat → Option α → Tr α :=
  @Nat.rec (fun _ => Tr α → Nat → Option α → Tr α) (fun t _ _ => t) (fun _ ih t n x => stA ih t x n (Nat.beq n 0)) f
/-- what stands at n is x (nothing, where x is none) -/
noncomputable def Tr.put {α : Type} (t : Tr α) (n : Nat) (x : Option α) : Tr α := Tr.setF (Nat.succ n) t n x
noncomputable def Tr.set {α : Type} (t : Tr α) (n : Nat) (x : α) : Tr α := Tr.setF (Nat.succ n) t n (some x)

theorem shr1 (n : Nat) : Nat.shiftRight n 1 = n / 2 := Nat.shiftRight_eq_div_pow n 1
theorem land1 (n : Nat) : Nat.land n 1 = n % 2 := by
  have := Nat.and_one_is_mod n
  simpa using this

theorem Tr.get_nil {α : Type} (n : Nat) : (Tr.nil : Tr α).get n = none := rfl
theorem Tr.get_node {α : Type} (l : Tr α) (v : Option α) (r : Tr α) (n : Nat) :
    (Tr.node l v r).get n = if n = 0 then v else if n % 2 = 1 then l.get (n / 2) else r.get (n / 2 - 1) := by
  show gsA v l.get r.get n (Nat.beq n 0) = _
  by_cases h0 : n = 0
  · subst h0; rfl
  · have hb : Nat.beq n 0 = false := by cases n with | zero => exact absurd rfl h0 | succ k => rfl
    rw [if_neg h0, hb]
    show gsB l.get r.get (Nat.shiftRight n 1) (Nat.beq (Nat.land n 1) 1) = _
    rw [shr1, land1]
    by_cases h1 : n % 2 = 1
    · rw [if_pos h1, h1]; rfl
    · have h2 : n % 2 = 0 := by omega
      rw [if_neg h1, h2]; rfl
theorem Tr.get_parts {α : Type} (t : Tr α) (n : Nat) :
    t.get n = if n = 0 then trV t else if n % 2 = 1 then (trL t).get (n / 2) else (trR t).get (n / 2 - 1) := by
  cases t with
  | nil => simp [Tr.get_nil, trV, trL, trR]
  | node l v r => exact Tr.get_node l v r n
theorem Tr.setF_succ {α : Type} (f : Nat) (t : Tr α) (n : Nat) (x : Option α) :
    Tr.setF (f + 1) t n x = if n = 0 then .node (trL t) x (trR t) else if n % 2 = 1 then .node (Tr.setF f (trL t) (n / 2) x) (trV t) (trR t) else .node (trL t) (trV t) (Tr.setF f (trR t) (n / 2 - 1) x) := by
  show stA (Tr.setF f) t x n (Nat.beq n 0) = _
  by_cases h0 : n = 0
  · subst h0; rfl
  · have hb : Nat.beq n 0 = false := by cases n with | zero => exact absurd rfl h0 | succ k => rfl
    rw [if_neg h0, hb]
    show stB (Tr.setF f) t x (Nat.shiftRight n 1) (Nat.beq (Nat.land n 1) 1) = _
    rw [shr1, land1]
    by_cases h1 : n % 2 = 1
    · rw [if_pos h1, h1]; rfl
    · have h2 : n % 2 = 0 := by omega
      rw [if_neg h1, h2]; rfl
theorem Tr.get_setF {α : Type} (f : Nat) : ∀ (t : Tr α) (n m : Nat) (x : Option α), n < f → (Tr.setF f t n x).get m = if m = n then x else t.get m := by
  induction f with
  | zero => intro t n m x h; omega
  | succ f ih =>
    intro t n m x h
    rw [Tr.setF_succ]
    by_cases h0 : n = 0
    · subst h0
      rw [if_pos rfl, Tr.get_node, Tr.get_parts t m]
      by_cases hm : m = 0
      · rw [if_pos hm, if_pos hm]
      · rw [if_neg hm, if_neg hm, if_neg hm]
    · rw [if_neg h0]
      by_cases h1 : n % 2 = 1
      · rw [if_pos h1, Tr.get_node, Tr.get_parts t m, ih (trL t) (n / 2) (m / 2) x (by omega)]
        by_cases hm : m = 0
        · have : m ≠ n := by omega
          rw [if_pos hm, if_neg this, if_pos hm]
        · rw [if_neg hm, if_neg hm]
          by_cases hm1 : m % 2 = 1
          · rw [if_pos hm1, if_pos hm1]
            by_cases he : m = n
            · rw [if_pos he, if_pos (by omega)]
            · rw [if_neg he, if_neg (by omega)]
          · rw [if_neg hm1, if_neg hm1, if_neg (by omega)]
      · rw [if_neg h1, Tr.get_node, Tr.get_parts t m, ih (trR t) (n / 2 - 1) (m / 2 - 1) x (by omega)]
        by_cases hm : m = 0
        · have : m ≠ n := by omega
          rw [if_pos hm, if_neg this, if_pos hm]
        · rw [if_neg hm, if_neg hm]
          by_cases hm1 : m % 2 = 1
          · rw [if_pos hm1, if_pos hm1, if_neg (by omega)]
          · rw [if_neg hm1, if_neg hm1]
            by_cases he : m = n
            · rw [if_pos he, if_pos (by omega)]
            · rw [if_neg he, if_neg (by omega)]
theorem Tr.get_set {α : Type} (t : Tr α) (n m : Nat) (x : α) : (t.set n x).get m = if m = n then some x else t.get m :=
  Tr.get_setF _ t n m (some x) (Nat.lt_succ_self n)
theorem Tr.get_put {α : Type} (t : Tr α) (n m : Nat) (x : Option α) : (t.put n x).get m = if m = n then x else t.get m :=
  Tr.get_setF _ t n m x (Nat.lt_succ_self n)

/-- a list is laid from place i on -/
noncomputable def layL {α : Type} (l : List α) : Nat → Tr α → Tr α :=
  @List.rec α (fun _ => Nat → Tr α → Tr α) (fun _ t => t) (fun v _ ih i t => ih (Nat.succ i) (t.set i v)) l
theorem layL_cons {α : Type} (v : α) (l : List α) (i : Nat) (t : Tr α) : layL (v :: l) i t = layL l (i + 1) (t.set i v) := rfl
theorem layL_get {α : Type} (l : List α) : ∀ (i : Nat) (t : Tr α) (m : Nat), (layL l i t).get m = if i ≤ m ∧ m < i + l.length then l[m - i]? else t.get m := by
  induction l with
  | nil => intro i t m; rw [if_neg (by simp)]; rfl
  | cons v l ih =>
    intro i t m
    rw [layL_cons, ih, Tr.get_set]
    by_cases h : i ≤ m ∧ m < i + (v :: l).length
    · rw [if_pos h]
      by_cases hm : m = i
      · subst hm
        rw [if_neg (by omega), if_pos rfl]
        simp
      · have hlt : i + 1 ≤ m ∧ m < i + 1 + l.length := by simp at h; omega
        rw [if_pos hlt]
        have : m - i = (m - (i + 1)) + 1 := by omega
        rw [this, List.getElem?_cons_succ]
    · rw [if_neg h]
      have h1 : ¬ (i + 1 ≤ m ∧ m < i + 1 + l.length) := by simp at h; omega
      have h2 : m ≠ i := by simp at h; omega
      rw [if_neg h1, if_neg h2]
noncomputable def layT {α : Type} (l : List α) : Tr α := layL l 0 .nil
theorem layT_get {α : Type} (l : List α) (m : Nat) : (layT l).get m = l[m]? := by
  unfold layT
  rw [layL_get]
  by_cases h : m < l.length
  · rw [if_pos (by omega)]; rfl
  · rw [if_neg (by omega), List.getElem?_eq_none (by omega)]; rfl

/-- n things from place i on, if they are all there -/
noncomputable def rdT {α : Type} (c : Tr α) (n : Nat) : Nat → Option (List α) :=
  @Nat.rec (fun _ => Nat → Option (List α)) (fun _ => some []) (fun _ ih i => oc (c.get i) none (fun v => oc (ih (Nat.succ i)) none (fun l => some (v :: l)))) n
theorem rdT_succ {α : Type} (c : Tr α) (n i : Nat) : rdT c (n + 1) i = oc (c.get i) none (fun v => oc (rdT c n (i + 1)) none (fun l => some (v :: l))) := rfl
theorem rdT_get {α : Type} (c : Tr α) : ∀ (n i : Nat) (l : List α), rdT c n i = some l → l.length = n ∧ ∀ j, j < n → c.get (i + j) = l[j]? := by
  intro n
  induction n with
  | zero =>
    intro i l h
    have : l = [] := (Option.some.inj h).symm
    subst this
    exact ⟨rfl, fun j hj => by omega⟩
  | succ n ih =>
    intro i l h
    rw [rdT_succ] at h
    obtain ⟨v, hv, h⟩ := oc_eq_some h
    obtain ⟨l', hl', h⟩ := oc_eq_some h
    obtain rfl := Option.some.inj h
    obtain ⟨h1, h2⟩ := ih (i + 1) l' hl'
    refine ⟨by simp [h1], fun j hj => ?_⟩
    cases j with
    | zero => simpa using hv
    | succ j =>
      have := h2 j (by omega)
      rw [show i + (j + 1) = i + 1 + j from by omega, this]
      simp

end Go.Proofs.Ythomkiindjhdmaa.Ax
