/-
  The pure side. No condition.
-/
import Derived.Test.YtkdeabcaijfdfaaNfgTold
import Derived.IntWalk
set_option linter.unusedSimpArgs false
set_option linter.unusedVariables false
set_option linter.unusedSectionVars false
set_option linter.unnecessarySimpa false
noncomputable section
namespace Go.Proofs.Ytkdeabcaijfdfaa.nfg03
open Go Go.Proofs.Ytkdeabcaijfdfaa Ax
variable [Args]


theorem w64_id {x : Int} (h1 : -9223372036854775808 ≤ x) (h2 : x < 9223372036854775808) : w64 x = x := IntWalk.i64_in _ (by omega)
theorem w64_sm {x : Int} (h1 : -1000000000000 ≤ x) (h2 : x ≤ 1000000000000) : w64 x = x := w64_id (by omega) (by omega)
theorem w64_inc {i : Nat} (h : i ≤ 1000000000) : w64 ((i : Int) + 1) = ((i + 1 : Nat) : Int) := by rw [w64_sm (by omega) (by omega)]; rfl
/-! loops -/
theorem whileI {st ρ : Type} {B : st → Option (st ⊕ ρ)} (I : st → Prop) (μ : st → Nat) (Q : ρ → Prop) (h : ∀ s, I s → (∃ s', I s' ∧ μ s' < μ s ∧ B s = some (.inl s')) ∨ ∃ r, Q r ∧ B s = some (.inr r)) : ∀ (n : Nat) (s : st), I s → μ s < n → ∃ r, Q r ∧ iterM B n s = some r
 | 0, s, _, hm => absurd hm (Nat.not_lt_zero _)
 | n + 1, s, hi, hm => by
  rcases h s hi with ⟨s', h1, h2, h3⟩ | ⟨r, h1, h2⟩
  ·obtain ⟨r, q1, q2⟩ := whileI I μ Q h n s' h1 (by omega)
   exact ⟨r, q1, by rw [iterM_succ, h3]; exact q2⟩
  ·exact ⟨r, h1, by rw [iterM_succ, h2]; rfl⟩
theorem hoare {σ st ρ : Type} {B : st → Option (st ⊕ ρ)} (S : σ → Int → st) (I : Nat → σ → Prop) (Q : ρ → Prop) (len : Nat)
  (h1 : ∀ (i : Nat) (s : σ), i < len → I i s → (∃ s', I (i + 1) s' ∧ B (S s (i : Int)) = some (.inl (S s' ((i + 1 : Nat) : Int)))) ∨ ∃ r, Q r ∧ B (S s (i : Int)) = some (.inr r))
  (h2 : ∀ s, I len s → ∃ r, Q r ∧ B (S s (len : Int)) = some (.inr r)) : ∀ (n i : Nat) (s : σ), i ≤ len → I i s → len - i < n → ∃ r, Q r ∧ iterM B n (S s (i : Int)) = some r
 | 0, i, s, _, _, hm => absurd hm (Nat.not_lt_zero _)
 | n + 1, i, s, hl, hi, hm => by
  have main : (∃ s', i < len ∧ I (i + 1) s' ∧ B (S s (i : Int)) = some (.inl (S s' ((i + 1 : Nat) : Int)))) ∨ ∃ r, Q r ∧ B (S s (i : Int)) = some (.inr r) := by
   by_cases hlt : i < len
   ·rcases h1 i s hlt hi with ⟨s', a, b⟩ | h
    ·exact .inl ⟨s', hlt, a, b⟩
    ·exact .inr h
   ·obtain rfl : i = len := by omega
    exact .inr (h2 s hi)
  rcases main with ⟨s', g0, g1, g3⟩ | ⟨r, g1, g2⟩
  ·obtain ⟨r, q1, q2⟩ := hoare S I Q len h1 h2 n (i + 1) s' (by omega) g1 (by omega)
   exact ⟨r, q1, by rw [iterM_succ, g3]; exact q2⟩
  ·exact ⟨r, g1, by rw [iterM_succ, g2]; rfl⟩
/-- a search: the first place that is not so ends it -/
theorem scan {β γ : Type} {B : Int → Option (Int ⊕ (β ⊕ γ))} (len : Nat) (p : Nat → Bool) (a : β) (c : γ)
  (h1 : ∀ i : Nat, i < len → B (i : Int) = some (if p i = true then .inl ((i + 1 : Nat) : Int) else .inr (.inl a))) (h2 : B (len : Int) = some (.inr (.inr c))) (n : Nat) (hn : len < n) :
  iterM B n 0 = some (if (List.range len).all p = true then .inr c else .inl a) := by
 obtain ⟨r, q1, q2⟩ := hoare (B := B) (σ := Unit) (fun _ i => i) (fun i _ => ∀ j, j < i → p j = true) (fun r => r = if (List.range len).all p = true then .inr c else .inl a) len
  (fun i s hi hI => by
   by_cases hp : p i = true
   ·refine .inl ⟨(), fun j hj => ?_, by rw [h1 i hi, if_pos hp]⟩
    rcases Nat.lt_or_ge j i with h | h
    ·exact hI j h
    ·obtain rfl : j = i := by omega
     exact hp
   ·refine .inr ⟨.inl a, ?_, by rw [h1 i hi, if_neg hp]⟩
    rw [if_neg]
    intro hall
    exact hp (List.all_eq_true.1 hall i (List.mem_range.2 hi)))
  (fun s hI => ⟨.inr c, by rw [if_pos (List.all_eq_true.2 fun j hj => hI j (List.mem_range.1 hj))], h2⟩) n 0 () (Nat.zero_le _) (fun j hj => absurd hj (Nat.not_lt_zero _)) (by omega)
 rw [show (0 : Int) = ((0 : Nat) : Int) from rfl, q2, q1]
theorem all_range {α : Type} {l : List α} {d : α} {p : α → Bool} : (List.range l.length).all (fun i => p (l.getD i d)) = l.all p := by
 rw [Bool.eq_iff_iff, List.all_eq_true, List.all_eq_true]
 constructor
 ·intro h x hx
  obtain ⟨i, hi, rfl⟩ := List.mem_iff_getElem.1 hx
  have := h i (List.mem_range.2 hi)
  simpa [List.getD_eq_getElem?_getD, hi] using this
 ·intro h i hi
  have hi := List.mem_range.1 hi
  have := h l[i] (List.getElem_mem hi)
  simpa [List.getD_eq_getElem?_getD, hi] using this
theorem getD_mem {α : Type} {l : List α} {i : Nat} {d : α} (h : i < l.length) : l.getD i d ∈ l := by
 rw [List.getD_eq_getElem?_getD, List.getElem?_eq_getElem h]; exact List.getElem_mem h
theorem mem_getD {α : Type} {l : List α} {x : α} (d : α) (h : x ∈ l) : ∃ i, i < l.length ∧ l.getD i d = x := by
 obtain ⟨i, hi, rfl⟩ := List.mem_iff_getElem.1 h
 exact ⟨i, hi, by simp [List.getD_eq_getElem?_getD, hi]⟩
theorem getD_set {α : Type} {l : List α} {i j : Nat} {x d : α} (h : i < l.length) : (l.set i x).getD j d = if j = i then x else l.getD j d := by
 simp only [List.getD_eq_getElem?_getD, List.getElem?_set]
 by_cases hj : i = j
 ·subst hj; simp [h]
 ·rw [if_neg hj, if_neg (Ne.symm hj)]
theorem count_set_lt {L : List Bool} {i : Nat} (h : i < L.length) (hf : ¬ L.getD i false = true) : (L.set i true).count false < L.count false := by
 have h0 : L[i] = false := by simpa [List.getD_eq_getElem?_getD, h] using hf
 have hc := List.count_set (l := L) (a := true) (b := false) (i := i) h
 have hp : 0 < L.count false := List.count_pos_iff.2 (h0 ▸ List.getElem_mem h)
 rw [h0] at hc
 simp at hc
 omega


/-! loops that fill a list, or append to it -/
theorem snoc_range {β : Type} {i : Nat} {F : Nat → β} : (List.range (i + 1)).map F = (List.range i).map F ++ [F i] := by
 rw [List.range_succ, List.map_append]; rfl
theorem appLoop {α β : Type} {B : List α × Int → Option ((List α × Int) ⊕ List α)} (v : α → β) (F : Nat → β) (len C : Nat)
  (h1 : ∀ (i : Nat) (acc : List α), i < len → acc.length ≤ C + i → ∃ r, v r = F i ∧ B (acc, (i : Int)) = some (.inl (acc ++ [r], ((i + 1 : Nat) : Int))))
  (h2 : ∀ acc, B (acc, (len : Int)) = some (.inr acc)) (n : Nat) (acc0 : List α) (h0 : acc0.length ≤ C) (hn : len < n) :
  ∃ M, iterM B n (acc0, 0) = some (acc0 ++ M) ∧ M.map v = (List.range len).map F := by
 obtain ⟨r, q1, q2⟩ := hoare (B := B) (σ := List α) (fun L i => (L, i)) (fun i L => ∃ M, L = acc0 ++ M ∧ M.map v = (List.range i).map F) (fun r => ∃ M, r = acc0 ++ M ∧ M.map v = (List.range len).map F) len
  (fun i L hi hI => by
   obtain ⟨M, rfl, hM⟩ := hI
   have hl : M.length = i := by simpa using congrArg List.length hM
   obtain ⟨r, g1, g2⟩ := h1 i (acc0 ++ M) hi (by rw [List.length_append]; omega)
   refine .inl ⟨_, ⟨M ++ [r], by rw [List.append_assoc], ?_⟩, g2⟩
   rw [List.map_append, hM, snoc_range, ← g1]; rfl)
  (fun L hI => ⟨L, hI, h2 L⟩) n 0 acc0 (Nat.zero_le _) ⟨[], by simp, rfl⟩ (by omega)
 obtain ⟨M, rfl, hM⟩ := q1
 exact ⟨M, q2, hM⟩
theorem ext_getD {α : Type} {d : α} {L M : List α} (hl : L.length = M.length) (h : ∀ j, j < M.length → L.getD j d = M.getD j d) : L = M := by
 apply List.ext_getElem hl
 intro j h1 h2
 have := h j h2
 simpa [List.getD_eq_getElem?_getD, h1, h2] using this
theorem range_getD {β : Type} {F : Nat → β} {d : β} {len j : Nat} (h : j < len) : ((List.range len).map F).getD j d = F j := by
 simp [List.getD_eq_getElem?_getD, h]
theorem range_map {α β : Type} {f : α → β} {d : α} {l : List α} : (List.range l.length).map (fun j => f (l.getD j d)) = l.map f := by
 apply List.ext_getElem (by simp)
 intro j h1 h2
 have hj : j < l.length := by simpa using h2
 simp [List.getD_eq_getElem?_getD, hj]
theorem fillLoop {α : Type} {B : List α × Int → Option ((List α × Int) ⊕ List α)} (d : α) (F : Nat → α) (len : Nat)
  (h1 : ∀ (i : Nat) (L : List α), i < len → L.length = len → B (L, (i : Int)) = some (.inl (L.set i (F i), ((i + 1 : Nat) : Int))))
  (h2 : ∀ L, B (L, (len : Int)) = some (.inr L)) (n : Nat) (L0 : List α) (h0 : L0.length = len) (hn : len < n) :
  iterM B n (L0, 0) = some ((List.range len).map F) := by
 obtain ⟨r, rfl, q2⟩ := hoare (B := B) (σ := List α) (fun L i => (L, i)) (fun i L => L.length = len ∧ ∀ j, j < i → L.getD j d = F j) (fun r => r = (List.range len).map F) len
  (fun i L hi hI => .inl ⟨_, ⟨by rw [List.length_set, hI.1], fun j hj => by
   rw [getD_set (by rw [hI.1]; exact hi)]
   by_cases e : j = i
   ·rw [if_pos e, e]
   ·rw [if_neg e]; exact hI.2 j (by omega)⟩, h1 i L hi hI.1⟩)
  (fun L hI => ⟨L, ext_getD (d := d) (by simp [hI.1]) fun j hj => by
   have hj : j < len := by simpa using hj
   rw [hI.2 j hj, range_getD hj], h2 L⟩) n 0 L0 (Nat.zero_le _) ⟨h0, fun j hj => absurd hj (Nat.not_lt_zero _)⟩ (by omega)
 exact q2
/-- a loop that adds up -/
theorem foldLoop {σ : Type} {B : σ × Int → Option ((σ × Int) ⊕ σ)} (g : σ → Nat → σ) (len : Nat)
  (h1 : ∀ (i : Nat) (s : σ), i < len → B (s, (i : Int)) = some (.inl (g s i, ((i + 1 : Nat) : Int))))
  (h2 : ∀ s, B (s, (len : Int)) = some (.inr s)) (n : Nat) (s0 : σ) (hn : len < n) :
  iterM B n (s0, 0) = some ((List.range len).foldl g s0) := by
 obtain ⟨r, rfl, q2⟩ := hoare (B := B) (σ := σ) (fun s i => (s, i)) (fun i s => s = (List.range i).foldl g s0) (fun r => r = (List.range len).foldl g s0) len
  (fun i s hi hI => .inl ⟨_, by rw [List.range_succ, List.foldl_append, hI]; rfl, h1 i s hi⟩)
  (fun s hI => ⟨s, hI, h2 s⟩) n 0 s0 (Nat.zero_le _) rfl (by omega)
 exact q2
theorem getD_take {α : Type} {l : List α} {d : α} {i j : Nat} (h : j < i) : (l.take i).getD j d = l.getD j d := by
 simp [List.getD_eq_getElem?_getD, List.getElem?_take, h]
theorem getD_drop {α : Type} {l : List α} {d : α} {i j : Nat} : (l.drop i).getD j d = l.getD (i + j) d := by
 simp [List.getD_eq_getElem?_getD]
/-- rows of parts as they look -/
abbrev V8 := Int × Int × Int × Int × Int × Int × List Int × Int
def vw (r : Int × Int × Int × Int × Int × Int × NL × Int) : V8 := (r.1, r.2.1, r.2.2.1, r.2.2.2.1, r.2.2.2.2.1, r.2.2.2.2.2.1, r.2.2.2.2.2.2.1.l, r.2.2.2.2.2.2.2)
def mvK (f : Int → Int) (r : V8) : V8 := (r.1, r.2.1, r.2.2.1, r.2.2.2.1, r.2.2.2.2.1, r.2.2.2.2.2.1, r.2.2.2.2.2.2.1.map f, r.2.2.2.2.2.2.2)


theorem range_foldl {σ α : Type} {d : α} (f : σ → α → σ) (l : List α) (s : σ) : (List.range l.length).foldl (fun s j => f s (l.getD j d)) s = l.foldl f s := by
 have h : (List.range l.length).map (fun j => l.getD j d) = l := by have := range_map (f := id) (d := d) (l := l); simpa using this
 conv => rhs; rw [← h]
 rw [List.foldl_map]
abbrev C4 := Int × Int × Int × Int
def hasC (r : C4) (b : Nat) : Bool := decide (bAnd .u64 (shrV .u64 (([r.1, r.2.1, r.2.2.1, r.2.2.2]).getD (b / 64) 0) ((b % 64 : Nat) : Int)) (1 : Int) = 1)
theorem hasC_ok {n b : Nat} (r : C4) (h : b < 256) : m_classHasq1 n r.1 r.2.1 r.2.2.1 r.2.2.2 (b : Int) = some (hasC r b) := by
 unfold m_classHasq1 hasC
 have hq : IntKind.u8.wrap (Int.tdiv (b : Int) (64 : Int)) = ((b / 64 : Nat) : Int) := by
  rw [show Int.tdiv (b : Int) (64 : Int) = ((b / 64 : Nat) : Int) from rfl]
  simp [IntKind.wrap, IntKind.bits, IntKind.signed]
  omega
 rw [if_pos (by decide), hq, show Int.tmod (b : Int) (64 : Int) = ((b % 64 : Nat) : Int) from rfl]
 have h4 : b / 64 < 4 := by omega
 rw [if_pos (by omega), if_pos (by rw [Int.toNat_natCast]; exact h4), Option.bind_some, if_pos (by omega), Option.bind_some, Int.toNat_natCast]
 split
 ·rename_i h; rw [decide_eq_true h]
 ·rename_i h; rw [decide_eq_false h]
/-! keys, sorted -/
theorem insK_mem {x y : Int} : ∀ {l : List Int}, y ∈ insK x l ↔ y = x ∨ y ∈ l
 | [] => by simp [insK]
 | z :: l => by
  unfold insK
  split
  ·simp
  ·rw [List.mem_cons, insK_mem, List.mem_cons]
   constructor
   ·rintro (h | h | h)
    ·exact .inr (.inl h)
    ·exact .inl h
    ·exact .inr (.inr h)
   ·rintro (h | h | h)
    ·exact .inr (.inl h)
    ·exact .inl h
    ·exact .inr (.inr h)
theorem srtK_mem {y : Int} : ∀ {l : List Int}, y ∈ srtK l ↔ y ∈ l
 | [] => Iff.rfl
 | x :: l => by
  unfold srtK
  rw [insK_mem, srtK_mem, List.mem_cons]
theorem insK_len {x : Int} : ∀ {l : List Int}, (insK x l).length = l.length + 1
 | [] => rfl
 | z :: l => by
  unfold insK
  split
  ·rfl
  ·rw [List.length_cons, insK_len, List.length_cons]
theorem srtK_len : ∀ {l : List Int}, (srtK l).length = l.length
 | [] => rfl
 | x :: l => by
  unfold srtK
  rw [insK_len, srtK_len, List.length_cons]
abbrev MS := MapI Unit
def ks (M : MS) : List Int := M.l.map Prod.fst
theorem keys_mem {M : MS} {k : Int} : k ∈ mKeys M ↔ k ∈ ks M := srtK_mem
theorem keys_len {M : MS} : (mKeys M).length = mLen M := by unfold mKeys mLen; rw [srtK_len, List.length_map]
def InK (m : Nat) (M : MS) : Prop := ∀ k ∈ ks M, 1 ≤ k ∧ k < (m : Int)
theorem nodup_nat : ∀ {l : List Int}, l.Nodup → (∀ k ∈ l, (0 : Int) ≤ k) → (l.map Int.toNat).Nodup
 | [], _, _ => .nil
 | x :: l, h, hk => by
  rw [List.nodup_cons] at h
  rw [List.map_cons, List.nodup_cons]
  refine ⟨fun hm => ?_, nodup_nat h.2 fun k hm => hk k (List.mem_cons_of_mem _ hm)⟩
  obtain ⟨y, hy, e⟩ := List.mem_map.1 hm
  have h1 := hk x (List.mem_cons_self ..)
  have h2 := hk y (List.mem_cons_of_mem _ hy)
  have : y = x := by omega
  exact h.1 (this ▸ hy)
theorem InK.len {m : Nat} {M : MS} (h : InK m M) : mLen M ≤ m := by
 have hn := nodup_nat M.nd fun k hk => by have := h k hk; omega
 have hs : (M.l.map Prod.fst).map Int.toNat ⊆ List.range m := fun x hx => by
  obtain ⟨k, hk, rfl⟩ := List.mem_map.1 hx
  have := h k hk
  exact List.mem_range.2 (by omega)
 have := List.Nodup.length_le_of_subset hn hs
 rw [List.length_map, List.length_map, List.length_range] at this
 exact this
theorem InK.wf {m : Nat} {M : MS} (hm : m ≤ 1000000) (h : InK m M) : mWf M = true := by
 unfold mWf
 refine List.all_eq_true.2 fun x hx => decide_eq_true ?_
 have := h x hx
 omega
theorem InK.nil (m : Nat) : InK m mNil := fun k hk => by cases hk
theorem InK.put {m : Nat} {M : MS} (h : InK m M) {k : Int} (h1 : 1 ≤ k) (h2 : k < (m : Int)) : InK m (mPut M k ()) := fun x hx => by
 rcases mputL_mem hx with rfl | hx
 ·exact ⟨h1, h2⟩
 ·exact h x hx
open Classical in
/-- the sorted keys, laid down -/
def srtd (M : MS) : NL := if mKeys M = [] then nl0 else if hc : (mKeys M).length ≤ 140737488355328 then frzL (mKeys M) hc else nl0
theorem srtd_l {M : MS} (h : mLen M ≤ 1000000) : (srtd M).l = mKeys M := by
 unfold srtd
 split
 ·rename_i h; rw [h]; rfl
 ·rw [dif_pos (by rw [keys_len]; omega)]; rfl
theorem sorted_ok {n m : Nat} {M : MS} (hm : m ≤ 1000000) (h : InK m M) : m_nfasetsortedq1 n M = some (srtd M) := by
 have hl := h.len
 unfold m_nfasetsortedq1 m_mapsKeysnfasetintstructu m_slicesSortedintu srtd
 rw [Option.bind_some, if_pos (h.wf hm), if_pos (by omega)]
 cases hk : mKeys M with
 | nil => rw [if_pos rfl]
 | cons a t =>
  have hlen : (a :: t).length ≤ 140737488355328 := by rw [← hk, keys_len]; omega
  rw [if_neg (by simp)]
  simp only []
  rw [dif_pos hlen, dif_pos hlen]
/-! automata -/
abbrev WX := WL rw_uuuu
abbrev WY := WL rw_L
def nxt (Y : WY) (s : Nat) : NL := Y.l.getD s nl0
structure NV (X : WX) (Y : WY) (R : NL) : Prop where
 one : 1 ≤ X.l.length
 most : X.l.length ≤ 1000
 eqY : Y.l.length = X.l.length
 eqR : R.l.length = X.l.length
 nx : ∀ s, s < Y.l.length → ∀ k ∈ (nxt Y s).l, 1 ≤ k ∧ k < (X.l.length : Int)
 few : ∀ s, s < Y.l.length → (nxt Y s).l.length ≤ 10000
def add1 (X : WX) (b : Nat) (M : MS) (k : Int) : MS := if hasC (X.l.getD k.toNat (0, 0, 0, 0)) b = true then mPut M k () else M
def stp1 (X : WX) (Y : WY) (b : Nat) (M : MS) (s : Int) : MS := if s < 0 ∨ s ≥ (Y.l.length : Int) then M else (nxt Y s.toNat).l.foldl (add1 X b) M
def stM (X : WX) (Y : WY) (b : Nat) (l : List Int) : MS := l.foldl (stp1 X Y b) mNil
theorem InK.add {X : WX} {b m : Nat} : ∀ {l : List Int} {M : MS}, InK m M → (∀ k ∈ l, 1 ≤ k ∧ k < (m : Int)) → InK m (l.foldl (add1 X b) M)
 | [], M, h, _ => h
 | k :: l, M, h, hk => by
  rw [List.foldl_cons]
  refine InK.add ?_ fun j hj => hk j (List.mem_cons_of_mem _ hj)
  unfold add1
  split
  ·have := hk k (List.mem_cons_self ..)
   exact h.put this.1 this.2
  ·exact h
theorem InK.stp {X : WX} {Y : WY} {R : NL} (v : NV X Y R) {b : Nat} {M : MS} (h : InK X.l.length M) (s : Int) : InK X.l.length (stp1 X Y b M s) := by
 unfold stp1
 split
 ·exact h
 ·rename_i hs
  exact h.add (v.nx s.toNat (by omega))
theorem InK.stps {X : WX} {Y : WY} {R : NL} (v : NV X Y R) {b : Nat} : ∀ {l : List Int} {M : MS}, InK X.l.length M → InK X.l.length (l.foldl (stp1 X Y b) M)
 | [], M, h => h
 | s :: l, M, h => by
  rw [List.foldl_cons]
  exact InK.stps v (h.stp v s)
def stN (X : WX) (Y : WY) (b : Nat) (l : List Int) : NL := srtd (stM X Y b l)
theorem stN_len {X : WX} {Y : WY} {R : NL} (v : NV X Y R) (b : Nat) (l : List Int) : (stN X Y b l).l = mKeys (stM X Y b l) ∧ (stN X Y b l).l.length ≤ 1000 := by
 have h := (InK.stps v (b := b) (l := l) (InK.nil _)).len
 have hm := v.most
 have e := srtd_l (M := stM X Y b l) (by unfold stM; omega)
 refine ⟨e, ?_⟩
 unfold stN
 rw [e, keys_len]
 unfold stM
 omega
def rl1 (Y : WY) (R : NL) (least : Int) (s : Int) : Int := if s < 0 ∨ s ≥ (R.l.length : Int) then least else if R.l.getD s.toNat 0 < 0 then least else if least < 0 then R.l.getD s.toNat 0 else if R.l.getD s.toNat 0 < least then R.l.getD s.toNat 0 else least
def rl (Y : WY) (R : NL) (l : List Int) : Int := l.foldl (rl1 Y R) (-1)
section
variable {n b : Nat} {X : WX} {Y : WY} {R : NL} (v : NV X Y R) (hb : b < 256) (hn : 20000 < n)
include v hb hn
theorem in2_ok {a1 a2 : Int} {z y : NL} (hy : ∀ k ∈ y.l, 1 ≤ k ∧ k < (X.l.length : Int)) (hl : y.l.length ≤ 10000) (M : MS) : m_nfastepq2_2 n (b : Int) X Y R z a1 a2 y ((y.l.length : Nat) : Int) (M, 0) = some (y.l.foldl (add1 X b) M) := by
 rw [← range_foldl (d := 0)]
 refine foldLoop (B := B_nfastepq2_2 n (b : Int) X Y R z a1 a2 y ((y.l.length : Nat) : Int)) (fun M j => add1 X b M (y.l.getD j 0)) y.l.length (fun i s hi => ?_) (fun s => ?_) n M (by omega)
 ·have hk := hy _ (getD_mem (d := 0) hi)
  have hm := v.most
  unfold B_nfastepq2_2 add1
  dsimp only
  rw [if_pos (by omega), if_pos (by omega), if_pos (by rw [Int.toNat_natCast]; exact hi), Int.toNat_natCast]
  simp only [Option.bind_some]
  rw [if_pos (by omega)]
  have h := hasC_ok (n := n) (X.l.getD (y.l.getD i 0).toNat (0, 0, 0, 0)) hb
  rw [h, Option.bind_some, w64_inc (by omega)]
  split <;> rfl
 ·unfold B_nfastepq2_2
  dsimp only
  rw [if_neg (by omega)]
theorem in1_ok {a0 : List Int} {a1 a2 : Int} {y : NL} (hy : ∀ k ∈ y.l, 1 ≤ k ∧ k < (X.l.length : Int)) (hl : y.l.length ≤ 10000) (M : MS) : m_nfastepq1_2 n a0 (b : Int) X Y R a1 a2 y ((y.l.length : Nat) : Int) (M, 0) = some (y.l.foldl (add1 X b) M) := by
 rw [← range_foldl (d := 0)]
 refine foldLoop (B := B_nfastepq1_2 n a0 (b : Int) X Y R a1 a2 y ((y.l.length : Nat) : Int)) (fun M j => add1 X b M (y.l.getD j 0)) y.l.length (fun i s hi => ?_) (fun s => ?_) n M (by omega)
 ·have hk := hy _ (getD_mem (d := 0) hi)
  have hm := v.most
  unfold B_nfastepq1_2 add1
  dsimp only
  rw [if_pos (by omega), if_pos (by omega), if_pos (by rw [Int.toNat_natCast]; exact hi), Int.toNat_natCast]
  simp only [Option.bind_some]
  rw [if_pos (by omega)]
  have h := hasC_ok (n := n) (X.l.getD (y.l.getD i 0).toNat (0, 0, 0, 0)) hb
  rw [h, Option.bind_some, w64_inc (by omega)]
  split <;> rfl
 ·unfold B_nfastepq1_2
  dsimp only
  rw [if_neg (by omega)]
theorem step2_ok {x : NL} (hx : x.l.length ≤ 10000) : m_nfastepq2 n X Y R x (b : Int) = some (stN X Y b x.l) := by
 have q := foldLoop (B := B_nfastepq2_1 n (b : Int) X Y R x ((x.l.length : Nat) : Int)) (fun M j => stp1 X Y b M (x.l.getD j 0)) x.l.length (fun i s hi => by
  have hm := v.most
  have he := v.eqY
  unfold B_nfastepq2_1 stp1
  dsimp only
  rw [if_pos (by omega), if_pos (by omega), if_pos (by rw [Int.toNat_natCast]; exact hi), Int.toNat_natCast]
  simp only [Option.bind_some]
  rw [w64_inc (by omega)]
  generalize x.l.getD i 0 = k
  by_cases c1 : k < 0
  ·rw [if_pos c1, if_pos (.inl c1)]
  ·by_cases c2 : k ≥ ((Y.l.length : Nat) : Int)
   ·rw [if_neg c1, if_pos c2, if_pos (.inr c2)]
   ·rw [if_neg c1, if_neg c2, if_pos (by omega), if_neg (fun h => h.elim c1 c2)]
    have h := in2_ok v hb hn (a1 := ((x.l.length : Nat) : Int)) (a2 := (i : Int)) (z := x) (y := nxt Y k.toNat) (v.nx _ (by omega)) (v.few _ (by omega)) s
    have e : Y.l.getD k.toNat nl0 = nxt Y k.toNat := rfl
    rw [e, h, Option.bind_some]) (fun s => by
  unfold B_nfastepq2_1
  dsimp only
  rw [if_neg (by omega)]) n mNil (by omega)
 have q : m_nfastepq2_1 n (b : Int) X Y R x ((x.l.length : Nat) : Int) (mNil, 0) = some (stM X Y b x.l) := q.trans (by rw [range_foldl (d := 0)]; rfl)
 unfold m_nfastepq2
 rw [q, Option.bind_some, sorted_ok (M := stM X Y b x.l) (m := X.l.length) (by have := v.most; omega) (InK.stps v (InK.nil _))]
 rfl
theorem step1_ok {x : List Int} (hx : x.length ≤ 10000) : m_nfastepq1 n X Y R x (b : Int) = some (stN X Y b x) := by
 have q := foldLoop (B := B_nfastepq1_1 n x (b : Int) X Y R ((x.length : Nat) : Int)) (fun M j => stp1 X Y b M (x.getD j 0)) x.length (fun i s hi => by
  have hm := v.most
  have he := v.eqY
  unfold B_nfastepq1_1 stp1
  dsimp only
  rw [if_pos (by omega), if_pos (by omega), Int.toNat_natCast]
  simp only [Option.bind_some]
  rw [w64_inc (by omega)]
  generalize x.getD i 0 = k
  by_cases c1 : k < 0
  ·rw [if_pos c1, if_pos (.inl c1)]
  ·by_cases c2 : k ≥ ((Y.l.length : Nat) : Int)
   ·rw [if_neg c1, if_pos c2, if_pos (.inr c2)]
   ·rw [if_neg c1, if_neg c2, if_pos (by omega), if_neg (fun h => h.elim c1 c2)]
    have h := in1_ok v hb hn (a0 := x) (a1 := ((x.length : Nat) : Int)) (a2 := (i : Int)) (y := nxt Y k.toNat) (v.nx _ (by omega)) (v.few _ (by omega)) s
    have e : Y.l.getD k.toNat nl0 = nxt Y k.toNat := rfl
    rw [e, h, Option.bind_some]) (fun s => by
  unfold B_nfastepq1_1
  dsimp only
  rw [if_neg (by omega)]) n mNil (by omega)
 have q : m_nfastepq1_1 n x (b : Int) X Y R ((x.length : Nat) : Int) (mNil, 0) = some (stM X Y b x) := q.trans (by rw [range_foldl (d := 0)]; rfl)
 unfold m_nfastepq1
 rw [q, Option.bind_some, sorted_ok (M := stM X Y b x) (m := X.l.length) (by have := v.most; omega) (InK.stps v (InK.nil _))]
 rfl
end
section
variable {n : Nat} {X : WX} {Y : WY} {R : NL} (v : NV X Y R) (hn : 20000 < n)
include v hn
theorem rule1_ok {x : NL} (hx : x.l.length ≤ 10000) : m_nfaruleq1 n X Y R x = some (rl Y R x.l) := by
 have q := foldLoop (B := B_nfaruleq1_1 n X Y R x ((x.l.length : Nat) : Int)) (fun M j => rl1 Y R M (x.l.getD j 0)) x.l.length (fun i s hi => by
  have hm := v.most
  have he := v.eqR
  unfold B_nfaruleq1_1 rl1
  dsimp only
  rw [if_pos (by omega), if_pos (by omega), if_pos (by rw [Int.toNat_natCast]; exact hi), Int.toNat_natCast]
  simp only [Option.bind_some]
  rw [w64_inc (by omega)]
  generalize x.l.getD i 0 = k
  by_cases c1 : k < 0
  ·rw [if_pos c1, if_pos (.inl c1)]
  ·by_cases c2 : k ≥ ((R.l.length : Nat) : Int)
   ·rw [if_neg c1, if_pos c2, if_pos (.inr c2)]
   ·rw [if_neg c1, if_neg c2, if_pos (by omega), if_pos (by omega), if_neg (show ¬ (k < 0 ∨ k ≥ ((R.l.length : Nat) : Int)) from fun h => h.elim c1 c2)]
    generalize R.l.getD k.toNat 0 = r
    by_cases c3 : r < 0
    ·rw [if_pos c3, if_pos c3]
    ·rw [if_neg c3, if_neg c3]
     by_cases c4 : s < 0
     ·rw [if_pos c4, if_pos c4]
     ·rw [if_neg c4, if_neg c4]
      split <;> rfl) (fun s => by
  unfold B_nfaruleq1_1
  dsimp only
  rw [if_neg (by omega)]) n (-1) (by omega)
 have q : m_nfaruleq1_1 n X Y R x ((x.l.length : Nat) : Int) (-1, 0) = some (rl Y R x.l) := q.trans (by rw [range_foldl (d := 0)]; rfl)
 unfold m_nfaruleq1
 rw [q]; rfl
theorem rule2_ok {x : List Int} (hx : x.length ≤ 10000) : m_nfaruleq2 n X Y R x = some (rl Y R x) := by
 have q := foldLoop (B := B_nfaruleq2_1 n x X Y R ((x.length : Nat) : Int)) (fun M j => rl1 Y R M (x.getD j 0)) x.length (fun i s hi => by
  have hm := v.most
  have he := v.eqR
  unfold B_nfaruleq2_1 rl1
  dsimp only
  rw [if_pos (by omega), if_pos (by omega), Int.toNat_natCast]
  simp only [Option.bind_some]
  rw [w64_inc (by omega)]
  generalize x.getD i 0 = k
  by_cases c1 : k < 0
  ·rw [if_pos c1, if_pos (.inl c1)]
  ·by_cases c2 : k ≥ ((R.l.length : Nat) : Int)
   ·rw [if_neg c1, if_pos c2, if_pos (.inr c2)]
   ·rw [if_neg c1, if_neg c2, if_pos (by omega), if_pos (by omega), if_neg (show ¬ (k < 0 ∨ k ≥ ((R.l.length : Nat) : Int)) from fun h => h.elim c1 c2)]
    generalize R.l.getD k.toNat 0 = r
    by_cases c3 : r < 0
    ·rw [if_pos c3, if_pos c3]
    ·rw [if_neg c3, if_neg c3]
     by_cases c4 : s < 0
     ·rw [if_pos c4, if_pos c4]
     ·rw [if_neg c4, if_neg c4]
      split <;> rfl) (fun s => by
  unfold B_nfaruleq2_1
  dsimp only
  rw [if_neg (by omega)]) n (-1) (by omega)
 have q : m_nfaruleq2_1 n x X Y R ((x.length : Nat) : Int) (-1, 0) = some (rl Y R x) := q.trans (by rw [range_foldl (d := 0)]; rfl)
 unfold m_nfaruleq2
 rw [q]; rfl
end


theorem lightN {n : Nat} {X : WX} {Y : WY} {R : NL} (hn : 100 < n) : ∃ f, m_viewportkitLightNfaq1 n X Y R 40 = some f ∧ (f = true → X.l.length ≤ 40 ∧ Y.l.length ≤ 40 ∧ R.l.length ≤ 40 ∧ ∀ s, s < Y.l.length → (nxt Y s).l.length ≤ 1600) := by
 obtain ⟨r, q1, q2⟩ := hoare (B := B_viewportkitLightNfaq1_1 n 40 X Y R) (σ := Int) (fun s t => (s, t)) (fun t s => ∃ m : Nat, s = (m : Int) ∧ m ≤ t * 140737488355328 ∧ ∀ i, i < t → (nxt Y i).l.length ≤ m) (fun r => Y.l.length ≤ 40 → ∃ m : Nat, r = (m : Int) ∧ ∀ i, i < Y.l.length → (nxt Y i).l.length ≤ m) (min Y.l.length 41)
  (fun t s ht hI => by
   obtain ⟨m, rfl, hm, hk⟩ := hI
   unfold B_viewportkitLightNfaq1_1
   simp only []
   have h1 : (t : Int) < ((Y.l.length : Nat) : Int) := by omega
   have hrow : Y.l.getD t nl0 = nxt Y t := rfl
   have hle := (nxt Y t).le
   rw [if_pos h1, if_pos (by omega), if_pos (by omega), Option.bind_some, Option.bind_some, w64_inc (by omega), Int.toNat_natCast, hrow, w64_id (by omega) (by omega)]
   refine .inl ⟨((m + (nxt Y t).l.length : Nat) : Int), ⟨_, rfl, by omega, fun i hi => ?_⟩, by congr 1⟩
   by_cases e : i = t
   ·rw [e]; omega
   ·have := hk i (by omega)
    omega)
  (fun s hI => ⟨s, fun h25 => by
   obtain ⟨m, h1, _, h3⟩ := hI
   exact ⟨m, h1, fun i hi => h3 i (by omega)⟩, by
   unfold B_viewportkitLightNfaq1_1
   simp only []
   by_cases c : ((min Y.l.length 41 : Nat) : Int) < ((Y.l.length : Nat) : Int)
   ·rw [if_pos c, if_neg (by omega)]
   ·rw [if_neg c]⟩) n 0 0 (Nat.zero_le _) ⟨0, rfl, by omega, fun i hi => by omega⟩ (by omega)
 have hrun : m_viewportkitLightNfaq1_1 n 40 X Y R (0, 0) = some r := q2
 unfold m_viewportkitLightNfaq1
 rw [hrun, Option.bind_some]
 by_cases c1 : ((X.l.length : Nat) : Int) ≤ 40
 ·rw [if_pos c1]
  by_cases c2 : ((Y.l.length : Nat) : Int) ≤ 40
  ·rw [if_pos c2]
   by_cases c3 : ((R.l.length : Nat) : Int) ≤ 40
   ·rw [if_pos c3]
    obtain ⟨m, rfl, hm⟩ := q1 (by omega)
    have hw : w64 ((40 : Int) * 40) = 1600 := by decide
    rw [hw]
    by_cases c4 : (m : Int) ≤ 1600
    ·rw [if_pos c4]
     exact ⟨_, rfl, fun _ => ⟨by omega, by omega, by omega, fun i hi => by have := hm i hi; omega⟩⟩
    ·rw [if_neg c4]; exact ⟨_, rfl, fun h => by cases h⟩
   ·rw [if_neg c3]; exact ⟨_, rfl, fun h => by cases h⟩
  ·rw [if_neg c2]; exact ⟨_, rfl, fun h => by cases h⟩
 ·rw [if_neg c1]; exact ⟨_, rfl, fun h => by cases h⟩
def RowOK (m : Nat) (y : NL) : Prop := ∀ k ∈ y.l, 1 ≤ k ∧ k < (m : Int)
theorem row_ok {n m : Nat} {X : WX} {Y : WY} {R y : NL} {a b : Int} (hm : m ≤ 1000) (hy : y.l.length ≤ 10000) (hn : 20000 < n) : ∃ r, m_nfaCheckq1_2 n X Y R (m : Int) a b y ((y.l.length : Nat) : Int) (1, 0) = some r ∧ (r = .inr () → RowOK m y) := by
 obtain ⟨r, q1, q2⟩ := hoare (B := B_nfaCheckq1_2 n X Y R (m : Int) a b y ((y.l.length : Nat) : Int)) (σ := Int) (fun s t => (s, t)) (fun t s => 1 ≤ s ∧ ∀ i, i < t → 1 ≤ y.l.getD i 0 ∧ y.l.getD i 0 < (m : Int)) (fun r => r = .inr () → ∀ i, i < y.l.length → 1 ≤ y.l.getD i 0 ∧ y.l.getD i 0 < (m : Int)) y.l.length
  (fun t s ht hI => by
   obtain ⟨h1, h2⟩ := hI
   unfold B_nfaCheckq1_2
   dsimp only
   rw [if_pos (by omega), if_pos (by omega), if_pos (by rw [Int.toNat_natCast]; exact ht), Int.toNat_natCast]
   simp only [Option.bind_some]
   by_cases c1 : y.l.getD t 0 < s
   ·rw [if_pos c1]; exact .inr ⟨_, (fun h => by cases h), rfl⟩
   ·by_cases c2 : y.l.getD t 0 ≥ (m : Int)
    ·rw [if_neg c1, if_pos c2]; exact .inr ⟨_, (fun h => by cases h), rfl⟩
    ·rw [if_neg c1, if_neg c2]
     refine .inl ⟨y.l.getD t 0 + 1, ⟨by omega, fun i hi => ?_⟩, by rw [w64_inc (by omega), w64_sm (by omega) (by omega)]⟩
     by_cases e : i = t
     ·rw [e]; omega
     ·exact h2 i (by omega))
  (fun s hI => ⟨.inr (), fun _ => hI.2, by
   unfold B_nfaCheckq1_2
   dsimp only
   rw [if_neg (by omega)]⟩) n 0 1 (Nat.zero_le _) ⟨by omega, fun i hi => by omega⟩ (by omega)
 refine ⟨r, q2, fun h k hk => ?_⟩
 obtain ⟨i, hi, rfl⟩ := mem_getD 0 hk
 exact q1 h i hi
theorem check_ok {n : Nat} {X : WX} {Y : WY} {R : NL} (hX : X.l.length ≤ 1000) (hf : ∀ s, s < Y.l.length → (nxt Y s).l.length ≤ 10000) (hn : 20000 < n) : ∃ c, m_nfaCheckq1 n X Y R = some c ∧ (c = 0 → NV X Y R) := by
 unfold m_nfaCheckq1
 by_cases c1 : ((X.l.length : Nat) : Int) < 1
 ·rw [if_pos c1]; exact ⟨_, rfl, fun h => by cases h⟩
 rw [if_neg c1, if_neg (by omega)]
 by_cases c2 : ((Y.l.length : Nat) : Int) = ((X.l.length : Nat) : Int)
 ·rw [if_pos c2]
  by_cases c3 : ((R.l.length : Nat) : Int) = ((X.l.length : Nat) : Int)
  ·rw [if_pos c3, if_pos (by omega)]
   simp only [Option.bind_some]
   split
   ·exact ⟨_, rfl, fun h => by cases h⟩
   ·obtain ⟨r, q1, q2⟩ := hoare (B := B_nfaCheckq1_1 n X Y R ((X.l.length : Nat) : Int) ((Y.l.length : Nat) : Int)) (σ := Unit) (fun _ t => t) (fun t _ => ∀ s, s < t → RowOK X.l.length (nxt Y s)) (fun r => r = .inr () → ∀ s, s < Y.l.length → RowOK X.l.length (nxt Y s)) Y.l.length
     (fun t s ht hI => by
      unfold B_nfaCheckq1_1
      dsimp only
      rw [if_pos (by omega), if_pos (by omega), Int.toNat_natCast]
      simp only [Option.bind_some]
      rw [if_pos (by omega), if_pos (by omega)]
      split
      ·exact .inr ⟨_, (fun h => by cases h), rfl⟩
      ·split
       ·exact .inr ⟨_, (fun h => by cases h), rfl⟩
       ·obtain ⟨r, h1, h2⟩ := row_ok (n := n) (m := X.l.length) (X := X) (Y := Y) (R := R) (y := nxt Y t) (a := ((Y.l.length : Nat) : Int)) (b := (t : Int)) hX (hf t ht) hn
        have e : Y.l.getD t nl0 = nxt Y t := rfl
        rw [e, h1]
        rcases r with r | r
        ·exact .inr ⟨_, (fun h => by cases h), rfl⟩
        ·refine .inl ⟨(), fun i hi => ?_, by simp only []; rw [w64_inc (by omega)]⟩
         by_cases e : i = t
         ·rw [e]; exact h2 rfl
         ·exact hI i (by omega))
     (fun s hI => ⟨.inr (), fun _ => hI, by
      unfold B_nfaCheckq1_1
      dsimp only
      rw [if_neg (by omega)]⟩) n 0 () (Nat.zero_le _) (fun i hi => by omega) (by omega)
    have hrun : m_nfaCheckq1_1 n X Y R ((X.l.length : Nat) : Int) ((Y.l.length : Nat) : Int) 0 = some r := q2
    rw [hrun]
    rcases r with r | r
    ·exact ⟨2, rfl, fun h => by cases h⟩
    ·exact ⟨0, rfl, fun _ => ⟨by omega, hX, by omega, by omega, fun s hs => q1 rfl s hs, hf⟩⟩
  ·rw [if_neg c3]; exact ⟨_, rfl, fun h => by cases h⟩
 ·rw [if_neg c2]; exact ⟨_, rfl, fun h => by cases h⟩
/-! texts -/
def word (s : ByteArray) : List Nat := s.data.toList.map UInt8.toNat
theorem word_len (s : ByteArray) : (word s).length = s.size := by
 unfold word
 rw [List.length_map, Array.length_toList]
 rfl
theorem word_at {s : ByteArray} {i : Nat} (h : i < s.size) : byteAt s i = (((word s).getD i 0 : Nat) : Int) := by
 unfold byteAt word
 have h2 : i < s.data.toList.length := by rw [Array.length_toList]; exact h
 rw [List.getD_eq_getElem?_getD, List.getElem?_map, List.getElem?_eq_getElem h2]
 simp only [Option.map_some, Option.getD_some]
 rw [Array.getD_eq_getD_getElem?, ← Array.getElem?_toList, List.getElem?_eq_getElem h2]
 rfl
theorem word_lt (s : ByteArray) (i : Nat) : (word s).getD i 0 < 256 := by
 unfold word
 rw [List.getD_eq_getElem?_getD, List.getElem?_map]
 cases s.data.toList[i]? with
 | none => simp
 | some b => simpa using b.toNat_lt
theorem word_take (s : ByteArray) (i : Nat) : word (ByteArray.extract s 0 i) = (word s).take i := by
 unfold word
 rw [ByteArray.data_extract, Array.toList_extract, List.extract_eq_take_drop, List.drop_zero, Nat.sub_zero, List.map_take]
theorem word_app (s t : ByteArray) : word (s ++ t) = word s ++ word t := by
 unfold word
 rw [ByteArray.data_append, Array.toList_append, List.map_append]
theorem take_size (s : ByteArray) (i : Nat) : (ByteArray.extract s 0 i).size ≤ s.size := by
 rw [ByteArray.size_extract]; omega
def runL (X : WX) (Y : WY) (w : List Nat) : List Int := w.foldl (fun l b => (stN X Y b l).l) [0]
theorem stN_nil (X : WX) (Y : WY) (b : Nat) : (stN X Y b []).l = [] := by
 have h : mKeys (stM X Y b []) = [] := rfl
 unfold stN srtd
 rw [if_pos h]
 rfl
theorem run_nil {X : WX} {Y : WY} : ∀ w : List Nat, w.foldl (fun l b => (stN X Y b l).l) [] = []
 | [] => rfl
 | b :: w => by rw [List.foldl_cons, stN_nil]; exact run_nil w
theorem runL_snoc {X : WX} {Y : WY} {w : List Nat} {b : Nat} : runL X Y (w ++ [b]) = (stN X Y b (runL X Y w)).l := by unfold runL; rw [List.foldl_append]; rfl
theorem runL_take {X : WX} {Y : WY} {w : List Nat} {i : Nat} (h : i < w.length) : runL X Y (w.take (i + 1)) = (stN X Y (w.getD i 0) (runL X Y (w.take i))).l := by
 rw [List.take_add_one, List.getElem?_eq_getElem h, ← runL_snoc]
 simp [List.getD_eq_getElem?_getD, h]
theorem runL_len {X : WX} {Y : WY} {R : NL} (v : NV X Y R) (w : List Nat) : (runL X Y w).length ≤ 1000 := by
 rcases List.eq_nil_or_concat w with rfl | ⟨u, b, rfl⟩
 ·show 1 ≤ 1000; omega
 ·rw [List.concat_eq_append, runL_snoc]; exact (stN_len v b _).2
section
variable {n : Nat} {X : WX} {Y : WY} {R : NL} (v : NV X Y R) (hc : m_nfaCheckq1 n X Y R = some 0) (hn : 20000 < n)
include v hc hn
theorem run_ok {s : ByteArray} (hs : s.size ≤ 1000) : m_nfaRunq1 n X Y R s = some (rl Y R (runL X Y (word s))) := by
 have hwl := word_len s
 unfold m_nfaRunq1
 rw [hc, Option.bind_some, if_pos rfl]
 by_cases c : (0 : Int) < ((s.size : Nat) : Int)
 ·rw [if_pos c, if_pos (by omega), word_at (show ((0 : Int)).toNat < s.size by omega)]
  have hb := word_lt s 0
  have h1 := step1_ok v hb hn (x := [0]) (by simp)
  have e0 : ((0 : Int)).toNat = 0 := rfl
  rw [e0, h1, Option.bind_some]
  obtain ⟨r, q1, q2⟩ := hoare (B := B_nfaRunq1_1 n s X Y R) (σ := NL) (fun x i => (x, i)) (fun t x => 1 ≤ t ∧ x.l = runL X Y ((word s).take t)) (fun x => x.l = runL X Y (word s)) s.size
   (fun t x ht hI => by
    obtain ⟨h0, hx⟩ := hI
    have hxl := runL_len v ((word s).take t)
    unfold B_nfaRunq1_1
    dsimp only
    rw [if_pos (by omega)]
    by_cases c : ((x.l.length : Nat) : Int) > 0
    ·rw [if_pos c, if_pos (by omega), Int.toNat_natCast, word_at ht, step2_ok v (word_lt s t) hn (by rw [hx]; omega), Option.bind_some, w64_inc (by omega)]
     refine .inl ⟨_, ⟨by omega, ?_⟩, rfl⟩
     rw [hx, runL_take (by omega)]
    ·rw [if_neg c]
     refine .inr ⟨x, ?_, rfl⟩
     have hx0 : x.l = [] := List.length_eq_zero_iff.1 (by omega)
     have : runL X Y (word s) = ((word s).drop t).foldl (fun l b => (stN X Y b l).l) (runL X Y ((word s).take t)) := by
      unfold runL
      rw [← List.foldl_append, List.take_append_drop]
     rw [this, ← hx, hx0, run_nil])
   (fun x hI => ⟨x, by rw [hI.2, List.take_of_length_le (by omega)], by
    unfold B_nfaRunq1_1
    dsimp only
    rw [if_neg (by omega)]⟩) n 1 (stN X Y ((word s).getD 0 0) [0]) (by omega) ⟨Nat.le_refl _, by rw [runL_take (by omega)]; rfl⟩ (by omega)
  have hrun : m_nfaRunq1_1 n s X Y R (stN X Y ((word s).getD 0 0) [0], 1) = some r := q2
  have hrl := runL_len v (word s)
  rw [hrun, Option.bind_some, rule1_ok v hn (by rw [q1]; omega), q1]
  rfl
 ·rw [if_neg c, rule2_ok v hn (by simp)]
  have : word s = [] := List.length_eq_zero_iff.1 (by omega)
  rw [this]
  rfl
theorem Rule1_ok {x : List Int} (hx : x.length ≤ 10000) : m_nfaRuleq1 n X Y R x = some (rl Y R x) := by
 unfold m_nfaRuleq1
 rw [hc, Option.bind_some, if_pos rfl, rule2_ok v hn hx]; rfl
theorem Rule2_ok {x : NL} (hx : x.l.length ≤ 10000) : m_nfaRuleq2 n X Y R x = some (rl Y R x.l) := by
 unfold m_nfaRuleq2
 rw [hc, Option.bind_some, if_pos rfl, rule1_ok v hn hx]; rfl
theorem Step1_ok {b : Nat} (hb : b < 256) {x : List Int} (hx : x.length ≤ 10000) : m_nfaStepq1 n X Y R x (b : Int) = some (stN X Y b x) := by
 unfold m_nfaStepq1
 rw [hc, Option.bind_some, if_pos rfl, step1_ok v hb hn hx]; rfl
theorem Step2_ok {b : Nat} (hb : b < 256) {x : NL} (hx : x.l.length ≤ 10000) : m_nfaStepq2 n X Y R x (b : Int) = some (stN X Y b x.l) := by
 unfold m_nfaStepq2
 rw [hc, Option.bind_some, if_pos rfl, step2_ok v hb hn hx]; rfl
end


section
variable {n : Nat} {X : WX} {Y : WY} {R : NL} (v : NV X Y R) (hc : m_nfaCheckq1 n X Y R = some 0) (hn : 20000 < n) {s : ByteArray} (hs : s.size ≤ 40)
include v hc hn hs
theorem t5_ok (h0 : 0 < s.size) : m_viewportlaw03NfaGoest5 n s X Y R () = some (stN X Y ((word s).getD 0 0) [0]) := by
 unfold m_viewportlaw03NfaGoest5 m_viewportlaw03NfaGoest6
 have e0 : ((0 : Int)).toNat = 0 := rfl
 have hr := run_ok v hc hn (s := ByteArray.extract s 0 0) (by have := take_size s 0; omega)
 rw [word_take, List.take_zero, show runL X Y [] = [0] from rfl] at hr
 rw [if_pos (by omega), e0, hr, Option.bind_some, Rule1_ok v hc hn (by simp), Option.bind_some, if_pos rfl, if_neg (by decide), Option.bind_some, if_pos (by omega), word_at h0, Step1_ok v hc hn (word_lt s 0) (by simp)]
 rfl
theorem t8_ok {i : Nat} {x : NL} (hi : i < s.size) (hx : x.l = runL X Y ((word s).take i)) : m_viewportlaw03NfaGoest8 n s X Y R x (i : Int) () = some (stN X Y ((word s).getD i 0) x.l) := by
 unfold m_viewportlaw03NfaGoest8 m_viewportlaw03NfaGoest9
 have hr := run_ok v hc hn (s := ByteArray.extract s 0 i) (by have := take_size s i; omega)
 have hl := runL_len v ((word s).take i)
 rw [word_take, ← hx] at hr
 rw [if_pos (by omega), Int.toNat_natCast, hr, Option.bind_some, Rule2_ok v hc hn (by rw [hx]; omega), Option.bind_some, if_pos rfl, if_neg (by decide), Option.bind_some, if_pos (by omega), word_at hi, Step2_ok v hc hn (word_lt s i) (by rw [hx]; omega)]
 rfl
theorem loop7 (h0 : 0 < s.size) : ∃ x, m_viewportlaw03NfaGoes_7 n s X Y R (stN X Y ((word s).getD 0 0) [0], 1) = some x ∧ x.l = runL X Y (word s) := by
 have hwl := word_len s
 obtain ⟨r, q1, q2⟩ := hoare (B := B_viewportlaw03NfaGoes_7 n s X Y R) (σ := NL) (fun x i => (x, i)) (fun t x => x.l = runL X Y ((word s).take t)) (fun x => x.l = runL X Y (word s)) s.size
  (fun t x ht hx => by
   unfold B_viewportlaw03NfaGoes_7
   dsimp only
   rw [if_pos (by omega), t8_ok v hc hn hs ht hx, Option.bind_some, w64_inc (by omega)]
   exact .inl ⟨_, by rw [hx, runL_take (by omega)], rfl⟩)
  (fun x hI => ⟨x, by rw [hI, List.take_of_length_le (by omega)], by
   unfold B_viewportlaw03NfaGoes_7
   dsimp only
   rw [if_neg (by omega)]⟩) n 1 (stN X Y ((word s).getD 0 0) [0]) (by omega) (by rw [runL_take (by omega)]; rfl) (by omega)
 exact ⟨r, q2, q1⟩
theorem t10_ok {x : NL} (hx : x.l = runL X Y (word s)) : m_viewportlaw03NfaGoest10 n s X Y R x () = some () := by
 have hl := runL_len v (word s)
 unfold m_viewportlaw03NfaGoest10
 rw [run_ok v hc hn (by omega), Option.bind_some, Rule2_ok v hc hn (by rw [hx]; omega), Option.bind_some, hx, if_pos rfl]
 by_cases c : (((runL X Y (word s)).length : Nat) : Int) > 0
 ·rw [if_pos c]
 ·have he : runL X Y (word s) = [] := List.length_eq_zero_iff.1 (by omega)
  have hsz : (ByteArray.mk #[97]).size = 1 := rfl
  have hz : (s ++ ByteArray.mk #[97]).size = s.size + 1 := by
   rw [← word_len, word_app, List.length_append, word_len]; rfl
  have hr := run_ok v hc hn (s := s ++ ByteArray.mk #[97]) (by omega)
  have hw : word (ByteArray.mk #[97]) = [97] := rfl
  rw [word_app, hw, runL_snoc, he, stN_nil] at hr
  rw [if_neg c, if_pos (by rw [hsz]; omega), hr, Option.bind_some]
  rfl
end
theorem nfaGoes_true (g02 : NL) (g1 : ByteArray) : ∃ n, m_viewportlaw03NfaGoes n g02 g1 = some () := by
 refine ⟨20001, ?_⟩
 have hn : 20000 < 20001 := by omega
 generalize 20001 = n at hn
 have key : m_viewportlaw03NfaGoest2 n g1 wA wB g02 () = some () := by
  have t3 : m_viewportlaw03NfaGoest3 n g1 wA wB g02 true () = some (.inl ()) := by unfold m_viewportlaw03NfaGoest3; rw [if_pos rfl]
  have t3f : m_viewportlaw03NfaGoest3 n g1 wA wB g02 false () = some (.inr ()) := by unfold m_viewportlaw03NfaGoest3; rw [if_neg (by decide)]
  unfold m_viewportlaw03NfaGoest2
  obtain ⟨f, hf, hl⟩ := lightN (n := n) (X := wA) (Y := wB) (R := g02) (by omega)
  rw [hf, Option.bind_some, t3]
  cases f with
  | false => rw [if_neg (by decide)]
  | true =>
   obtain ⟨l1, l2, l3, l4⟩ := hl rfl
   rw [if_pos rfl]
   by_cases hs : ((g1.size : Nat) : Int) > 40
   ·rw [if_pos hs]
   ·rw [if_neg hs]
    obtain ⟨c, hc, hv⟩ := check_ok (n := n) (X := wA) (Y := wB) (R := g02) (by omega) (fun s h => Nat.le_trans (l4 s h) (by omega)) hn
    rw [hc, Option.bind_some]
    by_cases c0 : c = 0
    ·subst c0
     rw [if_pos rfl, t3f]
     have v := hv rfl
     have h4 : m_viewportlaw03NfaGoest4 n g1 wA wB g02 () = some () := by
      unfold m_viewportlaw03NfaGoest4
      by_cases hz : (0 : Int) < ((g1.size : Nat) : Int)
      ·obtain ⟨x, hx, hxl⟩ := loop7 v hc hn (s := g1) (by omega) (by omega)
       rw [if_pos hz, t5_ok v hc hn (by omega) (by omega), Option.bind_some, hx, Option.bind_some, t10_ok v hc hn (by omega) hxl]
       rfl
      ·have hw : word g1 = [] := List.length_eq_zero_iff.1 (by rw [word_len]; omega)
       rw [if_neg hz]
       unfold m_viewportlaw03NfaGoest11
       rw [run_ok v hc hn (by omega), Option.bind_some, Rule1_ok v hc hn (by simp), Option.bind_some, hw, show runL wA wB [] = [0] from rfl, if_pos rfl]
       rfl
     simp only []
     rw [h4]; rfl
    ·rw [if_neg c0]
 unfold m_viewportlaw03NfaGoes m_viewportlaw03lives m_viewportlaw03NfaGoest1
 rw [Option.bind_some, Option.bind_some, key]
 rfl

end Go.Proofs.Ytkdeabcaijfdfaa.nfg03
