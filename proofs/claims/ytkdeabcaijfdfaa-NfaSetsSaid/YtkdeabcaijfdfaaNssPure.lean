/-
  The pure side. No condition.
-/
import Derived.Test.YtkdeabcaijfdfaaNssTold
import Derived.IntWalk
set_option linter.unusedSimpArgs false
set_option linter.unusedVariables false
set_option linter.unusedSectionVars false
set_option linter.unnecessarySimpa false
noncomputable section
namespace Go.Proofs.Ytkdeabcaijfdfaa.nss03
open Go Go.Proofs.Ytkdeabcaijfdfaa Ax
variable [Args]


theorem w64_id {x : Int} (h1 : -9223372036854775808 ≤ x) (h2 : x < 9223372036854775808) : w64 x = x := IntWalk.i64_in _ (by omega)
theorem w64_sm {x : Int} (h1 : -1000000000000 ≤ x) (h2 : x ≤ 1000000000000) : w64 x = x := w64_id (by omega) (by omega)
theorem w64_inc {i : Nat} (h : i ≤ 1000000000) : w64 ((i : Int) + 1) = ((i + 1 : Nat) : Int) := by rw [w64_sm (by omega) (by omega)]; rfl
/-! loops -/
theorem whileI {st ρ : Type} {B : st → Option (st ⊕ ρ)} (I : st → Prop) (μ : st → Nat) (Q : ρ → Prop) (h : ∀ s, I s → (∃ s', I s' ∧ μ s' < μ s ∧ B s = some (.inl s')) ∨ ∃ r, Q r ∧ B s = some (.inr r)) : ∀ (n : Nat) (s : st), I s → μ s < n → ∃ r, Q r ∧ iterM B n s = some r
 | 0, s, _, hm => absurd hm (Nat.not_lt_zero _)
 | n + 1, s, hi, hm => by
  rcases h s hi with ⟨s', h1, h2, h3⟩ | ⟨r, h1, h2⟩
  ·obtain ⟨r, q1, q2⟩ := whileI I μ Q h n s' h1 (by omega)
   exact ⟨r, q1, by rw [iterM_succ, h3]; exact q2⟩
  ·exact ⟨r, h1, by rw [iterM_succ, h2]; rfl⟩
theorem hoare {σ st ρ : Type} {B : st → Option (st ⊕ ρ)} (S : σ → Int → st) (I : Nat → σ → Prop) (Q : ρ → Prop) (len : Nat)
  (h1 : ∀ (i : Nat) (s : σ), i < len → I i s → (∃ s', I (i + 1) s' ∧ B (S s (i : Int)) = some (.inl (S s' ((i + 1 : Nat) : Int)))) ∨ ∃ r, Q r ∧ B (S s (i : Int)) = some (.inr r))
  (h2 : ∀ s, I len s → ∃ r, Q r ∧ B (S s (len : Int)) = some (.inr r)) : ∀ (n i : Nat) (s : σ), i ≤ len → I i s → len - i < n → ∃ r, Q r ∧ iterM B n (S s (i : Int)) = some r
 | 0, i, s, _, _, hm => absurd hm (Nat.not_lt_zero _)
 | n + 1, i, s, hl, hi, hm => by
  have main : (∃ s', i < len ∧ I (i + 1) s' ∧ B (S s (i : Int)) = some (.inl (S s' ((i + 1 : Nat) : Int)))) ∨ ∃ r, Q r ∧ B (S s (i : Int)) = some (.inr r) := by
   by_cases hlt : i < len
   ·rcases h1 i s hlt hi with ⟨s', a, b⟩ | h
    ·exact .inl ⟨s', hlt, a, b⟩
    ·exact .inr h
   ·obtain rfl : i = len := by omega
    exact .inr (h2 s hi)
  rcases main with ⟨s', g0, g1, g3⟩ | ⟨r, g1, g2⟩
  ·obtain ⟨r, q1, q2⟩ := hoare S I Q len h1 h2 n (i + 1) s' (by omega) g1 (by omega)
   exact ⟨r, q1, by rw [iterM_succ, g3]; exact q2⟩
  ·exact ⟨r, g1, by rw [iterM_succ, g2]; rfl⟩
/-- a search: the first place that is not so ends it -/
theorem scan {β γ : Type} {B : Int → Option (Int ⊕ (β ⊕ γ))} (len : Nat) (p : Nat → Bool) (a : β) (c : γ)
  (h1 : ∀ i : Nat, i < len → B (i : Int) = some (if p i = true then .inl ((i + 1 : Nat) : Int) else .inr (.inl a))) (h2 : B (len : Int) = some (.inr (.inr c))) (n : Nat) (hn : len < n) :
  iterM B n 0 = some (if (List.range len).all p = true then .inr c else .inl a) := by
 obtain ⟨r, q1, q2⟩ := hoare (B := B) (σ := Unit) (fun _ i => i) (fun i _ => ∀ j, j < i → p j = true) (fun r => r = if (List.range len).all p = true then .inr c else .inl a) len
  (fun i s hi hI => by
   by_cases hp : p i = true
   ·refine .inl ⟨(), fun j hj => ?_, by rw [h1 i hi, if_pos hp]⟩
    rcases Nat.lt_or_ge j i with h | h
    ·exact hI j h
    ·obtain rfl : j = i := by omega
     exact hp
   ·refine .inr ⟨.inl a, ?_, by rw [h1 i hi, if_neg hp]⟩
    rw [if_neg]
    intro hall
    exact hp (List.all_eq_true.1 hall i (List.mem_range.2 hi)))
  (fun s hI => ⟨.inr c, by rw [if_pos (List.all_eq_true.2 fun j hj => hI j (List.mem_range.1 hj))], h2⟩) n 0 () (Nat.zero_le _) (fun j hj => absurd hj (Nat.not_lt_zero _)) (by omega)
 rw [show (0 : Int) = ((0 : Nat) : Int) from rfl, q2, q1]
theorem all_range {α : Type} {l : List α} {d : α} {p : α → Bool} : (List.range l.length).all (fun i => p (l.getD i d)) = l.all p := by
 rw [Bool.eq_iff_iff, List.all_eq_true, List.all_eq_true]
 constructor
 ·intro h x hx
  obtain ⟨i, hi, rfl⟩ := List.mem_iff_getElem.1 hx
  have := h i (List.mem_range.2 hi)
  simpa [List.getD_eq_getElem?_getD, hi] using this
 ·intro h i hi
  have hi := List.mem_range.1 hi
  have := h l[i] (List.getElem_mem hi)
  simpa [List.getD_eq_getElem?_getD, hi] using this
theorem getD_mem {α : Type} {l : List α} {i : Nat} {d : α} (h : i < l.length) : l.getD i d ∈ l := by
 rw [List.getD_eq_getElem?_getD, List.getElem?_eq_getElem h]; exact List.getElem_mem h
theorem mem_getD {α : Type} {l : List α} {x : α} (d : α) (h : x ∈ l) : ∃ i, i < l.length ∧ l.getD i d = x := by
 obtain ⟨i, hi, rfl⟩ := List.mem_iff_getElem.1 h
 exact ⟨i, hi, by simp [List.getD_eq_getElem?_getD, hi]⟩
theorem getD_set {α : Type} {l : List α} {i j : Nat} {x d : α} (h : i < l.length) : (l.set i x).getD j d = if j = i then x else l.getD j d := by
 simp only [List.getD_eq_getElem?_getD, List.getElem?_set]
 by_cases hj : i = j
 ·subst hj; simp [h]
 ·rw [if_neg hj, if_neg (Ne.symm hj)]
theorem count_set_lt {L : List Bool} {i : Nat} (h : i < L.length) (hf : ¬ L.getD i false = true) : (L.set i true).count false < L.count false := by
 have h0 : L[i] = false := by simpa [List.getD_eq_getElem?_getD, h] using hf
 have hc := List.count_set (l := L) (a := true) (b := false) (i := i) h
 have hp : 0 < L.count false := List.count_pos_iff.2 (h0 ▸ List.getElem_mem h)
 rw [h0] at hc
 simp at hc
 omega


/-! loops that fill a list, or append to it -/
theorem snoc_range {β : Type} {i : Nat} {F : Nat → β} : (List.range (i + 1)).map F = (List.range i).map F ++ [F i] := by
 rw [List.range_succ, List.map_append]; rfl
theorem appLoop {α β : Type} {B : List α × Int → Option ((List α × Int) ⊕ List α)} (v : α → β) (F : Nat → β) (len C : Nat)
  (h1 : ∀ (i : Nat) (acc : List α), i < len → acc.length ≤ C + i → ∃ r, v r = F i ∧ B (acc, (i : Int)) = some (.inl (acc ++ [r], ((i + 1 : Nat) : Int))))
  (h2 : ∀ acc, B (acc, (len : Int)) = some (.inr acc)) (n : Nat) (acc0 : List α) (h0 : acc0.length ≤ C) (hn : len < n) :
  ∃ M, iterM B n (acc0, 0) = some (acc0 ++ M) ∧ M.map v = (List.range len).map F := by
 obtain ⟨r, q1, q2⟩ := hoare (B := B) (σ := List α) (fun L i => (L, i)) (fun i L => ∃ M, L = acc0 ++ M ∧ M.map v = (List.range i).map F) (fun r => ∃ M, r = acc0 ++ M ∧ M.map v = (List.range len).map F) len
  (fun i L hi hI => by
   obtain ⟨M, rfl, hM⟩ := hI
   have hl : M.length = i := by simpa using congrArg List.length hM
   obtain ⟨r, g1, g2⟩ := h1 i (acc0 ++ M) hi (by rw [List.length_append]; omega)
   refine .inl ⟨_, ⟨M ++ [r], by rw [List.append_assoc], ?_⟩, g2⟩
   rw [List.map_append, hM, snoc_range, ← g1]; rfl)
  (fun L hI => ⟨L, hI, h2 L⟩) n 0 acc0 (Nat.zero_le _) ⟨[], by simp, rfl⟩ (by omega)
 obtain ⟨M, rfl, hM⟩ := q1
 exact ⟨M, q2, hM⟩
theorem ext_getD {α : Type} {d : α} {L M : List α} (hl : L.length = M.length) (h : ∀ j, j < M.length → L.getD j d = M.getD j d) : L = M := by
 apply List.ext_getElem hl
 intro j h1 h2
 have := h j h2
 simpa [List.getD_eq_getElem?_getD, h1, h2] using this
theorem range_getD {β : Type} {F : Nat → β} {d : β} {len j : Nat} (h : j < len) : ((List.range len).map F).getD j d = F j := by
 simp [List.getD_eq_getElem?_getD, h]
theorem range_map {α β : Type} {f : α → β} {d : α} {l : List α} : (List.range l.length).map (fun j => f (l.getD j d)) = l.map f := by
 apply List.ext_getElem (by simp)
 intro j h1 h2
 have hj : j < l.length := by simpa using h2
 simp [List.getD_eq_getElem?_getD, hj]
theorem fillLoop {α : Type} {B : List α × Int → Option ((List α × Int) ⊕ List α)} (d : α) (F : Nat → α) (len : Nat)
  (h1 : ∀ (i : Nat) (L : List α), i < len → L.length = len → B (L, (i : Int)) = some (.inl (L.set i (F i), ((i + 1 : Nat) : Int))))
  (h2 : ∀ L, B (L, (len : Int)) = some (.inr L)) (n : Nat) (L0 : List α) (h0 : L0.length = len) (hn : len < n) :
  iterM B n (L0, 0) = some ((List.range len).map F) := by
 obtain ⟨r, rfl, q2⟩ := hoare (B := B) (σ := List α) (fun L i => (L, i)) (fun i L => L.length = len ∧ ∀ j, j < i → L.getD j d = F j) (fun r => r = (List.range len).map F) len
  (fun i L hi hI => .inl ⟨_, ⟨by rw [List.length_set, hI.1], fun j hj => by
   rw [getD_set (by rw [hI.1]; exact hi)]
   by_cases e : j = i
   ·rw [if_pos e, e]
   ·rw [if_neg e]; exact hI.2 j (by omega)⟩, h1 i L hi hI.1⟩)
  (fun L hI => ⟨L, ext_getD (d := d) (by simp [hI.1]) fun j hj => by
   have hj : j < len := by simpa using hj
   rw [hI.2 j hj, range_getD hj], h2 L⟩) n 0 L0 (Nat.zero_le _) ⟨h0, fun j hj => absurd hj (Nat.not_lt_zero _)⟩ (by omega)
 exact q2
/-- a loop that adds up -/
theorem foldLoop {σ : Type} {B : σ × Int → Option ((σ × Int) ⊕ σ)} (g : σ → Nat → σ) (len : Nat)
  (h1 : ∀ (i : Nat) (s : σ), i < len → B (s, (i : Int)) = some (.inl (g s i, ((i + 1 : Nat) : Int))))
  (h2 : ∀ s, B (s, (len : Int)) = some (.inr s)) (n : Nat) (s0 : σ) (hn : len < n) :
  iterM B n (s0, 0) = some ((List.range len).foldl g s0) := by
 obtain ⟨r, rfl, q2⟩ := hoare (B := B) (σ := σ) (fun s i => (s, i)) (fun i s => s = (List.range i).foldl g s0) (fun r => r = (List.range len).foldl g s0) len
  (fun i s hi hI => .inl ⟨_, by rw [List.range_succ, List.foldl_append, hI]; rfl, h1 i s hi⟩)
  (fun s hI => ⟨s, hI, h2 s⟩) n 0 s0 (Nat.zero_le _) rfl (by omega)
 exact q2
theorem getD_take {α : Type} {l : List α} {d : α} {i j : Nat} (h : j < i) : (l.take i).getD j d = l.getD j d := by
 simp [List.getD_eq_getElem?_getD, List.getElem?_take, h]
theorem getD_drop {α : Type} {l : List α} {d : α} {i j : Nat} : (l.drop i).getD j d = l.getD (i + j) d := by
 simp [List.getD_eq_getElem?_getD]
/-- rows of parts as they look -/
abbrev V8 := Int × Int × Int × Int × Int × Int × List Int × Int
def vw (r : Int × Int × Int × Int × Int × Int × NL × Int) : V8 := (r.1, r.2.1, r.2.2.1, r.2.2.2.1, r.2.2.2.2.1, r.2.2.2.2.2.1, r.2.2.2.2.2.2.1.l, r.2.2.2.2.2.2.2)
def mvK (f : Int → Int) (r : V8) : V8 := (r.1, r.2.1, r.2.2.1, r.2.2.2.1, r.2.2.2.2.1, r.2.2.2.2.2.1, r.2.2.2.2.2.2.1.map f, r.2.2.2.2.2.2.2)


theorem range_foldl {σ α : Type} {d : α} (f : σ → α → σ) (l : List α) (s : σ) : (List.range l.length).foldl (fun s j => f s (l.getD j d)) s = l.foldl f s := by
 have h : (List.range l.length).map (fun j => l.getD j d) = l := by have := range_map (f := id) (d := d) (l := l); simpa using this
 conv => rhs; rw [← h]
 rw [List.foldl_map]
abbrev C4 := Int × Int × Int × Int
def hasC (r : C4) (b : Nat) : Bool := decide (bAnd .u64 (shrV .u64 (([r.1, r.2.1, r.2.2.1, r.2.2.2]).getD (b / 64) 0) ((b % 64 : Nat) : Int)) (1 : Int) = 1)
theorem hasC_ok {n b : Nat} (r : C4) (h : b < 256) : m_classHasq1 n r.1 r.2.1 r.2.2.1 r.2.2.2 (b : Int) = some (hasC r b) := by
 unfold m_classHasq1 hasC
 have hq : IntKind.u8.wrap (Int.tdiv (b : Int) (64 : Int)) = ((b / 64 : Nat) : Int) := by
  rw [show Int.tdiv (b : Int) (64 : Int) = ((b / 64 : Nat) : Int) from rfl]
  simp [IntKind.wrap, IntKind.bits, IntKind.signed]
  omega
 rw [if_pos (by decide), hq, show Int.tmod (b : Int) (64 : Int) = ((b % 64 : Nat) : Int) from rfl]
 have h4 : b / 64 < 4 := by omega
 rw [if_pos (by omega), if_pos (by rw [Int.toNat_natCast]; exact h4), Option.bind_some, if_pos (by omega), Option.bind_some, Int.toNat_natCast]
 split
 ·rename_i h; rw [decide_eq_true h]
 ·rename_i h; rw [decide_eq_false h]
/-! keys, sorted -/
theorem insK_mem {x y : Int} : ∀ {l : List Int}, y ∈ insK x l ↔ y = x ∨ y ∈ l
 | [] => by simp [insK]
 | z :: l => by
  unfold insK
  split
  ·simp
  ·rw [List.mem_cons, insK_mem, List.mem_cons]
   constructor
   ·rintro (h | h | h)
    ·exact .inr (.inl h)
    ·exact .inl h
    ·exact .inr (.inr h)
   ·rintro (h | h | h)
    ·exact .inr (.inl h)
    ·exact .inl h
    ·exact .inr (.inr h)
theorem srtK_mem {y : Int} : ∀ {l : List Int}, y ∈ srtK l ↔ y ∈ l
 | [] => Iff.rfl
 | x :: l => by
  unfold srtK
  rw [insK_mem, srtK_mem, List.mem_cons]
theorem insK_len {x : Int} : ∀ {l : List Int}, (insK x l).length = l.length + 1
 | [] => rfl
 | z :: l => by
  unfold insK
  split
  ·rfl
  ·rw [List.length_cons, insK_len, List.length_cons]
theorem srtK_len : ∀ {l : List Int}, (srtK l).length = l.length
 | [] => rfl
 | x :: l => by
  unfold srtK
  rw [insK_len, srtK_len, List.length_cons]
abbrev MS := MapI Unit
def ks (M : MS) : List Int := M.l.map Prod.fst
theorem keys_mem {M : MS} {k : Int} : k ∈ mKeys M ↔ k ∈ ks M := srtK_mem
theorem keys_len {M : MS} : (mKeys M).length = mLen M := by unfold mKeys mLen; rw [srtK_len, List.length_map]
def InK (m : Nat) (M : MS) : Prop := ∀ k ∈ ks M, 1 ≤ k ∧ k < (m : Int)
theorem nodup_nat : ∀ {l : List Int}, l.Nodup → (∀ k ∈ l, (0 : Int) ≤ k) → (l.map Int.toNat).Nodup
 | [], _, _ => .nil
 | x :: l, h, hk => by
  rw [List.nodup_cons] at h
  rw [List.map_cons, List.nodup_cons]
  refine ⟨fun hm => ?_, nodup_nat h.2 fun k hm => hk k (List.mem_cons_of_mem _ hm)⟩
  obtain ⟨y, hy, e⟩ := List.mem_map.1 hm
  have h1 := hk x (List.mem_cons_self ..)
  have h2 := hk y (List.mem_cons_of_mem _ hy)
  have : y = x := by omega
  exact h.1 (this ▸ hy)
theorem InK.len {m : Nat} {M : MS} (h : InK m M) : mLen M ≤ m := by
 have hn := nodup_nat M.nd fun k hk => by have := h k hk; omega
 have hs : (M.l.map Prod.fst).map Int.toNat ⊆ List.range m := fun x hx => by
  obtain ⟨k, hk, rfl⟩ := List.mem_map.1 hx
  have := h k hk
  exact List.mem_range.2 (by omega)
 have := List.Nodup.length_le_of_subset hn hs
 rw [List.length_map, List.length_map, List.length_range] at this
 exact this
theorem InK.wf {m : Nat} {M : MS} (hm : m ≤ 1000000) (h : InK m M) : mWf M = true := by
 unfold mWf
 refine List.all_eq_true.2 fun x hx => decide_eq_true ?_
 have := h x hx
 omega
theorem InK.nil (m : Nat) : InK m mNil := fun k hk => by cases hk
theorem InK.put {m : Nat} {M : MS} (h : InK m M) {k : Int} (h1 : 1 ≤ k) (h2 : k < (m : Int)) : InK m (mPut M k ()) := fun x hx => by
 rcases mputL_mem hx with rfl | hx
 ·exact ⟨h1, h2⟩
 ·exact h x hx
open Classical in
/-- the sorted keys, laid down -/
def srtd (M : MS) : NL := if mKeys M = [] then nl0 else if hc : (mKeys M).length ≤ 140737488355328 then frzL (mKeys M) hc else nl0
theorem srtd_l {M : MS} (h : mLen M ≤ 1000000) : (srtd M).l = mKeys M := by
 unfold srtd
 split
 ·rename_i h; rw [h]; rfl
 ·rw [dif_pos (by rw [keys_len]; omega)]; rfl
theorem sorted_ok {n m : Nat} {M : MS} (hm : m ≤ 1000000) (h : InK m M) : m_nfasetsortedq1 n M = some (srtd M) := by
 have hl := h.len
 unfold m_nfasetsortedq1 m_mapsKeysnfasetintstructu m_slicesSortedintu srtd
 rw [Option.bind_some, if_pos (h.wf hm), if_pos (by omega)]
 cases hk : mKeys M with
 | nil => rw [if_pos rfl]
 | cons a t =>
  have hlen : (a :: t).length ≤ 140737488355328 := by rw [← hk, keys_len]; omega
  rw [if_neg (by simp)]
  simp only []
  rw [dif_pos hlen, dif_pos hlen]
/-! automata -/
abbrev WX := WL rw_uuuu
abbrev WY := WL rw_L
def nxt (Y : WY) (s : Nat) : NL := Y.l.getD s nl0
structure NV (X : WX) (Y : WY) (R : NL) : Prop where
 one : 1 ≤ X.l.length
 most : X.l.length ≤ 1000
 eqY : Y.l.length = X.l.length
 eqR : R.l.length = X.l.length
 nx : ∀ s, s < Y.l.length → ∀ k ∈ (nxt Y s).l, 1 ≤ k ∧ k < (X.l.length : Int)
 few : ∀ s, s < Y.l.length → (nxt Y s).l.length ≤ 10000
def add1 (X : WX) (b : Nat) (M : MS) (k : Int) : MS := if hasC (X.l.getD k.toNat (0, 0, 0, 0)) b = true then mPut M k () else M
def stp1 (X : WX) (Y : WY) (b : Nat) (M : MS) (s : Int) : MS := if s < 0 ∨ s ≥ (Y.l.length : Int) then M else (nxt Y s.toNat).l.foldl (add1 X b) M
def stM (X : WX) (Y : WY) (b : Nat) (l : List Int) : MS := l.foldl (stp1 X Y b) mNil
theorem InK.add {X : WX} {b m : Nat} : ∀ {l : List Int} {M : MS}, InK m M → (∀ k ∈ l, 1 ≤ k ∧ k < (m : Int)) → InK m (l.foldl (add1 X b) M)
 | [], M, h, _ => h
 | k :: l, M, h, hk => by
  rw [List.foldl_cons]
  refine InK.add ?_ fun j hj => hk j (List.mem_cons_of_mem _ hj)
  unfold add1
  split
  ·have := hk k (List.mem_cons_self ..)
   exact h.put this.1 this.2
  ·exact h
theorem InK.stp {X : WX} {Y : WY} {R : NL} (v : NV X Y R) {b : Nat} {M : MS} (h : InK X.l.length M) (s : Int) : InK X.l.length (stp1 X Y b M s) := by
 unfold stp1
 split
 ·exact h
 ·rename_i hs
  exact h.add (v.nx s.toNat (by omega))
theorem InK.stps {X : WX} {Y : WY} {R : NL} (v : NV X Y R) {b : Nat} : ∀ {l : List Int} {M : MS}, InK X.l.length M → InK X.l.length (l.foldl (stp1 X Y b) M)
 | [], M, h => h
 | s :: l, M, h => by
  rw [List.foldl_cons]
  exact InK.stps v (h.stp v s)
def stN (X : WX) (Y : WY) (b : Nat) (l : List Int) : NL := srtd (stM X Y b l)
theorem stN_len {X : WX} {Y : WY} {R : NL} (v : NV X Y R) (b : Nat) (l : List Int) : (stN X Y b l).l = mKeys (stM X Y b l) ∧ (stN X Y b l).l.length ≤ 1000 := by
 have h := (InK.stps v (b := b) (l := l) (InK.nil _)).len
 have hm := v.most
 have e := srtd_l (M := stM X Y b l) (by unfold stM; omega)
 refine ⟨e, ?_⟩
 unfold stN
 rw [e, keys_len]
 unfold stM
 omega
def rl1 (Y : WY) (R : NL) (least : Int) (s : Int) : Int := if s < 0 ∨ s ≥ (R.l.length : Int) then least else if R.l.getD s.toNat 0 < 0 then least else if least < 0 then R.l.getD s.toNat 0 else if R.l.getD s.toNat 0 < least then R.l.getD s.toNat 0 else least
def rl (Y : WY) (R : NL) (l : List Int) : Int := l.foldl (rl1 Y R) (-1)
section
variable {n b : Nat} {X : WX} {Y : WY} {R : NL} (v : NV X Y R) (hb : b < 256) (hn : 20000 < n)
include v hb hn
theorem in2_ok {a1 a2 : Int} {z y : NL} (hy : ∀ k ∈ y.l, 1 ≤ k ∧ k < (X.l.length : Int)) (hl : y.l.length ≤ 10000) (M : MS) : m_nfastepq1_2 n (b : Int) X Y R z a1 a2 y ((y.l.length : Nat) : Int) (M, 0) = some (y.l.foldl (add1 X b) M) := by
 rw [← range_foldl (d := 0)]
 refine foldLoop (B := B_nfastepq1_2 n (b : Int) X Y R z a1 a2 y ((y.l.length : Nat) : Int)) (fun M j => add1 X b M (y.l.getD j 0)) y.l.length (fun i s hi => ?_) (fun s => ?_) n M (by omega)
 ·have hk := hy _ (getD_mem (d := 0) hi)
  have hm := v.most
  unfold B_nfastepq1_2 add1
  dsimp only
  rw [if_pos (by omega), if_pos (by omega), if_pos (by rw [Int.toNat_natCast]; exact hi), Int.toNat_natCast]
  simp only [Option.bind_some]
  rw [if_pos (by omega)]
  have h := hasC_ok (n := n) (X.l.getD (y.l.getD i 0).toNat (0, 0, 0, 0)) hb
  rw [h, Option.bind_some, w64_inc (by omega)]
  split <;> rfl
 ·unfold B_nfastepq1_2
  dsimp only
  rw [if_neg (by omega)]
theorem in1_ok {a0 : List Int} {a1 a2 : Int} {y : NL} (hy : ∀ k ∈ y.l, 1 ≤ k ∧ k < (X.l.length : Int)) (hl : y.l.length ≤ 10000) (M : MS) : m_nfastepq2_2 n a0 (b : Int) X Y R a1 a2 y ((y.l.length : Nat) : Int) (M, 0) = some (y.l.foldl (add1 X b) M) := by
 rw [← range_foldl (d := 0)]
 refine foldLoop (B := B_nfastepq2_2 n a0 (b : Int) X Y R a1 a2 y ((y.l.length : Nat) : Int)) (fun M j => add1 X b M (y.l.getD j 0)) y.l.length (fun i s hi => ?_) (fun s => ?_) n M (by omega)
 ·have hk := hy _ (getD_mem (d := 0) hi)
  have hm := v.most
  unfold B_nfastepq2_2 add1
  dsimp only
  rw [if_pos (by omega), if_pos (by omega), if_pos (by rw [Int.toNat_natCast]; exact hi), Int.toNat_natCast]
  simp only [Option.bind_some]
  rw [if_pos (by omega)]
  have h := hasC_ok (n := n) (X.l.getD (y.l.getD i 0).toNat (0, 0, 0, 0)) hb
  rw [h, Option.bind_some, w64_inc (by omega)]
  split <;> rfl
 ·unfold B_nfastepq2_2
  dsimp only
  rw [if_neg (by omega)]
theorem step2_ok {x : NL} (hx : x.l.length ≤ 10000) : m_nfastepq1 n X Y R x (b : Int) = some (stN X Y b x.l) := by
 have q := foldLoop (B := B_nfastepq1_1 n (b : Int) X Y R x ((x.l.length : Nat) : Int)) (fun M j => stp1 X Y b M (x.l.getD j 0)) x.l.length (fun i s hi => by
  have hm := v.most
  have he := v.eqY
  unfold B_nfastepq1_1 stp1
  dsimp only
  rw [if_pos (by omega), if_pos (by omega), if_pos (by rw [Int.toNat_natCast]; exact hi), Int.toNat_natCast]
  simp only [Option.bind_some]
  rw [w64_inc (by omega)]
  generalize x.l.getD i 0 = k
  by_cases c1 : k < 0
  ·rw [if_pos c1, if_pos (.inl c1)]
  ·by_cases c2 : k ≥ ((Y.l.length : Nat) : Int)
   ·rw [if_neg c1, if_pos c2, if_pos (.inr c2)]
   ·rw [if_neg c1, if_neg c2, if_pos (by omega), if_neg (fun h => h.elim c1 c2)]
    have h := in2_ok v hb hn (a1 := ((x.l.length : Nat) : Int)) (a2 := (i : Int)) (z := x) (y := nxt Y k.toNat) (v.nx _ (by omega)) (v.few _ (by omega)) s
    have e : Y.l.getD k.toNat nl0 = nxt Y k.toNat := rfl
    rw [e, h, Option.bind_some]) (fun s => by
  unfold B_nfastepq1_1
  dsimp only
  rw [if_neg (by omega)]) n mNil (by omega)
 have q : m_nfastepq1_1 n (b : Int) X Y R x ((x.l.length : Nat) : Int) (mNil, 0) = some (stM X Y b x.l) := q.trans (by rw [range_foldl (d := 0)]; rfl)
 unfold m_nfastepq1
 rw [q, Option.bind_some, sorted_ok (M := stM X Y b x.l) (m := X.l.length) (by have := v.most; omega) (InK.stps v (InK.nil _))]
 rfl
theorem step1_ok {x : List Int} (hx : x.length ≤ 10000) : m_nfastepq2 n X Y R x (b : Int) = some (stN X Y b x) := by
 have q := foldLoop (B := B_nfastepq2_1 n x (b : Int) X Y R ((x.length : Nat) : Int)) (fun M j => stp1 X Y b M (x.getD j 0)) x.length (fun i s hi => by
  have hm := v.most
  have he := v.eqY
  unfold B_nfastepq2_1 stp1
  dsimp only
  rw [if_pos (by omega), if_pos (by omega), Int.toNat_natCast]
  simp only [Option.bind_some]
  rw [w64_inc (by omega)]
  generalize x.getD i 0 = k
  by_cases c1 : k < 0
  ·rw [if_pos c1, if_pos (.inl c1)]
  ·by_cases c2 : k ≥ ((Y.l.length : Nat) : Int)
   ·rw [if_neg c1, if_pos c2, if_pos (.inr c2)]
   ·rw [if_neg c1, if_neg c2, if_pos (by omega), if_neg (fun h => h.elim c1 c2)]
    have h := in1_ok v hb hn (a0 := x) (a1 := ((x.length : Nat) : Int)) (a2 := (i : Int)) (y := nxt Y k.toNat) (v.nx _ (by omega)) (v.few _ (by omega)) s
    have e : Y.l.getD k.toNat nl0 = nxt Y k.toNat := rfl
    rw [e, h, Option.bind_some]) (fun s => by
  unfold B_nfastepq2_1
  dsimp only
  rw [if_neg (by omega)]) n mNil (by omega)
 have q : m_nfastepq2_1 n x (b : Int) X Y R ((x.length : Nat) : Int) (mNil, 0) = some (stM X Y b x) := q.trans (by rw [range_foldl (d := 0)]; rfl)
 unfold m_nfastepq2
 rw [q, Option.bind_some, sorted_ok (M := stM X Y b x) (m := X.l.length) (by have := v.most; omega) (InK.stps v (InK.nil _))]
 rfl
theorem step3_ok : m_nfastepq3 n X Y R (b : Int) = some (stN X Y b []) := by
 have q : m_nfastepq3_1 n (b : Int) X Y R () = some () := by
  unfold m_nfastepq3_1
  obtain ⟨k, rfl⟩ : ∃ k, n = k + 1 := ⟨n - 1, by omega⟩
  rw [iterM_succ]
  rfl
 unfold m_nfastepq3
 rw [q, Option.bind_some, sorted_ok (m := X.l.length) (by have := v.most; omega) (InK.nil _)]
 rfl
end
section
variable {n : Nat} {X : WX} {Y : WY} {R : NL} (v : NV X Y R) (hn : 20000 < n)
include v hn
theorem rule1_ok {x : NL} (hx : x.l.length ≤ 10000) : m_nfaruleq1 n X Y R x = some (rl Y R x.l) := by
 have q := foldLoop (B := B_nfaruleq1_1 n X Y R x ((x.l.length : Nat) : Int)) (fun M j => rl1 Y R M (x.l.getD j 0)) x.l.length (fun i s hi => by
  have hm := v.most
  have he := v.eqR
  unfold B_nfaruleq1_1 rl1
  dsimp only
  rw [if_pos (by omega), if_pos (by omega), if_pos (by rw [Int.toNat_natCast]; exact hi), Int.toNat_natCast]
  simp only [Option.bind_some]
  rw [w64_inc (by omega)]
  generalize x.l.getD i 0 = k
  by_cases c1 : k < 0
  ·rw [if_pos c1, if_pos (.inl c1)]
  ·by_cases c2 : k ≥ ((R.l.length : Nat) : Int)
   ·rw [if_neg c1, if_pos c2, if_pos (.inr c2)]
   ·rw [if_neg c1, if_neg c2, if_pos (by omega), if_pos (by omega), if_neg (show ¬ (k < 0 ∨ k ≥ ((R.l.length : Nat) : Int)) from fun h => h.elim c1 c2)]
    generalize R.l.getD k.toNat 0 = r
    by_cases c3 : r < 0
    ·rw [if_pos c3, if_pos c3]
    ·rw [if_neg c3, if_neg c3]
     by_cases c4 : s < 0
     ·rw [if_pos c4, if_pos c4]
     ·rw [if_neg c4, if_neg c4]
      split <;> rfl) (fun s => by
  unfold B_nfaruleq1_1
  dsimp only
  rw [if_neg (by omega)]) n (-1) (by omega)
 have q : m_nfaruleq1_1 n X Y R x ((x.l.length : Nat) : Int) (-1, 0) = some (rl Y R x.l) := q.trans (by rw [range_foldl (d := 0)]; rfl)
 unfold m_nfaruleq1
 rw [q]; rfl
theorem rule2_ok {x : List Int} (hx : x.length ≤ 10000) : m_nfaruleq2 n X Y R x = some (rl Y R x) := by
 have q := foldLoop (B := B_nfaruleq2_1 n x X Y R ((x.length : Nat) : Int)) (fun M j => rl1 Y R M (x.getD j 0)) x.length (fun i s hi => by
  have hm := v.most
  have he := v.eqR
  unfold B_nfaruleq2_1 rl1
  dsimp only
  rw [if_pos (by omega), if_pos (by omega), Int.toNat_natCast]
  simp only [Option.bind_some]
  rw [w64_inc (by omega)]
  generalize x.getD i 0 = k
  by_cases c1 : k < 0
  ·rw [if_pos c1, if_pos (.inl c1)]
  ·by_cases c2 : k ≥ ((R.l.length : Nat) : Int)
   ·rw [if_neg c1, if_pos c2, if_pos (.inr c2)]
   ·rw [if_neg c1, if_neg c2, if_pos (by omega), if_pos (by omega), if_neg (show ¬ (k < 0 ∨ k ≥ ((R.l.length : Nat) : Int)) from fun h => h.elim c1 c2)]
    generalize R.l.getD k.toNat 0 = r
    by_cases c3 : r < 0
    ·rw [if_pos c3, if_pos c3]
    ·rw [if_neg c3, if_neg c3]
     by_cases c4 : s < 0
     ·rw [if_pos c4, if_pos c4]
     ·rw [if_neg c4, if_neg c4]
      split <;> rfl) (fun s => by
  unfold B_nfaruleq2_1
  dsimp only
  rw [if_neg (by omega)]) n (-1) (by omega)
 have q : m_nfaruleq2_1 n x X Y R ((x.length : Nat) : Int) (-1, 0) = some (rl Y R x) := q.trans (by rw [range_foldl (d := 0)]; rfl)
 unfold m_nfaruleq2
 rw [q]; rfl
theorem rule3_ok : m_nfaruleq3 n X Y R = some () := by
 have q : m_nfaruleq3_1 n X Y R () = some () := by
  unfold m_nfaruleq3_1
  obtain ⟨k, rfl⟩ : ∃ k, n = k + 1 := ⟨n - 1, by omega⟩
  rw [iterM_succ]
  rfl
 unfold m_nfaruleq3
 rw [q]; rfl
end


theorem lightN {n : Nat} {X : WX} {Y : WY} {R : NL} (hn : 100 < n) : ∃ f, m_viewportkitLightNfaq1 n X Y R 40 = some f ∧ (f = true → X.l.length ≤ 40 ∧ Y.l.length ≤ 40 ∧ R.l.length ≤ 40 ∧ ∀ s, s < Y.l.length → (nxt Y s).l.length ≤ 1600) := by
 obtain ⟨r, q1, q2⟩ := hoare (B := B_viewportkitLightNfaq1_1 n 40 X Y R) (σ := Int) (fun s t => (s, t)) (fun t s => ∃ m : Nat, s = (m : Int) ∧ m ≤ t * 140737488355328 ∧ ∀ i, i < t → (nxt Y i).l.length ≤ m) (fun r => Y.l.length ≤ 40 → ∃ m : Nat, r = (m : Int) ∧ ∀ i, i < Y.l.length → (nxt Y i).l.length ≤ m) (min Y.l.length 41)
  (fun t s ht hI => by
   obtain ⟨m, rfl, hm, hk⟩ := hI
   unfold B_viewportkitLightNfaq1_1
   simp only []
   have h1 : (t : Int) < ((Y.l.length : Nat) : Int) := by omega
   have hrow : Y.l.getD t nl0 = nxt Y t := rfl
   have hle := (nxt Y t).le
   rw [if_pos h1, if_pos (by omega), if_pos (by omega), Option.bind_some, Option.bind_some, w64_inc (by omega), Int.toNat_natCast, hrow, w64_id (by omega) (by omega)]
   refine .inl ⟨((m + (nxt Y t).l.length : Nat) : Int), ⟨_, rfl, by omega, fun i hi => ?_⟩, by congr 1⟩
   by_cases e : i = t
   ·rw [e]; omega
   ·have := hk i (by omega)
    omega)
  (fun s hI => ⟨s, fun h25 => by
   obtain ⟨m, h1, _, h3⟩ := hI
   exact ⟨m, h1, fun i hi => h3 i (by omega)⟩, by
   unfold B_viewportkitLightNfaq1_1
   simp only []
   by_cases c : ((min Y.l.length 41 : Nat) : Int) < ((Y.l.length : Nat) : Int)
   ·rw [if_pos c, if_neg (by omega)]
   ·rw [if_neg c]⟩) n 0 0 (Nat.zero_le _) ⟨0, rfl, by omega, fun i hi => by omega⟩ (by omega)
 have hrun : m_viewportkitLightNfaq1_1 n 40 X Y R (0, 0) = some r := q2
 unfold m_viewportkitLightNfaq1
 rw [hrun, Option.bind_some]
 by_cases c1 : ((X.l.length : Nat) : Int) ≤ 40
 ·rw [if_pos c1]
  by_cases c2 : ((Y.l.length : Nat) : Int) ≤ 40
  ·rw [if_pos c2]
   by_cases c3 : ((R.l.length : Nat) : Int) ≤ 40
   ·rw [if_pos c3]
    obtain ⟨m, rfl, hm⟩ := q1 (by omega)
    have hw : w64 ((40 : Int) * 40) = 1600 := by decide
    rw [hw]
    by_cases c4 : (m : Int) ≤ 1600
    ·rw [if_pos c4]
     exact ⟨_, rfl, fun _ => ⟨by omega, by omega, by omega, fun i hi => by have := hm i hi; omega⟩⟩
    ·rw [if_neg c4]; exact ⟨_, rfl, fun h => by cases h⟩
   ·rw [if_neg c3]; exact ⟨_, rfl, fun h => by cases h⟩
  ·rw [if_neg c2]; exact ⟨_, rfl, fun h => by cases h⟩
 ·rw [if_neg c1]; exact ⟨_, rfl, fun h => by cases h⟩
def RowOK (m : Nat) (y : NL) : Prop := ∀ k ∈ y.l, 1 ≤ k ∧ k < (m : Int)
theorem row_ok {n m : Nat} {X : WX} {Y : WY} {R y : NL} {a b : Int} (hm : m ≤ 1000) (hy : y.l.length ≤ 10000) (hn : 20000 < n) : ∃ r, m_nfaCheckq1_2 n X Y R (m : Int) a b y ((y.l.length : Nat) : Int) (1, 0) = some r ∧ (r = .inr () → RowOK m y) := by
 obtain ⟨r, q1, q2⟩ := hoare (B := B_nfaCheckq1_2 n X Y R (m : Int) a b y ((y.l.length : Nat) : Int)) (σ := Int) (fun s t => (s, t)) (fun t s => 1 ≤ s ∧ ∀ i, i < t → 1 ≤ y.l.getD i 0 ∧ y.l.getD i 0 < (m : Int)) (fun r => r = .inr () → ∀ i, i < y.l.length → 1 ≤ y.l.getD i 0 ∧ y.l.getD i 0 < (m : Int)) y.l.length
  (fun t s ht hI => by
   obtain ⟨h1, h2⟩ := hI
   unfold B_nfaCheckq1_2
   dsimp only
   rw [if_pos (by omega), if_pos (by omega), if_pos (by rw [Int.toNat_natCast]; exact ht), Int.toNat_natCast]
   simp only [Option.bind_some]
   by_cases c1 : y.l.getD t 0 < s
   ·rw [if_pos c1]; exact .inr ⟨_, (fun h => by cases h), rfl⟩
   ·by_cases c2 : y.l.getD t 0 ≥ (m : Int)
    ·rw [if_neg c1, if_pos c2]; exact .inr ⟨_, (fun h => by cases h), rfl⟩
    ·rw [if_neg c1, if_neg c2]
     refine .inl ⟨y.l.getD t 0 + 1, ⟨by omega, fun i hi => ?_⟩, by rw [w64_inc (by omega), w64_sm (by omega) (by omega)]⟩
     by_cases e : i = t
     ·rw [e]; omega
     ·exact h2 i (by omega))
  (fun s hI => ⟨.inr (), fun _ => hI.2, by
   unfold B_nfaCheckq1_2
   dsimp only
   rw [if_neg (by omega)]⟩) n 0 1 (Nat.zero_le _) ⟨by omega, fun i hi => by omega⟩ (by omega)
 refine ⟨r, q2, fun h k hk => ?_⟩
 obtain ⟨i, hi, rfl⟩ := mem_getD 0 hk
 exact q1 h i hi
theorem check_ok {n : Nat} {X : WX} {Y : WY} {R : NL} (hX : X.l.length ≤ 1000) (hf : ∀ s, s < Y.l.length → (nxt Y s).l.length ≤ 10000) (hn : 20000 < n) : ∃ c, m_nfaCheckq1 n X Y R = some c ∧ (c = 0 → NV X Y R) := by
 unfold m_nfaCheckq1
 by_cases c1 : ((X.l.length : Nat) : Int) < 1
 ·rw [if_pos c1]; exact ⟨_, rfl, fun h => by cases h⟩
 rw [if_neg c1, if_neg (by omega)]
 by_cases c2 : ((Y.l.length : Nat) : Int) = ((X.l.length : Nat) : Int)
 ·rw [if_pos c2]
  by_cases c3 : ((R.l.length : Nat) : Int) = ((X.l.length : Nat) : Int)
  ·rw [if_pos c3, if_pos (by omega)]
   simp only [Option.bind_some]
   split
   ·exact ⟨_, rfl, fun h => by cases h⟩
   ·obtain ⟨r, q1, q2⟩ := hoare (B := B_nfaCheckq1_1 n X Y R ((X.l.length : Nat) : Int) ((Y.l.length : Nat) : Int)) (σ := Unit) (fun _ t => t) (fun t _ => ∀ s, s < t → RowOK X.l.length (nxt Y s)) (fun r => r = .inr () → ∀ s, s < Y.l.length → RowOK X.l.length (nxt Y s)) Y.l.length
     (fun t s ht hI => by
      unfold B_nfaCheckq1_1
      dsimp only
      rw [if_pos (by omega), if_pos (by omega), Int.toNat_natCast]
      simp only [Option.bind_some]
      rw [if_pos (by omega), if_pos (by omega)]
      split
      ·exact .inr ⟨_, (fun h => by cases h), rfl⟩
      ·split
       ·exact .inr ⟨_, (fun h => by cases h), rfl⟩
       ·obtain ⟨r, h1, h2⟩ := row_ok (n := n) (m := X.l.length) (X := X) (Y := Y) (R := R) (y := nxt Y t) (a := ((Y.l.length : Nat) : Int)) (b := (t : Int)) hX (hf t ht) hn
        have e : Y.l.getD t nl0 = nxt Y t := rfl
        rw [e, h1]
        rcases r with r | r
        ·exact .inr ⟨_, (fun h => by cases h), rfl⟩
        ·refine .inl ⟨(), fun i hi => ?_, by simp only []; rw [w64_inc (by omega)]⟩
         by_cases e : i = t
         ·rw [e]; exact h2 rfl
         ·exact hI i (by omega))
     (fun s hI => ⟨.inr (), fun _ => hI, by
      unfold B_nfaCheckq1_1
      dsimp only
      rw [if_neg (by omega)]⟩) n 0 () (Nat.zero_le _) (fun i hi => by omega) (by omega)
    have hrun : m_nfaCheckq1_1 n X Y R ((X.l.length : Nat) : Int) ((Y.l.length : Nat) : Int) 0 = some r := q2
    rw [hrun]
    rcases r with r | r
    ·exact ⟨2, rfl, fun h => by cases h⟩
    ·exact ⟨0, rfl, fun _ => ⟨by omega, hX, by omega, by omega, fun s hs => q1 rfl s hs, hf⟩⟩
  ·rw [if_neg c3]; exact ⟨_, rfl, fun h => by cases h⟩
 ·rw [if_neg c2]; exact ⟨_, rfl, fun h => by cases h⟩
section
variable {n : Nat} {X : WX} {Y : WY} {R : NL} (v : NV X Y R) (hc : m_nfaCheckq1 n X Y R = some 0) (hn : 20000 < n)
include v hc hn
theorem Rule1_ok {x : NL} (hx : x.l.length ≤ 10000) : m_nfaRuleq1 n X Y R x = some (rl Y R x.l) := by
 unfold m_nfaRuleq1
 rw [hc, Option.bind_some, if_pos rfl, rule1_ok v hn hx]; rfl
theorem Rule2_ok {x : List Int} (hx : x.length ≤ 10000) : m_nfaRuleq2 n X Y R x = some (rl Y R x) := by
 unfold m_nfaRuleq2
 rw [hc, Option.bind_some, if_pos rfl, rule2_ok v hn hx]; rfl
theorem Rule3_ok : m_nfaRuleq3 n X Y R = some () := by
 unfold m_nfaRuleq3
 rw [hc, Option.bind_some, if_pos rfl, rule3_ok v hn]; rfl
theorem Step1_ok {b : Nat} (hb : b < 256) {x : NL} (hx : x.l.length ≤ 10000) : m_nfaStepq1 n X Y R x (b : Int) = some (stN X Y b x.l) := by
 unfold m_nfaStepq1
 rw [hc, Option.bind_some, if_pos rfl, step2_ok v hb hn hx]; rfl
theorem Step2_ok {b : Nat} (hb : b < 256) {x : List Int} (hx : x.length ≤ 10000) : m_nfaStepq2 n X Y R x (b : Int) = some (stN X Y b x) := by
 unfold m_nfaStepq2
 rw [hc, Option.bind_some, if_pos rfl, step1_ok v hb hn hx]; rfl
theorem Step3_ok {b : Nat} (hb : b < 256) : m_nfaStepq3 n X Y R (b : Int) = some (stN X Y b []) := by
 unfold m_nfaStepq3
 rw [hc, Option.bind_some, if_pos rfl, step3_ok v hb hn]; rfl
end


/-! what is in a set -/
theorem mputL_in {α : Type} {k x : Int} {v : α} : ∀ {l : List (Int × α)}, x ∈ (mputL k v l).map Prod.fst ↔ x = k ∨ x ∈ l.map Prod.fst
 | [] => by simp [mputL]
 | p :: l => by
  unfold mputL
  split
  ·rename_i e
   simp [e]
  ·rw [List.map_cons, List.mem_cons, mputL_in, List.map_cons, List.mem_cons]
   constructor
   ·rintro (h | h | h)
    ·exact .inr (.inl h)
    ·exact .inl h
    ·exact .inr (.inr h)
   ·rintro (h | h | h)
    ·exact .inr (.inl h)
    ·exact .inl h
    ·exact .inr (.inr h)
def OK1 (X : WX) (b : Nat) (k : Int) : Prop := hasC (X.l.getD k.toNat (0, 0, 0, 0)) b = true
theorem add_in {X : WX} {b : Nat} {x : Int} : ∀ {l : List Int} {M : MS}, x ∈ ks (l.foldl (add1 X b) M) ↔ x ∈ ks M ∨ (x ∈ l ∧ OK1 X b x)
 | [], M => by simp
 | k :: l, M => by
  have h : x ∈ ks (add1 X b M k) ↔ x ∈ ks M ∨ (x = k ∧ OK1 X b x) := by
   unfold add1 OK1
   split
   ·rename_i e
    refine mputL_in.trans ?_
    constructor
    ·rintro (h | h)
     ·exact .inr ⟨h, h ▸ e⟩
     ·exact .inl h
    ·rintro (h | h)
     ·exact .inr h
     ·exact .inl h.1
   ·rename_i e
    constructor
    ·exact .inl
    ·rintro (h | h)
     ·exact h
     ·exact absurd (h.1 ▸ h.2) e
  rw [List.foldl_cons, add_in, h, List.mem_cons]
  constructor
  ·rintro ((h | h) | h)
   ·exact .inl h
   ·exact .inr ⟨.inl h.1, h.2⟩
   ·exact .inr ⟨.inr h.1, h.2⟩
  ·rintro (h | ⟨h | h, h2⟩)
   ·exact .inl (.inl h)
   ·exact .inl (.inr ⟨h, h2⟩)
   ·exact .inr ⟨h, h2⟩
def To (X : WX) (Y : WY) (b : Nat) (s x : Int) : Prop := ¬ (s < 0 ∨ s ≥ (Y.l.length : Int)) ∧ x ∈ (nxt Y s.toNat).l ∧ OK1 X b x
theorem stp_in {X : WX} {Y : WY} {b : Nat} {x : Int} : ∀ {l : List Int} {M : MS}, x ∈ ks (l.foldl (stp1 X Y b) M) ↔ x ∈ ks M ∨ ∃ s ∈ l, To X Y b s x
 | [], M => by simp
 | s :: l, M => by
  have h : x ∈ ks (stp1 X Y b M s) ↔ x ∈ ks M ∨ To X Y b s x := by
   unfold stp1 To
   split
   ·rename_i e
    constructor
    ·exact .inl
    ·rintro (h | h)
     ·exact h
     ·exact absurd e h.1
   ·rename_i e
    rw [add_in]
    constructor
    ·rintro (h | h)
     ·exact .inl h
     ·exact .inr ⟨e, h⟩
    ·rintro (h | h)
     ·exact .inl h
     ·exact .inr h.2
  rw [List.foldl_cons, stp_in, h]
  constructor
  ·rintro ((h | h) | ⟨t, h, h2⟩)
   ·exact .inl h
   ·exact .inr ⟨s, List.mem_cons_self .., h⟩
   ·exact .inr ⟨t, List.mem_cons_of_mem _ h, h2⟩
  ·rintro (h | ⟨t, h, h2⟩)
   ·exact .inl (.inl h)
   ·rcases List.mem_cons.1 h with rfl | h
    ·exact .inl (.inr h2)
    ·exact .inr ⟨t, h, h2⟩
/-! in order -/
theorem insK_lt {x : Int} : ∀ {l : List Int}, l.Pairwise (· < ·) → x ∉ l → (insK x l).Pairwise (· < ·)
 | [], _, _ => by simp [insK]
 | y :: l, h, hx => by
  have h1 := List.pairwise_cons.1 h
  unfold insK
  split
  ·rename_i e
   refine List.pairwise_cons.2 ⟨fun z hz => ?_, h⟩
   rcases List.mem_cons.1 hz with rfl | hz
   ·exact e
   ·have := h1.1 z hz
    omega
  ·rename_i e
   have hne : x ≠ y := fun e => hx (e ▸ List.mem_cons_self ..)
   refine List.pairwise_cons.2 ⟨fun z hz => ?_, insK_lt h1.2 fun h => hx (List.mem_cons_of_mem _ h)⟩
   rcases insK_mem.1 hz with rfl | hz
   ·omega
   ·exact h1.1 z hz
theorem srtK_lt : ∀ {l : List Int}, l.Nodup → (srtK l).Pairwise (· < ·)
 | [], _ => .nil
 | x :: l, h => by
  rw [List.nodup_cons] at h
  unfold srtK
  exact insK_lt (srtK_lt h.2) fun hm => h.1 (srtK_mem.1 hm)
theorem lt_nodup : ∀ {l : List Int}, l.Pairwise (· < ·) → l.Nodup
 | [], _ => .nil
 | x :: l, h => by
  have h := List.pairwise_cons.1 h
  exact List.nodup_cons.2 ⟨fun hm => by have := h.1 x hm; omega, lt_nodup h.2⟩
theorem pair_getD {l : List Int} (h : l.Pairwise (· < ·)) {i j : Nat} (hij : i < j) (hj : j < l.length) : l.getD i 0 < l.getD j 0 := by
 have := List.pairwise_iff_getElem.1 h i j (by omega) hj hij
 simpa [List.getD_eq_getElem?_getD, hj, show i < l.length by omega] using this
structure SN (X : WX) (Y : WY) (b : Nat) (L : List Int) (z : NL) : Prop where
 asc : z.l.Pairwise (· < ·)
 mem : ∀ k, k ∈ z.l ↔ ∃ s ∈ L, To X Y b s k
 len : z.l.length ≤ 1000
 inn : ∀ k ∈ z.l, 1 ≤ k ∧ k < (X.l.length : Int)
theorem stN_SN {X : WX} {Y : WY} {R : NL} (v : NV X Y R) (b : Nat) (L : List Int) : SN X Y b L (stN X Y b L) := by
 obtain ⟨e, hl⟩ := stN_len v b L
 refine ⟨by rw [e]; exact srtK_lt (stM X Y b L).nd, fun k => ?_, hl, fun k hk => ?_⟩
 ·rw [e, keys_mem]
  unfold stM
  rw [stp_in]
  constructor
  ·rintro (h | h)
   ·cases h
   ·exact h
  ·exact .inr
 ·rw [e, keys_mem] at hk
  exact InK.stps v (InK.nil _) k hk
/-! the least rule -/
def comb (p q : Int) : Int := if p < 0 then q else if q ≥ 0 then if q < p then q else p else p
theorem rl1_comb {Y : WY} {R : NL} {p q s : Int} : rl1 Y R (comb p q) s = comb p (rl1 Y R q s) := by
 unfold rl1
 split
 ·rfl
 ·generalize R.l.getD s.toNat 0 = r
  unfold comb
  repeat' split
  all_goals omega
theorem rl_comb {Y : WY} {R : NL} {p : Int} : ∀ {l : List Int} {q : Int}, l.foldl (rl1 Y R) (comb p q) = comb p (l.foldl (rl1 Y R) q)
 | [], q => rfl
 | s :: l, q => by rw [List.foldl_cons, rl1_comb, rl_comb, List.foldl_cons]
theorem rl_ge {Y : WY} {R : NL} : ∀ {l : List Int} {q : Int}, -1 ≤ q → -1 ≤ l.foldl (rl1 Y R) q
 | [], q, h => h
 | s :: l, q, h => by
  rw [List.foldl_cons]
  refine rl_ge ?_
  unfold rl1
  repeat' split
  all_goals omega
theorem rl_app {Y : WY} {R : NL} {a b : List Int} : rl Y R (a ++ b) = comb (rl Y R a) (rl Y R b) := by
 have h : comb (rl Y R a) (-1) = rl Y R a := by
  have : -1 ≤ rl Y R a := rl_ge (by omega)
  unfold comb
  repeat' split
  all_goals omega
 have h2 : rl Y R (a ++ b) = b.foldl (rl1 Y R) (rl Y R a) := List.foldl_append ..
 rw [h2, ← h, rl_comb, h]; rfl
theorem fin_ok {p q r A B : Int} (h : A = B) (hr : r = comb p q) :
  (if p < (0 : Int) then if A = B then if r = q then some () else none else none
  else if q ≥ (0 : Int) then if q < p then if A = B then if r = q then some () else none else none
   else if A = B then if r = p then some () else none else none
  else if A = B then if r = p then some () else none else none) = some () := by
 unfold comb at hr
 simp only [if_pos h]
 by_cases c1 : p < 0
 ·rw [if_pos c1] at hr; rw [if_pos c1, if_pos hr]
 ·rw [if_neg c1] at hr; rw [if_neg c1]
  by_cases c2 : q ≥ 0
  ·rw [if_pos c2] at hr; rw [if_pos c2]
   by_cases c3 : q < p
   ·rw [if_pos c3] at hr; rw [if_pos c3, if_pos hr]
   ·rw [if_neg c3] at hr; rw [if_neg c3, if_pos hr]
  ·rw [if_neg c2] at hr; rw [if_neg c2, if_pos hr]


theorem hasR_ok {n b : Nat} (r : C4) (h : b < 256) : m_viewportref01Hasq1 n r.1 r.2.1 r.2.2.1 r.2.2.2 (b : Int) = some (hasC r b) := by
 unfold m_viewportref01Hasq1 hasC
 have hq : IntKind.u8.wrap (Int.tdiv (b : Int) (64 : Int)) = ((b / 64 : Nat) : Int) := by
  rw [show Int.tdiv (b : Int) (64 : Int) = ((b / 64 : Nat) : Int) from rfl]
  simp [IntKind.wrap, IntKind.bits, IntKind.signed]
  omega
 have hm : IntKind.u64.wrap (Int.tmod (b : Int) (64 : Int)) = ((b % 64 : Nat) : Int) := by
  rw [show Int.tmod (b : Int) (64 : Int) = ((b % 64 : Nat) : Int) from rfl]
  simp [IntKind.wrap, IntKind.bits, IntKind.signed]
  omega
 rw [if_pos (by decide), hq, hm]
 have h4 : b / 64 < 4 := by omega
 rw [if_pos (by omega), if_pos (by rw [Int.toNat_natCast]; exact h4), Option.bind_some, if_pos (by omega), Option.bind_some, Int.toNat_natCast]
 split
 ·rename_i h; rw [decide_eq_true h]
 ·rename_i h; rw [decide_eq_false h]
theorem step_loop {B : Int → Option (Int ⊕ Unit)} (len : Nat) (h1 : ∀ i : Nat, i < len → B (i : Int) = some (.inl ((i + 1 : Nat) : Int))) (h2 : B (len : Int) = some (.inr ())) {n : Nat} (hn : len < n) : iterM B n 0 = some () := by
 obtain ⟨r, -, q⟩ := hoare (B := B) (σ := Unit) (fun _ i => i) (fun _ _ => True) (fun _ => True) len (fun i s hi _ => .inl ⟨(), trivial, h1 i hi⟩) (fun s _ => ⟨(), trivial, h2⟩) n 0 () (Nat.zero_le _) trivial (by omega)
 exact q
section
variable {n b : Nat} {X : WX} {Y : WY} {R : NL} {a : List Int} {g1 g2 x y z : NL} (hb : b < 256) (hn : 20000 < n)
include hb hn
theorem l1_ok (v : NV X Y R) (hz : SN X Y b a z) : m_viewportlaw03NfaSets_1 n g1 g2 (b : Int) X Y R x y z 0 = some () := by
 have hlen := hz.len
 refine step_loop z.l.length (fun i hi => ?_) ?_ (by omega)
 ·have hm := getD_mem (d := 0) hi
  have hk := hz.inn _ hm
  obtain ⟨s, -, ht⟩ := (hz.mem _).1 hm
  have hOK : hasC (X.l.getD (z.l.getD i 0).toNat (0, 0, 0, 0)) b = true := ht.2.2
  have hR := hasR_ok (n := n) (X.l.getD (z.l.getD i 0).toNat (0, 0, 0, 0)) hb
  unfold B_viewportlaw03NfaSets_1
  dsimp only
  rw [if_pos (by omega), if_pos (by omega), if_pos (by rw [Int.toNat_natCast]; exact hi), Int.toNat_natCast]
  simp only [Option.bind_some]
  rw [if_neg (by omega), if_neg (by omega)]
  by_cases c : (i : Int) > 0
  ·have hw : w64 ((i : Int) - 1) = ((i - 1 : Nat) : Int) := by rw [w64_sm (by omega) (by omega)]; omega
   have hlt := pair_getD hz.asc (i := i - 1) (j := i) (by omega) hi
   rw [if_pos c, hw, if_pos (by omega), if_pos (by rw [Int.toNat_natCast]; omega), Int.toNat_natCast, if_neg (by omega), if_pos (by omega), hR, Option.bind_some, if_pos hOK, w64_inc (by omega)]
  ·rw [if_neg c, if_pos (by omega), hR, Option.bind_some, if_pos hOK, w64_inc (by omega)]
 ·unfold B_viewportlaw03NfaSets_1
  dsimp only
  rw [if_neg (by omega)]
end
/-! the map of both -/
abbrev MI := MapI Int
def kz (M : MI) : List Int := M.l.map Prod.fst
def One (M : MI) : Prop := ∀ p ∈ M.l, p.2 = 1
theorem mputL_one {k : Int} : ∀ {l : List (Int × Int)}, (∀ p ∈ l, p.2 = 1) → ∀ p ∈ mputL k 1 l, p.2 = 1
 | [], _, p, hp => by
  rw [mputL, List.mem_singleton] at hp
  rw [hp]
 | q :: l, h, p, hp => by
  unfold mputL at hp
  split at hp
  ·rcases List.mem_cons.1 hp with rfl | hp
   ·rfl
   ·exact h p (List.mem_cons_of_mem _ hp)
  ·rcases List.mem_cons.1 hp with rfl | hp
   ·exact h _ (List.mem_cons_self ..)
   ·exact mputL_one (fun p hp => h p (List.mem_cons_of_mem _ hp)) p hp
theorem mget_one {k : Int} : ∀ {l : List (Int × Int)}, (∀ p ∈ l, p.2 = 1) → k ∈ l.map Prod.fst → mgetL k l = some 1
 | [], _, h => by cases h
 | q :: l, h, hk => by
  unfold mgetL
  split
  ·rw [h _ (List.mem_cons_self ..)]
  ·rename_i e
   refine mget_one (fun p hp => h p (List.mem_cons_of_mem _ hp)) ?_
   rcases List.mem_cons.1 hk with hk | hk
   ·exact absurd hk.symm e
   ·exact hk
def put1 (M : MI) (k : Int) : MI := mPut M k 1
theorem puts_in {x : Int} : ∀ {l : List Int} {M : MI}, x ∈ kz (l.foldl put1 M) ↔ x ∈ kz M ∨ x ∈ l
 | [], M => by simp
 | k :: l, M => by
  have h : x ∈ kz (put1 M k) ↔ x = k ∨ x ∈ kz M := mputL_in
  rw [List.foldl_cons, puts_in, h, List.mem_cons]
  constructor
  ·rintro ((h | h) | h)
   ·exact .inr (.inl h)
   ·exact .inl h
   ·exact .inr (.inr h)
  ·rintro (h | h | h)
   ·exact .inl (.inr h)
   ·exact .inl (.inl h)
   ·exact .inr h
theorem puts_one : ∀ {l : List Int} {M : MI}, One M → One (l.foldl put1 M)
 | [], M, h => h
 | k :: l, M, h => by
  rw [List.foldl_cons]
  exact puts_one (mputL_one h)
section
variable {n : Nat} {X : WX} {Y : WY} {R : NL} {g1 g2 x y z : NL} (hn : 20000 < n)
include hn
theorem l2_ok (hx : x.l.length ≤ 1000) (M : MI) : m_viewportlaw03NfaSets_2 n g1 g2 X Y R x y z (M, 0) = some (x.l.foldl put1 M) := by
 rw [← range_foldl (d := 0)]
 refine foldLoop (B := B_viewportlaw03NfaSets_2 n g1 g2 X Y R x y z) (fun M j => put1 M (x.l.getD j 0)) x.l.length (fun i s hi => ?_) (fun s => ?_) n M (by omega)
 ·unfold B_viewportlaw03NfaSets_2 put1
  dsimp only
  rw [if_pos (by omega), if_pos (by omega), if_pos (by rw [Int.toNat_natCast]; exact hi), Int.toNat_natCast]
  simp only [Option.bind_some]
  rw [w64_inc (by omega)]
 ·unfold B_viewportlaw03NfaSets_2
  dsimp only
  rw [if_neg (by omega)]
theorem l3_ok (hx : y.l.length ≤ 1000) (M : MI) : m_viewportlaw03NfaSets_3 n g1 g2 X Y R y z (M, 0) = some (y.l.foldl put1 M) := by
 rw [← range_foldl (d := 0)]
 refine foldLoop (B := B_viewportlaw03NfaSets_3 n g1 g2 X Y R y z) (fun M j => put1 M (y.l.getD j 0)) y.l.length (fun i s hi => ?_) (fun s => ?_) n M (by omega)
 ·unfold B_viewportlaw03NfaSets_3 put1
  dsimp only
  rw [if_pos (by omega), if_pos (by omega), if_pos (by rw [Int.toNat_natCast]; exact hi), Int.toNat_natCast]
  simp only [Option.bind_some]
  rw [w64_inc (by omega)]
 ·unfold B_viewportlaw03NfaSets_3
  dsimp only
  rw [if_neg (by omega)]
theorem l4_ok (hz : z.l.length ≤ 1000) {M : MI} (h1 : One M) (hk : ∀ k ∈ z.l, k ∈ kz M) : m_viewportlaw03NfaSets_4 n g1 g2 X Y R z M 0 = some () := by
 refine step_loop z.l.length (fun i hi => ?_) ?_ (by omega)
 ·have hm := hk _ (getD_mem (d := 0) hi)
  have hg : mGetI M (z.l.getD i 0) = 1 := by unfold mGetI mGet; rw [mget_one h1 hm]; rfl
  unfold B_viewportlaw03NfaSets_4
  dsimp only
  rw [if_pos (by omega), if_pos (by omega), if_pos (by rw [Int.toNat_natCast]; exact hi), Int.toNat_natCast]
  simp only [Option.bind_some]
  rw [hg, if_neg (by omega), w64_inc (by omega)]
 ·unfold B_viewportlaw03NfaSets_4
  dsimp only
  rw [if_neg (by omega)]
end
def bothM (x y : NL) : MI := y.l.foldl put1 (x.l.foldl put1 mNil)
theorem both_in {x y : NL} {k : Int} : k ∈ kz (bothM x y) ↔ k ∈ x.l ∨ k ∈ y.l := by
 unfold bothM
 rw [puts_in, puts_in]
 constructor
 ·rintro ((h | h) | h)
  ·cases h
  ·exact .inl h
  ·exact .inr h
 ·rintro (h | h)
  ·exact .inl (.inr h)
  ·exact .inr h
theorem both_one {x y : NL} : One (bothM x y) := puts_one (puts_one fun p hp => by cases hp)
section
variable {b : Nat} {X : WX} {Y : WY} {R : NL} {a c L : List Int} {x y z : NL}
theorem both_z (hx : SN X Y b a x) (hy : SN X Y b c y) (hz : SN X Y b L z) (hL : ∀ s, s ∈ L ↔ s ∈ a ∨ s ∈ c) (k : Int) : k ∈ z.l ↔ k ∈ kz (bothM x y) := by
 rw [both_in, hx.mem, hy.mem, hz.mem]
 constructor
 ·rintro ⟨s, h, h2⟩
  rcases (hL s).1 h with h | h
  ·exact .inl ⟨s, h, h2⟩
  ·exact .inr ⟨s, h, h2⟩
 ·rintro (⟨s, h, h2⟩ | ⟨s, h, h2⟩)
  ·exact ⟨s, (hL s).2 (.inl h), h2⟩
  ·exact ⟨s, (hL s).2 (.inr h), h2⟩
theorem both_len (hx : SN X Y b a x) (hy : SN X Y b c y) (hz : SN X Y b L z) (hL : ∀ s, s ∈ L ↔ s ∈ a ∨ s ∈ c) : ((mLen (bothM x y) : Nat) : Int) = ((z.l.length : Nat) : Int) := by
 have hm := both_z hx hy hz hL
 have h1 := List.Nodup.length_le_of_subset (bothM x y).nd (fun k hk => (hm k).2 hk)
 have h2 := List.Nodup.length_le_of_subset (lt_nodup hz.asc) (fun k hk => (hm k).1 hk)
 have e : (kz (bothM x y)).length = mLen (bothM x y) := List.length_map ..
 rw [List.length_map] at h1
 have h3 : mLen (bothM x y) = (bothM x y).l.length := rfl
 omega
end


theorem u8_nat {x : Int} (h : (Lit.int .u8 x).wf = true) : ∃ b : Nat, b < 256 ∧ x = (b : Int) := by
 simp only [Lit.wf, Bool.and_eq_true, decide_eq_true_eq] at h
 have h1 : (0 : Int) ≤ x := h.1
 have h2 : x ≤ (255 : Int) := h.2
 exact ⟨x.toNat, by omega, by omega⟩
theorem own_ok {n : Nat} {x : NL} (h : x.l.length ≤ 40) : m_viewportkitOwnintq1 n x = some (if 0 < x.l.length then .inl () else .inr ()) := by
 unfold m_viewportkitOwnintq1
 by_cases c : 0 < x.l.length
 ·rw [if_pos c, if_pos c, if_pos (by omega), if_pos (by omega)]
 ·rw [if_neg c, if_neg c]
section
variable {n b : Nat} {X : WX} {Y : WY} {R : NL} {g1 g2 z : NL} {L : List Int} (hb : b < 256) (hn : 20000 < n) (v : NV X Y R)
include hb hn v
theorem all_ok (hz : z = stN X Y b L) (hL : ∀ s, s ∈ L ↔ s ∈ g1.l ∨ s ∈ g2.l) :
  m_viewportlaw03NfaSets_1 n g1 g2 (b : Int) X Y R (stN X Y b g1.l) (stN X Y b g2.l) z 0 = some () ∧
  m_viewportlaw03NfaSets_2 n g1 g2 X Y R (stN X Y b g1.l) (stN X Y b g2.l) z (mNil, 0) = some ((stN X Y b g1.l).l.foldl put1 mNil) ∧
  m_viewportlaw03NfaSets_3 n g1 g2 X Y R (stN X Y b g2.l) z ((stN X Y b g1.l).l.foldl put1 mNil, 0) = some (bothM (stN X Y b g1.l) (stN X Y b g2.l)) ∧
  m_viewportlaw03NfaSets_4 n g1 g2 X Y R z (bothM (stN X Y b g1.l) (stN X Y b g2.l)) 0 = some () ∧
  ((mLen (bothM (stN X Y b g1.l) (stN X Y b g2.l)) : Nat) : Int) = ((z.l.length : Nat) : Int) := by
 subst hz
 have s1 := stN_SN v b g1.l
 have s2 := stN_SN v b g2.l
 have s3 := stN_SN v b L
 exact ⟨l1_ok hb hn v s3, l2_ok hn s1.len _, l3_ok hn s2.len _, l4_ok hn s3.len both_one fun k hk => (both_z s1 s2 s3 hL k).1 hk, both_len s1 s2 s3 hL⟩
end
theorem nfaSets_true (g02 g1 g2 : NL) (g3 : Int) (h3 : (Lit.int .u8 g3).wf = true) : ∃ n, m_viewportlaw03NfaSets n g02 g1 g2 g3 = some () := by
 refine ⟨20001, ?_⟩
 obtain ⟨b, hb, rfl⟩ := u8_nat h3
 have hn : 20000 < 20001 := by omega
 generalize 20001 = n at hn
 unfold m_viewportlaw03NfaSets m_viewportlaw03lives
 obtain ⟨f, hf, hl⟩ := lightN (n := n) (X := wA) (Y := wB) (R := g02) (by omega)
 rw [Option.bind_some, hf, Option.bind_some]
 cases f with
 | false => rw [if_neg (by decide)]
 | true =>
  obtain ⟨l1, l2, l3, l4⟩ := hl rfl
  rw [if_pos rfl]
  by_cases k1 : ((g1.l.length : Nat) : Int) > 40
  ·rw [if_pos k1]
  by_cases k2 : ((g2.l.length : Nat) : Int) > 40
  ·rw [if_neg k1, if_pos k2]
  rw [if_neg k1, if_neg k2]
  obtain ⟨c, hc, hv⟩ := check_ok (n := n) (X := wA) (Y := wB) (R := g02) (by omega) (fun s h => Nat.le_trans (l4 s h) (by omega)) hn
  rw [hc, Option.bind_some]
  by_cases c0 : c = 0
  ·subst c0
   have v := hv rfl
   rw [if_pos rfl, Step1_ok v hc hn hb (by omega), Option.bind_some, Step1_ok v hc hn hb (by omega), Option.bind_some]
   simp only [Rule1_ok v hc hn (x := g1) (by omega), Rule1_ok v hc hn (x := g2) (by omega), own_ok (n := n) (x := g1) (by omega)]
   have hr := rl_app (Y := wB) (R := g02) (a := g1.l) (b := g2.l)
   by_cases c1 : 0 < g1.l.length
   ·simp only [if_pos c1]
    by_cases c2 : 0 < g2.l.length
    ·obtain ⟨e1, e2, e3, e4, e5⟩ := all_ok (L := g1.l ++ g2.l) hb hn v rfl fun s => List.mem_append
     rw [if_pos c2, List.nil_append, if_pos (by omega), Step2_ok v hc hn hb (by rw [List.length_append]; omega), Option.bind_some, e1, Option.bind_some, e2, Option.bind_some, e3, Option.bind_some, e4, Option.bind_some, Option.bind_some, Option.bind_some, Rule2_ok v hc hn (by rw [List.length_append]; omega), Option.bind_some]
     exact fin_ok e5 hr
    ·have hg : g2.l = [] := List.length_eq_zero_iff.1 (by omega)
     obtain ⟨e1, e2, e3, e4, e5⟩ := all_ok (L := g1.l) (g1 := g1) (g2 := g2) hb hn v rfl fun s => by rw [hg]; simp
     rw [if_neg c2, List.nil_append, if_pos (by omega), Step2_ok v hc hn hb (by omega), Option.bind_some, e1, Option.bind_some, e2, Option.bind_some, e3, Option.bind_some, e4, Option.bind_some, Option.bind_some, Option.bind_some, Rule2_ok v hc hn (by omega), Option.bind_some]
     rw [show g1.l ++ g2.l = g1.l by rw [hg, List.append_nil]] at hr
     exact fin_ok e5 hr
   ·have hg : g1.l = [] := List.length_eq_zero_iff.1 (by omega)
    simp only [if_neg c1]
    by_cases c2 : 0 < g2.l.length
    ·obtain ⟨e1, e2, e3, e4, e5⟩ := all_ok (L := g2.l) (g1 := g1) (g2 := g2) hb hn v rfl fun s => by rw [hg]; simp
     rw [if_pos c2, if_pos (by omega), if_pos (by omega), List.nil_append, Step2_ok v hc hn hb (by omega), Option.bind_some, e1, Option.bind_some, e2, Option.bind_some, e3, Option.bind_some, e4, Option.bind_some, Option.bind_some, Option.bind_some, Rule2_ok v hc hn (by omega), Option.bind_some]
     rw [show g1.l ++ g2.l = g2.l by rw [hg, List.nil_append]] at hr
     exact fin_ok e5 hr
    ·have hg2 : g2.l = [] := List.length_eq_zero_iff.1 (by omega)
     obtain ⟨e1, e2, e3, e4, e5⟩ := all_ok (L := []) (g1 := g1) (g2 := g2) hb hn v rfl fun s => by rw [hg, hg2]; simp
     rw [if_neg c2, Step3_ok v hc hn hb, Option.bind_some, e1, Option.bind_some, e2, Option.bind_some, e3, Option.bind_some, e4, Option.bind_some, Option.bind_some, Option.bind_some, Rule3_ok v hc hn, Option.bind_some]
     rw [show g1.l ++ g2.l = [] by rw [hg, hg2]; rfl] at hr
     exact fin_ok e5 hr
  ·rw [if_neg c0]

end Go.Proofs.Ytkdeabcaijfdfaa.nss03
