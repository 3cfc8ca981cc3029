/-
  The pure side. No condition.
-/
import Derived.Test.YtnfndhblfpaphaaHeapBTold
import Derived.IntWalk
set_option linter.unusedSimpArgs false
set_option linter.unusedVariables false
set_option linter.unusedSectionVars false
set_option linter.unnecessarySimpa false
namespace Go.Proofs.Ytnfndhblfpaphaa.heapw
open Go Go.Proofs.Ytnfndhblfpaphaa Ax
variable [Args]


theorem w64_id {x : Int} (h1 : -9223372036854775808 ≤ x) (h2 : x < 9223372036854775808) : w64 x = x := IntWalk.i64_in _ (by omega)
theorem w64_sm {x : Int} (h1 : -1000000000000 ≤ x) (h2 : x ≤ 1000000000000) : w64 x = x := w64_id (by omega) (by omega)
theorem w64_inc {i : Nat} (h : i ≤ 1000000000) : w64 ((i : Int) + 1) = ((i + 1 : Nat) : Int) := by rw [w64_sm (by omega) (by omega)]; rfl
/-! loops -/
theorem whileI {st ρ : Type} {B : st → Option (st ⊕ ρ)} (I : st → Prop) (μ : st → Nat) (Q : ρ → Prop) (h : ∀ s, I s → (∃ s', I s' ∧ μ s' < μ s ∧ B s = some (.inl s')) ∨ ∃ r, Q r ∧ B s = some (.inr r)) : ∀ (n : Nat) (s : st), I s → μ s < n → ∃ r, Q r ∧ iterM B n s = some r
  | 0, s, _, hm => absurd hm (Nat.not_lt_zero _)
  | n + 1, s, hi, hm => by
    rcases h s hi with ⟨s', h1, h2, h3⟩ | ⟨r, h1, h2⟩
    · obtain ⟨r, q1, q2⟩ := whileI I μ Q h n s' h1 (by omega)
      exact ⟨r, q1, by rw [iterM_succ, h3]; exact q2⟩
    · exact ⟨r, h1, by rw [iterM_succ, h2]; rfl⟩
theorem hoare {σ st ρ : Type} {B : st → Option (st ⊕ ρ)} (S : σ → Int → st) (I : Nat → σ → Prop) (Q : ρ → Prop) (len : Nat)
    (h1 : ∀ (i : Nat) (s : σ), i < len → I i s → (∃ s', I (i + 1) s' ∧ B (S s (i : Int)) = some (.inl (S s' ((i + 1 : Nat) : Int)))) ∨ ∃ r, Q r ∧ B (S s (i : Int)) = some (.inr r))
    (h2 : ∀ s, I len s → ∃ r, Q r ∧ B (S s (len : Int)) = some (.inr r)) : ∀ (n i : Nat) (s : σ), i ≤ len → I i s → len - i < n → ∃ r, Q r ∧ iterM B n (S s (i : Int)) = some r
  | 0, i, s, _, _, hm => absurd hm (Nat.not_lt_zero _)
  | n + 1, i, s, hl, hi, hm => by
    have main : (∃ s', i < len ∧ I (i + 1) s' ∧ B (S s (i : Int)) = some (.inl (S s' ((i + 1 : Nat) : Int)))) ∨ ∃ r, Q r ∧ B (S s (i : Int)) = some (.inr r) := by
      by_cases hlt : i < len
      · rcases h1 i s hlt hi with ⟨s', a, b⟩ | h
        · exact .inl ⟨s', hlt, a, b⟩
        · exact .inr h
      · obtain rfl : i = len := by omega
        exact .inr (h2 s hi)
    rcases main with ⟨s', g0, g1, g3⟩ | ⟨r, g1, g2⟩
    · obtain ⟨r, q1, q2⟩ := hoare S I Q len h1 h2 n (i + 1) s' (by omega) g1 (by omega)
      exact ⟨r, q1, by rw [iterM_succ, g3]; exact q2⟩
    · exact ⟨r, g1, by rw [iterM_succ, g2]; rfl⟩
/-- a search: the first place that is not so ends it -/
theorem scan {β γ : Type} {B : Int → Option (Int ⊕ (β ⊕ γ))} (len : Nat) (p : Nat → Bool) (a : β) (c : γ)
    (h1 : ∀ i : Nat, i < len → B (i : Int) = some (if p i = true then .inl ((i + 1 : Nat) : Int) else .inr (.inl a))) (h2 : B (len : Int) = some (.inr (.inr c))) (n : Nat) (hn : len < n) :
    iterM B n 0 = some (if (List.range len).all p = true then .inr c else .inl a) := by
  obtain ⟨r, q1, q2⟩ := hoare (B := B) (σ := Unit) (fun _ i => i) (fun i _ => ∀ j, j < i → p j = true) (fun r => r = if (List.range len).all p = true then .inr c else .inl a) len
    (fun i s hi hI => by
      by_cases hp : p i = true
      · refine .inl ⟨(), fun j hj => ?_, by rw [h1 i hi, if_pos hp]⟩
        rcases Nat.lt_or_ge j i with h | h
        · exact hI j h
        · obtain rfl : j = i := by omega
          exact hp
      · refine .inr ⟨.inl a, ?_, by rw [h1 i hi, if_neg hp]⟩
        rw [if_neg]
        intro hall
        exact hp (List.all_eq_true.1 hall i (List.mem_range.2 hi)))
    (fun s hI => ⟨.inr c, by rw [if_pos (List.all_eq_true.2 fun j hj => hI j (List.mem_range.1 hj))], h2⟩) n 0 () (Nat.zero_le _) (fun j hj => absurd hj (Nat.not_lt_zero _)) (by omega)
  rw [show (0 : Int) = ((0 : Nat) : Int) from rfl, q2, q1]
theorem all_range {α : Type} {l : List α} {d : α} {p : α → Bool} : (List.range l.length).all (fun i => p (l.getD i d)) = l.all p := by
  rw [Bool.eq_iff_iff, List.all_eq_true, List.all_eq_true]
  constructor
  · intro h x hx
    obtain ⟨i, hi, rfl⟩ := List.mem_iff_getElem.1 hx
    have := h i (List.mem_range.2 hi)
    simpa [List.getD_eq_getElem?_getD, hi] using this
  · intro h i hi
    have hi := List.mem_range.1 hi
    have := h l[i] (List.getElem_mem hi)
    simpa [List.getD_eq_getElem?_getD, hi] using this
theorem getD_mem {α : Type} {l : List α} {i : Nat} {d : α} (h : i < l.length) : l.getD i d ∈ l := by
  rw [List.getD_eq_getElem?_getD, List.getElem?_eq_getElem h]; exact List.getElem_mem h
theorem mem_getD {α : Type} {l : List α} {x : α} (d : α) (h : x ∈ l) : ∃ i, i < l.length ∧ l.getD i d = x := by
  obtain ⟨i, hi, rfl⟩ := List.mem_iff_getElem.1 h
  exact ⟨i, hi, by simp [List.getD_eq_getElem?_getD, hi]⟩
theorem getD_set {α : Type} {l : List α} {i j : Nat} {x d : α} (h : i < l.length) : (l.set i x).getD j d = if j = i then x else l.getD j d := by
  simp only [List.getD_eq_getElem?_getD, List.getElem?_set]
  by_cases hj : i = j
  · subst hj; simp [h]
  · rw [if_neg hj, if_neg (Ne.symm hj)]
theorem count_set_lt {L : List Bool} {i : Nat} (h : i < L.length) (hf : ¬ L.getD i false = true) : (L.set i true).count false < L.count false := by
  have h0 : L[i] = false := by simpa [List.getD_eq_getElem?_getD, h] using hf
  have hc := List.count_set (l := L) (a := true) (b := false) (i := i) h
  have hp : 0 < L.count false := List.count_pos_iff.2 (h0 ▸ List.getElem_mem h)
  rw [h0] at hc
  simp at hc
  omega


/-! heaps -/
abbrev E3 := Int × Int × Int
def e0 : E3 := (0, 0, 0)
def lt (a b : E3) : Prop := a.2.1 < b.2.1 ∨ (a.2.1 = b.2.1 ∧ a.1 < b.1)
theorem lt_trans {a b c : E3} (h : lt a b) (k : lt b c) : lt a c := by unfold lt at *; omega
theorem lt_asymm {a b : E3} (h : lt a b) : ¬ lt b a := by unfold lt at *; omega
theorem nlt_trans {a b c : E3} (h : ¬ lt a b) (k : ¬ lt b c) : ¬ lt a c := by unfold lt at *; omega
theorem key_ok {n : Nat} {a b c d : Int} : m_viewportlaw23byKeyq1 n a b c d = some (if a < c then -1 else if a > c then 1 else 0) := by
  unfold m_viewportlaw23byKeyq1
  split
  · rfl
  · split <;> rfl
theorem before_ok {n k i j : Nat} {L : List E3} {x : Int} (hi : i < k) (hj : j < k) (hk : k ≤ L.length) : ∃ b, m_heapHeapviewportlaw23itembeforeq2 n L k x i j = some b ∧ (b = true ↔ lt (L.getD i e0) (L.getD j e0)) := by
  unfold m_heapHeapviewportlaw23itembeforeq2
  rw [if_pos (by omega), Int.toNat_natCast, if_pos (by omega), if_pos (by omega), Int.toNat_natCast, if_pos (by omega), key_ok]
  simp only [Option.bind_some]
  change ∃ b, (if (if (L.getD i e0).2.1 < (L.getD j e0).2.1 then (-1 : Int) else if (L.getD i e0).2.1 > (L.getD j e0).2.1 then 1 else 0) = (0 : Int) then if (L.getD i e0).1 < (L.getD j e0).1 then some true else some false else if (if (L.getD i e0).2.1 < (L.getD j e0).2.1 then (-1 : Int) else if (L.getD i e0).2.1 > (L.getD j e0).2.1 then 1 else 0) < (0 : Int) then some true else some false) = some b ∧ _
  generalize L.getD i e0 = a
  generalize L.getD j e0 = b
  unfold lt
  by_cases h1 : a.2.1 < b.2.1
  · rw [if_pos h1, if_neg (by decide), if_pos (by decide)]
    exact ⟨true, rfl, by simp [h1]⟩
  · rw [if_neg h1]
    by_cases h2 : a.2.1 > b.2.1
    · rw [if_pos h2, if_neg (by decide), if_neg (by decide)]
      exact ⟨false, rfl, by simp; omega⟩
    · rw [if_neg h2, if_pos rfl]
      by_cases h3 : a.1 < b.1
      · rw [if_pos h3]; exact ⟨true, rfl, by simp; omega⟩
      · rw [if_neg h3]; exact ⟨false, rfl, by simp; omega⟩
def swapL (L : List E3) (i j : Nat) : List E3 := (L.set i (L.getD j e0)).set j (L.getD i e0)
theorem swap_len {L : List E3} {i j : Nat} : (swapL L i j).length = L.length := by simp [swapL]
theorem swap_get {L : List E3} {i j q : Nat} (hi : i < L.length) (hj : j < L.length) : (swapL L i j).getD q e0 = if q = j then L.getD i e0 else if q = i then L.getD j e0 else L.getD q e0 := by
  unfold swapL
  rw [getD_set (by simpa using hj), getD_set hi]
theorem getD_eq {L : List E3} {i : Nat} (h : i < L.length) : L.getD i e0 = L[i] := by simp [List.getD_eq_getElem?_getD, h]
theorem swap_perm {L : List E3} {i j : Nat} (hi : i < L.length) (hj : j < L.length) : (swapL L i j).Perm L := by
  unfold swapL
  rw [getD_eq hi, getD_eq hj]
  exact List.set_set_perm hi hj
def Hp (L : List E3) (k : Nat) : Prop := ∀ j, 0 < j → j < k → ¬ lt (L.getD j e0) (L.getD ((j - 1) / 2) e0)
structure Up (L : List E3) (i k : Nat) : Prop where
  a : ∀ j, 0 < j → j < k → j ≠ i → ¬ lt (L.getD j e0) (L.getD ((j - 1) / 2) e0)
  b : 0 < i → ∀ j, 0 < j → j < k → (j - 1) / 2 = i → ¬ lt (L.getD j e0) (L.getD ((i - 1) / 2) e0)
theorem Up.step {L : List E3} {i k : Nat} (h : Up L i k) (hi : 0 < i) (hk : i < k) (hL : k ≤ L.length) (hlt : lt (L.getD i e0) (L.getD ((i - 1) / 2) e0)) : Up (swapL L i ((i - 1) / 2)) ((i - 1) / 2) k := by
  have hp : (i - 1) / 2 < i := by omega
  generalize hpe : (i - 1) / 2 = p at *
  have g : ∀ q, (swapL L i p).getD q e0 = if q = p then L.getD i e0 else if q = i then L.getD p e0 else L.getD q e0 := fun q => swap_get (by omega) (by omega)
  refine ⟨fun j h0 h1 hne => ?_, fun h2 j h0 h1 hj => ?_⟩
  · rw [g, g, if_neg hne]
    by_cases e : j = i
    · subst e
      rw [if_pos rfl, hpe, if_pos rfl]
      exact lt_asymm hlt
    · rw [if_neg e]
      by_cases e2 : (j - 1) / 2 = p
      · rw [if_pos e2]
        have := h.a j h0 h1 e
        rw [e2] at this
        exact fun hc => this (lt_trans hc hlt)
      · rw [if_neg e2]
        by_cases e3 : (j - 1) / 2 = i
        · rw [if_pos e3]
          have := h.b hi j h0 h1 e3
          rwa [hpe] at this
        · rw [if_neg e3]
          exact h.a j h0 h1 e
  · have hpp : (p - 1) / 2 < p := by omega
    rw [g, g, if_neg (show j ≠ p by omega), if_neg (show (p - 1) / 2 ≠ p by omega), if_neg (show (p - 1) / 2 ≠ i by omega)]
    have hpa := h.a p h2 (by omega) (by omega)
    by_cases e : j = i
    · rw [if_pos e]; exact hpa
    · rw [if_neg e]
      have := h.a j h0 h1 e
      rw [hj] at this
      exact nlt_trans this hpa
theorem Up.done {L : List E3} {i k : Nat} (h : Up L i k) (hd : i = 0 ∨ ¬ lt (L.getD i e0) (L.getD ((i - 1) / 2) e0)) : Hp L k := fun j h0 h1 => by
  by_cases e : j = i
  · subst e
    rcases hd with hd | hd
    · omega
    · exact hd
  · exact h.a j h0 h1 e
theorem fdiv2 {i : Nat} (h : 0 < i) (hs : i ≤ 1000000) : Int.fdiv (w64 ((i : Int) - 1)) 2 = (((i - 1) / 2 : Nat) : Int) := by
  rw [w64_sm (by omega) (by omega), show (i : Int) - 1 = ((i - 1 : Nat) : Int) by omega, Int.fdiv_eq_ediv_of_nonneg _ (by decide)]
  rfl
def absI (i : Nat) : Int := if i = 0 then Int.fdiv (w64 ((0 : Int) - 1)) 2 else (((i - 1) / 2 : Nat) : Int)
theorem absI_ok {i : Nat} (hs : i ≤ 1000000) : Int.fdiv (w64 ((i : Int) - 1)) 2 = absI i := by
  unfold absI
  by_cases h : i = 0
  · subst h; rfl
  · rw [if_neg h, fdiv2 (by omega) hs]
theorem up_ok {n k i : Nat} {L : List E3} {x : Int} (hn : 1000 ≤ n) (hk : k ≤ 300) (hL : k = L.length) (hi : i < k) (hU : Up L i k) : ∃ M, m_heapHeapviewportlaw23itemupq1 n L x i = some M ∧ M.Perm L ∧ Hp M k := by
  subst hL
  obtain ⟨M, hM, hloop⟩ := whileI (B := B_heapHeapviewportlaw23itemupq1_1 n L.length x) (fun s => ∃ j : Nat, s.2.1 = j ∧ s.2.2 = absI j ∧ j < L.length ∧ s.1.Perm L ∧ Up s.1 j L.length) (fun s => s.2.1.toNat) (fun M => M.Perm L ∧ Hp M L.length)
    (fun s hI => by
      obtain ⟨M, a, b⟩ := s
      obtain ⟨j, rfl, rfl, hj, hp, hu⟩ := hI
      dsimp only at hp hu
      have hlen := hp.length_eq
      unfold B_heapHeapviewportlaw23itemupq1_1
      dsimp only
      by_cases h0 : j = 0
      · subst h0
        rw [if_neg (by omega)]
        exact .inr ⟨_, ⟨hp, hu.done (.inl rfl)⟩, rfl⟩
      · rw [if_pos (by omega), show absI j = (((j - 1) / 2 : Nat) : Int) by unfold absI; rw [if_neg h0]]
        obtain ⟨c, e1, e2⟩ := before_ok (n := n) (k := L.length) (i := j) (j := (j - 1) / 2) (L := M) (x := x) hj (by omega) (by omega)
        rw [e1]
        simp only [Option.bind_some]
        cases c with
        | false =>
          rw [if_neg (by simp)]
          exact .inr ⟨_, ⟨hp, hu.done (.inr fun h => by have := e2.2 h; cases this)⟩, rfl⟩
        | true =>
          have hlt := e2.1 rfl
          rw [if_pos rfl, if_pos (by omega), Int.toNat_natCast, if_pos (by omega), if_pos (by omega), Int.toNat_natCast, if_pos (by omega), if_pos (by rw [List.length_set]; omega), absI_ok (by omega)]
          refine .inl ⟨(swapL M j ((j - 1) / 2), (((j - 1) / 2 : Nat) : Int), absI ((j - 1) / 2)), ⟨(j - 1) / 2, rfl, rfl, by omega, (swap_perm (by omega) (by omega)).trans hp, hu.step (by omega) hj (by omega) hlt⟩, ?_, rfl⟩
          show ((((j - 1) / 2 : Nat) : Int)).toNat < ((j : Nat) : Int).toNat
          rw [Int.toNat_natCast, Int.toNat_natCast]
          omega) n (L, (i : Int), Int.fdiv (w64 ((i : Int) - 1)) 2) ⟨i, rfl, absI_ok (by omega), hi, .refl _, hU⟩ (by show (i : Int).toNat < n; omega)
  refine ⟨M, ?_, hM⟩
  unfold m_heapHeapviewportlaw23itemupq1 m_heapHeapviewportlaw23itemupq1_1
  rw [hloop]
  rfl
theorem getD_append_l {L : List E3} {e : E3} {i : Nat} (h : i < L.length) : (L ++ [e]).getD i e0 = L.getD i e0 := by
  simp [List.getD_eq_getElem?_getD, List.getElem?_append_left h]
theorem up_start {L : List E3} {e : E3} (h : Hp L L.length) : Up (L ++ [e]) L.length (L.length + 1) := by
  refine ⟨fun j h0 h1 hne => ?_, fun h2 j h0 h1 hj => by omega⟩
  rw [getD_append_l (by omega), getD_append_l (by omega)]
  exact h j h0 (by omega)
theorem put1_ok {n : Nat} {t k d : Int} (hn : 1000 ≤ n) : ∃ M, m_heapHeapviewportlaw23itemPutq1 n t k d = some M ∧ M.Perm [(t, k, d)] ∧ Hp M 1 := by
  have h0 : Up [(t, k, d)] 0 1 := ⟨fun j h0 h1 _ => by omega, fun h => by omega⟩
  obtain ⟨M, e, h1, h2⟩ := up_ok (x := w64 (t + 1)) (i := 0) (k := 1) hn (by omega) rfl (by omega) h0
  refine ⟨M, ?_, h1, h2⟩
  unfold m_heapHeapviewportlaw23itemPutq1 m_heapHeapviewportlaw23itemvalidq1
  simp only [Option.bind_some]
  have e : m_heapHeapviewportlaw23itemupq1 n [(t, k, d)] (w64 (t + 1)) 0 = some M := e
  rw [e]
  rfl
theorem put3_ok {n : Nat} {L : List E3} {t k d : Int} (hn : 1000 ≤ n) (hL : L.length ≤ 250) (h : Hp L L.length) : ∃ M, m_heapHeapviewportlaw23itemPutq3 n L L.length t k d = some (M, L.length + 1) ∧ M.Perm (L ++ [(t, k, d)]) ∧ Hp M (L.length + 1) := by
  obtain ⟨M, e, h1, h2⟩ := up_ok (L := L ++ [(t, k, d)]) (x := w64 (t + 1)) (i := L.length) hn (by omega) (k := L.length + 1) (by simp) (by omega) (up_start h)
  refine ⟨M, ?_, h1, h2⟩
  unfold m_heapHeapviewportlaw23itemPutq3 m_heapHeapviewportlaw23itemvalidq3
  simp only [Option.bind_some]
  have hl : (L ++ [(t, k, d)]).length = L.length + 1 := by simp
  rw [if_pos (Nat.le_refl _), if_pos (by omega), List.take_length, hl, show w64 (((L.length + 1 : Nat) : Int) - 1) = ((L.length : Nat) : Int) by rw [w64_sm (by omega) (by omega)]; omega, e]
  rfl
theorem Hp.root {L : List E3} {k : Nat} (h : Hp L k) : ∀ j, j < k → ¬ lt (L.getD j e0) (L.getD 0 e0) := by
  intro j
  induction j using Nat.strongRecOn with
  | _ j ih =>
    intro hj
    by_cases h0 : j = 0
    · subst h0; exact fun h => lt_asymm h h
    · exact nlt_trans (h j (by omega) hj) (ih _ (by omega) (by omega))
/-! down: only that what is there stays -/
def AllE (Q : E3 → Prop) (L : List E3) (k : Nat) : Prop := ∀ j, j < k → Q (L.getD j e0)
theorem AllE.swap {Q : E3 → Prop} {L : List E3} {k i j : Nat} (h : AllE Q L k) (hi : i < k) (hj : j < k) (hL : k ≤ L.length) : AllE Q (swapL L i j) k := fun q hq => by
  rw [swap_get (by omega) (by omega)]
  split
  · exact h i hi
  · split
    · exact h j hj
    · exact h q hq
theorem down2_ok {n k i : Nat} {L : List E3} {x : Int} (hn : 1000 ≤ n) (hk : k ≤ L.length) (hi : i ≤ 1000) : ∃ y : Nat, m_heapHeapviewportlaw23itemdownq1_2 n L k x i (i, w64 (w64 ((i : Int) * 2) + 1)) = some (y : Int) ∧ (y = i ∨ (i < y ∧ y < k)) := by
  have hw : w64 (w64 ((i : Int) * 2) + 1) = ((2 * i + 1 : Nat) : Int) := by rw [w64_sm (x := (i : Int) * 2) (by omega) (by omega), w64_sm (by omega) (by omega)]; omega
  have hw2 : w64 (w64 ((i : Int) * 2) + 2) = ((2 * i + 2 : Nat) : Int) := by rw [w64_sm (x := (i : Int) * 2) (by omega) (by omega), w64_sm (by omega) (by omega)]; omega
  obtain ⟨r, hr, hloop⟩ := whileI (B := B_heapHeapviewportlaw23itemdownq1_2 n L k x i) (fun s => ∃ l b : Nat, s.1 = l ∧ s.2 = b ∧ (l = i ∨ (i < l ∧ l < k)) ∧ 2 * i + 1 ≤ b ∧ b ≤ 2 * i + 3) (fun s => 2 * i + 4 - s.2.toNat) (fun r => ∃ y : Nat, r = y ∧ (y = i ∨ (i < y ∧ y < k)))
    (fun s hI => by
      obtain ⟨p, q⟩ := s
      obtain ⟨l, b, rfl, rfl, h1, h2, h3⟩ := hI
      unfold B_heapHeapviewportlaw23itemdownq1_2
      dsimp only
      rw [hw2]
      by_cases a1 : (b : Int) ≤ ((2 * i + 2 : Nat) : Int)
      · rw [if_pos a1]
        by_cases a2 : (b : Int) < (k : Int)
        · rw [if_pos a2]
          obtain ⟨c, e1, e2⟩ := before_ok (n := n) (k := k) (i := b) (j := l) (L := L) (x := x) (by omega) (by omega) hk
          rw [e1]
          simp only [Option.bind_some]
          have hb : w64 ((b : Int) + 1) = ((b + 1 : Nat) : Int) := w64_inc (by omega)
          rw [hb]
          cases c with
          | true =>
            rw [if_pos rfl]
            exact .inl ⟨((b : Int), ((b + 1 : Nat) : Int)), ⟨b, b + 1, rfl, rfl, by omega, by omega, by omega⟩, by show 2 * i + 4 - (((b + 1 : Nat) : Int)).toNat < 2 * i + 4 - ((b : Int)).toNat; omega, rfl⟩
          | false =>
            rw [if_neg (by simp)]
            exact .inl ⟨((l : Int), ((b + 1 : Nat) : Int)), ⟨l, b + 1, rfl, rfl, h1, by omega, by omega⟩, by show 2 * i + 4 - (((b + 1 : Nat) : Int)).toNat < 2 * i + 4 - ((b : Int)).toNat; omega, rfl⟩
        · rw [if_neg a2]
          exact .inr ⟨_, ⟨l, rfl, h1⟩, rfl⟩
      · rw [if_neg a1]
        exact .inr ⟨_, ⟨l, rfl, h1⟩, rfl⟩) n ((i : Int), ((2 * i + 1 : Nat) : Int)) ⟨i, 2 * i + 1, rfl, rfl, .inl rfl, by omega, by omega⟩ (by show 2 * i + 4 - (((2 * i + 1 : Nat) : Int)).toNat < n; omega)
  obtain ⟨y, rfl, hy⟩ := hr
  refine ⟨y, ?_, hy⟩
  rw [hw]
  exact hloop
theorem down_ok {n k : Nat} {L : List E3} {x : Int} {Q : E3 → Prop} (hn : 1000 ≤ n) (hk : k ≤ L.length) (hk2 : k ≤ 300) (hQ : AllE Q L k) : ∃ M, m_heapHeapviewportlaw23itemdownq1 n L k x 0 = some M ∧ M.length = L.length ∧ AllE Q M k := by
  obtain ⟨M, hM, hloop⟩ := whileI (B := B_heapHeapviewportlaw23itemdownq1_1 n k x) (fun s => ∃ i : Nat, s.2 = i ∧ (i = 0 ∨ i < k) ∧ s.1.length = L.length ∧ AllE Q s.1 k) (fun s => 300 - s.2.toNat) (fun M => M.length = L.length ∧ AllE Q M k)
    (fun s hI => by
      obtain ⟨M, a⟩ := s
      obtain ⟨i, rfl, h1, h2, h3⟩ := hI
      dsimp only at h2 h3
      unfold B_heapHeapviewportlaw23itemdownq1_1
      dsimp only
      obtain ⟨y, e1, e2⟩ := down2_ok (n := n) (k := k) (i := i) (L := M) (x := x) hn (by omega) (by omega)
      rw [e1]
      simp only [Option.bind_some]
      by_cases a1 : y = i
      · rw [if_pos (by omega)]
        exact .inr ⟨_, ⟨h2, h3⟩, rfl⟩
      · have h4 := e2.resolve_left a1
        rw [if_neg (by omega), if_pos (by omega), Int.toNat_natCast, if_pos (by omega), if_pos (by omega), Int.toNat_natCast, if_pos (by omega), if_pos (by rw [List.length_set]; omega)]
        refine .inl ⟨(swapL M i y, (y : Int)), ⟨y, rfl, .inr h4.2, by rw [swap_len]; exact h2, h3.swap (by omega) (by omega) (by omega)⟩, ?_, rfl⟩
        show 300 - ((y : Int)).toNat < 300 - ((i : Int)).toNat
        omega) n (L, 0) ⟨0, rfl, .inl rfl, rfl, hQ⟩ (by show 300 - ((0 : Int)).toNat < n; omega)
  refine ⟨M, ?_, hM⟩
  unfold m_heapHeapviewportlaw23itemdownq1 m_heapHeapviewportlaw23itemdownq1_1
  rw [hloop]
  rfl
theorem take_ok {n k : Nat} {L : List E3} {x : Int} {Q : E3 → Prop} (hn : 1000 ≤ n) (h0 : 0 < k) (hk : k ≤ L.length) (hk2 : k ≤ 300) (hQ : AllE Q L k) : ∃ M, m_heapHeapviewportlaw23itemTakeq2 n L k x = some (M, k - 1, (L.getD 0 e0).2.1, (L.getD 0 e0).2.2, true) ∧ M.length = L.length ∧ AllE Q M (k - 1) := by
  have hw : w64 ((k : Int) - 1) = ((k - 1 : Nat) : Int) := by rw [w64_sm (by omega) (by omega)]; omega
  have hQ2 : AllE Q ((L.set 0 (L.getD (k - 1) e0)).set (k - 1) e0) (k - 1) := fun j hj => by
    rw [getD_set (by rw [List.length_set]; omega), if_neg (by omega), getD_set (by omega)]
    split
    · exact hQ _ (by omega)
    · exact hQ j (by omega)
  obtain ⟨M, e, h1, h2⟩ := down_ok (n := n) (x := x) hn (by rw [List.length_set, List.length_set]; omega) (by omega) hQ2
  refine ⟨M, ?_, by rw [h1, List.length_set, List.length_set], h2⟩
  unfold m_heapHeapviewportlaw23itemTakeq2 m_heapHeapviewportlaw23itemLeastq2 m_heapHeapviewportlaw23itemLenq3 m_heapHeapviewportlaw23itemvalidq3
  simp only [Option.bind_some]
  rw [if_neg (by omega), if_pos (by omega), if_pos (by simp; omega)]
  simp only [Option.bind_some]
  rw [if_pos trivial, hw, if_pos (by omega), Int.toNat_natCast, if_pos (by omega), if_pos (by omega), if_pos (by simp; omega), if_pos (by rw [List.length_set]; omega), if_pos (by omega)]
  have e : m_heapHeapviewportlaw23itemdownq1 n ((L.set ((0 : Int)).toNat ((L.getD (k - 1) (0, 0, 0)).1, (L.getD (k - 1) (0, 0, 0)).2.1, (L.getD (k - 1) (0, 0, 0)).2.2)).set (k - 1) ((0 : Int), (0 : Int), (0 : Int))) (k - 1) x 0 = some M := e
  rw [e]
  rfl


def En (j : Nat) : E3 := ((j : Int), Args.L.getD j 0, (j : Int))
def IsE (e : E3) : Prop := ∃ j : Nat, j < Args.L.length ∧ e = En j
structure PutI (H : List E3) (k i : Nat) : Prop where
  k : k = i
  len : H.length = i
  mem : ∀ e, e ∈ H ↔ ∃ j : Nat, j < i ∧ e = En j
  hp : Hp H i
theorem PutI.next {H M : List E3} {k i : Nat} (h : PutI H k i) (hM : M.Perm (H ++ [En i])) (hh : Hp M (i + 1)) : PutI M (i + 1) (i + 1) := by
  refine ⟨rfl, by rw [hM.length_eq]; simp [h.len], fun e => ?_, hh⟩
  rw [hM.mem_iff, List.mem_append, h.mem, List.mem_singleton]
  constructor
  · rintro (⟨j, hj, rfl⟩ | rfl)
    · exact ⟨j, by omega, rfl⟩
    · exact ⟨i, by omega, rfl⟩
  · rintro ⟨j, hj, rfl⟩
    rcases Nat.lt_or_ge j i with h | h
    · exact .inl ⟨j, h, rfl⟩
    · obtain rfl : j = i := by omega
      exact .inr rfl
theorem puts_ok {n : Nat} {x : Int} (hn : 1000 ≤ n) (hL : Args.L.length ≤ 200) : ∃ H k, m_viewportlaw23HeapLeaves_1 n x (([] : List (Int × Int × Int)), 0, 0, 0) = some (H, k, (Args.L.length : Int)) ∧ PutI H k Args.L.length := by
  obtain ⟨r, ⟨H, k, rfl, hI⟩, hloop⟩ := hoare (B := B_viewportlaw23HeapLeaves_1 n x) (σ := List E3 × Nat × Int) (fun s i => (s.1, s.2.1, s.2.2, i))
    (fun i s => s.2.2 = (i : Int) ∧ PutI s.1 s.2.1 i)
    (fun r => ∃ H k, r = (H, k, (Args.L.length : Int)) ∧ PutI H k Args.L.length) Args.L.length
    (fun i s hi hI => by
      obtain ⟨H, k, t⟩ := s
      obtain ⟨rfl, h⟩ := hI
      dsimp only at h
      obtain rfl := h.k
      have hlen := h.len
      unfold B_viewportlaw23HeapLeaves_1
      dsimp only
      cases H with
      | nil =>
        obtain rfl : k = 0 := by simpa using hlen.symm
        obtain ⟨M, e, h1, h2⟩ := put1_ok (n := n) (t := ((0 : Nat) : Int)) (k := Args.L.getD 0 0) (d := ((0 : Nat) : Int)) hn
        dsimp only
        rw [if_pos (by omega), if_pos (by omega), Int.toNat_natCast]
        unfold m_viewportlaw23oneq1
        simp only [Option.bind_some]
        obtain ⟨ma, mt, rfl⟩ : ∃ a t, M = a :: t := by
          cases M with
          | nil => have := h1.length_eq; simp at this
          | cons a t => exact ⟨a, t, rfl⟩
        rw [e]
        exact .inl ⟨(ma :: mt, 1, ((1 : Nat) : Int)), ⟨rfl, h.next (show (ma :: mt).Perm ([] ++ [En 0]) from h1) h2⟩, rfl⟩
      | cons a T =>
        obtain ⟨M, e, h1, h2⟩ := put3_ok (n := n) (L := a :: T) (t := (k : Int)) (k := Args.L.getD k 0) (d := (k : Int)) hn (by omega) (by rw [hlen]; exact h.hp)
        dsimp only
        rw [if_pos (by omega), if_pos (by omega), Int.toNat_natCast]
        unfold m_viewportlaw23oneq1
        simp only [Option.bind_some]
        rw [hlen] at e h2
        obtain ⟨ma, mt, rfl⟩ : ∃ a t, M = a :: t := by
          cases M with
          | nil => have := h1.length_eq; simp at this
          | cons a t => exact ⟨a, t, rfl⟩
        rw [e, w64_inc (by omega)]
        exact .inl ⟨(ma :: mt, k + 1, ((k + 1 : Nat) : Int)), ⟨rfl, h.next h1 h2⟩, rfl⟩)
    (fun s hI => by
      obtain ⟨H, k, t⟩ := s
      obtain ⟨rfl, h⟩ := hI
      dsimp only at h
      unfold B_viewportlaw23HeapLeaves_1
      dsimp only
      cases H with
      | nil =>
        dsimp only
        rw [if_neg (by omega)]
        exact ⟨_, ⟨[], k, rfl, h⟩, by rw [h.k, ← h.len]; rfl⟩
      | cons a T =>
        dsimp only
        rw [if_neg (by omega)]
        exact ⟨_, ⟨a :: T, k, rfl, h⟩, rfl⟩)
    n 0 ([], 0, 0) (Nat.zero_le _) ⟨rfl, rfl, rfl, fun e => ⟨fun h => by simp at h, fun ⟨j, hj, _⟩ => by omega⟩, fun j _ hj => by omega⟩ (by omega)
  exact ⟨H, k, hloop, hI⟩
theorem least_ok {n : Nat} (hn : 1000 ≤ n) (hL : Args.L.length ≤ 200) (h0 : 0 < Args.L.length) : ∃ m, m_viewportlaw23leastq1 n = some m ∧ (∃ j, j < Args.L.length ∧ m = Args.L.getD j 0) ∧ ∀ j, j < Args.L.length → m ≤ Args.L.getD j 0 := by
  obtain ⟨r, hr, hloop⟩ := hoare (B := B_viewportlaw23leastq1_1 n) (σ := Int) (fun s i => (s, i))
    (fun i s => (∃ j, j < Args.L.length ∧ s = Args.L.getD j 0) ∧ ∀ j, j < i → s ≤ Args.L.getD j 0)
    (fun m => (∃ j, j < Args.L.length ∧ m = Args.L.getD j 0) ∧ ∀ j, j < Args.L.length → m ≤ Args.L.getD j 0) Args.L.length
    (fun i s hi hI => by
      obtain ⟨h1, h2⟩ := hI
      unfold B_viewportlaw23leastq1_1
      dsimp only
      rw [if_pos (by omega), if_pos (by omega), Int.toNat_natCast, w64_inc (by omega)]
      refine .inl ⟨minB s (Args.L.getD i 0), ?_, rfl⟩
      unfold minB
      by_cases h : Args.L.getD i 0 < s
      · rw [if_pos h]
        refine ⟨⟨i, hi, rfl⟩, fun j hj => ?_⟩
        rcases Nat.lt_or_ge j i with h' | h'
        · have := h2 j h'; omega
        · obtain rfl : j = i := by omega
          exact Int.le_refl _
      · rw [if_neg h]
        refine ⟨h1, fun j hj => ?_⟩
        rcases Nat.lt_or_ge j i with h' | h'
        · exact h2 j h'
        · obtain rfl : j = i := by omega
          omega)
    (fun s hI => by
      unfold B_viewportlaw23leastq1_1
      dsimp only
      rw [if_neg (by omega)]
      exact ⟨_, hI, rfl⟩)
    n 1 (Args.L.getD 0 0) (by omega) ⟨⟨0, h0, rfl⟩, fun j hj => (show j = 0 by omega) ▸ Int.le_refl _⟩ (by omega)
  refine ⟨r, ?_, hr⟩
  unfold m_viewportlaw23leastq1 m_viewportlaw23leastq1_1
  rw [if_pos (by omega)]
  have hloop : iterM (B_viewportlaw23leastq1_1 n) n (Args.L.getD ((0 : Int)).toNat 0, 1) = some r := hloop
  rw [hloop]
  rfl
theorem pick_ok {n k : Nat} {x : Int} (h0 : 1 ≤ k) (hk : k ≤ 1000) : ∃ e : Nat, m_viewportkitPickq1 n x (k : Int) = some (e : Int) ∧ e < k := by
  have hlt := Int.tmod_lt_of_pos x (show (0 : Int) < (k : Int) by omega)
  have hgt : -(k : Int) < Int.tmod x k := by
    rw [← Int.neg_neg (Int.tmod x k), ← Int.neg_tmod]
    have := Int.tmod_lt_of_pos (-x) (show (0 : Int) < (k : Int) by omega)
    omega
  unfold m_viewportkitPickq1
  rw [if_neg (by omega), if_pos (by omega)]
  by_cases h : Int.tmod x k < 0
  · rw [if_pos h, w64_sm (by omega) (by omega)]
    refine ⟨(Int.tmod x k + k).toNat, ?_, by omega⟩
    rw [Int.toNat_of_nonneg (by omega)]
  · rw [if_neg h]
    refine ⟨(Int.tmod x k).toNat, ?_, by omega⟩
    rw [Int.toNat_of_nonneg (by omega)]
/-- a round: it stops just where 'early' entries were taken -/
theorem round_ok {n early c : Nat} {b1 : Bool} {H1 : List E3} {k1 : Nat} {t1 x : Int} {H : List E3} {k : Nat} {j : Nat} (hn : 1000 ≤ n) (hL : Args.L.length ≤ 200) (hj : j < Args.L.length) (hr : c = 0 → ∀ i, i < Args.L.length → Args.L.getD j 0 ≤ Args.L.getD i 0) :
    m_heapHeapviewportlaw23itemAll1_111110y1 n early b1 H1 k1 t1 c H k x (En j).2.1 (En j).2.2 = some (if c = early then .inl () else .inr ()) := by
  unfold m_heapHeapviewportlaw23itemAll1_111110y1 m_viewportlaw23HeapLeaves_111010y1
  by_cases h : c = early
  · rw [if_pos (by omega), if_pos h]
  · rw [if_neg (by omega), if_neg h]
    have hd : (En j).2.2 = (j : Int) := rfl
    rw [hd, if_neg (by omega), if_neg (by omega)]
    by_cases h0 : c = 0
    · obtain ⟨m, e, ⟨i, hi, hm⟩, h2⟩ := least_ok (n := n) hn hL (by omega)
      rw [if_pos (by omega), if_pos (show 0 ≤ (j : Int) ∧ (j : Int) < ((Args.L.length : Nat) : Int) by omega), e]
      simp only [Option.bind_some]
      rw [if_pos]
      show Args.L.getD ((j : Int)).toNat 0 = m
      rw [Int.toNat_natCast]
      have a := h2 j hj
      have b := hr h0 i hi
      omega
    · rw [if_neg (by omega)]
theorem all_ok {n early : Nat} {b1 : Bool} {H : List E3} {k : Nat} {t : Int} (hn : 1000 ≤ n) (hL : Args.L.length ≤ 200) (hI : PutI H k Args.L.length) (he : early ≤ Args.L.length) (h0 : 0 < Args.L.length) :
    (m_heapHeapviewportlaw23itemAll1q2 n early b1 H k t 0 = some (.inl (early : Int))) ∨ m_heapHeapviewportlaw23itemAll1q2 n early b1 H k t 0 = some (.inr (early : Int)) := by
  have hlen := hI.len
  have hroot : ∀ i, i < Args.L.length → (H.getD 0 e0).2.1 ≤ Args.L.getD i 0 := fun i hi => by
    obtain ⟨q, hq, e⟩ := mem_getD e0 ((hI.mem (En i)).2 ⟨i, hi, rfl⟩)
    have := hI.hp.root q (by omega)
    rw [e] at this
    have : ¬ ((En i).2.1 < (H.getD 0 e0).2.1) := fun h => this (.inl h)
    exact Int.not_lt.1 this
  obtain ⟨r, hr, hloop⟩ := whileI (B := B_heapHeapviewportlaw23itemdrain1q2_1 n early b1 H k t 0)
    (fun s => ∃ c : Nat, s.1 = c ∧ c ≤ early ∧ c + s.2.2 = Args.L.length ∧ s.2.2 ≤ s.2.1.length ∧ AllE IsE s.2.1 s.2.2 ∧ (c = 0 → ∀ i, i < Args.L.length → (s.2.1.getD 0 e0).2.1 ≤ Args.L.getD i 0))
    (fun s => s.2.2) (fun r => ∃ M q, r = .inl ((early : Int), M, q) ∨ r = .inr ((early : Int), M, q))
    (fun s hs => by
      obtain ⟨a, M, q⟩ := s
      obtain ⟨c, rfl, h1, h2, h3, h4, h5⟩ := hs
      dsimp only at h2 h3 h4 h5
      unfold B_heapHeapviewportlaw23itemdrain1q2_1 m_heapHeapviewportlaw23itemLenq3 m_heapHeapviewportlaw23itemvalidq3
      simp only [Option.bind_some]
      by_cases hq : q = 0
      · rw [if_neg (by omega)]
        obtain rfl : c = early := by omega
        exact .inr ⟨_, ⟨M, q, .inr rfl⟩, rfl⟩
      · rw [if_pos (by omega)]
        obtain ⟨M', e, g1, g2⟩ := take_ok (n := n) (x := 0) hn (by omega) h3 (by omega) h4
        obtain ⟨j, hj, hje⟩ := h4 0 (by omega)
        rw [e, hje]
        simp only [Option.bind_some]
        have hrnd := round_ok (n := n) (early := early) (c := c) (b1 := b1) (H1 := H) (k1 := k) (t1 := t) (x := 0) (H := M') (k := q - 1) (j := j) hn hL hj (fun hc i hi => by
          have := h5 hc i hi
          rw [hje] at this
          exact this)
        rw [hrnd]
        by_cases hc : c = early
        · subst hc
          rw [if_pos rfl]
          exact .inr ⟨_, ⟨M', q - 1, .inl rfl⟩, rfl⟩
        · rw [if_neg hc, w64_inc (by omega)]
          exact .inl ⟨((c + 1 : Nat), M', q - 1), ⟨c + 1, rfl, by omega, by dsimp only; omega, by dsimp only; omega, g2, fun h => by omega⟩, by dsimp only; omega, rfl⟩)
    n ((0 : Int), H, H.length) ⟨0, rfl, by omega, by dsimp only; omega, Nat.le_refl _, fun j hj => by
      obtain ⟨i, hi, e⟩ := (hI.mem (H.getD j e0)).1 (getD_mem hj)
      exact ⟨i, hi, e⟩, fun _ => hroot⟩ (by dsimp only; omega)
  have hk := hI.k
  unfold m_heapHeapviewportlaw23itemAll1q2 m_heapHeapviewportlaw23itemvalidq3 m_heapNewviewportref23Itemq1 m_slicesCloneviewportref23Itemq2 m_heapHeapviewportlaw23itemdrainq2 m_heapHeapviewportlaw23itemdrain1q2 m_heapHeapviewportlaw23itemdrain1q2_1
  simp only [Option.bind_some]
  rw [if_pos (by omega), if_pos (by omega), if_pos (by omega), if_pos (by omega)]
  simp only [Option.bind_some, List.nil_append]
  rw [hloop]
  obtain ⟨M, q, rfl | rfl⟩ := hr
  · exact .inl rfl
  · exact .inr rfl
theorem heapLeaves_true (early : Int) : ∃ n r, m_viewportlaw23HeapLeaves n early = some r := by
  refine ⟨1000, ?_⟩
  unfold m_viewportlaw23HeapLeaves m_viewportlaw23lives
  simp only [Option.bind_some]
  by_cases hL : ((Args.L.length : Nat) : Int) > 200
  · rw [if_pos hL]; exact ⟨_, rfl⟩
  · rw [if_neg hL]
    unfold m_heapNewviewportref23Itemq1
    simp only [Option.bind_some]
    obtain ⟨H, k, e, hI⟩ := puts_ok (n := 1000) (x := early) (Nat.le_refl _) (by omega)
    rw [e]
    simp only [Option.bind_some]
    have hw : w64 (((Args.L.length : Nat) : Int) + 1) = ((Args.L.length + 1 : Nat) : Int) := w64_inc (by omega)
    obtain ⟨p, hp, hp2⟩ := pick_ok (n := 1000) (x := early) (k := Args.L.length + 1) (by omega) (by omega)
    have hlen := hI.len
    cases H with
    | nil =>
      have h0 : Args.L.length = 0 := by simpa using hlen.symm
      dsimp only
      unfold m_heapHeapviewportlaw23itemAllq1
      simp only [Option.bind_some]
      rw [hw, hp]
      obtain rfl : p = 0 := by omega
      refine ⟨.inr (), ?_⟩
      rw [h0]
      rfl
    | cons a T =>
      dsimp only
      unfold m_heapHeapviewportlaw23itemAllq2
      simp only [Option.bind_some]
      rw [hw, hp]
      simp only [Option.bind_some]
      have hk := hI.k
      rcases all_ok (n := 1000) (early := p) (b1 := false) (H := a :: T) (k := k) (t := ((Args.L.length : Nat) : Int)) (Nat.le_refl _) (by omega) hI (by omega) (by rw [← hlen]; simp) with h | h
      · rw [h]
        dsimp only
        rw [if_pos rfl]
        unfold m_heapHeapviewportlaw23itemLenq3 m_heapHeapviewportlaw23itemvalidq3
        simp only [Option.bind_some]
        rw [if_pos (by omega)]
        exact ⟨_, rfl⟩
      · rw [h]
        dsimp only
        rw [if_pos rfl]
        unfold m_heapHeapviewportlaw23itemLenq3 m_heapHeapviewportlaw23itemvalidq3
        simp only [Option.bind_some]
        rw [if_pos (by omega)]
        exact ⟨_, rfl⟩

end Go.Proofs.Ytnfndhblfpaphaa.heapw
