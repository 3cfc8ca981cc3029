/-
  The pure side. No condition.
-/
import Derived.Test.YtnfndhblfpaphaaHsBTold
import Derived.IntWalk
set_option linter.unusedSimpArgs false
set_option linter.unusedVariables false
set_option linter.unusedSectionVars false
set_option linter.unnecessarySimpa false
namespace Go.Proofs.Ytnfndhblfpaphaa.hsw
open Go Go.Proofs.Ytnfndhblfpaphaa Ax
variable [Args]


theorem w64_id {x : Int} (h1 : -9223372036854775808 ≤ x) (h2 : x < 9223372036854775808) : w64 x = x := IntWalk.i64_in _ (by omega)
theorem w64_sm {x : Int} (h1 : -1000000000000 ≤ x) (h2 : x ≤ 1000000000000) : w64 x = x := w64_id (by omega) (by omega)
theorem w64_inc {i : Nat} (h : i ≤ 1000000000) : w64 ((i : Int) + 1) = ((i + 1 : Nat) : Int) := by rw [w64_sm (by omega) (by omega)]; rfl
/-! loops -/
theorem whileI {st ρ : Type} {B : st → Option (st ⊕ ρ)} (I : st → Prop) (μ : st → Nat) (Q : ρ → Prop) (h : ∀ s, I s → (∃ s', I s' ∧ μ s' < μ s ∧ B s = some (.inl s')) ∨ ∃ r, Q r ∧ B s = some (.inr r)) : ∀ (n : Nat) (s : st), I s → μ s < n → ∃ r, Q r ∧ iterM B n s = some r
  | 0, s, _, hm => absurd hm (Nat.not_lt_zero _)
  | n + 1, s, hi, hm => by
    rcases h s hi with ⟨s', h1, h2, h3⟩ | ⟨r, h1, h2⟩
    · obtain ⟨r, q1, q2⟩ := whileI I μ Q h n s' h1 (by omega)
      exact ⟨r, q1, by rw [iterM_succ, h3]; exact q2⟩
    · exact ⟨r, h1, by rw [iterM_succ, h2]; rfl⟩
theorem hoare {σ st ρ : Type} {B : st → Option (st ⊕ ρ)} (S : σ → Int → st) (I : Nat → σ → Prop) (Q : ρ → Prop) (len : Nat)
    (h1 : ∀ (i : Nat) (s : σ), i < len → I i s → (∃ s', I (i + 1) s' ∧ B (S s (i : Int)) = some (.inl (S s' ((i + 1 : Nat) : Int)))) ∨ ∃ r, Q r ∧ B (S s (i : Int)) = some (.inr r))
    (h2 : ∀ s, I len s → ∃ r, Q r ∧ B (S s (len : Int)) = some (.inr r)) : ∀ (n i : Nat) (s : σ), i ≤ len → I i s → len - i < n → ∃ r, Q r ∧ iterM B n (S s (i : Int)) = some r
  | 0, i, s, _, _, hm => absurd hm (Nat.not_lt_zero _)
  | n + 1, i, s, hl, hi, hm => by
    have main : (∃ s', i < len ∧ I (i + 1) s' ∧ B (S s (i : Int)) = some (.inl (S s' ((i + 1 : Nat) : Int)))) ∨ ∃ r, Q r ∧ B (S s (i : Int)) = some (.inr r) := by
      by_cases hlt : i < len
      · rcases h1 i s hlt hi with ⟨s', a, b⟩ | h
        · exact .inl ⟨s', hlt, a, b⟩
        · exact .inr h
      · obtain rfl : i = len := by omega
        exact .inr (h2 s hi)
    rcases main with ⟨s', g0, g1, g3⟩ | ⟨r, g1, g2⟩
    · obtain ⟨r, q1, q2⟩ := hoare S I Q len h1 h2 n (i + 1) s' (by omega) g1 (by omega)
      exact ⟨r, q1, by rw [iterM_succ, g3]; exact q2⟩
    · exact ⟨r, g1, by rw [iterM_succ, g2]; rfl⟩
/-- a search: the first place that is not so ends it -/
theorem scan {β γ : Type} {B : Int → Option (Int ⊕ (β ⊕ γ))} (len : Nat) (p : Nat → Bool) (a : β) (c : γ)
    (h1 : ∀ i : Nat, i < len → B (i : Int) = some (if p i = true then .inl ((i + 1 : Nat) : Int) else .inr (.inl a))) (h2 : B (len : Int) = some (.inr (.inr c))) (n : Nat) (hn : len < n) :
    iterM B n 0 = some (if (List.range len).all p = true then .inr c else .inl a) := by
  obtain ⟨r, q1, q2⟩ := hoare (B := B) (σ := Unit) (fun _ i => i) (fun i _ => ∀ j, j < i → p j = true) (fun r => r = if (List.range len).all p = true then .inr c else .inl a) len
    (fun i s hi hI => by
      by_cases hp : p i = true
      · refine .inl ⟨(), fun j hj => ?_, by rw [h1 i hi, if_pos hp]⟩
        rcases Nat.lt_or_ge j i with h | h
        · exact hI j h
        · obtain rfl : j = i := by omega
          exact hp
      · refine .inr ⟨.inl a, ?_, by rw [h1 i hi, if_neg hp]⟩
        rw [if_neg]
        intro hall
        exact hp (List.all_eq_true.1 hall i (List.mem_range.2 hi)))
    (fun s hI => ⟨.inr c, by rw [if_pos (List.all_eq_true.2 fun j hj => hI j (List.mem_range.1 hj))], h2⟩) n 0 () (Nat.zero_le _) (fun j hj => absurd hj (Nat.not_lt_zero _)) (by omega)
  rw [show (0 : Int) = ((0 : Nat) : Int) from rfl, q2, q1]
theorem all_range {α : Type} {l : List α} {d : α} {p : α → Bool} : (List.range l.length).all (fun i => p (l.getD i d)) = l.all p := by
  rw [Bool.eq_iff_iff, List.all_eq_true, List.all_eq_true]
  constructor
  · intro h x hx
    obtain ⟨i, hi, rfl⟩ := List.mem_iff_getElem.1 hx
    have := h i (List.mem_range.2 hi)
    simpa [List.getD_eq_getElem?_getD, hi] using this
  · intro h i hi
    have hi := List.mem_range.1 hi
    have := h l[i] (List.getElem_mem hi)
    simpa [List.getD_eq_getElem?_getD, hi] using this
theorem getD_mem {α : Type} {l : List α} {i : Nat} {d : α} (h : i < l.length) : l.getD i d ∈ l := by
  rw [List.getD_eq_getElem?_getD, List.getElem?_eq_getElem h]; exact List.getElem_mem h
theorem mem_getD {α : Type} {l : List α} {x : α} (d : α) (h : x ∈ l) : ∃ i, i < l.length ∧ l.getD i d = x := by
  obtain ⟨i, hi, rfl⟩ := List.mem_iff_getElem.1 h
  exact ⟨i, hi, by simp [List.getD_eq_getElem?_getD, hi]⟩
theorem getD_set {α : Type} {l : List α} {i j : Nat} {x d : α} (h : i < l.length) : (l.set i x).getD j d = if j = i then x else l.getD j d := by
  simp only [List.getD_eq_getElem?_getD, List.getElem?_set]
  by_cases hj : i = j
  · subst hj; simp [h]
  · rw [if_neg hj, if_neg (Ne.symm hj)]
theorem count_set_lt {L : List Bool} {i : Nat} (h : i < L.length) (hf : ¬ L.getD i false = true) : (L.set i true).count false < L.count false := by
  have h0 : L[i] = false := by simpa [List.getD_eq_getElem?_getD, h] using hf
  have hc := List.count_set (l := L) (a := true) (b := false) (i := i) h
  have hp : 0 < L.count false := List.count_pos_iff.2 (h0 ▸ List.getElem_mem h)
  rw [h0] at hc
  simp at hc
  omega


/-! heaps -/
abbrev E3 := Int × Int × Int
def e0 : E3 := (0, 0, 0)
def lt (a b : E3) : Prop := a.2.1 < b.2.1 ∨ (a.2.1 = b.2.1 ∧ a.1 < b.1)
theorem lt_trans {a b c : E3} (h : lt a b) (k : lt b c) : lt a c := by unfold lt at *; omega
theorem lt_asymm {a b : E3} (h : lt a b) : ¬ lt b a := by unfold lt at *; omega
theorem nlt_trans {a b c : E3} (h : ¬ lt a b) (k : ¬ lt b c) : ¬ lt a c := by unfold lt at *; omega
theorem key_ok {n : Nat} {a b c d : Int} : m_viewportlaw23byKeyq1 n a b c d = some (if a < c then -1 else if a > c then 1 else 0) := by
  unfold m_viewportlaw23byKeyq1
  split
  · rfl
  · split <;> rfl
theorem before_ok {n k i j : Nat} {L : List E3} {x : Int} (hi : i < k) (hj : j < k) (hk : k ≤ L.length) : ∃ b, m_heapHeapviewportlaw23itembeforeq2 n L k x i j = some b ∧ (b = true ↔ lt (L.getD i e0) (L.getD j e0)) := by
  unfold m_heapHeapviewportlaw23itembeforeq2
  rw [if_pos (by omega), Int.toNat_natCast, if_pos (by omega), if_pos (by omega), Int.toNat_natCast, if_pos (by omega), key_ok]
  simp only [Option.bind_some]
  change ∃ b, (if (if (L.getD i e0).2.1 < (L.getD j e0).2.1 then (-1 : Int) else if (L.getD i e0).2.1 > (L.getD j e0).2.1 then 1 else 0) = (0 : Int) then if (L.getD i e0).1 < (L.getD j e0).1 then some true else some false else if (if (L.getD i e0).2.1 < (L.getD j e0).2.1 then (-1 : Int) else if (L.getD i e0).2.1 > (L.getD j e0).2.1 then 1 else 0) < (0 : Int) then some true else some false) = some b ∧ _
  generalize L.getD i e0 = a
  generalize L.getD j e0 = b
  unfold lt
  by_cases h1 : a.2.1 < b.2.1
  · rw [if_pos h1, if_neg (by decide), if_pos (by decide)]
    exact ⟨true, rfl, by simp [h1]⟩
  · rw [if_neg h1]
    by_cases h2 : a.2.1 > b.2.1
    · rw [if_pos h2, if_neg (by decide), if_neg (by decide)]
      exact ⟨false, rfl, by simp; omega⟩
    · rw [if_neg h2, if_pos rfl]
      by_cases h3 : a.1 < b.1
      · rw [if_pos h3]; exact ⟨true, rfl, by simp; omega⟩
      · rw [if_neg h3]; exact ⟨false, rfl, by simp; omega⟩
def swapL (L : List E3) (i j : Nat) : List E3 := (L.set i (L.getD j e0)).set j (L.getD i e0)
theorem swap_len {L : List E3} {i j : Nat} : (swapL L i j).length = L.length := by simp [swapL]
theorem swap_get {L : List E3} {i j q : Nat} (hi : i < L.length) (hj : j < L.length) : (swapL L i j).getD q e0 = if q = j then L.getD i e0 else if q = i then L.getD j e0 else L.getD q e0 := by
  unfold swapL
  rw [getD_set (by simpa using hj), getD_set hi]
theorem getD_eq {L : List E3} {i : Nat} (h : i < L.length) : L.getD i e0 = L[i] := by simp [List.getD_eq_getElem?_getD, h]
theorem swap_perm {L : List E3} {i j : Nat} (hi : i < L.length) (hj : j < L.length) : (swapL L i j).Perm L := by
  unfold swapL
  rw [getD_eq hi, getD_eq hj]
  exact List.set_set_perm hi hj
def Hp (L : List E3) (k : Nat) : Prop := ∀ j, 0 < j → j < k → ¬ lt (L.getD j e0) (L.getD ((j - 1) / 2) e0)
structure Up (L : List E3) (i k : Nat) : Prop where
  a : ∀ j, 0 < j → j < k → j ≠ i → ¬ lt (L.getD j e0) (L.getD ((j - 1) / 2) e0)
  b : 0 < i → ∀ j, 0 < j → j < k → (j - 1) / 2 = i → ¬ lt (L.getD j e0) (L.getD ((i - 1) / 2) e0)
theorem Up.step {L : List E3} {i k : Nat} (h : Up L i k) (hi : 0 < i) (hk : i < k) (hL : k ≤ L.length) (hlt : lt (L.getD i e0) (L.getD ((i - 1) / 2) e0)) : Up (swapL L i ((i - 1) / 2)) ((i - 1) / 2) k := by
  have hp : (i - 1) / 2 < i := by omega
  generalize hpe : (i - 1) / 2 = p at *
  have g : ∀ q, (swapL L i p).getD q e0 = if q = p then L.getD i e0 else if q = i then L.getD p e0 else L.getD q e0 := fun q => swap_get (by omega) (by omega)
  refine ⟨fun j h0 h1 hne => ?_, fun h2 j h0 h1 hj => ?_⟩
  · rw [g, g, if_neg hne]
    by_cases e : j = i
    · subst e
      rw [if_pos rfl, hpe, if_pos rfl]
      exact lt_asymm hlt
    · rw [if_neg e]
      by_cases e2 : (j - 1) / 2 = p
      · rw [if_pos e2]
        have := h.a j h0 h1 e
        rw [e2] at this
        exact fun hc => this (lt_trans hc hlt)
      · rw [if_neg e2]
        by_cases e3 : (j - 1) / 2 = i
        · rw [if_pos e3]
          have := h.b hi j h0 h1 e3
          rwa [hpe] at this
        · rw [if_neg e3]
          exact h.a j h0 h1 e
  · have hpp : (p - 1) / 2 < p := by omega
    rw [g, g, if_neg (show j ≠ p by omega), if_neg (show (p - 1) / 2 ≠ p by omega), if_neg (show (p - 1) / 2 ≠ i by omega)]
    have hpa := h.a p h2 (by omega) (by omega)
    by_cases e : j = i
    · rw [if_pos e]; exact hpa
    · rw [if_neg e]
      have := h.a j h0 h1 e
      rw [hj] at this
      exact nlt_trans this hpa
theorem Up.done {L : List E3} {i k : Nat} (h : Up L i k) (hd : i = 0 ∨ ¬ lt (L.getD i e0) (L.getD ((i - 1) / 2) e0)) : Hp L k := fun j h0 h1 => by
  by_cases e : j = i
  · subst e
    rcases hd with hd | hd
    · omega
    · exact hd
  · exact h.a j h0 h1 e
theorem fdiv2 {i : Nat} (h : 0 < i) (hs : i ≤ 1000000) : Int.fdiv (w64 ((i : Int) - 1)) 2 = (((i - 1) / 2 : Nat) : Int) := by
  rw [w64_sm (by omega) (by omega), show (i : Int) - 1 = ((i - 1 : Nat) : Int) by omega, Int.fdiv_eq_ediv_of_nonneg _ (by decide)]
  rfl
def absI (i : Nat) : Int := if i = 0 then Int.fdiv (w64 ((0 : Int) - 1)) 2 else (((i - 1) / 2 : Nat) : Int)
theorem absI_ok {i : Nat} (hs : i ≤ 1000000) : Int.fdiv (w64 ((i : Int) - 1)) 2 = absI i := by
  unfold absI
  by_cases h : i = 0
  · subst h; rfl
  · rw [if_neg h, fdiv2 (by omega) hs]
theorem up_ok {n k i : Nat} {L : List E3} {x : Int} (hn : 1000 ≤ n) (hk : k ≤ 300) (hL : k = L.length) (hi : i < k) (hU : Up L i k) : ∃ M, m_heapHeapviewportlaw23itemupq1 n L x i = some M ∧ M.Perm L ∧ Hp M k := by
  subst hL
  obtain ⟨M, hM, hloop⟩ := whileI (B := B_heapHeapviewportlaw23itemupq1_1 n L.length x) (fun s => ∃ j : Nat, s.2.1 = j ∧ s.2.2 = absI j ∧ j < L.length ∧ s.1.Perm L ∧ Up s.1 j L.length) (fun s => s.2.1.toNat) (fun M => M.Perm L ∧ Hp M L.length)
    (fun s hI => by
      obtain ⟨M, a, b⟩ := s
      obtain ⟨j, rfl, rfl, hj, hp, hu⟩ := hI
      dsimp only at hp hu
      have hlen := hp.length_eq
      unfold B_heapHeapviewportlaw23itemupq1_1
      dsimp only
      by_cases h0 : j = 0
      · subst h0
        rw [if_neg (by omega)]
        exact .inr ⟨_, ⟨hp, hu.done (.inl rfl)⟩, rfl⟩
      · rw [if_pos (by omega), show absI j = (((j - 1) / 2 : Nat) : Int) by unfold absI; rw [if_neg h0]]
        obtain ⟨c, e1, e2⟩ := before_ok (n := n) (k := L.length) (i := j) (j := (j - 1) / 2) (L := M) (x := x) hj (by omega) (by omega)
        rw [e1]
        simp only [Option.bind_some]
        cases c with
        | false =>
          rw [if_neg (by simp)]
          exact .inr ⟨_, ⟨hp, hu.done (.inr fun h => by have := e2.2 h; cases this)⟩, rfl⟩
        | true =>
          have hlt := e2.1 rfl
          rw [if_pos rfl, if_pos (by omega), Int.toNat_natCast, if_pos (by omega), if_pos (by omega), Int.toNat_natCast, if_pos (by omega), if_pos (by rw [List.length_set]; omega), absI_ok (by omega)]
          refine .inl ⟨(swapL M j ((j - 1) / 2), (((j - 1) / 2 : Nat) : Int), absI ((j - 1) / 2)), ⟨(j - 1) / 2, rfl, rfl, by omega, (swap_perm (by omega) (by omega)).trans hp, hu.step (by omega) hj (by omega) hlt⟩, ?_, rfl⟩
          show ((((j - 1) / 2 : Nat) : Int)).toNat < ((j : Nat) : Int).toNat
          rw [Int.toNat_natCast, Int.toNat_natCast]
          omega) n (L, (i : Int), Int.fdiv (w64 ((i : Int) - 1)) 2) ⟨i, rfl, absI_ok (by omega), hi, .refl _, hU⟩ (by show (i : Int).toNat < n; omega)
  refine ⟨M, ?_, hM⟩
  unfold m_heapHeapviewportlaw23itemupq1 m_heapHeapviewportlaw23itemupq1_1
  rw [hloop]
  rfl
theorem getD_append_l {L : List E3} {e : E3} {i : Nat} (h : i < L.length) : (L ++ [e]).getD i e0 = L.getD i e0 := by
  simp [List.getD_eq_getElem?_getD, List.getElem?_append_left h]
theorem up_start {L : List E3} {e : E3} (h : Hp L L.length) : Up (L ++ [e]) L.length (L.length + 1) := by
  refine ⟨fun j h0 h1 hne => ?_, fun h2 j h0 h1 hj => by omega⟩
  rw [getD_append_l (by omega), getD_append_l (by omega)]
  exact h j h0 (by omega)
theorem put1_ok {n : Nat} {t k d : Int} (hn : 1000 ≤ n) : ∃ M, m_heapHeapviewportlaw23itemPutq1 n t k d = some M ∧ M.Perm [(t, k, d)] ∧ Hp M 1 := by
  have h0 : Up [(t, k, d)] 0 1 := ⟨fun j h0 h1 _ => by omega, fun h => by omega⟩
  obtain ⟨M, e, h1, h2⟩ := up_ok (x := w64 (t + 1)) (i := 0) (k := 1) hn (by omega) rfl (by omega) h0
  refine ⟨M, ?_, h1, h2⟩
  unfold m_heapHeapviewportlaw23itemPutq1 m_heapHeapviewportlaw23itemvalidq1
  simp only [Option.bind_some]
  have e : m_heapHeapviewportlaw23itemupq1 n [(t, k, d)] (w64 (t + 1)) 0 = some M := e
  rw [e]
  rfl
theorem put2_ok {n : Nat} {L : List E3} {t k d : Int} (hn : 1000 ≤ n) (hL : L.length ≤ 250) (h : Hp L L.length) : ∃ M, m_heapHeapviewportlaw23itemPutq2 n L t k d = some M ∧ M.Perm (L ++ [(t, k, d)]) ∧ Hp M (L.length + 1) := by
  obtain ⟨M, e, h1, h2⟩ := up_ok (L := L ++ [(t, k, d)]) (x := w64 (t + 1)) (i := L.length) hn (by omega) (k := L.length + 1) (by simp) (by omega) (up_start h)
  refine ⟨M, ?_, h1, h2⟩
  unfold m_heapHeapviewportlaw23itemPutq2 m_heapHeapviewportlaw23itemvalidq3
  simp only [Option.bind_some]
  have hl : (L ++ [(t, k, d)]).length = L.length + 1 := by simp
  rw [if_pos (by omega), hl, show w64 (((L.length + 1 : Nat) : Int) - 1) = ((L.length : Nat) : Int) by rw [w64_sm (by omega) (by omega)]; omega, e]
  rfl
theorem put3_ok {n q : Nat} {L : List E3} {t k d : Int} (hn : 1000 ≤ n) (hq : q ≤ L.length) (hL : q ≤ 250) (h : Hp (L.take q) q) : ∃ M, m_heapHeapviewportlaw23itemPutq3 n L q t k d = some (M, q + 1) ∧ M.Perm (L.take q ++ [(t, k, d)]) ∧ Hp M (q + 1) := by
  have hlen : (L.take q).length = q := by rw [List.length_take]; omega
  obtain ⟨M, e, h1, h2⟩ := up_ok (L := L.take q ++ [(t, k, d)]) (x := w64 (t + 1)) (i := q) hn (by omega) (k := q + 1) (by simp; omega) (by omega) (by have := up_start (L := L.take q) (e := (t, k, d)) (by rw [hlen]; exact h); rwa [hlen] at this)
  refine ⟨M, ?_, h1, h2⟩
  unfold m_heapHeapviewportlaw23itemPutq3 m_heapHeapviewportlaw23itemvalidq4
  simp only [Option.bind_some]
  have hl : (L.take q ++ [(t, k, d)]).length = q + 1 := by rw [List.length_append, hlen]; rfl
  rw [if_pos hq, if_pos (by omega), hl, show w64 (((q + 1 : Nat) : Int) - 1) = ((q : Nat) : Int) by rw [w64_sm (by omega) (by omega)]; omega, e]
  rfl
theorem Hp.root {L : List E3} {k : Nat} (h : Hp L k) : ∀ j, j < k → ¬ lt (L.getD j e0) (L.getD 0 e0) := by
  intro j
  induction j using Nat.strongRecOn with
  | _ j ih =>
    intro hj
    by_cases h0 : j = 0
    · subst h0; exact fun h => lt_asymm h h
    · exact nlt_trans (h j (by omega) hj) (ih _ (by omega) (by omega))


/-! down: the heap is one again -/
structure Dn (L : List E3) (i k : Nat) : Prop where
  a : ∀ j, 0 < j → j < k → (j - 1) / 2 ≠ i → ¬ lt (L.getD j e0) (L.getD ((j - 1) / 2) e0)
  b : 0 < i → ∀ j, 0 < j → j < k → (j - 1) / 2 = i → ¬ lt (L.getD j e0) (L.getD ((i - 1) / 2) e0)
theorem lt_irrefl (a : E3) : ¬ lt a a := by unfold lt; omega
theorem down2_ok {n k i : Nat} {L : List E3} {x : Int} (hn : 1000 ≤ n) (hk : k ≤ L.length) (hi : i ≤ 1000) (hik : i < k) : ∃ y : Nat, m_heapHeapviewportlaw23itemdownq1_2 n L k x i (i, w64 (w64 ((i : Int) * 2) + 1)) = some (y : Int) ∧ (y = i ∨ (y < k ∧ 0 < y ∧ (y - 1) / 2 = i ∧ lt (L.getD y e0) (L.getD i e0))) ∧ ∀ j, 0 < j → j < k → (j - 1) / 2 = i → ¬ lt (L.getD j e0) (L.getD y e0) := by
  have hw : w64 (w64 ((i : Int) * 2) + 1) = ((2 * i + 1 : Nat) : Int) := by rw [w64_sm (x := (i : Int) * 2) (by omega) (by omega), w64_sm (by omega) (by omega)]; omega
  have hw2 : w64 (w64 ((i : Int) * 2) + 2) = ((2 * i + 2 : Nat) : Int) := by rw [w64_sm (x := (i : Int) * 2) (by omega) (by omega), w64_sm (by omega) (by omega)]; omega
  obtain ⟨r, hr, hloop⟩ := whileI (B := B_heapHeapviewportlaw23itemdownq1_2 n L k x i) (fun s => ∃ l b : Nat, s.1 = l ∧ s.2 = b ∧ (l = i ∨ (l < k ∧ 0 < l ∧ (l - 1) / 2 = i ∧ lt (L.getD l e0) (L.getD i e0))) ∧ 2 * i + 1 ≤ b ∧ b ≤ 2 * i + 3 ∧ ∀ j, 0 < j → j < k → (j - 1) / 2 = i → j < b → ¬ lt (L.getD j e0) (L.getD l e0)) (fun s => 2 * i + 4 - s.2.toNat) (fun r => ∃ y : Nat, r = y ∧ (y = i ∨ (y < k ∧ 0 < y ∧ (y - 1) / 2 = i ∧ lt (L.getD y e0) (L.getD i e0))) ∧ ∀ j, 0 < j → j < k → (j - 1) / 2 = i → ¬ lt (L.getD j e0) (L.getD y e0))
    (fun s hI => by
      obtain ⟨p, q⟩ := s
      obtain ⟨l, b, rfl, rfl, h1, h2, h3, h4⟩ := hI
      unfold B_heapHeapviewportlaw23itemdownq1_2
      dsimp only
      rw [hw2]
      by_cases a1 : (b : Int) ≤ ((2 * i + 2 : Nat) : Int)
      · rw [if_pos a1]
        by_cases a2 : (b : Int) < (k : Int)
        · rw [if_pos a2]
          obtain ⟨c, e1, e2⟩ := before_ok (n := n) (k := k) (i := b) (j := l) (L := L) (x := x) (by omega) (by omega) hk
          rw [e1]
          simp only [Option.bind_some]
          have hb : w64 ((b : Int) + 1) = ((b + 1 : Nat) : Int) := w64_inc (by omega)
          rw [hb]
          cases c with
          | true =>
            have hlt := e2.1 rfl
            rw [if_pos rfl]
            refine .inl ⟨((b : Int), ((b + 1 : Nat) : Int)), ⟨b, b + 1, rfl, rfl, .inr ⟨by omega, by omega, by omega, ?_⟩, by omega, by omega, fun j j0 jk jp jb => ?_⟩, by show 2 * i + 4 - (((b + 1 : Nat) : Int)).toNat < 2 * i + 4 - ((b : Int)).toNat; omega, rfl⟩
            · rcases h1 with rfl | ⟨_, _, _, h1⟩
              · exact hlt
              · exact lt_trans hlt h1
            · rcases Nat.lt_or_ge j b with hj | hj
              · exact fun hc => h4 j j0 jk jp hj (lt_trans hc hlt)
              · obtain rfl : j = b := by omega
                exact lt_irrefl _
          | false =>
            rw [if_neg (by simp)]
            refine .inl ⟨((l : Int), ((b + 1 : Nat) : Int)), ⟨l, b + 1, rfl, rfl, h1, by omega, by omega, fun j j0 jk jp jb => ?_⟩, by show 2 * i + 4 - (((b + 1 : Nat) : Int)).toNat < 2 * i + 4 - ((b : Int)).toNat; omega, rfl⟩
            rcases Nat.lt_or_ge j b with hj | hj
            · exact h4 j j0 jk jp hj
            · obtain rfl : j = b := by omega
              exact fun hc => by have := e2.2 hc; cases this
        · rw [if_neg a2]
          exact .inr ⟨_, ⟨l, rfl, h1, fun j j0 jk jp => h4 j j0 jk jp (by omega)⟩, rfl⟩
      · rw [if_neg a1]
        exact .inr ⟨_, ⟨l, rfl, h1, fun j j0 jk jp => h4 j j0 jk jp (by omega)⟩, rfl⟩) n ((i : Int), ((2 * i + 1 : Nat) : Int)) ⟨i, 2 * i + 1, rfl, rfl, .inl rfl, by omega, by omega, fun j j0 jk jp jb => by omega⟩ (by show 2 * i + 4 - (((2 * i + 1 : Nat) : Int)).toNat < n; omega)
  obtain ⟨y, rfl, hy⟩ := hr
  refine ⟨y, ?_, hy⟩
  rw [hw]
  exact hloop
theorem Dn.step {L : List E3} {i y k : Nat} (h : Dn L i k) (hk : k ≤ L.length) (hy : y < k) (h0 : 0 < y) (hp : (y - 1) / 2 = i) (hlt : lt (L.getD y e0) (L.getD i e0)) (hc : ∀ j, 0 < j → j < k → (j - 1) / 2 = i → ¬ lt (L.getD j e0) (L.getD y e0)) : Dn (swapL L i y) y k := by
  have g : ∀ q, (swapL L i y).getD q e0 = if q = y then L.getD i e0 else if q = i then L.getD y e0 else L.getD q e0 := fun q => swap_get (by omega) (by omega)
  refine ⟨fun j j0 jk hne => ?_, fun _ j j0 jk jp => ?_⟩
  · rw [g, g]
    by_cases e1 : j = y
    · subst e1
      rw [if_pos rfl, hp, if_neg (by omega), if_pos rfl]
      exact lt_asymm hlt
    · rw [if_neg e1, if_neg hne]
      by_cases e2 : j = i
      · subst e2
        rw [if_pos rfl, if_neg (by omega)]
        exact h.b j0 y h0 hy hp
      · rw [if_neg e2]
        by_cases e3 : (j - 1) / 2 = i
        · rw [if_pos e3]
          exact hc j j0 jk e3
        · rw [if_neg e3]
          exact h.a j j0 jk e3
  · rw [g, g, if_neg (show j ≠ y by omega), if_neg (show j ≠ i by omega), hp, if_neg (show i ≠ y by omega), if_pos rfl]
    have := h.a j j0 jk (by omega)
    rwa [jp] at this
theorem getD_take {L : List E3} {j k : Nat} (h : j < k) : (L.take k).getD j e0 = L.getD j e0 := by
  rw [List.getD_eq_getElem?_getD, List.getElem?_take_of_lt h, ← List.getD_eq_getElem?_getD]
theorem swap_take {L : List E3} {i j k : Nat} (hi : i < k) (hj : j < k) (hk : k ≤ L.length) : ((swapL L i j).take k).Perm (L.take k) := by
  have e : (swapL L i j).take k = swapL (L.take k) i j := by
    unfold swapL
    rw [List.take_set, List.take_set, getD_take hi, getD_take hj]
  rw [e]
  exact swap_perm (by rw [List.length_take]; omega) (by rw [List.length_take]; omega)
theorem down_ok {n k : Nat} {L : List E3} {x : Int} (hn : 1000 ≤ n) (hk : k ≤ L.length) (hk2 : k ≤ 300) (hD : Dn L 0 k) : ∃ M, m_heapHeapviewportlaw23itemdownq1 n L k x 0 = some M ∧ M.length = L.length ∧ (M.take k).Perm (L.take k) ∧ Hp M k := by
  by_cases h0 : k = 0
  · subst h0
    refine ⟨L, ?_, rfl, by simp, fun j _ hj => by omega⟩
    obtain ⟨m, rfl⟩ : ∃ m, n = m + 2 := ⟨n - 2, by omega⟩
    rfl
  obtain ⟨M, hM, hloop⟩ := whileI (B := B_heapHeapviewportlaw23itemdownq1_1 n k x) (fun s => ∃ i : Nat, s.2 = i ∧ i < k ∧ s.1.length = L.length ∧ (s.1.take k).Perm (L.take k) ∧ Dn s.1 i k) (fun s => 300 - s.2.toNat) (fun M => M.length = L.length ∧ (M.take k).Perm (L.take k) ∧ Hp M k)
    (fun s hI => by
      obtain ⟨M, a⟩ := s
      obtain ⟨i, rfl, h1, h2, h3, h4⟩ := hI
      dsimp only at h2 h3 h4
      unfold B_heapHeapviewportlaw23itemdownq1_1
      dsimp only
      obtain ⟨y, e1, e2, e3⟩ := down2_ok (n := n) (k := k) (i := i) (L := M) (x := x) hn (by omega) (by omega) h1
      rw [e1]
      simp only [Option.bind_some]
      by_cases a1 : y = i
      · rw [if_pos (by omega)]
        subst a1
        refine .inr ⟨_, ⟨h2, h3, fun j j0 jk => ?_⟩, rfl⟩
        by_cases hp : (j - 1) / 2 = y
        · rw [hp]; exact e3 j j0 jk hp
        · exact h4.a j j0 jk hp
      · have h5 := e2.resolve_left a1
        rw [if_neg (by omega), if_pos (by omega), Int.toNat_natCast, if_pos (by omega), if_pos (by omega), Int.toNat_natCast, if_pos (by omega), if_pos (by rw [List.length_set]; omega)]
        refine .inl ⟨(swapL M i y, (y : Int)), ⟨y, rfl, h5.1, by rw [swap_len]; exact h2, (swap_take h1 h5.1 (by omega)).trans h3, h4.step (by omega) h5.1 h5.2.1 h5.2.2.1 h5.2.2.2 e3⟩, ?_, rfl⟩
        show 300 - ((y : Int)).toNat < 300 - ((i : Int)).toNat
        omega) n (L, 0) ⟨0, rfl, by omega, rfl, .refl _, hD⟩ (by show 300 - ((0 : Int)).toNat < n; omega)
  refine ⟨M, ?_, hM⟩
  unfold m_heapHeapviewportlaw23itemdownq1 m_heapHeapviewportlaw23itemdownq1_1
  rw [hloop]
  rfl
/-- what is there without its root -/
def cutL (L : List E3) (k : Nat) : List E3 := (L.set 0 (L.getD (k - 1) e0)).set (k - 1) e0
theorem cut_get {L : List E3} {k j : Nat} (hk : k ≤ L.length) (hj : j < k - 1) : (cutL L k).getD j e0 = if j = 0 then L.getD (k - 1) e0 else L.getD j e0 := by
  unfold cutL
  rw [getD_set (by rw [List.length_set]; omega), if_neg (by omega), getD_set (by omega)]
theorem cut_Dn {L : List E3} {k : Nat} (hk : k ≤ L.length) (h : Hp L k) : Dn (cutL L k) 0 (k - 1) := by
  refine ⟨fun j j0 jk hne => ?_, fun h => by omega⟩
  rw [cut_get hk jk, cut_get hk (by omega), if_neg (by omega), if_neg hne]
  exact h j j0 (by omega)
theorem cut_perm {L : List E3} {k : Nat} (h0 : 0 < k) (hk : k ≤ L.length) : (L.getD 0 e0 :: (cutL L k).take (k - 1)).Perm (L.take k) := by
  have e : (cutL L k).take (k - 1) = (L.set 0 (L.getD (k - 1) e0)).take (k - 1) := by
    unfold cutL
    rw [List.take_set_of_le (Nat.le_refl _)]
  rw [e]
  obtain ⟨a, T, rfl⟩ : ∃ a T, L = a :: T := by
    cases L with
    | nil => simp at hk; omega
    | cons a T => exact ⟨a, T, rfl⟩
  obtain ⟨q, rfl⟩ : ∃ q, k = q + 1 := ⟨k - 1, by omega⟩
  simp only [Nat.add_sub_cancel, List.set_cons_zero, List.take_succ_cons]
  show (a :: ((a :: T).getD q e0 :: T).take q).Perm (a :: T.take q)
  refine .cons a ?_
  cases q with
  | zero => exact .refl _
  | succ q =>
    have hq : q < T.length := by simp at hk; omega
    rw [List.take_succ_cons]
    have e1 : (a :: T).getD (q + 1) e0 = T[q] := by simp [List.getD_eq_getElem?_getD, hq]
    rw [e1, List.take_add_one, List.getElem?_eq_getElem hq]
    exact List.perm_append_singleton _ _ |>.symm
theorem take_ok {n k : Nat} {L : List E3} {x : Int} (hn : 1000 ≤ n) (h0 : 0 < k) (hk : k ≤ L.length) (hk2 : k ≤ 300) (hH : Hp L k) : ∃ M, m_heapHeapviewportlaw23itemTakeq3 n L k x = some (M, k - 1, (L.getD 0 e0).2.1, (L.getD 0 e0).2.2, true) ∧ M.length = L.length ∧ (L.getD 0 e0 :: M.take (k - 1)).Perm (L.take k) ∧ Hp M (k - 1) := by
  have hw : w64 ((k : Int) - 1) = ((k - 1 : Nat) : Int) := by rw [w64_sm (by omega) (by omega)]; omega
  obtain ⟨M, e, h1, h2, h3⟩ := down_ok (n := n) (x := x) (L := cutL L k) hn (by unfold cutL; rw [List.length_set, List.length_set]; omega) (by omega) (cut_Dn hk hH)
  refine ⟨M, ?_, by rw [h1]; unfold cutL; rw [List.length_set, List.length_set], (h2.cons _).trans (cut_perm h0 hk), h3⟩
  unfold m_heapHeapviewportlaw23itemTakeq3 m_heapHeapviewportlaw23itemLeastq3 m_heapHeapviewportlaw23itemLenq3 m_heapHeapviewportlaw23itemvalidq4
  simp only [Option.bind_some]
  rw [if_neg (by omega), if_pos (by omega), if_pos (by simp; omega)]
  simp only [Option.bind_some]
  rw [if_pos trivial, hw, if_pos (by omega), Int.toNat_natCast, if_pos (by omega), if_pos (by omega), if_pos (by simp; omega), if_pos (by rw [List.length_set]; omega), if_pos (by omega)]
  have e : m_heapHeapviewportlaw23itemdownq1 n ((L.set ((0 : Int)).toNat ((L.getD (k - 1) (0, 0, 0)).1, (L.getD (k - 1) (0, 0, 0)).2.1, (L.getD (k - 1) (0, 0, 0)).2.2)).set (k - 1) ((0 : Int), (0 : Int), (0 : Int))) (k - 1) x 0 = some M := e
  rw [e]
  rfl


/-! the heap, and the list in order -/
def kv (e : E3) : Int × Int := (e.2.1, e.2.2)
structure St (H : List E3) (k : Nat) (t : Int) (R : List (Int × Int)) (m off : Nat) (S : List E3) : Prop where
  hk : k ≤ H.length
  hp : Hp H k
  perm : (H.take k).Perm S
  sort : S.Pairwise lt
  ref : R.drop off = S.map kv
  off : off + m = R.length
  tick : ∀ e ∈ S, e.1 < t
theorem St.len {H : List E3} {k : Nat} {t : Int} {R : List (Int × Int)} {m off : Nat} {S : List E3} (h : St H k t R m off S) : S.length = k ∧ m = k := by
  have h1 := h.perm.length_eq
  rw [List.length_take, Nat.min_eq_left h.hk] at h1
  have h2 : (R.drop off).length = (S.map kv).length := by rw [h.ref]
  rw [List.length_drop, List.length_map] at h2
  have := h.off
  exact ⟨h1.symm, by omega⟩
theorem St.root {H : List E3} {k : Nat} {t : Int} {R : List (Int × Int)} {m off : Nat} {S : List E3} (h : St H k t R m off S) (h0 : 0 < k) : ∃ S', S = H.getD 0 e0 :: S' := by
  have hl := h.len
  have hk := h.hk
  cases S with
  | nil => simp at hl; omega
  | cons s S' =>
    have hr : H.getD 0 e0 ∈ s :: S' := by
      rw [← h.perm.mem_iff, ← getD_take h0]
      exact getD_mem (by rw [List.length_take]; omega)
    rcases List.mem_cons.1 hr with e | hr
    · exact ⟨S', by rw [e]⟩
    · exfalso
      have hlt := (List.pairwise_cons.1 h.sort).1 _ hr
      have hs : s ∈ H.take k := h.perm.mem_iff.2 (by simp)
      obtain ⟨j, hj, e⟩ := mem_getD e0 hs
      rw [List.length_take] at hj
      rw [getD_take (by omega)] at e
      exact h.hp.root j (by omega) (by rw [e]; exact hlt)
theorem St.val {H : List E3} {k : Nat} {t : Int} {R : List (Int × Int)} {m off : Nat} {S : List E3} (h : St H k t R m off S) (h0 : 0 < k) : R.getD off (0, 0) = ((H.getD 0 e0).2.1, (H.getD 0 e0).2.2) := by
  obtain ⟨S', e⟩ := h.root h0
  have h1 := h.ref
  rw [e, List.map_cons] at h1
  have h2 : (R.drop off)[0]? = some (kv (H.getD 0 e0)) := by rw [h1]; rfl
  rw [List.getElem?_drop, Nat.add_zero] at h2
  rw [List.getD_eq_getElem?_getD, h2]; rfl
theorem St.took {H M : List E3} {k : Nat} {t : Int} {R : List (Int × Int)} {m off : Nat} {S : List E3} (h : St H k t R m off S) (h0 : 0 < k) (h1 : M.length = H.length) (h2 : (H.getD 0 e0 :: M.take (k - 1)).Perm (H.take k)) (h3 : Hp M (k - 1)) : ∃ S', St M (k - 1) t R (m - 1) (off + 1) S' := by
  obtain ⟨S', e⟩ := h.root h0
  have hl := h.len
  have hk := h.hk
  have ho := h.off
  refine ⟨S', by omega, h3, ?_, ?_, ?_, by omega, fun x hx => h.tick x (by rw [e]; simp [hx])⟩
  · have := h2.trans h.perm
    rw [e] at this
    exact List.Perm.cons_inv this
  · have := h.sort
    rw [e] at this
    exact (List.pairwise_cons.1 this).2
  · have h1 := h.ref
    rw [e, List.map_cons] at h1
    rw [← List.drop_drop, h1]
    rfl
theorem St.ins {H M : List E3} {k : Nat} {t x d : Int} {R : List (Int × Int)} {m off c : Nat} {S : List E3} (h : St H k t R m off S) (hc : c ≤ k) (hlo : c = 0 ∨ (R.getD (off + (c - 1)) (0, 0)).1 ≤ x) (hhi : ∀ j, c ≤ j → j < k → (R.getD (off + j) (0, 0)).1 > x) (h1 : M.Perm (H.take k ++ [(t, x, d)])) (h2 : Hp M (k + 1)) : ∃ S', St M (k + 1) (t + 1) ((R.drop off).take c ++ (x, d) :: (R.drop off).drop c) (k + 1) 0 S' := by
  have hl := h.len
  have hk := h.hk
  have ho := h.off
  have hkey : ∀ j, (hj : j < k) → (R.getD (off + j) (0, 0)).1 = (S[j]'(by omega)).2.1 := fun j hj => by
    have h3 : (R.drop off)[j]? = (S.map kv)[j]? := by rw [h.ref]
    rw [List.getElem?_drop, List.getElem?_map, List.getElem?_eq_getElem (by omega : j < S.length)] at h3
    rw [List.getD_eq_getElem?_getD, h3]; rfl
  have hsl : (S.take c ++ S.drop c).Pairwise lt := by rw [List.take_append_drop]; exact h.sort
  obtain ⟨s1, s2, s3⟩ := List.pairwise_append.1 hsl
  have hloS : ∀ a ∈ S.take c, a.2.1 ≤ x := fun a ha => by
    obtain ⟨j, hj, e⟩ := List.mem_iff_getElem.1 ha
    rw [List.length_take] at hj
    have hjc : j < c := by omega
    have ea : S[j]'(by omega) = a := by rw [← e]; simp
    rcases hlo with h0 | hlo
    · omega
    · rw [hkey (c - 1) (by omega)] at hlo
      rcases Nat.lt_or_ge j (c - 1) with hlt | hge
      · have := List.pairwise_iff_getElem.1 h.sort j (c - 1) (by omega) (by omega) hlt
        rw [ea] at this
        unfold lt at this
        omega
      · have : j = c - 1 := by omega
        subst this
        rw [ea] at hlo; exact hlo
  have hhiS : ∀ b ∈ S.drop c, b.2.1 > x := fun b hb => by
    obtain ⟨j, hj, e⟩ := List.mem_iff_getElem.1 hb
    rw [List.length_drop] at hj
    have eb : S[c + j]'(by omega) = b := by rw [← e]; simp
    have := hhi (c + j) (by omega) (by omega)
    rw [hkey (c + j) (by omega), eb] at this
    exact this
  refine ⟨S.take c ++ (t, x, d) :: S.drop c, ?_, h2, ?_, ?_, ?_, ?_, ?_⟩
  · rw [h1.length_eq, List.length_append, List.length_take]; simp; omega
  · have e : M.take (k + 1) = M := List.take_of_length_le (by have h9 := h1.length_eq; rw [List.length_append, List.length_take, List.length_singleton] at h9; omega)
    rw [e]
    refine (h1.trans (h.perm.append_right _)).trans ?_
    refine (List.perm_append_singleton _ _).trans ?_
    have := (List.perm_middle (l₁ := S.take c) (a := (t, x, d)) (l₂ := S.drop c)).symm
    rwa [List.take_append_drop] at this
  · rw [List.pairwise_append]
    refine ⟨s1, List.pairwise_cons.2 ⟨fun b hb => .inl (hhiS b hb), s2⟩, fun a ha b hb => ?_⟩
    rcases List.mem_cons.1 hb with rfl | hb
    · have h5 := hloS a ha
      have h6 := h.tick a (List.mem_of_mem_take ha)
      unfold lt
      dsimp only
      omega
    · exact s3 a ha b hb
  · rw [List.drop_zero, h.ref, List.map_append, List.map_cons, List.map_take, List.map_drop]
    rfl
  · simp only [List.length_append, List.length_cons, List.length_take, List.length_drop]; omega
  · intro e he
    rcases List.mem_append.1 he with he | he
    · have := h.tick e (List.mem_of_mem_take he); omega
    · rcases List.mem_cons.1 he with rfl | he
      · dsimp only; omega
      · have := h.tick e (List.mem_of_mem_drop he); omega
theorem refput_ok {n m off : Nat} {x d : Int} {R : List (Int × Int)} (hn : 1000 ≤ n) (ho : off + m = R.length) (hm : m ≤ 250) :
    ∃ c R', m_viewportref23HeapPutq3 n R off m x d = some R' ∧ c ≤ m ∧ (c = 0 ∨ (R.getD (off + (c - 1)) (0, 0)).1 ≤ x) ∧ (∀ j, c ≤ j → j < m → (R.getD (off + j) (0, 0)).1 > x) ∧ R' = (R.drop off).take c ++ (x, d) :: (R.drop off).drop c := by
  obtain ⟨r, ⟨c, rfl, h1, h2, h3⟩, hloop⟩ := whileI (B := B_viewportref23HeapPutq3_1 n R off m x d) (fun s => ∃ c : Nat, s = c ∧ c ≤ m ∧ ∀ j, c ≤ j → j < m → (R.getD (off + j) (0, 0)).1 > x) (fun s => s.toNat)
    (fun r => ∃ c : Nat, r = c ∧ c ≤ m ∧ (c = 0 ∨ (R.getD (off + (c - 1)) (0, 0)).1 ≤ x) ∧ ∀ j, c ≤ j → j < m → (R.getD (off + j) (0, 0)).1 > x)
    (fun s hI => by
      obtain ⟨c, rfl, h1, h2⟩ := hI
      unfold B_viewportref23HeapPutq3_1
      dsimp only
      by_cases h0 : c = 0
      · rw [if_neg (by omega)]
        exact .inr ⟨_, ⟨c, rfl, h1, .inl h0, h2⟩, rfl⟩
      · have hw : w64 ((c : Int) - 1) = ((c - 1 : Nat) : Int) := by rw [w64_sm (by omega) (by omega)]; omega
        rw [if_pos (by omega), hw, if_pos (by omega)]
        simp only [Int.toNat_natCast]
        rw [if_pos (by omega)]
        by_cases h3 : (R.getD (off + (c - 1)) (0, 0)).1 > x
        · rw [if_pos h3]
          refine .inl ⟨_, ⟨c - 1, rfl, by omega, fun j a b => ?_⟩, by omega, rfl⟩
          rcases Nat.lt_or_ge j c with hj | hj
          · obtain rfl : j = c - 1 := by omega
            exact h3
          · exact h2 j hj b
        · rw [if_neg h3]
          exact .inr ⟨_, ⟨c, rfl, h1, .inr (by omega), h2⟩, rfl⟩)
    n ((m : Nat) : Int) ⟨m, rfl, Nat.le_refl _, fun j a b => by omega⟩ (by rw [Int.toNat_natCast]; omega)
  refine ⟨c, _, ?_, h1, h2, h3, rfl⟩
  unfold m_viewportref23HeapPutq3 m_viewportref23HeapPutq3_1
  rw [hloop]
  simp only [Option.bind_some, List.nil_append, Int.toNat_natCast]
  have hdl : (R.drop off).length = m := by rw [List.length_drop]; omega
  have htl : ((R.drop off).take c).length = c := by rw [List.length_take]; omega
  have e1 : (R.drop (off + c)).take (m - c) = (R.drop off).drop c := by rw [List.drop_drop]; exact List.take_of_length_le (by rw [List.length_drop]; omega)
  rw [if_pos (by omega)]
  by_cases hc : 0 < c
  · rw [if_pos hc, if_pos (by omega), if_pos (by omega), if_pos (by omega), if_pos (by rw [htl]; omega)]
    by_cases hd : 0 < m - c
    · rw [if_pos hd, if_pos (by omega), if_pos (by rw [List.length_append, htl]; simp; omega), e1]
      simp
    · have e2 : (R.drop off).drop c = [] := List.drop_eq_nil_of_le (by omega)
      rw [if_neg hd, if_pos (by rw [List.length_append, htl]; simp; omega), e2]
  · obtain rfl : c = 0 := by omega
    rw [if_neg hc]
    by_cases hd : 0 < m - 0
    · rw [if_pos hd, if_pos (by omega), if_pos (by omega), e1]
      rfl
    · have e2 : R.drop off = [] := List.length_eq_zero_iff.1 (by omega)
      rw [if_neg hd, if_pos (by omega), e2]
      rfl
theorem reftake_ok {n m off : Nat} {R : List (Int × Int)} (ho : off + m = R.length) (h0 : 0 < m) : m_viewportref23HeapTakeq3 n R off m = some (off + 1, m - 1, (R.getD off (0, 0)).1, (R.getD off (0, 0)).2, true) := by
  unfold m_viewportref23HeapTakeq3 m_viewportref23HeapLeastq3
  rw [if_neg (by omega), if_pos (by omega), if_pos (by simp; omega)]
  simp only [Option.bind_some]
  rw [if_pos trivial, if_pos (by omega)]
  rfl
theorem refleast_ok {n m off : Nat} {R : List (Int × Int)} (ho : off + m = R.length) (h0 : 0 < m) : m_viewportref23HeapLeastq3 n R off m = some ((R.getD off (0, 0)).1, (R.getD off (0, 0)).2, true) := by
  unfold m_viewportref23HeapLeastq3
  rw [if_neg (by omega), if_pos (by omega), if_pos (by simp; omega)]
  rfl
theorem reftake0_ok {n off : Nat} {R : List (Int × Int)} : m_viewportref23HeapTakeq3 n R off 0 = some (off, 0, 0, 0, false) := by
  unfold m_viewportref23HeapTakeq3 m_viewportref23HeapLeastq3
  rw [if_pos (show (((0 : Nat) : Int)) = 0 from rfl)]
  rfl
theorem refleast0_ok {n off : Nat} {R : List (Int × Int)} : m_viewportref23HeapLeastq3 n R off 0 = some (0, 0, false) := by
  unfold m_viewportref23HeapLeastq3
  rw [if_pos (show (((0 : Nat) : Int)) = 0 from rfl)]
theorem least_ok {n k : Nat} {L : List E3} {x : Int} (h0 : 0 < k) (hk : k ≤ L.length) : m_heapHeapviewportlaw23itemLeastq3 n L k x = some ((L.getD 0 e0).2.1, (L.getD 0 e0).2.2, true) := by
  unfold m_heapHeapviewportlaw23itemLeastq3 m_heapHeapviewportlaw23itemLenq3 m_heapHeapviewportlaw23itemvalidq4
  simp only [Option.bind_some]
  rw [if_neg (by omega), if_pos (by omega), if_pos (by simp; omega)]
  rfl
theorem least0_ok {n : Nat} {L : List E3} {x : Int} : m_heapHeapviewportlaw23itemLeastq3 n L 0 x = some (0, 0, false) := by
  unfold m_heapHeapviewportlaw23itemLeastq3 m_heapHeapviewportlaw23itemLenq3 m_heapHeapviewportlaw23itemvalidq4
  simp only [Option.bind_some]
  rw [if_pos (show (((0 : Nat) : Int)) = 0 from rfl)]
theorem take0_ok {n : Nat} {L : List E3} {x : Int} : m_heapHeapviewportlaw23itemTakeq3 n L 0 x = some (L, 0, 0, 0, false) := by
  unfold m_heapHeapviewportlaw23itemTakeq3
  rw [least0_ok]
  rfl


theorem pick4_ok {n : Nat} {x : Int} : ∃ p : Nat, m_viewportkitPickq1 n x 4 = some (p : Int) ∧ p < 4 := by
  have hlt := Int.tmod_lt_of_pos x (show (0 : Int) < 4 by omega)
  have hgt : -(4 : Int) < Int.tmod x 4 := by
    rw [← Int.neg_neg (Int.tmod x 4), ← Int.neg_tmod]
    have := Int.tmod_lt_of_pos (-x) (show (0 : Int) < 4 by omega)
    omega
  unfold m_viewportkitPickq1
  rw [if_neg (by omega), if_pos (by omega)]
  by_cases h : Int.tmod x 4 < 0
  · rw [if_pos h, w64_sm (by omega) (by omega)]
    refine ⟨(Int.tmod x 4 + 4).toNat, ?_, by omega⟩
    rw [Int.toNat_of_nonneg (by omega)]
  · rw [if_neg h]
    refine ⟨(Int.tmod x 4).toNat, ?_, by omega⟩
    rw [Int.toNat_of_nonneg (by omega)]
theorem cons_of {α : Type} {L : List α} (h : 0 < L.length) : ∃ a T, L = a :: T := by
  cases L with
  | nil => exact absurd h (Nat.lt_irrefl 0)
  | cons a T => exact ⟨a, T, rfl⟩
theorem all_ok {n k m off : Nat} {H : List E3} {t : Int} {R : List (Int × Int)} {S : List E3} (hn : 1000 ≤ n) (hk2 : k ≤ 250) (h : St H k t R m off S) : m_heapHeapviewportlaw23itemAll1q2 n false H k t R off m 0 = some (m : Int) := by
  have hl := h.len
  have hk := h.hk
  have ho := h.off
  unfold m_heapHeapviewportlaw23itemAll1q2 m_heapHeapviewportlaw23itemvalidq4 m_heapNewviewportref23Itemq1 m_slicesCloneviewportref23Itemq2
  simp only [Option.bind_some]
  by_cases h0 : 0 < k
  · rw [if_pos h0, if_pos (by omega), if_pos (by omega), if_pos (by omega)]
    unfold m_heapHeapviewportlaw23itemdrainq2
    simp only [Option.bind_some, List.nil_append, List.drop_zero]
    have hC : (H.take k).length = k := by rw [List.length_take]; omega
    have hS0 : St (H.take k) k t R m off S := ⟨by omega, fun j j0 jk => by rw [getD_take jk, getD_take (by omega)]; exact h.hp j j0 jk, by rw [List.take_of_length_le (by omega)]; exact h.perm, h.sort, h.ref, h.off, h.tick⟩
    obtain ⟨r, ⟨C, q, rfl⟩, hloop⟩ := whileI (B := B_heapHeapviewportlaw23itemdrain1q2_1 n false H k t R off m 0) (fun s => ∃ c : Nat, s.1 = c ∧ c + s.2.2 = m ∧ s.2.1.length = k ∧ ∃ S2, St s.2.1 s.2.2 t R s.2.2 (off + c) S2) (fun s => s.2.2) (fun r => ∃ C q, r = ((m : Int), C, q))
      (fun s hI => by
        obtain ⟨a, C, q⟩ := s
        obtain ⟨c, rfl, h1, h2, S2, h3⟩ := hI
        dsimp only at h1 h2 h3
        unfold B_heapHeapviewportlaw23itemdrain1q2_1 m_heapHeapviewportlaw23itemLenq3 m_heapHeapviewportlaw23itemvalidq4
        simp only [Option.bind_some]
        by_cases hq : q = 0
        · rw [if_neg (by omega)]
          exact .inr ⟨_, ⟨C, q, by rw [show m = c by omega]⟩, rfl⟩
        · rw [if_pos (by omega)]
          obtain ⟨M, e, g1, g2, g3⟩ := take_ok (n := n) (x := 0) hn (by omega) h3.hk (by omega) h3.hp
          rw [e]
          simp only [Option.bind_some]
          obtain ⟨S3, h4⟩ := h3.took (by omega) g1 g2 g3
          have hv := h3.val (by omega)
          obtain ⟨ma, mt, rfl⟩ := cons_of (L := M) (by omega)
          dsimp only
          unfold m_heapHeapviewportlaw23itemAll1_111110y1 m_viewportlaw23HeapScript_111010y1
          rw [if_neg (by omega), if_pos (by omega)]
          simp only [Int.toNat_natCast]
          have hc : ¬ (!(((C.getD 0 e0).2.1 == (R.getD (off + c) (0, 0)).1) && (((C.getD 0 e0).2.2 == (R.getD (off + c) (0, 0)).2) && true))) = true := by rw [hv]; simp
          rw [if_pos (by omega), if_neg hc, w64_inc (by omega)]
          exact .inl ⟨(((c + 1 : Nat) : Int), ma :: mt, q - 1), ⟨c + 1, rfl, by dsimp only; omega, by dsimp only; omega, S3, by rw [Nat.add_assoc] at h4; exact h4⟩, by dsimp only; omega, rfl⟩)
      n ((0 : Int), H.take k, (H.take k).length) ⟨0, rfl, by dsimp only; omega, hC, S, by dsimp only; rw [hC]; have := hl.2; subst this; exact hS0⟩ (by dsimp only; omega)
    unfold m_heapHeapviewportlaw23itemdrain1q2 m_heapHeapviewportlaw23itemdrain1q2_1
    rw [hloop]
    rfl
  · rw [if_neg h0]
    have : m = 0 := by omega
    subst this
    obtain ⟨p, rfl⟩ : ∃ p, n = p + 1 := ⟨n - 1, by omega⟩
    rfl
structure Inv (H : List E3) (k : Nat) (t : Int) (R : List (Int × Int)) (m off i : Nat) : Prop where
  st : ∃ S, St H k t R m off S
  nil : H = [] ↔ R = []
  h : H.length ≤ i
  t0 : 0 ≤ t
  t1 : t ≤ i
theorem loop_ok {n : Nat} (hn : 1000 ≤ n) (hL : Args.A.length ≤ 200) : ∃ H k t R m off, m_viewportlaw23HeapScript_1 n (([] : List (Int × Int × Int)), 0, 0, ([] : List (Int × Int)), 0, 0, 0) = some (H, k, t, R, m, off) ∧ Inv H k t R m off Args.A.length := by
  obtain ⟨r, ⟨H, k, t, R, m, off, rfl, hI⟩, hloop⟩ := hoare (B := B_viewportlaw23HeapScript_1 n) (σ := List E3 × Nat × Int × List (Int × Int) × Nat × Nat) (fun s i => (s.1, s.2.1, s.2.2.1, s.2.2.2.1, s.2.2.2.2.1, s.2.2.2.2.2, i))
    (fun i s => Inv s.1 s.2.1 s.2.2.1 s.2.2.2.1 s.2.2.2.2.1 s.2.2.2.2.2 i) (fun r => ∃ H k t R m off, r = (H, k, t, R, m, off) ∧ Inv H k t R m off Args.A.length) Args.A.length
    (fun i s hi hI => by
      obtain ⟨H, k, t, R, m, off⟩ := s
      dsimp only at hI
      obtain ⟨⟨S, hS⟩, hnil, hH, ht0, ht1⟩ := hI
      have hl := hS.len
      have hk := hS.hk
      have ho := hS.off
      unfold B_viewportlaw23HeapScript_1
      dsimp only
      have hwi : w64 ((i : Int) + 1) = ((i + 1 : Nat) : Int) := w64_inc (by omega)
      have hwt : w64 (t + 1) = t + 1 := w64_sm (by omega) (by omega)
      obtain ⟨p, hp, hp4⟩ := pick4_ok (n := n) (x := (Args.A.getD i (0, 0)).1)
      cases H with
      | nil =>
        have hR := hnil.1 rfl
        subst hR
        obtain rfl : k = 0 := by simpa using hk
        obtain rfl : m = 0 := by omega
        obtain rfl : off = 0 := by simpa using ho
        dsimp only
        rw [if_pos (by omega), if_pos (by omega)]
        simp only [Int.toNat_natCast]
        rw [hp]
        simp only [Option.bind_some]
        have put : ∀ (q : Option ((List (Int × Int × Int) × Nat × Int × List (Int × Int) × Nat × Nat × Int) ⊕ (List (Int × Int × Int) × Nat × Int × List (Int × Int) × Nat × Nat))), q = ((m_viewportlaw23oneq1 n (Args.A.getD i (0, 0)).2 i).bind fun _ => (m_heapHeapviewportlaw23itemPutq1 n t (Args.A.getD i (0, 0)).2 i).bind fun y1_6_ => match y1_6_ with
              | [] => none
              | y1_6_a :: y1_6_t => (m_viewportlaw23oneq1 n (Args.A.getD i (0, 0)).2 i).bind fun _ => (m_viewportref23HeapPutq1 n (Args.A.getD i (0, 0)).2 i).bind fun _ => (m_heapHeapviewportlaw23itemLenq1 n (y1_6_a :: y1_6_t) (w64 (t + (1 : Int)))).bind fun _ => some (.inl ((y1_6_a :: y1_6_t), 1, (w64 (t + (1 : Int))), [((Args.A.getD i (0, 0)).2, (i : Int))], 1, 0, (w64 ((i : Int) + (1 : Int)))))) →
            ∃ s' : List E3 × Nat × Int × List (Int × Int) × Nat × Nat, Inv s'.1 s'.2.1 s'.2.2.1 s'.2.2.2.1 s'.2.2.2.2.1 s'.2.2.2.2.2 (i + 1) ∧ q = some (.inl (s'.1, s'.2.1, s'.2.2.1, s'.2.2.2.1, s'.2.2.2.2.1, s'.2.2.2.2.2, ((i + 1 : Nat) : Int))) := fun q hq => by
          subst hq
          obtain ⟨M, e, h1, h2⟩ := put1_ok (n := n) (t := t) (k := (Args.A.getD i (0, 0)).2) (d := (i : Int)) hn
          obtain ⟨S', h3⟩ := hS.ins (c := 0) (x := (Args.A.getD i (0, 0)).2) (d := (i : Int)) (Nat.le_refl _) (.inl rfl) (fun j _ hj => by omega) (show M.Perm (([] : List E3).take 0 ++ [(t, (Args.A.getD i (0, 0)).2, (i : Int))]) from h1) h2
          have hM := h1.length_eq
          obtain ⟨ma, mt, rfl⟩ := cons_of (L := M) (by rw [hM]; simp)
          have hr : m_viewportref23HeapPutq1 n (Args.A.getD i (0, 0)).2 i = some () := by
            obtain ⟨q, rfl⟩ : ∃ q, n = q + 1 := ⟨n - 1, by omega⟩
            rfl
          unfold m_viewportlaw23oneq1 m_heapHeapviewportlaw23itemLenq1 m_heapHeapviewportlaw23itemvalidq2
          simp only [Option.bind_some]
          rw [e]
          simp only [Option.bind_some]
          rw [hr, hwi, hwt]
          refine ⟨(ma :: mt, 1, t + 1, [((Args.A.getD i (0, 0)).2, (i : Int))], 1, 0), ⟨⟨S', h3⟩, by simp, by dsimp only; rw [hM]; simp, by dsimp only; omega, by dsimp only; omega⟩, rfl⟩
        by_cases p0 : (p : Int) = 0
        · rw [if_pos p0]
          exact .inl (put _ rfl)
        · rw [if_neg p0]
          by_cases p1 : (p : Int) = 1
          · rw [if_pos p1]
            exact .inl (put _ rfl)
          · rw [if_neg p1]
            have hsame : Inv [] 0 t [] 0 0 (i + 1) := ⟨⟨S, hS⟩, by simp, by simp, ht0, by omega⟩
            by_cases p2 : (p : Int) = 2
            · rw [if_pos p2, hwi]
              exact .inl ⟨([], 0, t, [], 0, 0), hsame, rfl⟩
            · rw [if_neg p2, hwi]
              exact .inl ⟨([], 0, t, [], 0, 0), hsame, rfl⟩
      | cons ha hT =>
        cases R with
        | nil => exact absurd (hnil.2 rfl) (by simp)
        | cons ra rT =>
          dsimp only
          rw [if_pos (by omega), if_pos (by omega)]
          simp only [Int.toNat_natCast]
          rw [hp]
          simp only [Option.bind_some]
          have put : ∀ (q : Option ((List (Int × Int × Int) × Nat × Int × List (Int × Int) × Nat × Nat × Int) ⊕ (List (Int × Int × Int) × Nat × Int × List (Int × Int) × Nat × Nat))), q = ((m_viewportlaw23oneq1 n (Args.A.getD i (0, 0)).2 i).bind fun _ => (m_heapHeapviewportlaw23itemPutq3 n (ha :: hT) k t (Args.A.getD i (0, 0)).2 i).bind fun t_ => match t_ with
              | (y1_6_0, y1_6_1) => match y1_6_0 with
                | [] => none
                | y1_6_0a :: y1_6_0t => (m_viewportlaw23oneq1 n (Args.A.getD i (0, 0)).2 i).bind fun _ => (m_viewportref23HeapPutq3 n (ra :: rT) off m (Args.A.getD i (0, 0)).2 i).bind fun y1_8_ => match y1_8_ with
                  | [] => none
                  | y1_8_a :: y1_8_t => (m_heapHeapviewportlaw23itemLenq3 n (y1_6_0a :: y1_6_0t) y1_6_1 (w64 (t + (1 : Int)))).bind fun _ => if ((y1_6_1 : Nat) : Int) = ((((y1_8_a :: y1_8_t)).length : Nat) : Int) then some (.inl ((y1_6_0a :: y1_6_0t), y1_6_1, (w64 (t + (1 : Int))), (y1_8_a :: y1_8_t), (((y1_8_a :: y1_8_t)).length), 0, (w64 ((i : Int) + (1 : Int))))) else none) →
              ∃ s' : List E3 × Nat × Int × List (Int × Int) × Nat × Nat, Inv s'.1 s'.2.1 s'.2.2.1 s'.2.2.2.1 s'.2.2.2.2.1 s'.2.2.2.2.2 (i + 1) ∧ q = some (.inl (s'.1, s'.2.1, s'.2.2.1, s'.2.2.2.1, s'.2.2.2.2.1, s'.2.2.2.2.2, ((i + 1 : Nat) : Int))) := fun q hq => by
            subst hq
            have hk' : k ≤ 250 := by omega
            obtain ⟨M, e, h1, h2⟩ := put3_ok (n := n) (q := k) (L := ha :: hT) (t := t) (k := (Args.A.getD i (0, 0)).2) (d := (i : Int)) hn hk hk' (fun j j0 jk => by rw [getD_take jk, getD_take (by omega)]; exact hS.hp j j0 jk)
            obtain ⟨c, R', e2, c1, c2, c3, rfl⟩ := refput_ok (n := n) (m := m) (off := off) (x := (Args.A.getD i (0, 0)).2) (d := (i : Int)) (R := ra :: rT) hn ho (by omega)
            obtain ⟨S', h3⟩ := hS.ins (c := c) (x := (Args.A.getD i (0, 0)).2) (d := (i : Int)) (by omega) c2 (fun j a b => c3 j a (by omega)) h1 h2
            have hM := h1.length_eq
            rw [List.length_append, List.length_take, List.length_singleton] at hM
            obtain ⟨ma, mt, rfl⟩ := cons_of (L := M) (by omega)
            unfold m_viewportlaw23oneq1 m_heapHeapviewportlaw23itemLenq3 m_heapHeapviewportlaw23itemvalidq4
            simp only [Option.bind_some]
            rw [e]
            simp only [Option.bind_some]
            rw [e2]
            simp only [Option.bind_some]
            have hR' := h3.off
            obtain ⟨na, nt, hnn⟩ := cons_of (L := ((ra :: rT).drop off).take c ++ ((Args.A.getD i (0, 0)).2, (i : Int)) :: ((ra :: rT).drop off).drop c) (by omega)
            rw [hnn] at h3 hR' ⊢
            dsimp only
            rw [if_pos (by omega), hwi, hwt]
            have hlen : (na :: nt).length = k + 1 := by omega
            refine ⟨(ma :: mt, k + 1, t + 1, na :: nt, (na :: nt).length, 0), ⟨⟨S', ?_⟩, by simp, by dsimp only; omega, by dsimp only; omega, by dsimp only; omega⟩, rfl⟩
            dsimp only
            rw [hlen]
            exact h3
          by_cases p0 : (p : Int) = 0
          · rw [if_pos p0]
            exact .inl (put _ rfl)
          · rw [if_neg p0]
            by_cases p1 : (p : Int) = 1
            · rw [if_pos p1]
              exact .inl (put _ rfl)
            · rw [if_neg p1]
              obtain rfl : m = k := hl.2
              have hsame : Inv (ha :: hT) m t (ra :: rT) m off (i + 1) := ⟨⟨S, hS⟩, by simp, by omega, ht0, by omega⟩
              by_cases p2 : (p : Int) = 2
              · rw [if_pos p2]
                by_cases h0 : m = 0
                · subst h0
                  rw [take0_ok]
                  simp only [Option.bind_some]
                  rw [reftake0_ok, hwi]
                  exact .inl ⟨(ha :: hT, 0, t, ra :: rT, 0, off), hsame, rfl⟩
                · obtain ⟨M, e, g1, g2, g3⟩ := take_ok (n := n) (x := t) hn (by omega) hk (by omega) hS.hp
                  obtain ⟨S3, h4⟩ := hS.took (by omega) g1 g2 g3
                  have hv := hS.val (by omega)
                  rw [e]
                  simp only [Option.bind_some]
                  obtain ⟨ma, mt, rfl⟩ := cons_of (L := M) (by rw [g1]; simp)
                  dsimp only
                  rw [reftake_ok ho (by omega), hv]
                  simp only [Option.bind_some]
                  unfold m_heapHeapviewportlaw23itemLenq3 m_heapHeapviewportlaw23itemvalidq4
                  rw [if_neg (by simp), if_pos trivial, if_pos trivial]
                  simp only [Option.bind_some]
                  rw [if_pos trivial, hwi]
                  exact .inl ⟨(ma :: mt, m - 1, t, ra :: rT, m - 1, off + 1), ⟨⟨S3, h4⟩, by simp, by dsimp only; rw [g1]; omega, ht0, by dsimp only; omega⟩, rfl⟩
              · rw [if_neg p2]
                by_cases h0 : m = 0
                · subst h0
                  rw [least0_ok]
                  simp only [Option.bind_some]
                  rw [refleast0_ok, hwi]
                  exact .inl ⟨(ha :: hT, 0, t, ra :: rT, 0, off), hsame, rfl⟩
                · have hv := hS.val (by omega)
                  rw [least_ok (by omega) hk]
                  simp only [Option.bind_some]
                  rw [refleast_ok ho (by omega), hv]
                  simp only [Option.bind_some]
                  unfold m_heapHeapviewportlaw23itemLenq3 m_heapHeapviewportlaw23itemvalidq4
                  rw [if_neg (by simp), if_pos trivial, if_pos trivial]
                  simp only [Option.bind_some]
                  rw [if_pos trivial, hwi]
                  exact .inl ⟨(ha :: hT, m, t, ra :: rT, m, off), hsame, rfl⟩)
    (fun s hI => by
      obtain ⟨H, k, t, R, m, off⟩ := s
      dsimp only at hI
      unfold B_viewportlaw23HeapScript_1
      dsimp only
      cases H with
      | nil =>
        have hR := hI.nil.1 rfl
        subst hR
        obtain ⟨S, hS⟩ := hI.st
        have hk := hS.hk
        have ho := hS.off
        obtain rfl : k = 0 := by simpa using hk
        obtain rfl : m = 0 := by simp at ho; omega
        obtain rfl : off = 0 := by simpa using ho
        dsimp only
        rw [if_neg (by omega)]
        exact ⟨_, ⟨_, _, _, _, _, _, rfl, hI⟩, rfl⟩
      | cons a T =>
        cases R with
        | nil => exact absurd (hI.nil.2 rfl) (by simp)
        | cons b U =>
          dsimp only
          rw [if_neg (by omega)]
          exact ⟨_, ⟨_, _, _, _, _, _, rfl, hI⟩, rfl⟩)
    n 0 ([], 0, 0, [], 0, 0) (Nat.zero_le _) ⟨⟨[], by simp, fun j _ hj => absurd hj (Nat.not_lt_zero _), by simp, .nil, by simp, rfl, fun e he => by simp at he⟩, by simp, by simp, Int.le_refl _, by simp⟩ (by omega)
  exact ⟨H, k, t, R, m, off, hloop, hI⟩
theorem heapScript_true : ∃ n r, m_viewportlaw23HeapScript n = some r := by
  refine ⟨1000, ?_⟩
  unfold m_viewportlaw23HeapScript m_viewportlaw23lives
  simp only [Option.bind_some]
  by_cases hL : ((Args.A.length : Nat) : Int) > 200
  · rw [if_pos hL]; exact ⟨_, rfl⟩
  · rw [if_neg hL]
    unfold m_heapNewviewportref23Itemq1
    simp only [Option.bind_some]
    obtain ⟨H, k, t, R, m, off, e, hI⟩ := loop_ok (n := 1000) (Nat.le_refl _) (by omega)
    rw [e]
    simp only [Option.bind_some]
    cases H with
    | nil =>
      have hR := hI.nil.1 rfl
      subst hR
      exact ⟨_, rfl⟩
    | cons a T =>
      cases R with
      | nil => exact absurd (hI.nil.2 rfl) (by simp)
      | cons b U =>
        obtain ⟨S, hS⟩ := hI.st
        have hl := hS.len
        have hk := hS.hk
        have hh := hI.h
        dsimp only
        unfold m_heapHeapviewportlaw23itemAllq2
        simp only [Option.bind_some]
        rw [all_ok (Nat.le_refl _) (by omega) hS]
        simp only [Option.bind_some]
        rw [if_pos trivial]
        unfold m_heapHeapviewportlaw23itemLenq3 m_heapHeapviewportlaw23itemvalidq4
        simp only [Option.bind_some]
        rw [if_pos (by omega)]
        exact ⟨_, rfl⟩

end Go.Proofs.Ytnfndhblfpaphaa.hsw
