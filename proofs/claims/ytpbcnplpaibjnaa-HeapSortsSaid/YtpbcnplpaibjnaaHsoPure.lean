/-
  The pure side. No condition.
-/
import Derived.Test.YtpbcnplpaibjnaaHsoBTold
import Derived.IntWalk
set_option linter.unusedSimpArgs false
set_option linter.unusedVariables false
set_option linter.unusedSectionVars false
set_option linter.unnecessarySimpa false
namespace Go.Proofs.Ytpbcnplpaibjnaa.hsow
open Go Go.Proofs.Ytpbcnplpaibjnaa Ax
variable [Args]


theorem w64_id {x : Int} (h1 : -9223372036854775808 ≤ x) (h2 : x < 9223372036854775808) : w64 x = x := IntWalk.i64_in _ (by omega)
theorem w64_sm {x : Int} (h1 : -1000000000000 ≤ x) (h2 : x ≤ 1000000000000) : w64 x = x := w64_id (by omega) (by omega)
theorem w64_inc {i : Nat} (h : i ≤ 1000000000) : w64 ((i : Int) + 1) = ((i + 1 : Nat) : Int) := by rw [w64_sm (by omega) (by omega)]; rfl
/-! loops -/
theorem whileI {st ρ : Type} {B : st → Option (st ⊕ ρ)} (I : st → Prop) (μ : st → Nat) (Q : ρ → Prop) (h : ∀ s, I s → (∃ s', I s' ∧ μ s' < μ s ∧ B s = some (.inl s')) ∨ ∃ r, Q r ∧ B s = some (.inr r)) : ∀ (n : Nat) (s : st), I s → μ s < n → ∃ r, Q r ∧ iterM B n s = some r
  | 0, s, _, hm => absurd hm (Nat.not_lt_zero _)
  | n + 1, s, hi, hm => by
    rcases h s hi with ⟨s', h1, h2, h3⟩ | ⟨r, h1, h2⟩
    · obtain ⟨r, q1, q2⟩ := whileI I μ Q h n s' h1 (by omega)
      exact ⟨r, q1, by rw [iterM_succ, h3]; exact q2⟩
    · exact ⟨r, h1, by rw [iterM_succ, h2]; rfl⟩
theorem hoare {σ st ρ : Type} {B : st → Option (st ⊕ ρ)} (S : σ → Int → st) (I : Nat → σ → Prop) (Q : ρ → Prop) (len : Nat)
    (h1 : ∀ (i : Nat) (s : σ), i < len → I i s → (∃ s', I (i + 1) s' ∧ B (S s (i : Int)) = some (.inl (S s' ((i + 1 : Nat) : Int)))) ∨ ∃ r, Q r ∧ B (S s (i : Int)) = some (.inr r))
    (h2 : ∀ s, I len s → ∃ r, Q r ∧ B (S s (len : Int)) = some (.inr r)) : ∀ (n i : Nat) (s : σ), i ≤ len → I i s → len - i < n → ∃ r, Q r ∧ iterM B n (S s (i : Int)) = some r
  | 0, i, s, _, _, hm => absurd hm (Nat.not_lt_zero _)
  | n + 1, i, s, hl, hi, hm => by
    have main : (∃ s', i < len ∧ I (i + 1) s' ∧ B (S s (i : Int)) = some (.inl (S s' ((i + 1 : Nat) : Int)))) ∨ ∃ r, Q r ∧ B (S s (i : Int)) = some (.inr r) := by
      by_cases hlt : i < len
      · rcases h1 i s hlt hi with ⟨s', a, b⟩ | h
        · exact .inl ⟨s', hlt, a, b⟩
        · exact .inr h
      · obtain rfl : i = len := by omega
        exact .inr (h2 s hi)
    rcases main with ⟨s', g0, g1, g3⟩ | ⟨r, g1, g2⟩
    · obtain ⟨r, q1, q2⟩ := hoare S I Q len h1 h2 n (i + 1) s' (by omega) g1 (by omega)
      exact ⟨r, q1, by rw [iterM_succ, g3]; exact q2⟩
    · exact ⟨r, g1, by rw [iterM_succ, g2]; rfl⟩
/-- a search: the first place that is not so ends it -/
theorem scan {β γ : Type} {B : Int → Option (Int ⊕ (β ⊕ γ))} (len : Nat) (p : Nat → Bool) (a : β) (c : γ)
    (h1 : ∀ i : Nat, i < len → B (i : Int) = some (if p i = true then .inl ((i + 1 : Nat) : Int) else .inr (.inl a))) (h2 : B (len : Int) = some (.inr (.inr c))) (n : Nat) (hn : len < n) :
    iterM B n 0 = some (if (List.range len).all p = true then .inr c else .inl a) := by
  obtain ⟨r, q1, q2⟩ := hoare (B := B) (σ := Unit) (fun _ i => i) (fun i _ => ∀ j, j < i → p j = true) (fun r => r = if (List.range len).all p = true then .inr c else .inl a) len
    (fun i s hi hI => by
      by_cases hp : p i = true
      · refine .inl ⟨(), fun j hj => ?_, by rw [h1 i hi, if_pos hp]⟩
        rcases Nat.lt_or_ge j i with h | h
        · exact hI j h
        · obtain rfl : j = i := by omega
          exact hp
      · refine .inr ⟨.inl a, ?_, by rw [h1 i hi, if_neg hp]⟩
        rw [if_neg]
        intro hall
        exact hp (List.all_eq_true.1 hall i (List.mem_range.2 hi)))
    (fun s hI => ⟨.inr c, by rw [if_pos (List.all_eq_true.2 fun j hj => hI j (List.mem_range.1 hj))], h2⟩) n 0 () (Nat.zero_le _) (fun j hj => absurd hj (Nat.not_lt_zero _)) (by omega)
  rw [show (0 : Int) = ((0 : Nat) : Int) from rfl, q2, q1]
theorem all_range {α : Type} {l : List α} {d : α} {p : α → Bool} : (List.range l.length).all (fun i => p (l.getD i d)) = l.all p := by
  rw [Bool.eq_iff_iff, List.all_eq_true, List.all_eq_true]
  constructor
  · intro h x hx
    obtain ⟨i, hi, rfl⟩ := List.mem_iff_getElem.1 hx
    have := h i (List.mem_range.2 hi)
    simpa [List.getD_eq_getElem?_getD, hi] using this
  · intro h i hi
    have hi := List.mem_range.1 hi
    have := h l[i] (List.getElem_mem hi)
    simpa [List.getD_eq_getElem?_getD, hi] using this
theorem getD_mem {α : Type} {l : List α} {i : Nat} {d : α} (h : i < l.length) : l.getD i d ∈ l := by
  rw [List.getD_eq_getElem?_getD, List.getElem?_eq_getElem h]; exact List.getElem_mem h
theorem mem_getD {α : Type} {l : List α} {x : α} (d : α) (h : x ∈ l) : ∃ i, i < l.length ∧ l.getD i d = x := by
  obtain ⟨i, hi, rfl⟩ := List.mem_iff_getElem.1 h
  exact ⟨i, hi, by simp [List.getD_eq_getElem?_getD, hi]⟩
theorem getD_set {α : Type} {l : List α} {i j : Nat} {x d : α} (h : i < l.length) : (l.set i x).getD j d = if j = i then x else l.getD j d := by
  simp only [List.getD_eq_getElem?_getD, List.getElem?_set]
  by_cases hj : i = j
  · subst hj; simp [h]
  · rw [if_neg hj, if_neg (Ne.symm hj)]
theorem count_set_lt {L : List Bool} {i : Nat} (h : i < L.length) (hf : ¬ L.getD i false = true) : (L.set i true).count false < L.count false := by
  have h0 : L[i] = false := by simpa [List.getD_eq_getElem?_getD, h] using hf
  have hc := List.count_set (l := L) (a := true) (b := false) (i := i) h
  have hp : 0 < L.count false := List.count_pos_iff.2 (h0 ▸ List.getElem_mem h)
  rw [h0] at hc
  simp at hc
  omega


/-! heaps -/
abbrev E3 := Int × Int × Int
def e0 : E3 := (0, 0, 0)
def lt (a b : E3) : Prop := a.2.1 < b.2.1 ∨ (a.2.1 = b.2.1 ∧ a.1 < b.1)
theorem lt_trans {a b c : E3} (h : lt a b) (k : lt b c) : lt a c := by unfold lt at *; omega
theorem lt_asymm {a b : E3} (h : lt a b) : ¬ lt b a := by unfold lt at *; omega
theorem nlt_trans {a b c : E3} (h : ¬ lt a b) (k : ¬ lt b c) : ¬ lt a c := by unfold lt at *; omega
theorem key_ok {n : Nat} {a b c d : Int} : m_viewportlaw23byKeyq1 n a b c d = some (if a < c then -1 else if a > c then 1 else 0) := by
  unfold m_viewportlaw23byKeyq1
  split
  · rfl
  · split <;> rfl
theorem before_ok {n k i j : Nat} {L : List E3} {x : Int} (hi : i < k) (hj : j < k) (hk : k ≤ L.length) : ∃ b, m_heapHeapviewportlaw23itembeforeq2 n L k x i j = some b ∧ (b = true ↔ lt (L.getD i e0) (L.getD j e0)) := by
  unfold m_heapHeapviewportlaw23itembeforeq2
  rw [if_pos (by omega), Int.toNat_natCast, if_pos (by omega), if_pos (by omega), Int.toNat_natCast, if_pos (by omega), key_ok]
  simp only [Option.bind_some]
  change ∃ b, (if (if (L.getD i e0).2.1 < (L.getD j e0).2.1 then (-1 : Int) else if (L.getD i e0).2.1 > (L.getD j e0).2.1 then 1 else 0) = (0 : Int) then if (L.getD i e0).1 < (L.getD j e0).1 then some true else some false else if (if (L.getD i e0).2.1 < (L.getD j e0).2.1 then (-1 : Int) else if (L.getD i e0).2.1 > (L.getD j e0).2.1 then 1 else 0) < (0 : Int) then some true else some false) = some b ∧ _
  generalize L.getD i e0 = a
  generalize L.getD j e0 = b
  unfold lt
  by_cases h1 : a.2.1 < b.2.1
  · rw [if_pos h1, if_neg (by decide), if_pos (by decide)]
    exact ⟨true, rfl, by simp [h1]⟩
  · rw [if_neg h1]
    by_cases h2 : a.2.1 > b.2.1
    · rw [if_pos h2, if_neg (by decide), if_neg (by decide)]
      exact ⟨false, rfl, by simp; omega⟩
    · rw [if_neg h2, if_pos rfl]
      by_cases h3 : a.1 < b.1
      · rw [if_pos h3]; exact ⟨true, rfl, by simp; omega⟩
      · rw [if_neg h3]; exact ⟨false, rfl, by simp; omega⟩
def swapL (L : List E3) (i j : Nat) : List E3 := (L.set i (L.getD j e0)).set j (L.getD i e0)
theorem swap_len {L : List E3} {i j : Nat} : (swapL L i j).length = L.length := by simp [swapL]
theorem swap_get {L : List E3} {i j q : Nat} (hi : i < L.length) (hj : j < L.length) : (swapL L i j).getD q e0 = if q = j then L.getD i e0 else if q = i then L.getD j e0 else L.getD q e0 := by
  unfold swapL
  rw [getD_set (by simpa using hj), getD_set hi]
theorem getD_eq {L : List E3} {i : Nat} (h : i < L.length) : L.getD i e0 = L[i] := by simp [List.getD_eq_getElem?_getD, h]
theorem swap_perm {L : List E3} {i j : Nat} (hi : i < L.length) (hj : j < L.length) : (swapL L i j).Perm L := by
  unfold swapL
  rw [getD_eq hi, getD_eq hj]
  exact List.set_set_perm hi hj
def Hp (L : List E3) (k : Nat) : Prop := ∀ j, 0 < j → j < k → ¬ lt (L.getD j e0) (L.getD ((j - 1) / 2) e0)
structure Up (L : List E3) (i k : Nat) : Prop where
  a : ∀ j, 0 < j → j < k → j ≠ i → ¬ lt (L.getD j e0) (L.getD ((j - 1) / 2) e0)
  b : 0 < i → ∀ j, 0 < j → j < k → (j - 1) / 2 = i → ¬ lt (L.getD j e0) (L.getD ((i - 1) / 2) e0)
theorem Up.step {L : List E3} {i k : Nat} (h : Up L i k) (hi : 0 < i) (hk : i < k) (hL : k ≤ L.length) (hlt : lt (L.getD i e0) (L.getD ((i - 1) / 2) e0)) : Up (swapL L i ((i - 1) / 2)) ((i - 1) / 2) k := by
  have hp : (i - 1) / 2 < i := by omega
  generalize hpe : (i - 1) / 2 = p at *
  have g : ∀ q, (swapL L i p).getD q e0 = if q = p then L.getD i e0 else if q = i then L.getD p e0 else L.getD q e0 := fun q => swap_get (by omega) (by omega)
  refine ⟨fun j h0 h1 hne => ?_, fun h2 j h0 h1 hj => ?_⟩
  · rw [g, g, if_neg hne]
    by_cases e : j = i
    · subst e
      rw [if_pos rfl, hpe, if_pos rfl]
      exact lt_asymm hlt
    · rw [if_neg e]
      by_cases e2 : (j - 1) / 2 = p
      · rw [if_pos e2]
        have := h.a j h0 h1 e
        rw [e2] at this
        exact fun hc => this (lt_trans hc hlt)
      · rw [if_neg e2]
        by_cases e3 : (j - 1) / 2 = i
        · rw [if_pos e3]
          have := h.b hi j h0 h1 e3
          rwa [hpe] at this
        · rw [if_neg e3]
          exact h.a j h0 h1 e
  · have hpp : (p - 1) / 2 < p := by omega
    rw [g, g, if_neg (show j ≠ p by omega), if_neg (show (p - 1) / 2 ≠ p by omega), if_neg (show (p - 1) / 2 ≠ i by omega)]
    have hpa := h.a p h2 (by omega) (by omega)
    by_cases e : j = i
    · rw [if_pos e]; exact hpa
    · rw [if_neg e]
      have := h.a j h0 h1 e
      rw [hj] at this
      exact nlt_trans this hpa
theorem Up.done {L : List E3} {i k : Nat} (h : Up L i k) (hd : i = 0 ∨ ¬ lt (L.getD i e0) (L.getD ((i - 1) / 2) e0)) : Hp L k := fun j h0 h1 => by
  by_cases e : j = i
  · subst e
    rcases hd with hd | hd
    · omega
    · exact hd
  · exact h.a j h0 h1 e
theorem fdiv2 {i : Nat} (h : 0 < i) (hs : i ≤ 1000000) : Int.fdiv (w64 ((i : Int) - 1)) 2 = (((i - 1) / 2 : Nat) : Int) := by
  rw [w64_sm (by omega) (by omega), show (i : Int) - 1 = ((i - 1 : Nat) : Int) by omega, Int.fdiv_eq_ediv_of_nonneg _ (by decide)]
  rfl
def absI (i : Nat) : Int := if i = 0 then Int.fdiv (w64 ((0 : Int) - 1)) 2 else (((i - 1) / 2 : Nat) : Int)
theorem absI_ok {i : Nat} (hs : i ≤ 1000000) : Int.fdiv (w64 ((i : Int) - 1)) 2 = absI i := by
  unfold absI
  by_cases h : i = 0
  · subst h; rfl
  · rw [if_neg h, fdiv2 (by omega) hs]
theorem up_ok {n k i : Nat} {L : List E3} {x : Int} (hn : 1000 ≤ n) (hk : k ≤ 300) (hL : k = L.length) (hi : i < k) (hU : Up L i k) : ∃ M, m_heapHeapviewportlaw23itemupq1 n L x i = some M ∧ M.Perm L ∧ Hp M k := by
  subst hL
  obtain ⟨M, hM, hloop⟩ := whileI (B := B_heapHeapviewportlaw23itemupq1_1 n L.length x) (fun s => ∃ j : Nat, s.2.1 = j ∧ s.2.2 = absI j ∧ j < L.length ∧ s.1.Perm L ∧ Up s.1 j L.length) (fun s => s.2.1.toNat) (fun M => M.Perm L ∧ Hp M L.length)
    (fun s hI => by
      obtain ⟨M, a, b⟩ := s
      obtain ⟨j, rfl, rfl, hj, hp, hu⟩ := hI
      dsimp only at hp hu
      have hlen := hp.length_eq
      unfold B_heapHeapviewportlaw23itemupq1_1
      dsimp only
      by_cases h0 : j = 0
      · subst h0
        rw [if_neg (by omega)]
        exact .inr ⟨_, ⟨hp, hu.done (.inl rfl)⟩, rfl⟩
      · rw [if_pos (by omega), show absI j = (((j - 1) / 2 : Nat) : Int) by unfold absI; rw [if_neg h0]]
        obtain ⟨c, e1, e2⟩ := before_ok (n := n) (k := L.length) (i := j) (j := (j - 1) / 2) (L := M) (x := x) hj (by omega) (by omega)
        rw [e1]
        simp only [Option.bind_some]
        cases c with
        | false =>
          rw [if_neg (by simp)]
          exact .inr ⟨_, ⟨hp, hu.done (.inr fun h => by have := e2.2 h; cases this)⟩, rfl⟩
        | true =>
          have hlt := e2.1 rfl
          rw [if_pos rfl, if_pos (by omega), Int.toNat_natCast, if_pos (by omega), if_pos (by omega), Int.toNat_natCast, if_pos (by omega), if_pos (by rw [List.length_set]; omega), absI_ok (by omega)]
          refine .inl ⟨(swapL M j ((j - 1) / 2), (((j - 1) / 2 : Nat) : Int), absI ((j - 1) / 2)), ⟨(j - 1) / 2, rfl, rfl, by omega, (swap_perm (by omega) (by omega)).trans hp, hu.step (by omega) hj (by omega) hlt⟩, ?_, rfl⟩
          show ((((j - 1) / 2 : Nat) : Int)).toNat < ((j : Nat) : Int).toNat
          rw [Int.toNat_natCast, Int.toNat_natCast]
          omega) n (L, (i : Int), Int.fdiv (w64 ((i : Int) - 1)) 2) ⟨i, rfl, absI_ok (by omega), hi, .refl _, hU⟩ (by show (i : Int).toNat < n; omega)
  refine ⟨M, ?_, hM⟩
  unfold m_heapHeapviewportlaw23itemupq1 m_heapHeapviewportlaw23itemupq1_1
  rw [hloop]
  rfl
theorem getD_append_l {L : List E3} {e : E3} {i : Nat} (h : i < L.length) : (L ++ [e]).getD i e0 = L.getD i e0 := by
  simp [List.getD_eq_getElem?_getD, List.getElem?_append_left h]
theorem up_start {L : List E3} {e : E3} (h : Hp L L.length) : Up (L ++ [e]) L.length (L.length + 1) := by
  refine ⟨fun j h0 h1 hne => ?_, fun h2 j h0 h1 hj => by omega⟩
  rw [getD_append_l (by omega), getD_append_l (by omega)]
  exact h j h0 (by omega)
theorem put1_ok {n : Nat} {t k d : Int} (hn : 1000 ≤ n) : ∃ M, m_heapHeapviewportlaw23itemPutq1 n t k d = some M ∧ M.Perm [(t, k, d)] ∧ Hp M 1 := by
  have h0 : Up [(t, k, d)] 0 1 := ⟨fun j h0 h1 _ => by omega, fun h => by omega⟩
  obtain ⟨M, e, h1, h2⟩ := up_ok (x := w64 (t + 1)) (i := 0) (k := 1) hn (by omega) rfl (by omega) h0
  refine ⟨M, ?_, h1, h2⟩
  unfold m_heapHeapviewportlaw23itemPutq1 m_heapHeapviewportlaw23itemvalidq1
  simp only [Option.bind_some]
  have e : m_heapHeapviewportlaw23itemupq1 n [(t, k, d)] (w64 (t + 1)) 0 = some M := e
  rw [e]
  rfl
theorem put2_ok {n : Nat} {L : List E3} {t k d : Int} (hn : 1000 ≤ n) (hL : L.length ≤ 250) (h : Hp L L.length) : ∃ M, m_heapHeapviewportlaw23itemPutq2 n L t k d = some M ∧ M.Perm (L ++ [(t, k, d)]) ∧ Hp M (L.length + 1) := by
  obtain ⟨M, e, h1, h2⟩ := up_ok (L := L ++ [(t, k, d)]) (x := w64 (t + 1)) (i := L.length) hn (by omega) (k := L.length + 1) (by simp) (by omega) (up_start h)
  refine ⟨M, ?_, h1, h2⟩
  unfold m_heapHeapviewportlaw23itemPutq2 m_heapHeapviewportlaw23itemvalidq2
  simp only [Option.bind_some]
  have hl : (L ++ [(t, k, d)]).length = L.length + 1 := by simp
  rw [if_pos (by omega), hl, show w64 (((L.length + 1 : Nat) : Int) - 1) = ((L.length : Nat) : Int) by rw [w64_sm (by omega) (by omega)]; omega, e]
  rfl
theorem put3_ok {n q : Nat} {L : List E3} {t k d : Int} (hn : 1000 ≤ n) (hq : q ≤ L.length) (hL : q ≤ 250) (h : Hp (L.take q) q) : ∃ M, m_heapHeapviewportlaw23itemPutq3 n L q t k d = some (M, q + 1) ∧ M.Perm (L.take q ++ [(t, k, d)]) ∧ Hp M (q + 1) := by
  have hlen : (L.take q).length = q := by rw [List.length_take]; omega
  obtain ⟨M, e, h1, h2⟩ := up_ok (L := L.take q ++ [(t, k, d)]) (x := w64 (t + 1)) (i := q) hn (by omega) (k := q + 1) (by simp; omega) (by omega) (by have := up_start (L := L.take q) (e := (t, k, d)) (by rw [hlen]; exact h); rwa [hlen] at this)
  refine ⟨M, ?_, h1, h2⟩
  unfold m_heapHeapviewportlaw23itemPutq3 m_heapHeapviewportlaw23itemvalidq3
  simp only [Option.bind_some]
  have hl : (L.take q ++ [(t, k, d)]).length = q + 1 := by rw [List.length_append, hlen]; rfl
  rw [if_pos hq, if_pos (by omega), hl, show w64 (((q + 1 : Nat) : Int) - 1) = ((q : Nat) : Int) by rw [w64_sm (by omega) (by omega)]; omega, e]
  rfl
theorem Hp.root {L : List E3} {k : Nat} (h : Hp L k) : ∀ j, j < k → ¬ lt (L.getD j e0) (L.getD 0 e0) := by
  intro j
  induction j using Nat.strongRecOn with
  | _ j ih =>
    intro hj
    by_cases h0 : j = 0
    · subst h0; exact fun h => lt_asymm h h
    · exact nlt_trans (h j (by omega) hj) (ih _ (by omega) (by omega))


/-! down: the heap is one again -/
structure Dn (L : List E3) (i k : Nat) : Prop where
  a : ∀ j, 0 < j → j < k → (j - 1) / 2 ≠ i → ¬ lt (L.getD j e0) (L.getD ((j - 1) / 2) e0)
  b : 0 < i → ∀ j, 0 < j → j < k → (j - 1) / 2 = i → ¬ lt (L.getD j e0) (L.getD ((i - 1) / 2) e0)
theorem lt_irrefl (a : E3) : ¬ lt a a := by unfold lt; omega
theorem down2_ok {n k i : Nat} {L : List E3} {x : Int} (hn : 1000 ≤ n) (hk : k ≤ L.length) (hi : i ≤ 1000) (hik : i < k) : ∃ y : Nat, m_heapHeapviewportlaw23itemdownq1_2 n L k x i (i, w64 (w64 ((i : Int) * 2) + 1)) = some (y : Int) ∧ (y = i ∨ (y < k ∧ 0 < y ∧ (y - 1) / 2 = i ∧ lt (L.getD y e0) (L.getD i e0))) ∧ ∀ j, 0 < j → j < k → (j - 1) / 2 = i → ¬ lt (L.getD j e0) (L.getD y e0) := by
  have hw : w64 (w64 ((i : Int) * 2) + 1) = ((2 * i + 1 : Nat) : Int) := by rw [w64_sm (x := (i : Int) * 2) (by omega) (by omega), w64_sm (by omega) (by omega)]; omega
  have hw2 : w64 (w64 ((i : Int) * 2) + 2) = ((2 * i + 2 : Nat) : Int) := by rw [w64_sm (x := (i : Int) * 2) (by omega) (by omega), w64_sm (by omega) (by omega)]; omega
  obtain ⟨r, hr, hloop⟩ := whileI (B := B_heapHeapviewportlaw23itemdownq1_2 n L k x i) (fun s => ∃ l b : Nat, s.1 = l ∧ s.2 = b ∧ (l = i ∨ (l < k ∧ 0 < l ∧ (l - 1) / 2 = i ∧ lt (L.getD l e0) (L.getD i e0))) ∧ 2 * i + 1 ≤ b ∧ b ≤ 2 * i + 3 ∧ ∀ j, 0 < j → j < k → (j - 1) / 2 = i → j < b → ¬ lt (L.getD j e0) (L.getD l e0)) (fun s => 2 * i + 4 - s.2.toNat) (fun r => ∃ y : Nat, r = y ∧ (y = i ∨ (y < k ∧ 0 < y ∧ (y - 1) / 2 = i ∧ lt (L.getD y e0) (L.getD i e0))) ∧ ∀ j, 0 < j → j < k → (j - 1) / 2 = i → ¬ lt (L.getD j e0) (L.getD y e0))
    (fun s hI => by
      obtain ⟨p, q⟩ := s
      obtain ⟨l, b, rfl, rfl, h1, h2, h3, h4⟩ := hI
      unfold B_heapHeapviewportlaw23itemdownq1_2
      dsimp only
      rw [hw2]
      by_cases a1 : (b : Int) ≤ ((2 * i + 2 : Nat) : Int)
      · rw [if_pos a1]
        by_cases a2 : (b : Int) < (k : Int)
        · rw [if_pos a2]
          obtain ⟨c, e1, e2⟩ := before_ok (n := n) (k := k) (i := b) (j := l) (L := L) (x := x) (by omega) (by omega) hk
          rw [e1]
          simp only [Option.bind_some]
          have hb : w64 ((b : Int) + 1) = ((b + 1 : Nat) : Int) := w64_inc (by omega)
          rw [hb]
          cases c with
          | true =>
            have hlt := e2.1 rfl
            rw [if_pos rfl]
            refine .inl ⟨((b : Int), ((b + 1 : Nat) : Int)), ⟨b, b + 1, rfl, rfl, .inr ⟨by omega, by omega, by omega, ?_⟩, by omega, by omega, fun j j0 jk jp jb => ?_⟩, by show 2 * i + 4 - (((b + 1 : Nat) : Int)).toNat < 2 * i + 4 - ((b : Int)).toNat; omega, rfl⟩
            · rcases h1 with rfl | ⟨_, _, _, h1⟩
              · exact hlt
              · exact lt_trans hlt h1
            · rcases Nat.lt_or_ge j b with hj | hj
              · exact fun hc => h4 j j0 jk jp hj (lt_trans hc hlt)
              · obtain rfl : j = b := by omega
                exact lt_irrefl _
          | false =>
            rw [if_neg (by simp)]
            refine .inl ⟨((l : Int), ((b + 1 : Nat) : Int)), ⟨l, b + 1, rfl, rfl, h1, by omega, by omega, fun j j0 jk jp jb => ?_⟩, by show 2 * i + 4 - (((b + 1 : Nat) : Int)).toNat < 2 * i + 4 - ((b : Int)).toNat; omega, rfl⟩
            rcases Nat.lt_or_ge j b with hj | hj
            · exact h4 j j0 jk jp hj
            · obtain rfl : j = b := by omega
              exact fun hc => by have := e2.2 hc; cases this
        · rw [if_neg a2]
          exact .inr ⟨_, ⟨l, rfl, h1, fun j j0 jk jp => h4 j j0 jk jp (by omega)⟩, rfl⟩
      · rw [if_neg a1]
        exact .inr ⟨_, ⟨l, rfl, h1, fun j j0 jk jp => h4 j j0 jk jp (by omega)⟩, rfl⟩) n ((i : Int), ((2 * i + 1 : Nat) : Int)) ⟨i, 2 * i + 1, rfl, rfl, .inl rfl, by omega, by omega, fun j j0 jk jp jb => by omega⟩ (by show 2 * i + 4 - (((2 * i + 1 : Nat) : Int)).toNat < n; omega)
  obtain ⟨y, rfl, hy⟩ := hr
  refine ⟨y, ?_, hy⟩
  rw [hw]
  exact hloop
theorem Dn.step {L : List E3} {i y k : Nat} (h : Dn L i k) (hk : k ≤ L.length) (hy : y < k) (h0 : 0 < y) (hp : (y - 1) / 2 = i) (hlt : lt (L.getD y e0) (L.getD i e0)) (hc : ∀ j, 0 < j → j < k → (j - 1) / 2 = i → ¬ lt (L.getD j e0) (L.getD y e0)) : Dn (swapL L i y) y k := by
  have g : ∀ q, (swapL L i y).getD q e0 = if q = y then L.getD i e0 else if q = i then L.getD y e0 else L.getD q e0 := fun q => swap_get (by omega) (by omega)
  refine ⟨fun j j0 jk hne => ?_, fun _ j j0 jk jp => ?_⟩
  · rw [g, g]
    by_cases e1 : j = y
    · subst e1
      rw [if_pos rfl, hp, if_neg (by omega), if_pos rfl]
      exact lt_asymm hlt
    · rw [if_neg e1, if_neg hne]
      by_cases e2 : j = i
      · subst e2
        rw [if_pos rfl, if_neg (by omega)]
        exact h.b j0 y h0 hy hp
      · rw [if_neg e2]
        by_cases e3 : (j - 1) / 2 = i
        · rw [if_pos e3]
          exact hc j j0 jk e3
        · rw [if_neg e3]
          exact h.a j j0 jk e3
  · rw [g, g, if_neg (show j ≠ y by omega), if_neg (show j ≠ i by omega), hp, if_neg (show i ≠ y by omega), if_pos rfl]
    have := h.a j j0 jk (by omega)
    rwa [jp] at this
theorem getD_take {L : List E3} {j k : Nat} (h : j < k) : (L.take k).getD j e0 = L.getD j e0 := by
  rw [List.getD_eq_getElem?_getD, List.getElem?_take_of_lt h, ← List.getD_eq_getElem?_getD]
theorem swap_take {L : List E3} {i j k : Nat} (hi : i < k) (hj : j < k) (hk : k ≤ L.length) : ((swapL L i j).take k).Perm (L.take k) := by
  have e : (swapL L i j).take k = swapL (L.take k) i j := by
    unfold swapL
    rw [List.take_set, List.take_set, getD_take hi, getD_take hj]
  rw [e]
  exact swap_perm (by rw [List.length_take]; omega) (by rw [List.length_take]; omega)
theorem down_ok {n k : Nat} {L : List E3} {x : Int} (hn : 1000 ≤ n) (hk : k ≤ L.length) (hk2 : k ≤ 300) (hD : Dn L 0 k) : ∃ M, m_heapHeapviewportlaw23itemdownq1 n L k x 0 = some M ∧ M.length = L.length ∧ (M.take k).Perm (L.take k) ∧ Hp M k := by
  by_cases h0 : k = 0
  · subst h0
    refine ⟨L, ?_, rfl, by simp, fun j _ hj => by omega⟩
    obtain ⟨m, rfl⟩ : ∃ m, n = m + 2 := ⟨n - 2, by omega⟩
    rfl
  obtain ⟨M, hM, hloop⟩ := whileI (B := B_heapHeapviewportlaw23itemdownq1_1 n k x) (fun s => ∃ i : Nat, s.2 = i ∧ i < k ∧ s.1.length = L.length ∧ (s.1.take k).Perm (L.take k) ∧ Dn s.1 i k) (fun s => 300 - s.2.toNat) (fun M => M.length = L.length ∧ (M.take k).Perm (L.take k) ∧ Hp M k)
    (fun s hI => by
      obtain ⟨M, a⟩ := s
      obtain ⟨i, rfl, h1, h2, h3, h4⟩ := hI
      dsimp only at h2 h3 h4
      unfold B_heapHeapviewportlaw23itemdownq1_1
      dsimp only
      obtain ⟨y, e1, e2, e3⟩ := down2_ok (n := n) (k := k) (i := i) (L := M) (x := x) hn (by omega) (by omega) h1
      rw [e1]
      simp only [Option.bind_some]
      by_cases a1 : y = i
      · rw [if_pos (by omega)]
        subst a1
        refine .inr ⟨_, ⟨h2, h3, fun j j0 jk => ?_⟩, rfl⟩
        by_cases hp : (j - 1) / 2 = y
        · rw [hp]; exact e3 j j0 jk hp
        · exact h4.a j j0 jk hp
      · have h5 := e2.resolve_left a1
        rw [if_neg (by omega), if_pos (by omega), Int.toNat_natCast, if_pos (by omega), if_pos (by omega), Int.toNat_natCast, if_pos (by omega), if_pos (by rw [List.length_set]; omega)]
        refine .inl ⟨(swapL M i y, (y : Int)), ⟨y, rfl, h5.1, by rw [swap_len]; exact h2, (swap_take h1 h5.1 (by omega)).trans h3, h4.step (by omega) h5.1 h5.2.1 h5.2.2.1 h5.2.2.2 e3⟩, ?_, rfl⟩
        show 300 - ((y : Int)).toNat < 300 - ((i : Int)).toNat
        omega) n (L, 0) ⟨0, rfl, by omega, rfl, .refl _, hD⟩ (by show 300 - ((0 : Int)).toNat < n; omega)
  refine ⟨M, ?_, hM⟩
  unfold m_heapHeapviewportlaw23itemdownq1 m_heapHeapviewportlaw23itemdownq1_1
  rw [hloop]
  rfl
/-- what is there without its root -/
def cutL (L : List E3) (k : Nat) : List E3 := (L.set 0 (L.getD (k - 1) e0)).set (k - 1) e0
theorem cut_get {L : List E3} {k j : Nat} (hk : k ≤ L.length) (hj : j < k - 1) : (cutL L k).getD j e0 = if j = 0 then L.getD (k - 1) e0 else L.getD j e0 := by
  unfold cutL
  rw [getD_set (by rw [List.length_set]; omega), if_neg (by omega), getD_set (by omega)]
theorem cut_Dn {L : List E3} {k : Nat} (hk : k ≤ L.length) (h : Hp L k) : Dn (cutL L k) 0 (k - 1) := by
  refine ⟨fun j j0 jk hne => ?_, fun h => by omega⟩
  rw [cut_get hk jk, cut_get hk (by omega), if_neg (by omega), if_neg hne]
  exact h j j0 (by omega)
theorem cut_perm {L : List E3} {k : Nat} (h0 : 0 < k) (hk : k ≤ L.length) : (L.getD 0 e0 :: (cutL L k).take (k - 1)).Perm (L.take k) := by
  have e : (cutL L k).take (k - 1) = (L.set 0 (L.getD (k - 1) e0)).take (k - 1) := by
    unfold cutL
    rw [List.take_set_of_le (Nat.le_refl _)]
  rw [e]
  obtain ⟨a, T, rfl⟩ : ∃ a T, L = a :: T := by
    cases L with
    | nil => simp at hk; omega
    | cons a T => exact ⟨a, T, rfl⟩
  obtain ⟨q, rfl⟩ : ∃ q, k = q + 1 := ⟨k - 1, by omega⟩
  simp only [Nat.add_sub_cancel, List.set_cons_zero, List.take_succ_cons]
  show (a :: ((a :: T).getD q e0 :: T).take q).Perm (a :: T.take q)
  refine .cons a ?_
  cases q with
  | zero => exact .refl _
  | succ q =>
    have hq : q < T.length := by simp at hk; omega
    rw [List.take_succ_cons]
    have e1 : (a :: T).getD (q + 1) e0 = T[q] := by simp [List.getD_eq_getElem?_getD, hq]
    rw [e1, List.take_add_one, List.getElem?_eq_getElem hq]
    exact List.perm_append_singleton _ _ |>.symm
theorem take_ok {n k : Nat} {L : List E3} {x : Int} (hn : 1000 ≤ n) (h0 : 0 < k) (hk : k ≤ L.length) (hk2 : k ≤ 300) (hH : Hp L k) : ∃ M, m_heapHeapviewportlaw23itemTakeq2 n L k x = some (M, k - 1, (L.getD 0 e0).2.1, (L.getD 0 e0).2.2, true) ∧ M.length = L.length ∧ (L.getD 0 e0 :: M.take (k - 1)).Perm (L.take k) ∧ Hp M (k - 1) := by
  have hw : w64 ((k : Int) - 1) = ((k - 1 : Nat) : Int) := by rw [w64_sm (by omega) (by omega)]; omega
  obtain ⟨M, e, h1, h2, h3⟩ := down_ok (n := n) (x := x) (L := cutL L k) hn (by unfold cutL; rw [List.length_set, List.length_set]; omega) (by omega) (cut_Dn hk hH)
  refine ⟨M, ?_, by rw [h1]; unfold cutL; rw [List.length_set, List.length_set], (h2.cons _).trans (cut_perm h0 hk), h3⟩
  unfold m_heapHeapviewportlaw23itemTakeq2 m_heapHeapviewportlaw23itemLeastq2 m_heapHeapviewportlaw23itemLenq2 m_heapHeapviewportlaw23itemvalidq3
  simp only [Option.bind_some]
  rw [if_neg (by omega), if_pos (by omega), if_pos (by simp; omega)]
  simp only [Option.bind_some]
  rw [if_pos trivial, hw, if_pos (by omega), Int.toNat_natCast, if_pos (by omega), if_pos (by omega), if_pos (by simp; omega), if_pos (by rw [List.length_set]; omega), if_pos (by omega)]
  have e : m_heapHeapviewportlaw23itemdownq1 n ((L.set ((0 : Int)).toNat ((L.getD (k - 1) (0, 0, 0)).1, (L.getD (k - 1) (0, 0, 0)).2.1, (L.getD (k - 1) (0, 0, 0)).2.2)).set (k - 1) ((0 : Int), (0 : Int), (0 : Int))) (k - 1) x 0 = some M := e
  rw [e]
  rfl


/-! things are put, taken, put again, taken -/
theorem cons_of' {α : Type} {L : List α} (h : 0 < L.length) : ∃ a t, L = a :: t := by
  cases L with
  | nil => simp at h
  | cons a t => exact ⟨a, t, rfl⟩
theorem mgetL_put {α : Type} {k x : Int} {v : α} : ∀ {l : List (Int × α)}, mgetL x (mputL k v l) = if x = k then some v else mgetL x l
  | [] => by
    unfold mputL mgetL mgetL
    by_cases h : x = k
    · rw [if_pos h, if_pos h.symm]
    · rw [if_neg h, if_neg (Ne.symm h)]
  | p :: l => by
    unfold mputL
    by_cases e : p.1 = k
    · rw [if_pos e]
      unfold mgetL
      by_cases h : x = k
      · rw [if_pos h, if_pos h.symm]
      · rw [if_neg h, if_neg (Ne.symm h), if_neg (by rw [e]; exact Ne.symm h)]
    · rw [if_neg e]
      unfold mgetL
      by_cases h : p.1 = x
      · rw [if_pos h, if_neg (by rw [← h]; exact e), if_pos h]
      · rw [if_neg h, if_neg h]; exact mgetL_put
theorem mGetI_put {M : MapI Int} {k x v : Int} : mGetI (mPut M k v) x = if x = k then v else mGetI M x := by
  show ((mgetL x (mputL k v M.l)).getD 0) = _
  rw [mgetL_put]
  by_cases h : x = k
  · rw [if_pos h, if_pos h]; rfl
  · rw [if_neg h, if_neg h]; rfl
def id3 (e : E3) : Int := e.2.2
/-- an entry that may be -/
structure okE (z : Prop) (e : E3) : Prop where
  lo : 0 ≤ e.2.2
  hi : e.2.2 < Args.A.length
  key : Args.A.getD e.2.2.toNat 0 = e.2.1
  turn : z → e.1 = e.2.2
structure G (z : Prop) (H : List E3) (k : Nat) (X : List Int) : Prop where
  hk : k ≤ H.length
  hp : Hp H k
  ok : ∀ e ∈ H.take k, okE z e
  nd : ((H.take k).map id3 ++ X).Nodup
theorem G.put {z : Prop} {H M : List E3} {k : Nat} {X : List Int} {e : E3} (h : G z H k (id3 e :: X)) (he : okE z e) (hM : M.Perm (H.take k ++ [e])) (hH : Hp M (k + 1)) : G z M (k + 1) X ∧ M.length = k + 1 := by
  have hl := hM.length_eq
  rw [List.length_append, List.length_take, Nat.min_eq_left h.hk, List.length_singleton] at hl
  have ht : M.take (k + 1) = M := List.take_of_length_le (by omega)
  refine ⟨⟨by omega, hH, fun x hx => ?_, ?_⟩, hl⟩
  · rw [ht, hM.mem_iff, List.mem_append, List.mem_singleton] at hx
    rcases hx with hx | rfl
    · exact h.ok x hx
    · exact he
  · rw [ht]
    refine ((hM.map id3).append_right X).nodup_iff.2 ?_
    have := h.nd
    simp only [List.map_append, List.map_cons, List.map_nil, List.append_assoc, List.singleton_append] at this ⊢
    exact this
theorem G.root {z : Prop} {H : List E3} {k : Nat} {X : List Int} (h : G z H k X) (h0 : 0 < k) : H.getD 0 e0 ∈ H.take k := by
  rw [← getD_take h0]
  exact getD_mem (by rw [List.length_take]; have := h.hk; omega)
theorem G.took {z : Prop} {H M : List E3} {k : Nat} {X : List Int} (h : G z H k X) (h0 : 0 < k) (h1 : M.length = H.length) (h2 : (H.getD 0 e0 :: M.take (k - 1)).Perm (H.take k)) (h3 : Hp M (k - 1)) : G z M (k - 1) (id3 (H.getD 0 e0) :: X) ∧ (∀ e ∈ M.take (k - 1), e ∈ H.take k ∧ id3 e ≠ id3 (H.getD 0 e0)) := by
  have hk := h.hk
  have hnd : ((H.getD 0 e0 :: M.take (k - 1)).map id3 ++ X).Nodup := ((h2.map id3).append_right X).nodup_iff.2 h.nd
  have hsub : ∀ e ∈ M.take (k - 1), e ∈ H.take k := fun e he => h2.mem_iff.1 (List.mem_cons_of_mem _ he)
  refine ⟨⟨by omega, h3, fun e he => h.ok e (hsub e he), ?_⟩, fun e he => ⟨hsub e he, fun hc => ?_⟩⟩
  · refine List.Perm.nodup ?_ hnd
    simp only [List.map_cons, List.cons_append]
    exact List.perm_middle.symm
  · simp only [List.map_cons, List.cons_append, List.nodup_cons, List.mem_append, not_or] at hnd
    exact hnd.1.1 (hc ▸ List.mem_map_of_mem he)
theorem G.least {z : Prop} {H : List E3} {k : Nat} {X : List Int} (h : G z H k X) : ∀ e ∈ H.take k, (H.getD 0 e0).2.1 ≤ e.2.1 ∧ (z → e.2.1 = (H.getD 0 e0).2.1 → (H.getD 0 e0).2.2 ≤ e.2.2) := fun e he => by
  obtain ⟨j, hj, rfl⟩ := mem_getD e0 he
  rw [List.length_take] at hj
  have h0 : 0 < k := by omega
  rw [getD_take (by omega)]
  have hr := h.hp.root j (by omega)
  have hz : z → (H.getD 0 e0).1 = (H.getD 0 e0).2.2 := (h.ok _ (h.root h0)).turn
  have hz2 : z → (H.getD j e0).1 = (H.getD j e0).2.2 := by
    have := (h.ok _ he).turn
    rwa [getD_take (by omega)] at this
  generalize H.getD j e0 = a at *
  generalize H.getD 0 e0 = b at *
  unfold lt at hr
  refine ⟨by omega, fun hzz hh => ?_⟩
  have := hz hzz
  have := hz2 hzz
  omega
theorem G.weak {z y : Prop} (hzy : y → z) {H : List E3} {k : Nat} {X : List Int} (h : G z H k X) : G y H k X := ⟨h.hk, h.hp, fun e he => let q := h.ok e he; ⟨q.lo, q.hi, q.key, fun hy => q.turn (hzy hy)⟩, h.nd⟩

/-- all are put -/
structure I1 (i : Nat) (H : List E3) (k : Nat) (t : Int) : Prop where
  hk : k = i
  ht : t = i
  len : H.length = i
  g : G True H i []
  lt : ∀ e ∈ H.take i, id3 e < i
theorem sloop1 {n : Nat} {p : Int} (hn : 1000 ≤ n) (hL : Args.A.length ≤ 200) : ∃ H, m_viewportlaw23HeapSorts_1 n p (([] : List (Int × Int × Int)), 0, 0, 0) = some (H, Args.A.length, ((Args.A.length : Nat) : Int)) ∧ I1 Args.A.length H Args.A.length (Args.A.length : Int) := by
  obtain ⟨r, ⟨H, rfl, hI⟩, hloop⟩ := hoare (B := B_viewportlaw23HeapSorts_1 n p) (σ := List E3 × Nat × Int) (fun s i => (s.1, s.2.1, s.2.2, i))
    (fun i s => I1 i s.1 s.2.1 s.2.2) (fun r => ∃ H, r = (H, Args.A.length, ((Args.A.length : Nat) : Int)) ∧ I1 Args.A.length H Args.A.length (Args.A.length : Int)) Args.A.length
    (fun i s hi hI => by
      obtain ⟨H, k, t⟩ := s
      dsimp only at hI
      obtain ⟨rfl, rfl, hl, hg, hlt⟩ := hI
      unfold B_viewportlaw23HeapSorts_1
      dsimp only
      have hw : w64 ((k : Int) + 1) = ((k + 1 : Nat) : Int) := w64_inc (by omega)
      have hnew : G True H k (id3 ((k : Int), Args.A.getD k 0, (k : Int)) :: []) := ⟨hg.hk, hg.hp, hg.ok, by
        have h1 := hg.nd
        rw [List.append_nil] at h1
        rw [List.nodup_append]
        refine ⟨h1, by simp, fun a ha b hb => ?_⟩
        obtain ⟨e, he, rfl⟩ := List.mem_map.1 ha
        rw [List.mem_singleton] at hb
        subst hb
        have := hlt e he
        show id3 e ≠ (k : Int)
        omega⟩
      have hok : okE True ((k : Int), Args.A.getD k 0, (k : Int)) := ⟨by show (0 : Int) ≤ (k : Int); omega, by show (k : Int) < _; omega, by show Args.A.getD ((k : Int)).toNat 0 = _; rw [Int.toNat_natCast], fun _ => rfl⟩
      have fin : ∀ M : List E3, M.Perm (H.take k ++ [((k : Int), Args.A.getD k 0, (k : Int))]) → Hp M (k + 1) → I1 (k + 1) M (k + 1) ((k + 1 : Nat) : Int) := fun M h1 h2 => by
        obtain ⟨g1, g2⟩ := hnew.put hok h1 h2
        refine ⟨rfl, rfl, g2, g1, fun e he => ?_⟩
        rw [List.take_of_length_le (by omega), h1.mem_iff, List.mem_append, List.mem_singleton] at he
        rcases he with he | rfl
        · have := hlt e he; omega
        · show (k : Int) < _; omega
      cases H with
      | nil =>
        obtain rfl : k = 0 := by simpa using hl.symm
        dsimp only
        obtain ⟨M, e, h1, h2⟩ := put1_ok (n := n) (t := ((0 : Nat) : Int)) (k := Args.A.getD 0 0) (d := ((0 : Nat) : Int)) hn
        rw [if_pos (by omega), if_pos (by omega)]
        unfold m_viewportlaw23oneq1
        simp only [Int.toNat_natCast, Option.bind_some]
        rw [e]
        simp only [Option.bind_some]
        have hM := h1.length_eq
        obtain ⟨ma, mt, rfl⟩ := cons_of' (L := M) (by rw [hM]; simp)
        dsimp only
        rw [hw]
        exact .inl ⟨(ma :: mt, 1, ((1 : Nat) : Int)), fin _ h1 h2, rfl⟩
      | cons ha hT =>
        dsimp only
        obtain ⟨M, e, h1, h2⟩ := put3_ok (n := n) (q := k) (L := ha :: hT) (t := (k : Int)) (k := Args.A.getD k 0) (d := (k : Int)) hn hg.hk (by omega) (fun j j0 jk => by rw [getD_take jk, getD_take (by omega)]; exact hg.hp j j0 jk)
        rw [if_pos (by omega), if_pos (by omega)]
        unfold m_viewportlaw23oneq1
        simp only [Int.toNat_natCast, Option.bind_some]
        rw [e]
        simp only [Option.bind_some]
        have hM := h1.length_eq
        rw [List.length_append, List.length_singleton] at hM
        obtain ⟨ma, mt, rfl⟩ := cons_of' (L := M) (by omega)
        dsimp only
        rw [hw]
        exact .inl ⟨(ma :: mt, k + 1, ((k + 1 : Nat) : Int)), fin _ h1 h2, rfl⟩)
    (fun s hI => by
      obtain ⟨H, k, t⟩ := s
      dsimp only at hI
      have h1 := hI.hk
      have h2 := hI.ht
      subst h1
      subst h2
      unfold B_viewportlaw23HeapSorts_1
      dsimp only
      cases H with
      | nil =>
        have hl := hI.len
        dsimp only
        rw [if_neg (by omega)]
        have e0 : Args.A.length = 0 := by simpa using hl.symm
        refine ⟨_, ⟨[], ?_, hI⟩, rfl⟩
        rw [e0]
      | cons a T =>
        dsimp only
        rw [if_neg (by omega)]
        exact ⟨_, ⟨_, rfl, hI⟩, rfl⟩)
    n 0 ([], 0, 0) (Nat.zero_le _) ⟨rfl, rfl, rfl, ⟨Nat.le_refl _, fun j _ hj => absurd hj (Nat.not_lt_zero _), fun e he => by simp at he, by simp⟩, fun e he => by simp at he⟩ (by omega)
  exact ⟨H, hloop, hI⟩
/-- what was taken early -/
structure I2 (z : Prop) (i : Nat) (H : List E3) (k : Nat) (out : List (Int × Int)) : Prop where
  hk : k + i = Args.A.length
  len : H.length = Args.A.length
  ol : out.length = i
  g : G z H k (out.map Prod.snd)
  ok : ∀ o ∈ out, 0 ≤ o.2 ∧ o.2 < Args.A.length ∧ Args.A.getD o.2.toNat 0 = o.1
theorem I2.take {z : Prop} {i k : Nat} {H : List E3} {out : List (Int × Int)} (h : I2 z i H k out) (hi : i < Args.A.length) {n : Nat} {t : Int} (hn : 1000 ≤ n) (hL : Args.A.length ≤ 200) : ∃ M ma mt, M = ma :: mt ∧ m_heapHeapviewportlaw23itemTakeq2 n H k t = some (M, k - 1, (H.getD 0 e0).2.1, (H.getD 0 e0).2.2, true) ∧ I2 z (i + 1) M (k - 1) (out ++ [((H.getD 0 e0).2.1, (H.getD 0 e0).2.2)]) := by
  have hk := h.hk
  obtain ⟨M, e, g1, g2, g3⟩ := take_ok (n := n) (x := t) hn (by omega) h.g.hk (by omega) h.g.hp
  obtain ⟨q1, q2⟩ := h.g.took (by omega) g1 g2 g3
  have hl := h.len
  obtain ⟨ma, mt, hM⟩ := cons_of' (L := M) (by omega)
  have hr := h.g.ok _ (h.g.root (by omega))
  refine ⟨M, ma, mt, hM, e, ⟨by omega, by omega, by rw [List.length_append, h.ol]; rfl, ⟨q1.hk, q1.hp, q1.ok, ?_⟩, fun o ho => ?_⟩⟩
  · refine List.Perm.nodup ?_ q1.nd
    rw [List.map_append]
    refine List.Perm.append_left _ ?_
    exact (List.perm_append_singleton (id3 (H.getD 0 e0)) (out.map Prod.snd)).symm
  · rcases List.mem_append.1 ho with ho | ho
    · exact h.ok o ho
    · rw [List.mem_singleton] at ho
      subst ho
      exact ⟨hr.lo, hr.hi, hr.key⟩
theorem sloop2 {n p : Nat} {t : Int} {z : Prop} {H : List E3} (hn : 1000 ≤ n) (hL : Args.A.length ≤ 200) (hp : p ≤ Args.A.length) (h0 : 0 < Args.A.length) (hI : I2 z 0 H Args.A.length []) : ∃ M k out, m_viewportlaw23HeapSorts_2 n (p : Int) t (H, Args.A.length, [], 0) = some (M, k, out) ∧ I2 z p M k out := by
  obtain ⟨r, ⟨M, k, out, rfl, hI⟩, hloop⟩ := hoare (B := B_viewportlaw23HeapSorts_2 n (p : Int) t) (σ := List E3 × Nat × List (Int × Int)) (fun s i => (s.1, s.2.1, s.2.2, i))
    (fun i s => I2 z i s.1 s.2.1 s.2.2) (fun r => ∃ M k out, r = (M, k, out) ∧ I2 z p M k out) p
    (fun i s hi hI => by
      obtain ⟨H, k, out⟩ := s
      dsimp only at hI
      unfold B_viewportlaw23HeapSorts_2
      dsimp only
      have hw : w64 ((i : Int) + 1) = ((i + 1 : Nat) : Int) := w64_inc (by omega)
      obtain ⟨M, ma, mt, rfl, e, hJ⟩ := hI.take (by omega) (t := t) hn hL
      have hl := hI.len
      have ho := hI.ol
      obtain ⟨ha, hT, rfl⟩ := cons_of' (L := H) (by omega)
      dsimp only
      cases out with
      | nil =>
        dsimp only
        rw [if_pos (by omega), e]
        simp only [Option.bind_some]
        rw [if_pos trivial, hw]
        exact .inl ⟨(ma :: mt, k - 1, _), hJ, rfl⟩
      | cons oa oT =>
        dsimp only
        rw [if_pos (by omega), e]
        simp only [Option.bind_some]
        rw [if_pos trivial, hw, if_pos (by omega)]
        exact .inl ⟨(ma :: mt, k - 1, _), hJ, rfl⟩)
    (fun s hI => by
      obtain ⟨H, k, out⟩ := s
      dsimp only at hI
      have hl := hI.len
      obtain ⟨ha, hT, rfl⟩ := cons_of' (L := H) (by omega)
      unfold B_viewportlaw23HeapSorts_2
      dsimp only
      cases out with
      | nil => dsimp only; rw [if_neg (by omega)]; exact ⟨_, ⟨_, _, _, rfl, hI⟩, rfl⟩
      | cons oa oT => dsimp only; rw [if_neg (by omega)]; exact ⟨_, ⟨_, _, _, rfl, hI⟩, rfl⟩)
    n 0 (H, Args.A.length, []) (Nat.zero_le _) hI (by omega)
  exact ⟨M, k, out, hloop, hI⟩
/-- put again -/
structure I3 (p j : Nat) (H : List E3) (k : Nat) (t : Int) (out : List (Int × Int)) : Prop where
  hk : k + p = Args.A.length + j
  ht : t = Args.A.length + j
  ne : 0 < H.length
  g : G False H k ((out.drop j).map Prod.snd)
theorem sloop3 {n p k : Nat} {H : List E3} {out : List (Int × Int)} (hn : 1000 ≤ n) (hL : Args.A.length ≤ 200) (hp : p ≤ Args.A.length) (h0 : 0 < p) (hI : I2 False p H k out) : ∃ M t, m_viewportlaw23HeapSorts_3 n (p : Int) (H, k, (Args.A.length : Int), out, 0) = some (M, Args.A.length, t) ∧ 0 < M.length ∧ G False M Args.A.length [] := by
  have hout := hI.ol
  have hok := hI.ok
  obtain ⟨oa, oT, rfl⟩ := cons_of' (L := out) (by omega)
  obtain ⟨r, ⟨M, k, t, rfl, hI⟩, hloop⟩ := hoare (B := B_viewportlaw23HeapSorts_3 n (p : Int)) (σ := List E3 × Nat × Int) (fun s i => (s.1, s.2.1, s.2.2, oa :: oT, i))
    (fun i s => I3 p i s.1 s.2.1 s.2.2 (oa :: oT)) (fun r => ∃ M k t, r = (M, k, t) ∧ I3 p p M k t (oa :: oT)) p
    (fun i s hi hI => by
      obtain ⟨H, k, t⟩ := s
      dsimp only at hI
      have hk := hI.hk
      have ht := hI.ht
      subst ht
      have hw : w64 ((i : Int) + 1) = ((i + 1 : Nat) : Int) := w64_inc (by omega)
      have hwt : w64 (((Args.A.length : Nat) : Int) + (i : Int) + 1) = ((Args.A.length : Nat) : Int) + ((i + 1 : Nat) : Int) := by rw [w64_sm (by omega) (by omega)]; omega
      have hoi := hok ((oa :: oT).getD i (0, 0)) (getD_mem (by omega))
      have hd : (oa :: oT).drop i = (oa :: oT).getD i (0, 0) :: (oa :: oT).drop (i + 1) := by
        rw [List.drop_eq_getElem_cons (by omega : i < (oa :: oT).length)]
        congr 1
        rw [List.getD_eq_getElem?_getD, List.getElem?_eq_getElem (by omega)]; rfl
      have hg := hI.g
      rw [hd, List.map_cons] at hg
      obtain ⟨ha, hT, rfl⟩ := cons_of' hI.ne
      unfold B_viewportlaw23HeapSorts_3
      dsimp only
      rw [if_pos (by omega), if_pos (by omega)]
      simp only [Int.toNat_natCast]
      obtain ⟨M, e, h1, h2⟩ := put3_ok (n := n) (q := k) (L := ha :: hT) (t := ((Args.A.length : Nat) : Int) + (i : Int)) (k := ((oa :: oT).getD i (0, 0)).1) (d := ((oa :: oT).getD i (0, 0)).2) hn hg.hk (by omega) (fun j j0 jk => by rw [getD_take jk, getD_take (by omega)]; exact hg.hp j j0 jk)
      obtain ⟨g1, g2⟩ := G.put (e := (((Args.A.length : Nat) : Int) + (i : Int), ((oa :: oT).getD i (0, 0)).1, ((oa :: oT).getD i (0, 0)).2)) hg ⟨hoi.1, hoi.2.1, hoi.2.2, fun h => h.elim⟩ h1 h2
      rw [e]
      simp only [Option.bind_some]
      obtain ⟨ma, mt, rfl⟩ := cons_of' (L := M) (by omega)
      dsimp only
      rw [hw, hwt]
      exact .inl ⟨(ma :: mt, k + 1, _), ⟨by dsimp only; omega, rfl, by dsimp only; omega, g1⟩, rfl⟩)
    (fun s hI => by
      obtain ⟨H, k, t⟩ := s
      dsimp only at hI
      obtain ⟨ha, hT, rfl⟩ := cons_of' hI.ne
      unfold B_viewportlaw23HeapSorts_3
      dsimp only
      rw [if_neg (by omega)]
      exact ⟨_, ⟨_, _, _, rfl, hI⟩, rfl⟩)
    n 0 (H, k, (Args.A.length : Int)) (Nat.zero_le _) ⟨by have := hI.hk; dsimp only; omega, by dsimp only; omega, by have := hI.len; dsimp only; omega, hI.g⟩ (by omega)
  have hk := hI.hk
  obtain rfl : k = Args.A.length := by omega
  refine ⟨M, t, hloop, hI.ne, ?_⟩
  have := hI.g
  rw [List.drop_of_length_le (by omega)] at this
  exact this
/-- and taken -/
structure I4 (z : Prop) (i : Nat) (H : List E3) (k : Nat) (S : MapI Int) (lk li : Int) : Prop where
  hk : k + i = Args.A.length
  ne : 0 < H.length
  g : G z H k []
  seen : ∀ e ∈ H.take k, mGetI S (id3 e) = 0
  last : 0 < i → ∀ e ∈ H.take k, lk ≤ e.2.1 ∧ (z → e.2.1 = lk → li ≤ e.2.2)
theorem sloop4 {n : Nat} {p t : Int} {H : List E3} (hn : 1000 ≤ n) (hL : Args.A.length ≤ 200) (h0 : 0 < H.length) (hg : G (p = 0) H Args.A.length []) : ∃ M, m_viewportlaw23HeapSorts_4 n p t (H, Args.A.length, mNil, 0, 0, 0) = some (M, 0) ∧ 0 < M.length := by
  obtain ⟨r, ⟨M, rfl, hI⟩, hloop⟩ := hoare (B := B_viewportlaw23HeapSorts_4 n p t) (σ := List E3 × Nat × MapI Int × Int × Int) (fun s i => (s.1, s.2.1, s.2.2.1, s.2.2.2.1, s.2.2.2.2, i))
    (fun i s => I4 (p = 0) i s.1 s.2.1 s.2.2.1 s.2.2.2.1 s.2.2.2.2) (fun r => ∃ M, r = (M, 0) ∧ 0 < M.length) Args.A.length
    (fun i s hi hI => by
      obtain ⟨H, k, S, lk, li⟩ := s
      dsimp only at hI
      have hk := hI.hk
      obtain ⟨M, e, g1, g2, g3⟩ := take_ok (n := n) (x := t) hn (by omega) hI.g.hk (by omega) hI.g.hp
      obtain ⟨q1, q2⟩ := hI.g.took (by omega) g1 g2 g3
      have hne := hI.ne
      have hroot := hI.g.root (by omega)
      have hr := hI.g.ok _ hroot
      have hs := hI.seen _ hroot
      have hlst := hI.last
      have hleast := hI.g.least
      have hw : w64 ((i : Int) + 1) = ((i + 1 : Nat) : Int) := w64_inc (by omega)
      obtain ⟨ha, hT, rfl⟩ := cons_of' hne
      obtain ⟨ma, mt, rfl⟩ := cons_of' (L := M) (by omega)
      unfold B_viewportlaw23HeapSorts_4
      dsimp only
      rw [if_pos (by omega), e]
      simp only [Option.bind_some]
      generalize hR : (ha :: hT).getD 0 e0 = R at *
      obtain ⟨r0, r1, r2⟩ := R
      have hs : mGetI S r2 = 0 := hs
      have hlo : 0 ≤ r2 := hr.lo
      have hhi : r2 < Args.A.length := hr.hi
      have hkey : Args.A.getD r2.toNat 0 = r1 := hr.key
      dsimp only
      rw [if_pos trivial, if_neg (by omega), if_neg (by omega), if_pos (by omega), if_pos hkey, if_pos hs, hw]
      have fin : I4 (p = 0) (i + 1) (ma :: mt) (k - 1) (mPut S r2 1) r1 r2 := by
        refine ⟨by omega, by simp, ⟨q1.hk, q1.hp, q1.ok, ?_⟩, fun x hx => ?_, fun _ x hx => ?_⟩
        · have := q1.nd
          rw [List.nodup_append] at this
          rw [List.append_nil]; exact this.1
        · obtain ⟨a, b⟩ := q2 x hx
          rw [mGetI_put, if_neg (show ¬ id3 x = r2 from b)]
          exact hI.seen x a
        · exact hleast x (q2 x hx).1
      by_cases c1 : (i : Int) > 0
      · rw [if_pos c1]
        obtain ⟨d1, d2⟩ := hlst (by omega) _ hroot
        have d1 : lk ≤ r1 := d1
        have d2 : p = 0 → r1 = lk → li ≤ r2 := d2
        rw [if_neg (by omega)]
        by_cases c2 : p = 0
        · rw [if_pos c2]
          by_cases c3 : lk = r1
          · rw [if_pos c3, if_neg (by have := d2 c2 c3.symm; omega)]
            exact .inl ⟨(_, _, _, _, _), fin, rfl⟩
          · rw [if_neg c3]
            exact .inl ⟨(_, _, _, _, _), fin, rfl⟩
        · rw [if_neg c2]
          exact .inl ⟨(_, _, _, _, _), fin, rfl⟩
      · rw [if_neg c1]
        exact .inl ⟨(_, _, _, _, _), fin, rfl⟩)
    (fun s hI => by
      obtain ⟨H, k, S, lk, li⟩ := s
      dsimp only at hI
      have hk := hI.hk
      obtain rfl : k = 0 := by omega
      have hne := hI.ne
      obtain ⟨ha, hT, rfl⟩ := cons_of' hne
      unfold B_viewportlaw23HeapSorts_4
      dsimp only
      rw [if_neg (by omega)]
      exact ⟨_, ⟨_, rfl, hne⟩, rfl⟩)
    n 0 (H, Args.A.length, mNil, 0, 0) (Nat.zero_le _) ⟨rfl, h0, hg, fun e he => rfl, fun h => absurd h (Nat.lt_irrefl _)⟩ (by omega)
  exact ⟨M, hloop, hI⟩


theorem spick {n : Nat} {g : Int} (hL : Args.A.length ≤ 200) : ∃ p : Nat, m_viewportkitPickq1 n g (w64 (((Args.A.length : Nat) : Int) + 1)) = some (p : Int) ∧ p ≤ Args.A.length := by
  rw [w64_inc (by omega)]
  unfold m_viewportkitPickq1
  rw [if_neg (by omega), if_pos (by omega)]
  have h1 : (-((Args.A.length + 1 : Nat) : Int)) < Int.tmod g ((Args.A.length + 1 : Nat) : Int) := Int.lt_tmod_of_pos g (by omega)
  have h2 : Int.tmod g ((Args.A.length + 1 : Nat) : Int) < ((Args.A.length + 1 : Nat) : Int) := Int.tmod_lt_of_pos g (by omega)
  generalize Int.tmod g ((Args.A.length + 1 : Nat) : Int) = x at *
  by_cases c : x < 0
  · rw [if_pos c, w64_sm (by omega) (by omega)]
    exact ⟨(x + ((Args.A.length + 1 : Nat) : Int)).toNat, by rw [Int.toNat_of_nonneg (by omega)], by omega⟩
  · rw [if_neg c]
    exact ⟨x.toNat, by rw [Int.toNat_of_nonneg (by omega)], by omega⟩
theorem heapSorts_true (g1 : Int) : ∃ n, m_viewportlaw23HeapSorts n g1 = some () := by
  suffices key : ∃ r, m_viewportlaw23HeapSorts 1000 g1 = some r by
    obtain ⟨r, h⟩ := key
    exact ⟨1000, h⟩
  unfold m_viewportlaw23HeapSorts m_viewportlaw23lives
  simp only [Option.bind_some]
  by_cases hL : ((Args.A.length : Nat) : Int) > 200
  · rw [if_pos hL]; exact ⟨_, rfl⟩
  rw [if_neg hL]
  have hL : Args.A.length ≤ 200 := by omega
  unfold m_heapNewviewportref23Itemq1
  simp only [Option.bind_some]
  obtain ⟨H, e1, hI⟩ := sloop1 (n := 1000) (p := g1) (Nat.le_refl _) hL
  obtain ⟨p, e2, hp⟩ := spick (n := 1000) (g := g1) hL
  rw [e1]
  simp only [Option.bind_some]
  have hlen := hI.len
  cases H with
  | nil =>
    have h0 : Args.A.length = 0 := by simpa using hlen.symm
    dsimp only
    rw [e2]
    simp only [Option.bind_some]
    obtain rfl : p = 0 := by omega
    have b2 : m_viewportlaw23HeapSorts_2 1000 ((0 : Nat) : Int) ((Args.A.length : Nat) : Int) ([], 0, [], 0) = some ([], 0, []) := by
      show iterM _ (999 + 1) _ = _
      rw [iterM_succ]; rfl
    have b3 : m_viewportlaw23HeapSorts_3 1000 ((0 : Nat) : Int) ([], 0, ((Args.A.length : Nat) : Int), [], 0) = some ([], 0, ((Args.A.length : Nat) : Int)) := by
      show iterM _ (999 + 1) _ = _
      rw [iterM_succ]; rfl
    have b4 : m_viewportlaw23HeapSorts_4 1000 ((0 : Nat) : Int) ((Args.A.length : Nat) : Int) ([], 0, mNil, 0, 0, 0) = some ([], 0) := by
      show iterM _ (999 + 1) _ = _
      rw [iterM_succ]
      unfold B_viewportlaw23HeapSorts_4
      dsimp only
      rw [if_neg (by omega)]; rfl
    rw [b2]
    simp only [Option.bind_some]
    rw [b3]
    simp only [Option.bind_some]
    rw [b4]
    simp only [Option.bind_some]
    unfold m_heapHeapviewportlaw23itemLenq1 m_heapHeapviewportlaw23itemvalidq1
    exact ⟨_, rfl⟩
  | cons a T =>
    have h0 : 0 < Args.A.length := by rw [← hlen]; simp
    dsimp only
    rw [e2]
    simp only [Option.bind_some]
    have hI2 : I2 (p = 0) 0 (a :: T) Args.A.length [] := ⟨rfl, hlen, rfl, hI.g.weak (fun _ => trivial), fun o ho => by simp at ho⟩
    obtain ⟨M, k, out, e3, hJ⟩ := sloop2 (n := 1000) (p := p) (t := ((Args.A.length : Nat) : Int)) (Nat.le_refl _) hL hp h0 hI2
    rw [e3]
    simp only [Option.bind_some]
    have hml := hJ.len
    obtain ⟨ma, mt, rfl⟩ := cons_of' (L := M) (by omega)
    dsimp only
    have tail : ∀ (H : List E3) (t : Int), 0 < H.length → G (((p : Nat) : Int) = 0) H Args.A.length [] → ∃ ha hT, H = ha :: hT ∧ ∃ r, ((m_viewportlaw23HeapSorts_4 1000 (p : Int) t ((ha :: hT), Args.A.length, mNil, 0, 0, 0)).bind fun t_ => match t_ with
                  | (c8_0, c8_1) =>
                    match c8_0 with
                    | [] =>
                      (m_heapHeapviewportlaw23itemLenq1 1000 t).bind fun _ =>
                      some ()
                    | c8_0a :: c8_0t =>
                      (m_heapHeapviewportlaw23itemLenq2 1000 (c8_0a :: c8_0t) c8_1 t).bind fun _ =>
                      if ((c8_1 : Nat) : Int) = (0 : Int) then
                        some ()
                      else
                        none) = some r := fun H t hne hg => by
      obtain ⟨ha, hT, rfl⟩ := cons_of' hne
      obtain ⟨M, e, hM⟩ := sloop4 (n := 1000) (p := (p : Int)) (t := t) (Nat.le_refl _) hL hne hg
      refine ⟨ha, hT, rfl, (), ?_⟩
      rw [e]
      obtain ⟨ma, mt, rfl⟩ := cons_of' hM
      simp only [Option.bind_some]
      unfold m_heapHeapviewportlaw23itemLenq2 m_heapHeapviewportlaw23itemvalidq3
      simp only [Option.bind_some]
      rfl
    cases out with
    | nil =>
      obtain rfl : p = 0 := by simpa using hJ.ol.symm
      dsimp only
      have hk : k = Args.A.length := by have := hJ.hk; omega
      subst hk
      have b3 : m_viewportlaw23HeapSorts_3 1000 ((0 : Nat) : Int) (ma :: mt, Args.A.length, ((Args.A.length : Nat) : Int), [], 0) = some (ma :: mt, Args.A.length, ((Args.A.length : Nat) : Int)) := by
        show iterM _ (999 + 1) _ = _
        rw [iterM_succ]; rfl
      rw [b3]
      simp only [Option.bind_some]
      have hg : G (((0 : Nat) : Int) = 0) (ma :: mt) Args.A.length [] := hJ.g.weak (fun _ => rfl)
      obtain ⟨ha, hT, e, r, hr⟩ := tail (ma :: mt) ((Args.A.length : Nat) : Int) (by simp) hg
      obtain ⟨rfl, rfl⟩ := List.cons.inj e
      exact ⟨r, hr⟩
    | cons oa oT =>
      have hp0 : 0 < p := by have := hJ.ol; simp at this; omega
      dsimp only
      have hJ' : I2 False p (ma :: mt) k (oa :: oT) := ⟨hJ.hk, hJ.len, hJ.ol, hJ.g.weak (fun h => h.elim), hJ.ok⟩
      obtain ⟨M3, t3, e4, h4, g4⟩ := sloop3 (n := 1000) (Nat.le_refl _) hL hp hp0 hJ'
      rw [e4]
      simp only [Option.bind_some]
      obtain ⟨ha, hT, rfl, r, hr⟩ := tail M3 t3 h4 (g4.weak (fun h => by omega))
      exact ⟨r, hr⟩

end Go.Proofs.Ytpbcnplpaibjnaa.hsow
