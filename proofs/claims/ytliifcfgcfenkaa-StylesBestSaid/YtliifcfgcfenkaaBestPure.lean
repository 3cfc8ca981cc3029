/-
  The pure side. No condition.
-/
import Derived.Test.YtliifcfgcfenkaaBestTold
import Derived.IntWalk
set_option linter.unusedSimpArgs false
set_option linter.unusedVariables false
set_option linter.unusedSectionVars false
set_option linter.unnecessarySimpa false
namespace Go.Proofs.Ytliifcfgcfenkaa.styw
open Go Go.Proofs.Ytliifcfgcfenkaa Ax
variable [Args]


theorem w64_id {x : Int} (h1 : -9223372036854775808 ≤ x) (h2 : x < 9223372036854775808) : w64 x = x := IntWalk.i64_in _ (by omega)
theorem w64_sm {x : Int} (h1 : -1000000000000 ≤ x) (h2 : x ≤ 1000000000000) : w64 x = x := w64_id (by omega) (by omega)
theorem w64_inc {i : Nat} (h : i ≤ 1000000000) : w64 ((i : Int) + 1) = ((i + 1 : Nat) : Int) := by rw [w64_sm (by omega) (by omega)]; rfl
/-! loops -/
theorem whileI {st ρ : Type} {B : st → Option (st ⊕ ρ)} (I : st → Prop) (μ : st → Nat) (Q : ρ → Prop) (h : ∀ s, I s → (∃ s', I s' ∧ μ s' < μ s ∧ B s = some (.inl s')) ∨ ∃ r, Q r ∧ B s = some (.inr r)) : ∀ (n : Nat) (s : st), I s → μ s < n → ∃ r, Q r ∧ iterM B n s = some r
  | 0, s, _, hm => absurd hm (Nat.not_lt_zero _)
  | n + 1, s, hi, hm => by
    rcases h s hi with ⟨s', h1, h2, h3⟩ | ⟨r, h1, h2⟩
    · obtain ⟨r, q1, q2⟩ := whileI I μ Q h n s' h1 (by omega)
      exact ⟨r, q1, by rw [iterM_succ, h3]; exact q2⟩
    · exact ⟨r, h1, by rw [iterM_succ, h2]; rfl⟩
theorem hoare {σ st ρ : Type} {B : st → Option (st ⊕ ρ)} (S : σ → Int → st) (I : Nat → σ → Prop) (Q : ρ → Prop) (len : Nat)
    (h1 : ∀ (i : Nat) (s : σ), i < len → I i s → (∃ s', I (i + 1) s' ∧ B (S s (i : Int)) = some (.inl (S s' ((i + 1 : Nat) : Int)))) ∨ ∃ r, Q r ∧ B (S s (i : Int)) = some (.inr r))
    (h2 : ∀ s, I len s → ∃ r, Q r ∧ B (S s (len : Int)) = some (.inr r)) : ∀ (n i : Nat) (s : σ), i ≤ len → I i s → len - i < n → ∃ r, Q r ∧ iterM B n (S s (i : Int)) = some r
  | 0, i, s, _, _, hm => absurd hm (Nat.not_lt_zero _)
  | n + 1, i, s, hl, hi, hm => by
    have main : (∃ s', i < len ∧ I (i + 1) s' ∧ B (S s (i : Int)) = some (.inl (S s' ((i + 1 : Nat) : Int)))) ∨ ∃ r, Q r ∧ B (S s (i : Int)) = some (.inr r) := by
      by_cases hlt : i < len
      · rcases h1 i s hlt hi with ⟨s', a, b⟩ | h
        · exact .inl ⟨s', hlt, a, b⟩
        · exact .inr h
      · obtain rfl : i = len := by omega
        exact .inr (h2 s hi)
    rcases main with ⟨s', g0, g1, g3⟩ | ⟨r, g1, g2⟩
    · obtain ⟨r, q1, q2⟩ := hoare S I Q len h1 h2 n (i + 1) s' (by omega) g1 (by omega)
      exact ⟨r, q1, by rw [iterM_succ, g3]; exact q2⟩
    · exact ⟨r, g1, by rw [iterM_succ, g2]; rfl⟩
/-- a search: the first place that is not so ends it -/
theorem scan {β γ : Type} {B : Int → Option (Int ⊕ (β ⊕ γ))} (len : Nat) (p : Nat → Bool) (a : β) (c : γ)
    (h1 : ∀ i : Nat, i < len → B (i : Int) = some (if p i = true then .inl ((i + 1 : Nat) : Int) else .inr (.inl a))) (h2 : B (len : Int) = some (.inr (.inr c))) (n : Nat) (hn : len < n) :
    iterM B n 0 = some (if (List.range len).all p = true then .inr c else .inl a) := by
  obtain ⟨r, q1, q2⟩ := hoare (B := B) (σ := Unit) (fun _ i => i) (fun i _ => ∀ j, j < i → p j = true) (fun r => r = if (List.range len).all p = true then .inr c else .inl a) len
    (fun i s hi hI => by
      by_cases hp : p i = true
      · refine .inl ⟨(), fun j hj => ?_, by rw [h1 i hi, if_pos hp]⟩
        rcases Nat.lt_or_ge j i with h | h
        · exact hI j h
        · obtain rfl : j = i := by omega
          exact hp
      · refine .inr ⟨.inl a, ?_, by rw [h1 i hi, if_neg hp]⟩
        rw [if_neg]
        intro hall
        exact hp (List.all_eq_true.1 hall i (List.mem_range.2 hi)))
    (fun s hI => ⟨.inr c, by rw [if_pos (List.all_eq_true.2 fun j hj => hI j (List.mem_range.1 hj))], h2⟩) n 0 () (Nat.zero_le _) (fun j hj => absurd hj (Nat.not_lt_zero _)) (by omega)
  rw [show (0 : Int) = ((0 : Nat) : Int) from rfl, q2, q1]
theorem all_range {α : Type} {l : List α} {d : α} {p : α → Bool} : (List.range l.length).all (fun i => p (l.getD i d)) = l.all p := by
  rw [Bool.eq_iff_iff, List.all_eq_true, List.all_eq_true]
  constructor
  · intro h x hx
    obtain ⟨i, hi, rfl⟩ := List.mem_iff_getElem.1 hx
    have := h i (List.mem_range.2 hi)
    simpa [List.getD_eq_getElem?_getD, hi] using this
  · intro h i hi
    have hi := List.mem_range.1 hi
    have := h l[i] (List.getElem_mem hi)
    simpa [List.getD_eq_getElem?_getD, hi] using this
theorem getD_mem {α : Type} {l : List α} {i : Nat} {d : α} (h : i < l.length) : l.getD i d ∈ l := by
  rw [List.getD_eq_getElem?_getD, List.getElem?_eq_getElem h]; exact List.getElem_mem h
theorem mem_getD {α : Type} {l : List α} {x : α} (d : α) (h : x ∈ l) : ∃ i, i < l.length ∧ l.getD i d = x := by
  obtain ⟨i, hi, rfl⟩ := List.mem_iff_getElem.1 h
  exact ⟨i, hi, by simp [List.getD_eq_getElem?_getD, hi]⟩
theorem getD_set {α : Type} {l : List α} {i j : Nat} {x d : α} (h : i < l.length) : (l.set i x).getD j d = if j = i then x else l.getD j d := by
  simp only [List.getD_eq_getElem?_getD, List.getElem?_set]
  by_cases hj : i = j
  · subst hj; simp [h]
  · rw [if_neg hj, if_neg (Ne.symm hj)]
theorem count_set_lt {L : List Bool} {i : Nat} (h : i < L.length) (hf : ¬ L.getD i false = true) : (L.set i true).count false < L.count false := by
  have h0 : L[i] = false := by simpa [List.getD_eq_getElem?_getD, h] using hf
  have hc := List.count_set (l := L) (a := true) (b := false) (i := i) h
  have hp : 0 < L.count false := List.count_pos_iff.2 (h0 ▸ List.getElem_mem h)
  rw [h0] at hc
  simp at hc
  omega


/-! styles -/
abbrev Row := Int × NL × Int × Int
theorem w64_inc2 {i n : Nat} (h : i < n) (hn : n ≤ 9223372036854775807) : w64 ((i : Int) + 1) = ((i + 1 : Nat) : Int) := by rw [w64_id (by omega) (by omega)]; rfl
/-- p is what stands in the way from o on -/
def T (p : NL) (o : Nat) : Bool := (List.range p.l.length).all fun i => decide (p.l.getD i 0 = Args.Y.getD (o + i) 0)
theorem same_ok {n k c o : Nat} {p : NL} (hn : 1000 ≤ n) (hp : p.l.length ≤ 100) (hk : k = p.l.length) (ho : o + k ≤ Args.Y.length) : m_viewportkitSameintq1 n p k c o = some (T p o) := by
  subst hk
  unfold m_viewportkitSameintq1 m_viewportkitSameintq1_1
  rw [if_pos rfl, scan (B := B_viewportkitSameintq1_1 n p p.l.length c o) p.l.length (fun i => decide (p.l.getD i 0 = Args.Y.getD (o + i) 0)) () () (fun i hi => by
    unfold B_viewportkitSameintq1_1
    dsimp only
    rw [if_pos (by omega), if_pos (by omega), Int.toNat_natCast, if_pos hi, if_pos (by omega), if_pos (by omega)]
    by_cases h : p.l.getD i 0 = Args.Y.getD (o + i) 0
    · rw [if_pos h, if_pos (decide_eq_true h), w64_inc (by omega)]
    · rw [if_neg h, if_neg (by simpa using h)]) (by
    unfold B_viewportkitSameintq1_1
    dsimp only
    rw [if_neg (by omega)]) n (by omega)]
  unfold T
  by_cases h : (List.range p.l.length).all (fun i => decide (p.l.getD i 0 = Args.Y.getD (o + i) 0)) = true
  · rw [if_pos h, h]
  · rw [if_neg h]
    simp only [Bool.not_eq_true] at h
    rw [h]
theorem equal_ok {n k c o : Nat} {p : NL} (hn : 1000 ≤ n) (hp : p.l.length ≤ 100) (hk : k = p.l.length) (ho : o + k ≤ Args.Y.length) : m_slicesEqualintintq1 n k c o p = some (T p o) := by
  subst hk
  unfold m_slicesEqualintintq1 m_slicesEqualintintq1_1
  rw [if_pos rfl, scan (B := B_slicesEqualintintq1_1 n p.l.length c o p ((p.l.length : Nat) : Int)) p.l.length (fun i => decide (p.l.getD i 0 = Args.Y.getD (o + i) 0)) () () (fun i hi => by
    unfold B_slicesEqualintintq1_1
    dsimp only
    rw [if_pos (by omega), if_pos (by omega), Int.toNat_natCast, if_pos (by omega), if_pos (by omega), if_pos hi]
    by_cases h : Args.Y.getD (o + i) 0 = p.l.getD i 0
    · rw [if_pos h, if_pos (decide_eq_true h.symm), w64_inc (by omega)]
    · rw [if_neg h, if_neg (by simpa using fun e => h e.symm)]) (by
    unfold B_slicesEqualintintq1_1
    dsimp only
    rw [if_neg (by omega)]) n (by omega)]
  unfold T
  by_cases h : (List.range p.l.length).all (fun i => decide (p.l.getD i 0 = Args.Y.getD (o + i) 0)) = true
  · rw [if_pos h, h]
  · rw [if_neg h]
    simp only [Bool.not_eq_true] at h
    rw [h]
def Mt (kind : Int) (s : Row) : Bool := decide (s.1 = kind) && (decide (s.2.1.l.length ≤ Args.Y.length) && T s.2.1 (Args.Y.length - s.2.1.l.length))
structure Lt : Prop where
  p : ∀ i, i < Args.S.length → (Args.S.getD i (0, nl0, 0, 0)).2.1.l.length ≤ 20
  s : Args.S.length ≤ 70
  y : Args.Y.length ≤ 40
theorem light_ok {n : Nat} (hn : Args.S.length + 1000 ≤ n) : ∃ b, m_viewportlaw26lightq1 n = some b ∧ (b = true → Lt) := by
  have hS := Args.hS
  have h1 : ∃ b, m_viewportkitLightStylesq1 n = some b ∧ (b = true → (∀ i, i < Args.S.length → (Args.S.getD i (0, nl0, 0, 0)).2.1.l.length ≤ 20) ∧ Args.S.length ≤ 70) := by
    unfold m_viewportkitLightStylesq1 m_viewportkitLightStylesq1_1
    rw [scan (B := B_viewportkitLightStylesq1_1 n) Args.S.length (fun i => decide ((Args.S.getD i (0, nl0, 0, 0)).2.1.l.length ≤ 20)) () () (fun i hi => by
      unfold B_viewportkitLightStylesq1_1
      dsimp only
      rw [if_pos (by omega), if_pos (by omega), Int.toNat_natCast]
      change (if (((Args.S.getD i (0, nl0, 0, 0)).2.1.l.length : Nat) : Int) > 20 then _ else _) = _
      by_cases h : (Args.S.getD i (0, nl0, 0, 0)).2.1.l.length ≤ 20
      · rw [if_neg (by omega), if_pos (decide_eq_true h), w64_inc2 hi hS]
      · rw [if_pos (by omega), if_neg (by simpa using h)]) (by
      unfold B_viewportkitLightStylesq1_1
      dsimp only
      rw [if_neg (by omega)]) n (by omega)]
    by_cases h : (List.range Args.S.length).all (fun i => decide ((Args.S.getD i (0, nl0, 0, 0)).2.1.l.length ≤ 20)) = true
    · rw [if_pos h]
      dsimp only
      by_cases h70 : ((Args.S.length : Nat) : Int) ≤ 70
      · rw [if_pos h70]
        refine ⟨true, rfl, fun _ => ⟨fun i hi => ?_, by omega⟩⟩
        simpa using List.all_eq_true.1 h i (List.mem_range.2 hi)
      · rw [if_neg h70]
        exact ⟨false, rfl, fun h => by cases h⟩
    · rw [if_neg h]
      exact ⟨false, rfl, fun h => by cases h⟩
  obtain ⟨b, e, hb⟩ := h1
  unfold m_viewportlaw26lightq1
  rw [e]
  simp only [Option.bind_some]
  cases b with
  | false => rw [if_neg (by simp)]; exact ⟨false, rfl, fun h => by cases h⟩
  | true =>
    rw [if_pos rfl]
    by_cases hy : ((Args.Y.length : Nat) : Int) ≤ 40
    · rw [if_pos hy]
      have hp : m_viewportkitLightPartsq1 n 100 = some true := by
        obtain ⟨m, rfl⟩ : ∃ m, n = m + 1 := ⟨n - 1, by omega⟩
        rfl
      rw [hp]
      exact ⟨true, rfl, fun _ => ⟨(hb rfl).1, (hb rfl).2, by omega⟩⟩
    · rw [if_neg hy]
      exact ⟨false, rfl, fun h => by cases h⟩
theorem matches_ok {n : Nat} {a b c kind : Int} {p : NL} (hn : 1000 ≤ n) (hl : Lt) (hp : p.l.length ≤ 100) : m_stylesMatchesq1 n a p b c kind = some (Mt kind (a, p, b, c)) := by
  unfold m_stylesMatchesq1 Mt
  by_cases h : a = kind
  · rw [if_pos h]
    have hy := hl.y
    have e : m_stylesendsWithintq1 n p = some (decide (p.l.length ≤ Args.Y.length) && T p (Args.Y.length - p.l.length)) := by
      unfold m_stylesendsWithintq1
      by_cases h2 : p.l.length ≤ Args.Y.length
      · have hw : w64 (((Args.Y.length : Nat) : Int) - ((p.l.length : Nat) : Int)) = ((Args.Y.length - p.l.length : Nat) : Int) := by rw [w64_sm (by omega) (by omega)]; omega
        rw [if_pos (by omega), hw, if_pos (by omega), Int.toNat_natCast, equal_ok hn hp (by omega) (by omega), Nat.zero_add]
        simp [h2]
      · rw [if_neg (by omega)]
        simp [h2]
    rw [e]
    simp [h]
  · rw [if_neg h]
    simp [h]


/-- the best one of the first i -/
def bi (kind : Int) : Nat → Int
  | 0 => -1
  | i + 1 => if Mt kind (Args.S.getD i (0, nl0, 0, 0)) = true ∧ (bi kind i < 0 ∨ (Args.S.getD (bi kind i).toNat (0, nl0, 0, 0)).2.2.2 < (Args.S.getD i (0, nl0, 0, 0)).2.2.2) then (i : Int) else bi kind i
theorem bi_succ (kind : Int) (i : Nat) : bi kind (i + 1) = if Mt kind (Args.S.getD i (0, nl0, 0, 0)) = true ∧ (bi kind i < 0 ∨ (Args.S.getD (bi kind i).toNat (0, nl0, 0, 0)).2.2.2 < (Args.S.getD i (0, nl0, 0, 0)).2.2.2) then (i : Int) else bi kind i := rfl
theorem bi_lt (kind : Int) : ∀ i : Nat, bi kind i < (i : Int) ∧ -1 ≤ bi kind i
  | 0 => ⟨by show (-1 : Int) < _; decide, by show (-1 : Int) ≤ -1; decide⟩
  | i + 1 => by
    have := bi_lt kind i
    rw [bi_succ]
    split <;> omega
/-- what the program keeps of it -/
def Keep (b : Int) (s p : Int) (is : Bool) : Prop := if b < 0 then is = false ∧ s = 0 else is = true ∧ s = (Args.S.getD b.toNat (0, nl0, 0, 0)).2.2.1 ∧ p = (Args.S.getD b.toNat (0, nl0, 0, 0)).2.2.2
theorem keep_stay {kind : Int} {i : Nat} {s p : Int} {is : Bool} (h : Keep (bi kind i) s p is) (hm : ¬ Mt kind (Args.S.getD i (0, nl0, 0, 0)) = true) : Keep (bi kind (i + 1)) s p is := by
  rw [show bi kind (i + 1) = bi kind i by rw [bi_succ, if_neg fun e => hm e.1]]
  exact h
theorem keep_step {kind : Int} {i : Nat} {s p : Int} {is : Bool} (h : Keep (bi kind i) s p is) (hm : Mt kind (Args.S.getD i (0, nl0, 0, 0)) = true) : Keep (bi kind (i + 1)) (if is = true ∧ (Args.S.getD i (0, nl0, 0, 0)).2.2.2 ≤ p then s else (Args.S.getD i (0, nl0, 0, 0)).2.2.1) (if is = true ∧ (Args.S.getD i (0, nl0, 0, 0)).2.2.2 ≤ p then p else (Args.S.getD i (0, nl0, 0, 0)).2.2.2) true := by
  unfold Keep at h
  by_cases hb : bi kind i < 0
  · rw [if_pos hb] at h
    obtain ⟨rfl, rfl⟩ := h
    rw [show bi kind (i + 1) = (i : Int) by rw [bi_succ, if_pos ⟨hm, .inl hb⟩], if_neg (by simp), if_neg (by simp)]
    unfold Keep
    rw [if_neg (by omega), Int.toNat_natCast]
    exact ⟨rfl, rfl, rfl⟩
  · rw [if_neg hb] at h
    obtain ⟨rfl, rfl, rfl⟩ := h
    by_cases hp : (Args.S.getD (bi kind i).toNat (0, nl0, 0, 0)).2.2.2 < (Args.S.getD i (0, nl0, 0, 0)).2.2.2
    · rw [show bi kind (i + 1) = (i : Int) by rw [bi_succ, if_pos ⟨hm, .inr hp⟩], if_neg (by omega), if_neg (by omega)]
      unfold Keep
      rw [if_neg (by omega), Int.toNat_natCast]
      exact ⟨rfl, rfl, rfl⟩
    · rw [show bi kind (i + 1) = bi kind i by rw [bi_succ, if_neg fun e => by omega], if_pos ⟨rfl, by omega⟩, if_pos ⟨rfl, by omega⟩]
      unfold Keep
      rw [if_neg hb]
      exact ⟨rfl, rfl, rfl⟩
theorem round1 {n : Nat} {x0 x2 x3 x5 x6 x7 x8 kind : Int} {x4 x9 : Bool} {i : Nat} (hn : 1000 ≤ n) (hl : Lt) (hi : i < Args.S.length) (h : Keep (bi kind i) x2 x3 x4) :
    ∃ y0 y1 y2 y3 y4, m_foldOverstyleschoice_1010y1 n x0 x2 x3 x4 kind x6 x7 x8 x9 (Args.S.getD i (0, nl0, 0, 0)).1 (Args.S.getD i (0, nl0, 0, 0)).2.1 (Args.S.getD i (0, nl0, 0, 0)).2.2.1 (Args.S.getD i (0, nl0, 0, 0)).2.2.2 = some (y0, y1, y2, y3, y4) ∧ y1.length ≤ 1 ∧ Keep (bi kind (i + 1)) y2 y3 y4 := by
  have hp := hl.p i hi
  unfold m_foldOverstyleschoice_1010y1 m_stylesStyle1q1
  rw [matches_ok hn hl (by omega)]
  simp only [Option.bind_some]
  change ∃ y0 y1 y2 y3 y4, (if Mt kind (Args.S.getD i (0, nl0, 0, 0)) = true then _ else _ : Option _).bind _ = _ ∧ _
  by_cases hm : Mt kind (Args.S.getD i (0, nl0, 0, 0)) = true
  · have hk := keep_step h hm
    rw [if_pos hm]
    by_cases h4 : x4 = true
    · subst h4
      rw [if_pos rfl]
      by_cases h5 : (Args.S.getD i (0, nl0, 0, 0)).2.2.2 ≤ x3
      · rw [if_pos ⟨rfl, h5⟩, if_pos ⟨rfl, h5⟩] at hk
        rw [if_pos h5]
        exact ⟨_, _, _, _, _, rfl, by simp, hk⟩
      · rw [if_neg (fun e => h5 e.2), if_neg (fun e => h5 e.2)] at hk
        rw [if_neg h5]
        exact ⟨_, _, _, _, _, rfl, by simp, hk⟩
    · rw [if_neg (fun e => h4 e.1), if_neg (fun e => h4 e.1)] at hk
      rw [if_neg h4]
      exact ⟨_, _, _, _, _, rfl, by simp, hk⟩
  · rw [if_neg hm]
    exact ⟨_, _, _, _, _, rfl, by simp, keep_stay h hm⟩
theorem round2 {n : Nat} {x0 x2 x3 x5 x6 x7 x8 kind : Int} {x1 : NL} {x4 x9 : Bool} {i : Nat} (hn : 1000 ≤ n) (hl : Lt) (hi : i < Args.S.length) (h : Keep (bi kind i) x2 x3 x4) :
    ∃ y0 y1 y2 y3 y4, m_foldOverstyleschoice_1010y2 n x0 x1 x2 x3 x4 kind x6 x7 x8 x9 (Args.S.getD i (0, nl0, 0, 0)).1 (Args.S.getD i (0, nl0, 0, 0)).2.1 (Args.S.getD i (0, nl0, 0, 0)).2.2.1 (Args.S.getD i (0, nl0, 0, 0)).2.2.2 = some (y0, y1, y2, y3, y4) ∧ Keep (bi kind (i + 1)) y2 y3 y4 := by
  have hp := hl.p i hi
  unfold m_foldOverstyleschoice_1010y2 m_stylesStyle1q2
  rw [matches_ok hn hl (by omega)]
  simp only [Option.bind_some]
  change ∃ y0 y1 y2 y3 y4, (if Mt kind (Args.S.getD i (0, nl0, 0, 0)) = true then _ else _ : Option _).bind _ = _ ∧ _
  by_cases hm : Mt kind (Args.S.getD i (0, nl0, 0, 0)) = true
  · have hk := keep_step h hm
    rw [if_pos hm]
    by_cases h4 : x4 = true
    · subst h4
      rw [if_pos rfl]
      by_cases h5 : (Args.S.getD i (0, nl0, 0, 0)).2.2.2 ≤ x3
      · rw [if_pos ⟨rfl, h5⟩, if_pos ⟨rfl, h5⟩] at hk
        rw [if_pos h5]
        exact ⟨_, _, _, _, _, rfl, hk⟩
      · rw [if_neg (fun e => h5 e.2), if_neg (fun e => h5 e.2)] at hk
        rw [if_neg h5]
        exact ⟨_, _, _, _, _, rfl, hk⟩
    · rw [if_neg (fun e => h4 e.1), if_neg (fun e => h4 e.1)] at hk
      rw [if_neg h4]
      exact ⟨_, _, _, _, _, rfl, hk⟩
  · rw [if_neg hm]
    exact ⟨_, _, _, _, _, rfl, keep_stay h hm⟩
theorem values_ok {n : Nat} {kind x6 x7 x8 : Int} {x9 : Bool} (hn : 1000 ≤ n) (hl : Lt) : ∃ z0 z1 z2 z3 z4, m_slicesValuesapiStyle1q1 n 0 0 0 false kind x6 x7 x8 x9 = some (z0, z1, z2, z3, z4) ∧ Keep (bi kind Args.S.length) z2 z3 z4 := by
  have hS := hl.s
  obtain ⟨r, hr, hloop⟩ := hoare (B := B_slicesValuesapiStyle1q1_1 n kind x6 x7 x8 x9 ((Args.S.length : Nat) : Int)) (σ := Int × List NL × Int × Int × Bool) (fun s i => (s.1, s.2.1, s.2.2.1, s.2.2.2.1, s.2.2.2.2, i))
    (fun i s => Keep (bi kind i) s.2.2.1 s.2.2.2.1 s.2.2.2.2) (fun r => Keep (bi kind Args.S.length) r.2.2.1 r.2.2.2.1 r.2.2.2.2) Args.S.length
    (fun i s hi hI => by
      obtain ⟨x0, x1, x2, x3, x4⟩ := s
      dsimp only at hI
      unfold B_slicesValuesapiStyle1q1_1
      dsimp only
      cases x1 with
      | nil =>
        dsimp only
        rw [if_pos (by omega), if_pos (by omega), Int.toNat_natCast, w64_inc (by omega)]
        obtain ⟨y0, y1, y2, y3, y4, e, -, hk⟩ := round1 (n := n) (x0 := x0) (x5 := 0) (x6 := x6) (x7 := x7) (x8 := x8) (x9 := x9) hn hl hi hI
        have e : m_foldOverstyleschoice_1010y1 n x0 x2 x3 x4 kind x6 x7 x8 x9 (Args.S.getD i (0, nl0, 0, 0)).1 (Args.S.getD i (0, nl0, 0, 0)).2.1 (Args.S.getD i (0, nl0, 0, 0)).2.2.1 (Args.S.getD i (0, nl0, 0, 0)).2.2.2 = some (y0, y1, y2, y3, y4) := e
        rw [e]
        cases y1 with
        | nil => exact .inl ⟨(y0, [], y2, y3, y4), hk, rfl⟩
        | cons a t => exact .inl ⟨(y0, [a], y2, y3, y4), hk, rfl⟩
      | cons a t =>
        dsimp only
        rw [if_pos (by omega), if_pos (by omega), Int.toNat_natCast, w64_inc (by omega)]
        obtain ⟨y0, y1, y2, y3, y4, e, hk⟩ := round2 (n := n) (x0 := x0) (x1 := a) (x5 := 0) (x6 := x6) (x7 := x7) (x8 := x8) (x9 := x9) hn hl hi hI
        have e : m_foldOverstyleschoice_1010y2 n x0 a x2 x3 x4 kind x6 x7 x8 x9 (Args.S.getD i (0, nl0, 0, 0)).1 (Args.S.getD i (0, nl0, 0, 0)).2.1 (Args.S.getD i (0, nl0, 0, 0)).2.2.1 (Args.S.getD i (0, nl0, 0, 0)).2.2.2 = some (y0, y1, y2, y3, y4) := e
        rw [e]
        exact .inl ⟨(y0, [y1], y2, y3, y4), hk, rfl⟩)
    (fun s hI => by
      obtain ⟨x0, x1, x2, x3, x4⟩ := s
      dsimp only at hI
      unfold B_slicesValuesapiStyle1q1_1
      dsimp only
      cases x1 with
      | nil =>
        dsimp only
        rw [if_neg (by omega)]
        exact ⟨(x0, [], x2, x3, x4), hI, rfl⟩
      | cons a t =>
        dsimp only
        rw [if_neg (by omega)]
        exact ⟨(x0, [a], x2, x3, x4), hI, rfl⟩)
    n 0 (0, [], 0, 0, false) (Nat.zero_le _) (by unfold bi Keep; rw [if_pos (by decide)]; exact ⟨rfl, rfl⟩) (by omega)
  obtain ⟨z0, z1, z2, z3, z4⟩ := r
  have hloop : iterM (B_slicesValuesapiStyle1q1_1 n kind x6 x7 x8 x9 ((Args.S.length : Nat) : Int)) n ((0 : Int), ([] : List NL), (0 : Int), (0 : Int), false, 0) = some (z0, z1, z2, z3, z4) := hloop
  unfold m_slicesValuesapiStyle1q1 m_slicesValuesapiStyle1q1_1
  rw [hloop]
  cases z1 with
  | nil => exact ⟨_, _, _, _, _, rfl, hr⟩
  | cons a t => exact ⟨_, _, _, _, _, rfl, hr⟩
theorem style_ok {n : Nat} {kind : Int} (hn : 1000 ≤ n) (hl : Lt) : m_stylesStyleq1 n kind = some (if bi kind Args.S.length < 0 then 0 else (Args.S.getD (bi kind Args.S.length).toNat (0, nl0, 0, 0)).2.2.1) := by
  obtain ⟨z0, z1, z2, z3, z4, e, hk⟩ := values_ok (n := n) (kind := kind) (x6 := 0) (x7 := 0) (x8 := 0) (x9 := false) hn hl
  have h2 : z2 = if bi kind Args.S.length < 0 then 0 else (Args.S.getD (bi kind Args.S.length).toNat (0, nl0, 0, 0)).2.2.1 := by
    unfold Keep at hk
    by_cases hb : bi kind Args.S.length < 0
    · rw [if_pos hb] at hk ⊢; exact hk.2
    · rw [if_neg hb] at hk ⊢; exact hk.2.1
  unfold m_stylesStyleq1 m_slicesValuesapiStyleq1 m_foldOverstyleschoiceq1
  simp only [Option.bind_some]
  rw [e]
  rw [← h2]
  cases z1 <;> rfl
theorem stylesBest_true (kind : Int) : ∃ n, m_viewportlaw26StylesBest n kind = some () := by
  refine ⟨Args.S.length + 1000, ?_⟩
  generalize hn : Args.S.length + 1000 = n
  have hn1 : 1000 ≤ n := by omega
  obtain ⟨b, e, hb⟩ := light_ok (n := n) (by omega)
  unfold m_viewportlaw26StylesBest m_viewportlaw26lives
  simp only [Option.bind_some]
  rw [e]
  simp only [Option.bind_some]
  cases b with
  | false => rfl
  | true =>
    have hl := hb rfl
    have hS := hl.s
    have hY := hl.y
    rw [if_pos rfl]
    obtain ⟨r, hr, hloop⟩ := hoare (B := B_viewportlaw26StylesBest_1 n kind) (σ := Int) (fun s i => (s, i)) (fun i s => s = bi kind i) (fun r => r = bi kind Args.S.length) Args.S.length
      (fun i s hi hI => by
        subst hI
        have hp := hl.p i hi
        have hbi := bi_lt kind i
        unfold B_viewportlaw26StylesBest_1
        dsimp only
        rw [if_pos (by omega), if_pos (by omega), Int.toNat_natCast, w64_inc (by omega)]
        change (∃ s', s' = bi kind (i + 1) ∧ (if (Args.S.getD i (0, nl0, 0, 0)).1 = kind then if (((Args.S.getD i (0, nl0, 0, 0)).2.1.l.length : Nat) : Int) ≤ ((Args.Y.length : Nat) : Int) then if 0 ≤ maxB 0 (w64 (((Args.Y.length : Nat) : Int) - (((Args.S.getD i (0, nl0, 0, 0)).2.1.l.length : Nat) : Int))) ∧ maxB 0 (w64 (((Args.Y.length : Nat) : Int) - (((Args.S.getD i (0, nl0, 0, 0)).2.1.l.length : Nat) : Int))) ≤ ((Args.Y.length : Nat) : Int) then (m_viewportkitSameintq1 n (Args.S.getD i (0, nl0, 0, 0)).2.1 (Args.Y.length - (maxB 0 (w64 (((Args.Y.length : Nat) : Int) - (((Args.S.getD i (0, nl0, 0, 0)).2.1.l.length : Nat) : Int)))).toNat) (Args.cY - (maxB 0 (w64 (((Args.Y.length : Nat) : Int) - (((Args.S.getD i (0, nl0, 0, 0)).2.1.l.length : Nat) : Int)))).toNat) (0 + (maxB 0 (w64 (((Args.Y.length : Nat) : Int) - (((Args.S.getD i (0, nl0, 0, 0)).2.1.l.length : Nat) : Int)))).toNat)).bind _ else none else (m_stylesMatchesq1 n (Args.S.getD i (0, nl0, 0, 0)).1 (Args.S.getD i (0, nl0, 0, 0)).2.1 (Args.S.getD i (0, nl0, 0, 0)).2.2.1 (Args.S.getD i (0, nl0, 0, 0)).2.2.2 kind).bind _ else (m_stylesMatchesq1 n (Args.S.getD i (0, nl0, 0, 0)).1 (Args.S.getD i (0, nl0, 0, 0)).2.1 (Args.S.getD i (0, nl0, 0, 0)).2.2.1 (Args.S.getD i (0, nl0, 0, 0)).2.2.2 kind).bind _) = _) ∨ _
        have hbs : bi kind (i + 1) = if Mt kind (Args.S.getD i (0, nl0, 0, 0)) = true ∧ (bi kind i < 0 ∨ (Args.S.getD (bi kind i).toNat (0, nl0, 0, 0)).2.2.2 < (Args.S.getD i (0, nl0, 0, 0)).2.2.2) then (i : Int) else bi kind i := rfl
        by_cases h1 : (Args.S.getD i (0, nl0, 0, 0)).1 = kind
        · rw [if_pos h1]
          by_cases h2 : (Args.S.getD i (0, nl0, 0, 0)).2.1.l.length ≤ Args.Y.length
          · have hw : maxB 0 (w64 (((Args.Y.length : Nat) : Int) - (((Args.S.getD i (0, nl0, 0, 0)).2.1.l.length : Nat) : Int))) = ((Args.Y.length - (Args.S.getD i (0, nl0, 0, 0)).2.1.l.length : Nat) : Int) := by
              rw [w64_sm (by omega) (by omega)]
              unfold maxB
              split <;> omega
            rw [if_pos (by omega), hw, if_pos (by omega), Int.toNat_natCast, same_ok hn1 (by omega) (by omega) (by omega), matches_ok hn1 hl (by omega), Nat.zero_add]
            simp only [Option.bind_some]
            have hM : Mt kind ((Args.S.getD i (0, nl0, 0, 0)).1, (Args.S.getD i (0, nl0, 0, 0)).2.1, (Args.S.getD i (0, nl0, 0, 0)).2.2.1, (Args.S.getD i (0, nl0, 0, 0)).2.2.2) = T (Args.S.getD i (0, nl0, 0, 0)).2.1 (Args.Y.length - (Args.S.getD i (0, nl0, 0, 0)).2.1.l.length) := by
              unfold Mt
              simp only [decide_eq_true h1, decide_eq_true h2, Bool.true_and]
            rw [hM]
            have hM : Mt kind (Args.S.getD i (0, nl0, 0, 0)) = T (Args.S.getD i (0, nl0, 0, 0)).2.1 (Args.Y.length - (Args.S.getD i (0, nl0, 0, 0)).2.1.l.length) := hM
            rw [hM] at hbs
            cases hT : T (Args.S.getD i (0, nl0, 0, 0)).2.1 (Args.Y.length - (Args.S.getD i (0, nl0, 0, 0)).2.1.l.length) with
            | true =>
              rw [hT] at hbs
              rw [if_pos rfl, if_pos rfl]
              by_cases h3 : bi kind i < 0
              · rw [if_pos ⟨rfl, .inl h3⟩] at hbs
                rw [if_pos h3]
                exact .inl ⟨_, hbs.symm, rfl⟩
              · rw [if_neg h3, if_pos (by omega)]
                by_cases h4 : (Args.S.getD (bi kind i).toNat (0, nl0, 0, 0)).2.2.2 < (Args.S.getD i (0, nl0, 0, 0)).2.2.2
                · rw [if_pos ⟨rfl, .inr h4⟩] at hbs
                  refine .inl ⟨_, hbs.symm, ?_⟩
                  exact if_pos h4
                · rw [if_neg (fun q => by rcases q.2 with q | q <;> omega)] at hbs
                  refine .inl ⟨_, hbs.symm, ?_⟩
                  exact if_neg h4
            | false =>
              rw [hT, if_neg (by simp)] at hbs
              rw [if_neg (by simp), if_neg (by simp)]
              exact .inl ⟨_, hbs.symm, rfl⟩
          · have hM : Mt kind ((Args.S.getD i (0, nl0, 0, 0)).1, (Args.S.getD i (0, nl0, 0, 0)).2.1, (Args.S.getD i (0, nl0, 0, 0)).2.2.1, (Args.S.getD i (0, nl0, 0, 0)).2.2.2) = false := by unfold Mt; simp only [decide_eq_false h2, Bool.false_and, Bool.and_false]
            rw [if_neg (by omega), matches_ok hn1 hl (by omega), hM]
            have hM : Mt kind (Args.S.getD i (0, nl0, 0, 0)) = false := hM
            rw [hM, if_neg (by simp)] at hbs
            exact .inl ⟨_, hbs.symm, rfl⟩
        · have hM : Mt kind ((Args.S.getD i (0, nl0, 0, 0)).1, (Args.S.getD i (0, nl0, 0, 0)).2.1, (Args.S.getD i (0, nl0, 0, 0)).2.2.1, (Args.S.getD i (0, nl0, 0, 0)).2.2.2) = false := by unfold Mt; simp only [decide_eq_false h1, Bool.false_and]
          rw [if_neg h1, matches_ok hn1 hl (by omega), hM]
          have hM : Mt kind (Args.S.getD i (0, nl0, 0, 0)) = false := hM
          rw [hM, if_neg (by simp)] at hbs
          exact .inl ⟨_, hbs.symm, rfl⟩)
      (fun s hI => by
        subst hI
        unfold B_viewportlaw26StylesBest_1
        dsimp only
        rw [if_neg (by omega)]
        exact ⟨_, rfl, rfl⟩)
      n 0 (-1) (Nat.zero_le _) rfl (by omega)
    subst hr
    have hloop : m_viewportlaw26StylesBest_1 n kind ((-1), 0) = some (bi kind Args.S.length) := hloop
    rw [hloop]
    simp only [Option.bind_some]
    rw [style_ok hn1 hl]
    simp only [Option.bind_some]
    have hbi := bi_lt kind Args.S.length
    by_cases h : bi kind Args.S.length < 0
    · rw [if_pos h, if_pos h, if_pos rfl]
    · rw [if_neg h, if_pos (by omega), if_neg h]
      exact if_pos rfl

end Go.Proofs.Ytliifcfgcfenkaa.styw
