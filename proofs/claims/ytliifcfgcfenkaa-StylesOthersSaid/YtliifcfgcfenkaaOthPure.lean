/-
  The pure side. No condition.
-/
import Derived.Test.YtliifcfgcfenkaaOthBTold
import Derived.IntWalk
set_option linter.unusedSimpArgs false
set_option linter.unusedVariables false
set_option linter.unusedSectionVars false
set_option linter.unnecessarySimpa false
namespace Go.Proofs.Ytliifcfgcfenkaa.styow
open Go Go.Proofs.Ytliifcfgcfenkaa Ax
variable [Args]


theorem w64_id {x : Int} (h1 : -9223372036854775808 ≤ x) (h2 : x < 9223372036854775808) : w64 x = x := IntWalk.i64_in _ (by omega)
theorem w64_sm {x : Int} (h1 : -1000000000000 ≤ x) (h2 : x ≤ 1000000000000) : w64 x = x := w64_id (by omega) (by omega)
theorem w64_inc {i : Nat} (h : i ≤ 1000000000) : w64 ((i : Int) + 1) = ((i + 1 : Nat) : Int) := by rw [w64_sm (by omega) (by omega)]; rfl
/-! loops -/
theorem whileI {st ρ : Type} {B : st → Option (st ⊕ ρ)} (I : st → Prop) (μ : st → Nat) (Q : ρ → Prop) (h : ∀ s, I s → (∃ s', I s' ∧ μ s' < μ s ∧ B s = some (.inl s')) ∨ ∃ r, Q r ∧ B s = some (.inr r)) : ∀ (n : Nat) (s : st), I s → μ s < n → ∃ r, Q r ∧ iterM B n s = some r
  | 0, s, _, hm => absurd hm (Nat.not_lt_zero _)
  | n + 1, s, hi, hm => by
    rcases h s hi with ⟨s', h1, h2, h3⟩ | ⟨r, h1, h2⟩
    · obtain ⟨r, q1, q2⟩ := whileI I μ Q h n s' h1 (by omega)
      exact ⟨r, q1, by rw [iterM_succ, h3]; exact q2⟩
    · exact ⟨r, h1, by rw [iterM_succ, h2]; rfl⟩
theorem hoare {σ st ρ : Type} {B : st → Option (st ⊕ ρ)} (S : σ → Int → st) (I : Nat → σ → Prop) (Q : ρ → Prop) (len : Nat)
    (h1 : ∀ (i : Nat) (s : σ), i < len → I i s → (∃ s', I (i + 1) s' ∧ B (S s (i : Int)) = some (.inl (S s' ((i + 1 : Nat) : Int)))) ∨ ∃ r, Q r ∧ B (S s (i : Int)) = some (.inr r))
    (h2 : ∀ s, I len s → ∃ r, Q r ∧ B (S s (len : Int)) = some (.inr r)) : ∀ (n i : Nat) (s : σ), i ≤ len → I i s → len - i < n → ∃ r, Q r ∧ iterM B n (S s (i : Int)) = some r
  | 0, i, s, _, _, hm => absurd hm (Nat.not_lt_zero _)
  | n + 1, i, s, hl, hi, hm => by
    have main : (∃ s', i < len ∧ I (i + 1) s' ∧ B (S s (i : Int)) = some (.inl (S s' ((i + 1 : Nat) : Int)))) ∨ ∃ r, Q r ∧ B (S s (i : Int)) = some (.inr r) := by
      by_cases hlt : i < len
      · rcases h1 i s hlt hi with ⟨s', a, b⟩ | h
        · exact .inl ⟨s', hlt, a, b⟩
        · exact .inr h
      · obtain rfl : i = len := by omega
        exact .inr (h2 s hi)
    rcases main with ⟨s', g0, g1, g3⟩ | ⟨r, g1, g2⟩
    · obtain ⟨r, q1, q2⟩ := hoare S I Q len h1 h2 n (i + 1) s' (by omega) g1 (by omega)
      exact ⟨r, q1, by rw [iterM_succ, g3]; exact q2⟩
    · exact ⟨r, g1, by rw [iterM_succ, g2]; rfl⟩
/-- a search: the first place that is not so ends it -/
theorem scan {β γ : Type} {B : Int → Option (Int ⊕ (β ⊕ γ))} (len : Nat) (p : Nat → Bool) (a : β) (c : γ)
    (h1 : ∀ i : Nat, i < len → B (i : Int) = some (if p i = true then .inl ((i + 1 : Nat) : Int) else .inr (.inl a))) (h2 : B (len : Int) = some (.inr (.inr c))) (n : Nat) (hn : len < n) :
    iterM B n 0 = some (if (List.range len).all p = true then .inr c else .inl a) := by
  obtain ⟨r, q1, q2⟩ := hoare (B := B) (σ := Unit) (fun _ i => i) (fun i _ => ∀ j, j < i → p j = true) (fun r => r = if (List.range len).all p = true then .inr c else .inl a) len
    (fun i s hi hI => by
      by_cases hp : p i = true
      · refine .inl ⟨(), fun j hj => ?_, by rw [h1 i hi, if_pos hp]⟩
        rcases Nat.lt_or_ge j i with h | h
        · exact hI j h
        · obtain rfl : j = i := by omega
          exact hp
      · refine .inr ⟨.inl a, ?_, by rw [h1 i hi, if_neg hp]⟩
        rw [if_neg]
        intro hall
        exact hp (List.all_eq_true.1 hall i (List.mem_range.2 hi)))
    (fun s hI => ⟨.inr c, by rw [if_pos (List.all_eq_true.2 fun j hj => hI j (List.mem_range.1 hj))], h2⟩) n 0 () (Nat.zero_le _) (fun j hj => absurd hj (Nat.not_lt_zero _)) (by omega)
  rw [show (0 : Int) = ((0 : Nat) : Int) from rfl, q2, q1]
theorem all_range {α : Type} {l : List α} {d : α} {p : α → Bool} : (List.range l.length).all (fun i => p (l.getD i d)) = l.all p := by
  rw [Bool.eq_iff_iff, List.all_eq_true, List.all_eq_true]
  constructor
  · intro h x hx
    obtain ⟨i, hi, rfl⟩ := List.mem_iff_getElem.1 hx
    have := h i (List.mem_range.2 hi)
    simpa [List.getD_eq_getElem?_getD, hi] using this
  · intro h i hi
    have hi := List.mem_range.1 hi
    have := h l[i] (List.getElem_mem hi)
    simpa [List.getD_eq_getElem?_getD, hi] using this
theorem getD_mem {α : Type} {l : List α} {i : Nat} {d : α} (h : i < l.length) : l.getD i d ∈ l := by
  rw [List.getD_eq_getElem?_getD, List.getElem?_eq_getElem h]; exact List.getElem_mem h
theorem mem_getD {α : Type} {l : List α} {x : α} (d : α) (h : x ∈ l) : ∃ i, i < l.length ∧ l.getD i d = x := by
  obtain ⟨i, hi, rfl⟩ := List.mem_iff_getElem.1 h
  exact ⟨i, hi, by simp [List.getD_eq_getElem?_getD, hi]⟩
theorem getD_set {α : Type} {l : List α} {i j : Nat} {x d : α} (h : i < l.length) : (l.set i x).getD j d = if j = i then x else l.getD j d := by
  simp only [List.getD_eq_getElem?_getD, List.getElem?_set]
  by_cases hj : i = j
  · subst hj; simp [h]
  · rw [if_neg hj, if_neg (Ne.symm hj)]
theorem count_set_lt {L : List Bool} {i : Nat} (h : i < L.length) (hf : ¬ L.getD i false = true) : (L.set i true).count false < L.count false := by
  have h0 : L[i] = false := by simpa [List.getD_eq_getElem?_getD, h] using hf
  have hc := List.count_set (l := L) (a := true) (b := false) (i := i) h
  have hp : 0 < L.count false := List.count_pos_iff.2 (h0 ▸ List.getElem_mem h)
  rw [h0] at hc
  simp at hc
  omega


/-! styles: what they come to -/
abbrev Row := Int × NL × Int × Int
theorem w64_inc2 {i n : Nat} (h : i < n) (hn : n ≤ 9223372036854775807) : w64 ((i : Int) + 1) = ((i + 1 : Nat) : Int) := by rw [w64_id (by omega) (by omega)]; rfl
/-- p is what stands in the way W from o on -/
def T (W : List Int) (p : NL) (o : Nat) : Bool := (List.range p.l.length).all fun i => decide (p.l.getD i 0 = W.getD (o + i) 0)
def Mt (kind : Int) (W : List Int) (s : Row) : Bool := decide (s.1 = kind) && (decide (s.2.1.l.length ≤ W.length) && T W s.2.1 (W.length - s.2.1.l.length))
/-- what is kept: whether there is one, its style, its prio -/
abbrev Bst := Bool × Int × Int
def step (kind : Int) (W : List Int) (b : Bst) (s : Row) : Bst := if Mt kind W s = true ∧ ¬ (b.1 = true ∧ s.2.2.2 ≤ b.2.2) then (true, s.2.2.1, s.2.2.2) else b
def best (kind : Int) (W : List Int) (L : List Row) : Bst := L.foldl (step kind W) (false, 0, 0)
theorem best_snoc {kind : Int} {W : List Int} {L : List Row} {i : Nat} (h : i < L.length) : best kind W (L.take (i + 1)) = step kind W (best kind W (L.take i)) (L.getD i (0, nl0, 0, 0)) := by
  unfold best
  rw [List.take_add_one, List.foldl_append]
  simp [List.getD_eq_getElem?_getD, h]
theorem equal1_ok {n k c o : Nat} {p : NL} (hn : 1000 ≤ n) (hp : p.l.length ≤ 100) (hk : k = p.l.length) (ho : o + k ≤ Args.Y.length) : m_slicesEqualintintq1 n k c o p = some (T Args.Y p o) := by
  subst hk
  unfold m_slicesEqualintintq1 m_slicesEqualintintq1_1
  rw [if_pos rfl, scan (B := B_slicesEqualintintq1_1 n p.l.length c o p ((p.l.length : Nat) : Int)) p.l.length (fun i => decide (p.l.getD i 0 = Args.Y.getD (o + i) 0)) () () (fun i hi => by
    unfold B_slicesEqualintintq1_1
    dsimp only
    rw [if_pos (by omega), if_pos (by omega), Int.toNat_natCast, if_pos (by omega), if_pos (by omega), if_pos hi]
    by_cases h : Args.Y.getD (o + i) 0 = p.l.getD i 0
    · rw [if_pos h, if_pos (decide_eq_true h.symm), w64_inc (by omega)]
    · rw [if_neg h, if_neg (by simpa using fun e => h e.symm)]) (by
    unfold B_slicesEqualintintq1_1
    dsimp only
    rw [if_neg (by omega)]) n (by omega)]
  unfold T
  by_cases h : (List.range p.l.length).all (fun i => decide (p.l.getD i 0 = Args.Y.getD (o + i) 0)) = true
  · rw [if_pos h, h]
  · rw [if_neg h]
    simp only [Bool.not_eq_true] at h
    rw [h]
theorem equal2_ok {n k c o : Nat} {p : NL} {W : List Int} (hn : 1000 ≤ n) (hp : p.l.length ≤ 100) (hk : k = p.l.length) (ho : o + k ≤ W.length) : m_slicesEqualintintq2 n W o k c p = some (T W p o) := by
  subst hk
  unfold m_slicesEqualintintq2 m_slicesEqualintintq2_1
  rw [if_pos rfl, scan (B := B_slicesEqualintintq2_1 n W o p.l.length c p ((p.l.length : Nat) : Int)) p.l.length (fun i => decide (p.l.getD i 0 = W.getD (o + i) 0)) () () (fun i hi => by
    unfold B_slicesEqualintintq2_1
    dsimp only
    rw [if_pos (by omega), if_pos (by omega), Int.toNat_natCast, Nat.mul_one, if_pos (by omega), if_pos (by omega), if_pos hi]
    by_cases h : W.getD (o + i) 0 = p.l.getD i 0
    · rw [if_pos h, if_pos (decide_eq_true h.symm), w64_inc (by omega)]
    · rw [if_neg h, if_neg (by simpa using fun e => h e.symm)]) (by
    unfold B_slicesEqualintintq2_1
    dsimp only
    rw [if_neg (by omega)]) n (by omega)]
  unfold T
  by_cases h : (List.range p.l.length).all (fun i => decide (p.l.getD i 0 = W.getD (o + i) 0)) = true
  · rw [if_pos h, h]
  · rw [if_neg h]
    simp only [Bool.not_eq_true] at h
    rw [h]
structure Lt : Prop where
  p : ∀ i, i < Args.S.length → (Args.S.getD i (0, nl0, 0, 0)).2.1.l.length ≤ 20
  s : Args.S.length ≤ 70
  y : Args.Y.length ≤ 40
theorem light_ok {n : Nat} (hn : Args.S.length + 1000 ≤ n) : ∃ b, m_viewportlaw26lightq1 n = some b ∧ (b = true → Lt) := by
  have hS := Args.hS
  have h1 : ∃ b, m_viewportkitLightStylesq1 n = some b ∧ (b = true → (∀ i, i < Args.S.length → (Args.S.getD i (0, nl0, 0, 0)).2.1.l.length ≤ 20) ∧ Args.S.length ≤ 70) := by
    unfold m_viewportkitLightStylesq1 m_viewportkitLightStylesq1_1
    rw [scan (B := B_viewportkitLightStylesq1_1 n) Args.S.length (fun i => decide ((Args.S.getD i (0, nl0, 0, 0)).2.1.l.length ≤ 20)) () () (fun i hi => by
      unfold B_viewportkitLightStylesq1_1
      dsimp only
      rw [if_pos (by omega), if_pos (by omega), Int.toNat_natCast]
      by_cases h : (Args.S.getD i (0, nl0, 0, 0)).2.1.l.length ≤ 20
      · rw [if_neg (by omega), if_pos (decide_eq_true h), w64_inc2 hi hS]
      · rw [if_pos (by omega), if_neg (by simpa using h)]) (by
      unfold B_viewportkitLightStylesq1_1
      dsimp only
      rw [if_neg (by omega)]) n (by omega)]
    by_cases h : (List.range Args.S.length).all (fun i => decide ((Args.S.getD i (0, nl0, 0, 0)).2.1.l.length ≤ 20)) = true
    · rw [if_pos h]
      dsimp only
      by_cases h70 : ((Args.S.length : Nat) : Int) ≤ 70
      · rw [if_pos h70]
        refine ⟨true, rfl, fun _ => ⟨fun i hi => ?_, by omega⟩⟩
        simpa using List.all_eq_true.1 h i (List.mem_range.2 hi)
      · rw [if_neg h70]
        exact ⟨false, rfl, fun h => by cases h⟩
    · rw [if_neg h]
      exact ⟨false, rfl, fun h => by cases h⟩
  obtain ⟨b, e, hb⟩ := h1
  unfold m_viewportlaw26lightq1
  rw [e]
  simp only [Option.bind_some]
  cases b with
  | false => rw [if_neg (by simp)]; exact ⟨false, rfl, fun h => by cases h⟩
  | true =>
    rw [if_pos rfl]
    by_cases hy : ((Args.Y.length : Nat) : Int) ≤ 40
    · rw [if_pos hy]
      have hp : m_viewportkitLightPartsq1 n 100 = some true := by
        obtain ⟨m, rfl⟩ : ∃ m, n = m + 1 := ⟨n - 1, by omega⟩
        rfl
      rw [hp]
      exact ⟨true, rfl, fun _ => ⟨(hb rfl).1, (hb rfl).2, by omega⟩⟩
    · rw [if_neg hy]
      exact ⟨false, rfl, fun h => by cases h⟩
theorem matches1_ok {n : Nat} {a b c kind : Int} {p : NL} (hn : 1000 ≤ n) (hY : Args.Y.length ≤ 1000) (hp : p.l.length ≤ 100) : m_stylesMatchesq1 n a p b c kind = some (Mt kind Args.Y (a, p, b, c)) := by
  unfold m_stylesMatchesq1 Mt
  by_cases h : a = kind
  · rw [if_pos h]
    have e : m_stylesendsWithintq1 n p = some (decide (p.l.length ≤ Args.Y.length) && T Args.Y p (Args.Y.length - p.l.length)) := by
      unfold m_stylesendsWithintq1
      by_cases h2 : p.l.length ≤ Args.Y.length
      · have hw : w64 (((Args.Y.length : Nat) : Int) - ((p.l.length : Nat) : Int)) = ((Args.Y.length - p.l.length : Nat) : Int) := by rw [w64_sm (by omega) (by omega)]; omega
        rw [if_pos (by omega), hw, if_pos (by omega), Int.toNat_natCast, equal1_ok hn hp (by omega) (by omega), Nat.zero_add]
        simp [h2]
      · rw [if_neg (by omega)]
        simp [h2]
    rw [e]
    simp [h]
  · rw [if_neg h]
    simp [h]
theorem matches2_ok {n : Nat} {a b c kind : Int} {p : NL} {W : List Int} (hn : 1000 ≤ n) (hY : W.length ≤ 1000) (hp : p.l.length ≤ 100) : m_stylesMatchesq2 n a p b c kind W = some (Mt kind W (a, p, b, c)) := by
  unfold m_stylesMatchesq2 Mt
  by_cases h : a = kind
  · rw [if_pos h]
    have e : m_stylesendsWithintq2 n W p = some (decide (p.l.length ≤ W.length) && T W p (W.length - p.l.length)) := by
      unfold m_stylesendsWithintq2
      by_cases h2 : p.l.length ≤ W.length
      · have hw : w64 (((W.length : Nat) : Int) - ((p.l.length : Nat) : Int)) = ((W.length - p.l.length : Nat) : Int) := by rw [w64_sm (by omega) (by omega)]; omega
        rw [if_pos (by omega), hw, if_pos (by omega), Int.toNat_natCast, equal2_ok hn hp (by omega) (by omega)]
        simp [h2]
      · rw [if_neg (by omega)]
        simp [h2]
    rw [e]
    simp [h]
  · rw [if_neg h]
    simp [h]
theorem matches3_ok {n : Nat} {a b c kind : Int} {p : NL} (hn : 1000 ≤ n) : m_stylesMatchesq3 n a p b c kind = some (Mt kind [] (a, p, b, c)) := by
  unfold m_stylesMatchesq3 Mt
  by_cases h : a = kind
  · rw [if_pos h]
    have e : m_stylesendsWithintq3 n p = some (decide (p.l.length ≤ ([] : List Int).length) && T [] p (([] : List Int).length - p.l.length)) := by
      unfold m_stylesendsWithintq3 m_slicesEqualintintq3
      by_cases h2 : p.l.length = 0
      · obtain ⟨m, rfl⟩ : ∃ m, n = m + 1 := ⟨n - 1, by omega⟩
        rw [h2]
        unfold T
        rw [h2]
        rfl
      · rw [if_neg (by omega), decide_eq_false (show ¬ p.l.length ≤ ([] : List Int).length from fun h => h2 (Nat.le_zero.1 h))]
        rfl
    rw [e]
    simp [h]
  · rw [if_neg h]
    simp [h]
theorem round1_ok {n : Nat} {x0 x2 x3 x6 x7 x8 kind : Int} {x4 x9 : Bool}  {s : Row} (hn : 1000 ≤ n) (hW : (Args.Y).length ≤ 1000) (hp : s.2.1.l.length ≤ 100) :
    ∃ y0 y1 y2 y3 y4, m_foldOverstyleschoice_1010y1 n x0 x2 x3 x4 kind  x6 x7 x8 x9  s.1 s.2.1 s.2.2.1 s.2.2.2 = some (y0, y1, y2, y3, y4) ∧ (y4, y2, y3) = step kind (Args.Y) (x4, x2, x3) s := by
  unfold m_foldOverstyleschoice_1010y1 m_stylesStyle1q1
  rw [matches1_ok hn hW hp]
  simp only [Option.bind_some]
  unfold step
  by_cases hm : Mt kind (Args.Y) s = true
  · rw [if_pos hm]
    by_cases h4 : x4 = true
    · subst h4
      rw [if_pos rfl]
      by_cases h5 : s.2.2.2 ≤ x3
      · rw [if_pos h5, if_neg (fun h => h.2 ⟨rfl, h5⟩)]
        exact ⟨_, _, _, _, _, rfl, rfl⟩
      · rw [if_neg h5, if_pos ⟨hm, fun h => h5 h.2⟩]
        exact ⟨_, _, _, _, _, rfl, rfl⟩
    · rw [if_neg h4, if_pos ⟨hm, fun h => h4 h.1⟩]
      exact ⟨_, _, _, _, _, rfl, rfl⟩
  · rw [if_neg hm, if_neg (fun h => hm h.1)]
    exact ⟨_, _, _, _, _, rfl, rfl⟩
theorem roundb1_ok {n : Nat} {x0 x2 x3 x6 x7 x8 kind : Int} {x1 : NL} {x4 x9 : Bool}  {s : Row} (hn : 1000 ≤ n) (hW : (Args.Y).length ≤ 1000) (hp : s.2.1.l.length ≤ 100) :
    ∃ y0 y1 y2 y3 y4, m_foldOverstyleschoice_1010y2 n x0 x1 x2 x3 x4 kind  x6 x7 x8 x9  s.1 s.2.1 s.2.2.1 s.2.2.2 = some (y0, y1, y2, y3, y4) ∧ (y4, y2, y3) = step kind (Args.Y) (x4, x2, x3) s := by
  unfold m_foldOverstyleschoice_1010y2 m_stylesStyle1q2
  rw [matches1_ok hn hW hp]
  simp only [Option.bind_some]
  unfold step
  by_cases hm : Mt kind (Args.Y) s = true
  · rw [if_pos hm]
    by_cases h4 : x4 = true
    · subst h4
      rw [if_pos rfl]
      by_cases h5 : s.2.2.2 ≤ x3
      · rw [if_pos h5, if_neg (fun h => h.2 ⟨rfl, h5⟩)]
        exact ⟨_, _, _, _, _, rfl, rfl⟩
      · rw [if_neg h5, if_pos ⟨hm, fun h => h5 h.2⟩]
        exact ⟨_, _, _, _, _, rfl, rfl⟩
    · rw [if_neg h4, if_pos ⟨hm, fun h => h4 h.1⟩]
      exact ⟨_, _, _, _, _, rfl, rfl⟩
  · rw [if_neg hm, if_neg (fun h => hm h.1)]
    exact ⟨_, _, _, _, _, rfl, rfl⟩
theorem style1_ok {n : Nat} {kind : Int}  (hn : 1000 ≤ n) (hW : (Args.Y).length ≤ 1000) (hL : (Args.S).length ≤ 900) (hp : ∀ i, i < (Args.S).length → ((Args.S).getD i (0, nl0, 0, 0)).2.1.l.length ≤ 100) : m_stylesStyleq1 n kind = some (best kind (Args.Y) (Args.S)).2.1 := by
  obtain ⟨r, hr, hloop⟩ := hoare (B := B_slicesValuesapiStyle1q1_1 n kind  0 0 0 false  (((Args.S).length : Nat) : Int)) (σ := Int × List NL × Int × Int × Bool) (fun s i => (s.1, s.2.1, s.2.2.1, s.2.2.2.1, s.2.2.2.2, i))
    (fun i s => (s.2.2.2.2, s.2.2.1, s.2.2.2.1) = best kind (Args.Y) ((Args.S).take i)) (fun r => (r.2.2.2.2, r.2.2.1, r.2.2.2.1) = best kind (Args.Y) (Args.S)) (Args.S).length
    (fun i s hi hI => by
      obtain ⟨x0, x1, x2, x3, x4⟩ := s
      dsimp only at hI
      unfold B_slicesValuesapiStyle1q1_1
      dsimp only
      cases x1 with
      | nil =>
        dsimp only
        rw [if_pos (by omega), if_pos (by omega), Int.toNat_natCast, w64_inc (by omega)]
        obtain ⟨y0, y1, y2, y3, y4, e, hk⟩ := round1_ok (n := n) (kind := kind) (x0 := x0) (x2 := x2) (x3 := x3) (x4 := x4) (x6 := 0) (x7 := 0) (x8 := 0) (x9 := false)  (s := (Args.S).getD i (0, nl0, 0, 0)) hn hW (hp i hi)
        rw [e]
        rw [hI, ← best_snoc hi] at hk
        cases y1 with
        | nil => exact .inl ⟨(y0, [], y2, y3, y4), hk, rfl⟩
        | cons a t => exact .inl ⟨(y0, [a], y2, y3, y4), hk, rfl⟩
      | cons a t =>
        dsimp only
        rw [if_pos (by omega), if_pos (by omega), Int.toNat_natCast, w64_inc (by omega)]
        obtain ⟨y0, y1, y2, y3, y4, e, hk⟩ := roundb1_ok (n := n) (kind := kind) (x0 := x0) (x1 := a) (x2 := x2) (x3 := x3) (x4 := x4) (x6 := 0) (x7 := 0) (x8 := 0) (x9 := false)  (s := (Args.S).getD i (0, nl0, 0, 0)) hn hW (hp i hi)
        rw [e]
        rw [hI, ← best_snoc hi] at hk
        exact .inl ⟨(y0, [y1], y2, y3, y4), hk, rfl⟩)
    (fun s hI => by
      obtain ⟨x0, x1, x2, x3, x4⟩ := s
      dsimp only at hI
      rw [List.take_length] at hI
      unfold B_slicesValuesapiStyle1q1_1
      dsimp only
      cases x1 with
      | nil =>
        dsimp only
        rw [if_neg (by omega)]
        exact ⟨(x0, [], x2, x3, x4), hI, rfl⟩
      | cons a t =>
        dsimp only
        rw [if_neg (by omega)]
        exact ⟨(x0, [a], x2, x3, x4), hI, rfl⟩)
    n 0 (0, [], 0, 0, false) (Nat.zero_le _) rfl (by omega)
  obtain ⟨z0, z1, z2, z3, z4⟩ := r
  have hloop : iterM (B_slicesValuesapiStyle1q1_1 n kind  0 0 0 false  (((Args.S).length : Nat) : Int)) n ((0 : Int), ([] : List NL), (0 : Int), (0 : Int), false, 0) = some (z0, z1, z2, z3, z4) := hloop
  dsimp only at hr
  rw [← hr]
  unfold m_stylesStyleq1 m_slicesValuesapiStyleq1 m_foldOverstyleschoiceq1 m_slicesValuesapiStyle1q1 m_slicesValuesapiStyle1q1_1
  simp only [Option.bind_some]
  rw [hloop]
  cases z1 <;> rfl
theorem round2_ok {n : Nat} {x0 x2 x3 x6 x7 x8 kind : Int} {x4 x9 : Bool} {La : List Row} {ca : Nat} {s : Row} (hn : 1000 ≤ n) (hW : (Args.Y).length ≤ 1000) (hp : s.2.1.l.length ≤ 100) :
    ∃ y0 y1 y2 y3 y4, m_foldOverstyleschoice_1010y3 n x0 x2 x3 x4 kind  x6 x7 x8 x9 La ca s.1 s.2.1 s.2.2.1 s.2.2.2 = some (y0, y1, y2, y3, y4) ∧ (y4, y2, y3) = step kind (Args.Y) (x4, x2, x3) s := by
  unfold m_foldOverstyleschoice_1010y3 m_stylesStyle1q1
  rw [matches1_ok hn hW hp]
  simp only [Option.bind_some]
  unfold step
  by_cases hm : Mt kind (Args.Y) s = true
  · rw [if_pos hm]
    by_cases h4 : x4 = true
    · subst h4
      rw [if_pos rfl]
      by_cases h5 : s.2.2.2 ≤ x3
      · rw [if_pos h5, if_neg (fun h => h.2 ⟨rfl, h5⟩)]
        exact ⟨_, _, _, _, _, rfl, rfl⟩
      · rw [if_neg h5, if_pos ⟨hm, fun h => h5 h.2⟩]
        exact ⟨_, _, _, _, _, rfl, rfl⟩
    · rw [if_neg h4, if_pos ⟨hm, fun h => h4 h.1⟩]
      exact ⟨_, _, _, _, _, rfl, rfl⟩
  · rw [if_neg hm, if_neg (fun h => hm h.1)]
    exact ⟨_, _, _, _, _, rfl, rfl⟩
theorem roundb2_ok {n : Nat} {x0 x2 x3 x6 x7 x8 kind : Int} {x1 : NL} {x4 x9 : Bool} {La : List Row} {ca : Nat} {s : Row} (hn : 1000 ≤ n) (hW : (Args.Y).length ≤ 1000) (hp : s.2.1.l.length ≤ 100) :
    ∃ y0 y1 y2 y3 y4, m_foldOverstyleschoice_1010y4 n x0 x1 x2 x3 x4 kind  x6 x7 x8 x9 La ca s.1 s.2.1 s.2.2.1 s.2.2.2 = some (y0, y1, y2, y3, y4) ∧ (y4, y2, y3) = step kind (Args.Y) (x4, x2, x3) s := by
  unfold m_foldOverstyleschoice_1010y4 m_stylesStyle1q2
  rw [matches1_ok hn hW hp]
  simp only [Option.bind_some]
  unfold step
  by_cases hm : Mt kind (Args.Y) s = true
  · rw [if_pos hm]
    by_cases h4 : x4 = true
    · subst h4
      rw [if_pos rfl]
      by_cases h5 : s.2.2.2 ≤ x3
      · rw [if_pos h5, if_neg (fun h => h.2 ⟨rfl, h5⟩)]
        exact ⟨_, _, _, _, _, rfl, rfl⟩
      · rw [if_neg h5, if_pos ⟨hm, fun h => h5 h.2⟩]
        exact ⟨_, _, _, _, _, rfl, rfl⟩
    · rw [if_neg h4, if_pos ⟨hm, fun h => h4 h.1⟩]
      exact ⟨_, _, _, _, _, rfl, rfl⟩
  · rw [if_neg hm, if_neg (fun h => hm h.1)]
    exact ⟨_, _, _, _, _, rfl, rfl⟩
theorem style2_ok {n : Nat} {kind : Int} {La : List Row} {ca : Nat} (hn : 1000 ≤ n) (hW : (Args.Y).length ≤ 1000) (hL : (La).length ≤ 900) (hp : ∀ i, i < (La).length → ((La).getD i (0, nl0, 0, 0)).2.1.l.length ≤ 100) : m_stylesStyleq2 n La ca kind = some (best kind (Args.Y) (La)).2.1 := by
  obtain ⟨r, hr, hloop⟩ := hoare (B := B_slicesValuesapiStyle1q2_1 n kind  0 0 0 false La ca (((La).length : Nat) : Int)) (σ := Int × List NL × Int × Int × Bool) (fun s i => (s.1, s.2.1, s.2.2.1, s.2.2.2.1, s.2.2.2.2, i))
    (fun i s => (s.2.2.2.2, s.2.2.1, s.2.2.2.1) = best kind (Args.Y) ((La).take i)) (fun r => (r.2.2.2.2, r.2.2.1, r.2.2.2.1) = best kind (Args.Y) (La)) (La).length
    (fun i s hi hI => by
      obtain ⟨x0, x1, x2, x3, x4⟩ := s
      dsimp only at hI
      unfold B_slicesValuesapiStyle1q2_1
      dsimp only
      cases x1 with
      | nil =>
        dsimp only
        rw [if_pos (by omega), if_pos (by omega), Int.toNat_natCast, w64_inc (by omega)]
        obtain ⟨y0, y1, y2, y3, y4, e, hk⟩ := round2_ok (n := n) (kind := kind) (x0 := x0) (x2 := x2) (x3 := x3) (x4 := x4) (x6 := 0) (x7 := 0) (x8 := 0) (x9 := false) (La := La) (ca := ca) (s := (La).getD i (0, nl0, 0, 0)) hn hW (hp i hi)
        rw [e]
        rw [hI, ← best_snoc hi] at hk
        cases y1 with
        | nil => exact .inl ⟨(y0, [], y2, y3, y4), hk, rfl⟩
        | cons a t => exact .inl ⟨(y0, [a], y2, y3, y4), hk, rfl⟩
      | cons a t =>
        dsimp only
        rw [if_pos (by omega), if_pos (by omega), Int.toNat_natCast, w64_inc (by omega)]
        obtain ⟨y0, y1, y2, y3, y4, e, hk⟩ := roundb2_ok (n := n) (kind := kind) (x0 := x0) (x1 := a) (x2 := x2) (x3 := x3) (x4 := x4) (x6 := 0) (x7 := 0) (x8 := 0) (x9 := false) (La := La) (ca := ca) (s := (La).getD i (0, nl0, 0, 0)) hn hW (hp i hi)
        rw [e]
        rw [hI, ← best_snoc hi] at hk
        exact .inl ⟨(y0, [y1], y2, y3, y4), hk, rfl⟩)
    (fun s hI => by
      obtain ⟨x0, x1, x2, x3, x4⟩ := s
      dsimp only at hI
      rw [List.take_length] at hI
      unfold B_slicesValuesapiStyle1q2_1
      dsimp only
      cases x1 with
      | nil =>
        dsimp only
        rw [if_neg (by omega)]
        exact ⟨(x0, [], x2, x3, x4), hI, rfl⟩
      | cons a t =>
        dsimp only
        rw [if_neg (by omega)]
        exact ⟨(x0, [a], x2, x3, x4), hI, rfl⟩)
    n 0 (0, [], 0, 0, false) (Nat.zero_le _) rfl (by omega)
  obtain ⟨z0, z1, z2, z3, z4⟩ := r
  have hloop : iterM (B_slicesValuesapiStyle1q2_1 n kind  0 0 0 false La ca (((La).length : Nat) : Int)) n ((0 : Int), ([] : List NL), (0 : Int), (0 : Int), false, 0) = some (z0, z1, z2, z3, z4) := hloop
  dsimp only at hr
  rw [← hr]
  unfold m_stylesStyleq2 m_slicesValuesapiStyleq2 m_foldOverstyleschoiceq2 m_slicesValuesapiStyle1q2 m_slicesValuesapiStyle1q2_1
  simp only [Option.bind_some]
  rw [hloop]
  cases z1 <;> rfl
theorem round3_ok {n : Nat} {x0 x2 x3 x6 x7 x8 kind : Int} {x4 x9 : Bool} {Wa : List Int} {s : Row} (hn : 1000 ≤ n) (hW : (Wa).length ≤ 1000) (hp : s.2.1.l.length ≤ 100) :
    ∃ y0 y1 y2 y3 y4, m_foldOverstyleschoice_1010y5 n x0 x2 x3 x4 kind Wa x6 x7 x8 x9  s.1 s.2.1 s.2.2.1 s.2.2.2 = some (y0, y1, y2, y3, y4) ∧ (y4, y2, y3) = step kind (Wa) (x4, x2, x3) s := by
  unfold m_foldOverstyleschoice_1010y5 m_stylesStyle1q3
  rw [matches2_ok hn hW hp]
  simp only [Option.bind_some]
  unfold step
  by_cases hm : Mt kind (Wa) s = true
  · rw [if_pos hm]
    by_cases h4 : x4 = true
    · subst h4
      rw [if_pos rfl]
      by_cases h5 : s.2.2.2 ≤ x3
      · rw [if_pos h5, if_neg (fun h => h.2 ⟨rfl, h5⟩)]
        exact ⟨_, _, _, _, _, rfl, rfl⟩
      · rw [if_neg h5, if_pos ⟨hm, fun h => h5 h.2⟩]
        exact ⟨_, _, _, _, _, rfl, rfl⟩
    · rw [if_neg h4, if_pos ⟨hm, fun h => h4 h.1⟩]
      exact ⟨_, _, _, _, _, rfl, rfl⟩
  · rw [if_neg hm, if_neg (fun h => hm h.1)]
    exact ⟨_, _, _, _, _, rfl, rfl⟩
theorem roundb3_ok {n : Nat} {x0 x2 x3 x6 x7 x8 kind : Int} {x1 : NL} {x4 x9 : Bool} {Wa : List Int} {s : Row} (hn : 1000 ≤ n) (hW : (Wa).length ≤ 1000) (hp : s.2.1.l.length ≤ 100) :
    ∃ y0 y1 y2 y3 y4, m_foldOverstyleschoice_1010y6 n x0 x1 x2 x3 x4 kind Wa x6 x7 x8 x9  s.1 s.2.1 s.2.2.1 s.2.2.2 = some (y0, y1, y2, y3, y4) ∧ (y4, y2, y3) = step kind (Wa) (x4, x2, x3) s := by
  unfold m_foldOverstyleschoice_1010y6 m_stylesStyle1q4
  rw [matches2_ok hn hW hp]
  simp only [Option.bind_some]
  unfold step
  by_cases hm : Mt kind (Wa) s = true
  · rw [if_pos hm]
    by_cases h4 : x4 = true
    · subst h4
      rw [if_pos rfl]
      by_cases h5 : s.2.2.2 ≤ x3
      · rw [if_pos h5, if_neg (fun h => h.2 ⟨rfl, h5⟩)]
        exact ⟨_, _, _, _, _, rfl, rfl⟩
      · rw [if_neg h5, if_pos ⟨hm, fun h => h5 h.2⟩]
        exact ⟨_, _, _, _, _, rfl, rfl⟩
    · rw [if_neg h4, if_pos ⟨hm, fun h => h4 h.1⟩]
      exact ⟨_, _, _, _, _, rfl, rfl⟩
  · rw [if_neg hm, if_neg (fun h => hm h.1)]
    exact ⟨_, _, _, _, _, rfl, rfl⟩
theorem style3_ok {n : Nat} {kind : Int} {Wa : List Int} (hn : 1000 ≤ n) (hW : (Wa).length ≤ 1000) (hL : (Args.S).length ≤ 900) (hp : ∀ i, i < (Args.S).length → ((Args.S).getD i (0, nl0, 0, 0)).2.1.l.length ≤ 100) : m_stylesStyleq3 n kind Wa = some (best kind (Wa) (Args.S)).2.1 := by
  obtain ⟨r, hr, hloop⟩ := hoare (B := B_slicesValuesapiStyle1q3_1 n kind Wa 0 0 0 false  (((Args.S).length : Nat) : Int)) (σ := Int × List NL × Int × Int × Bool) (fun s i => (s.1, s.2.1, s.2.2.1, s.2.2.2.1, s.2.2.2.2, i))
    (fun i s => (s.2.2.2.2, s.2.2.1, s.2.2.2.1) = best kind (Wa) ((Args.S).take i)) (fun r => (r.2.2.2.2, r.2.2.1, r.2.2.2.1) = best kind (Wa) (Args.S)) (Args.S).length
    (fun i s hi hI => by
      obtain ⟨x0, x1, x2, x3, x4⟩ := s
      dsimp only at hI
      unfold B_slicesValuesapiStyle1q3_1
      dsimp only
      cases x1 with
      | nil =>
        dsimp only
        rw [if_pos (by omega), if_pos (by omega), Int.toNat_natCast, w64_inc (by omega)]
        obtain ⟨y0, y1, y2, y3, y4, e, hk⟩ := round3_ok (n := n) (kind := kind) (x0 := x0) (x2 := x2) (x3 := x3) (x4 := x4) (x6 := 0) (x7 := 0) (x8 := 0) (x9 := false) (Wa := Wa) (s := (Args.S).getD i (0, nl0, 0, 0)) hn hW (hp i hi)
        rw [e]
        rw [hI, ← best_snoc hi] at hk
        cases y1 with
        | nil => exact .inl ⟨(y0, [], y2, y3, y4), hk, rfl⟩
        | cons a t => exact .inl ⟨(y0, [a], y2, y3, y4), hk, rfl⟩
      | cons a t =>
        dsimp only
        rw [if_pos (by omega), if_pos (by omega), Int.toNat_natCast, w64_inc (by omega)]
        obtain ⟨y0, y1, y2, y3, y4, e, hk⟩ := roundb3_ok (n := n) (kind := kind) (x0 := x0) (x1 := a) (x2 := x2) (x3 := x3) (x4 := x4) (x6 := 0) (x7 := 0) (x8 := 0) (x9 := false) (Wa := Wa) (s := (Args.S).getD i (0, nl0, 0, 0)) hn hW (hp i hi)
        rw [e]
        rw [hI, ← best_snoc hi] at hk
        exact .inl ⟨(y0, [y1], y2, y3, y4), hk, rfl⟩)
    (fun s hI => by
      obtain ⟨x0, x1, x2, x3, x4⟩ := s
      dsimp only at hI
      rw [List.take_length] at hI
      unfold B_slicesValuesapiStyle1q3_1
      dsimp only
      cases x1 with
      | nil =>
        dsimp only
        rw [if_neg (by omega)]
        exact ⟨(x0, [], x2, x3, x4), hI, rfl⟩
      | cons a t =>
        dsimp only
        rw [if_neg (by omega)]
        exact ⟨(x0, [a], x2, x3, x4), hI, rfl⟩)
    n 0 (0, [], 0, 0, false) (Nat.zero_le _) rfl (by omega)
  obtain ⟨z0, z1, z2, z3, z4⟩ := r
  have hloop : iterM (B_slicesValuesapiStyle1q3_1 n kind Wa 0 0 0 false  (((Args.S).length : Nat) : Int)) n ((0 : Int), ([] : List NL), (0 : Int), (0 : Int), false, 0) = some (z0, z1, z2, z3, z4) := hloop
  dsimp only at hr
  rw [← hr]
  unfold m_stylesStyleq3 m_slicesValuesapiStyleq1 m_foldOverstyleschoiceq3 m_slicesValuesapiStyle1q3 m_slicesValuesapiStyle1q3_1
  simp only [Option.bind_some]
  rw [hloop]
  cases z1 <;> rfl
theorem round4_ok {n : Nat} {x0 x2 x3 x6 x7 x8 kind : Int} {x4 x9 : Bool}  {s : Row} (hn : 1000 ≤ n) (hW : (([] : List Int)).length ≤ 1000) (hp : s.2.1.l.length ≤ 100) :
    ∃ y0 y1 y2 y3 y4, m_foldOverstyleschoice_1010y7 n x0 x2 x3 x4 kind  x6 x7 x8 x9  s.1 s.2.1 s.2.2.1 s.2.2.2 = some (y0, y1, y2, y3, y4) ∧ (y4, y2, y3) = step kind (([] : List Int)) (x4, x2, x3) s := by
  unfold m_foldOverstyleschoice_1010y7 m_stylesStyle1q5
  rw [matches3_ok hn]
  simp only [Option.bind_some]
  unfold step
  by_cases hm : Mt kind (([] : List Int)) s = true
  · rw [if_pos hm]
    by_cases h4 : x4 = true
    · subst h4
      rw [if_pos rfl]
      by_cases h5 : s.2.2.2 ≤ x3
      · rw [if_pos h5, if_neg (fun h => h.2 ⟨rfl, h5⟩)]
        exact ⟨_, _, _, _, _, rfl, rfl⟩
      · rw [if_neg h5, if_pos ⟨hm, fun h => h5 h.2⟩]
        exact ⟨_, _, _, _, _, rfl, rfl⟩
    · rw [if_neg h4, if_pos ⟨hm, fun h => h4 h.1⟩]
      exact ⟨_, _, _, _, _, rfl, rfl⟩
  · rw [if_neg hm, if_neg (fun h => hm h.1)]
    exact ⟨_, _, _, _, _, rfl, rfl⟩
theorem roundb4_ok {n : Nat} {x0 x2 x3 x6 x7 x8 kind : Int} {x1 : NL} {x4 x9 : Bool}  {s : Row} (hn : 1000 ≤ n) (hW : (([] : List Int)).length ≤ 1000) (hp : s.2.1.l.length ≤ 100) :
    ∃ y0 y1 y2 y3 y4, m_foldOverstyleschoice_1010y8 n x0 x1 x2 x3 x4 kind  x6 x7 x8 x9  s.1 s.2.1 s.2.2.1 s.2.2.2 = some (y0, y1, y2, y3, y4) ∧ (y4, y2, y3) = step kind (([] : List Int)) (x4, x2, x3) s := by
  unfold m_foldOverstyleschoice_1010y8 m_stylesStyle1q6
  rw [matches3_ok hn]
  simp only [Option.bind_some]
  unfold step
  by_cases hm : Mt kind (([] : List Int)) s = true
  · rw [if_pos hm]
    by_cases h4 : x4 = true
    · subst h4
      rw [if_pos rfl]
      by_cases h5 : s.2.2.2 ≤ x3
      · rw [if_pos h5, if_neg (fun h => h.2 ⟨rfl, h5⟩)]
        exact ⟨_, _, _, _, _, rfl, rfl⟩
      · rw [if_neg h5, if_pos ⟨hm, fun h => h5 h.2⟩]
        exact ⟨_, _, _, _, _, rfl, rfl⟩
    · rw [if_neg h4, if_pos ⟨hm, fun h => h4 h.1⟩]
      exact ⟨_, _, _, _, _, rfl, rfl⟩
  · rw [if_neg hm, if_neg (fun h => hm h.1)]
    exact ⟨_, _, _, _, _, rfl, rfl⟩
theorem style4_ok {n : Nat} {kind : Int}  (hn : 1000 ≤ n) (hW : (([] : List Int)).length ≤ 1000) (hL : (Args.S).length ≤ 900) (hp : ∀ i, i < (Args.S).length → ((Args.S).getD i (0, nl0, 0, 0)).2.1.l.length ≤ 100) : m_stylesStyleq4 n kind = some (best kind (([] : List Int)) (Args.S)).2.1 := by
  obtain ⟨r, hr, hloop⟩ := hoare (B := B_slicesValuesapiStyle1q4_1 n kind  0 0 0 false  (((Args.S).length : Nat) : Int)) (σ := Int × List NL × Int × Int × Bool) (fun s i => (s.1, s.2.1, s.2.2.1, s.2.2.2.1, s.2.2.2.2, i))
    (fun i s => (s.2.2.2.2, s.2.2.1, s.2.2.2.1) = best kind (([] : List Int)) ((Args.S).take i)) (fun r => (r.2.2.2.2, r.2.2.1, r.2.2.2.1) = best kind (([] : List Int)) (Args.S)) (Args.S).length
    (fun i s hi hI => by
      obtain ⟨x0, x1, x2, x3, x4⟩ := s
      dsimp only at hI
      unfold B_slicesValuesapiStyle1q4_1
      dsimp only
      cases x1 with
      | nil =>
        dsimp only
        rw [if_pos (by omega), if_pos (by omega), Int.toNat_natCast, w64_inc (by omega)]
        obtain ⟨y0, y1, y2, y3, y4, e, hk⟩ := round4_ok (n := n) (kind := kind) (x0 := x0) (x2 := x2) (x3 := x3) (x4 := x4) (x6 := 0) (x7 := 0) (x8 := 0) (x9 := false)  (s := (Args.S).getD i (0, nl0, 0, 0)) hn hW (hp i hi)
        rw [e]
        rw [hI, ← best_snoc hi] at hk
        cases y1 with
        | nil => exact .inl ⟨(y0, [], y2, y3, y4), hk, rfl⟩
        | cons a t => exact .inl ⟨(y0, [a], y2, y3, y4), hk, rfl⟩
      | cons a t =>
        dsimp only
        rw [if_pos (by omega), if_pos (by omega), Int.toNat_natCast, w64_inc (by omega)]
        obtain ⟨y0, y1, y2, y3, y4, e, hk⟩ := roundb4_ok (n := n) (kind := kind) (x0 := x0) (x1 := a) (x2 := x2) (x3 := x3) (x4 := x4) (x6 := 0) (x7 := 0) (x8 := 0) (x9 := false)  (s := (Args.S).getD i (0, nl0, 0, 0)) hn hW (hp i hi)
        rw [e]
        rw [hI, ← best_snoc hi] at hk
        exact .inl ⟨(y0, [y1], y2, y3, y4), hk, rfl⟩)
    (fun s hI => by
      obtain ⟨x0, x1, x2, x3, x4⟩ := s
      dsimp only at hI
      rw [List.take_length] at hI
      unfold B_slicesValuesapiStyle1q4_1
      dsimp only
      cases x1 with
      | nil =>
        dsimp only
        rw [if_neg (by omega)]
        exact ⟨(x0, [], x2, x3, x4), hI, rfl⟩
      | cons a t =>
        dsimp only
        rw [if_neg (by omega)]
        exact ⟨(x0, [a], x2, x3, x4), hI, rfl⟩)
    n 0 (0, [], 0, 0, false) (Nat.zero_le _) rfl (by omega)
  obtain ⟨z0, z1, z2, z3, z4⟩ := r
  have hloop : iterM (B_slicesValuesapiStyle1q4_1 n kind  0 0 0 false  (((Args.S).length : Nat) : Int)) n ((0 : Int), ([] : List NL), (0 : Int), (0 : Int), false, 0) = some (z0, z1, z2, z3, z4) := hloop
  dsimp only at hr
  rw [← hr]
  unfold m_stylesStyleq4 m_slicesValuesapiStyleq1 m_foldOverstyleschoiceq4 m_slicesValuesapiStyle1q4 m_slicesValuesapiStyle1q4_1
  simp only [Option.bind_some]
  rw [hloop]
  cases z1 <;> rfl
theorem best_miss {kind : Int} {W : List Int} {s : Row} {L : List Row} (h : ¬ s.1 = kind) : best kind W ([s] ++ L) = best kind W L := by
  have hm : Mt kind W s = false := by unfold Mt; simp only [decide_eq_false h, Bool.false_and]
  have e : step kind W (false, 0, 0) s = (false, 0, 0) := by unfold step; rw [if_neg fun h => by rw [hm] at h; exact absurd h.1 (by decide)]
  unfold best
  rw [List.foldl_append]
  show L.foldl (step kind W) (step kind W (false, 0, 0) s) = _
  rw [e]
theorem best_mono {kind : Int} {W : List Int} : ∀ (L : List Row) (b : Bst), b.1 = true → (L.foldl (step kind W) b).1 = true ∧ b.2.2 ≤ (L.foldl (step kind W) b).2.2
  | [], b, h => ⟨h, Int.le_refl _⟩
  | s :: L, b, h => by
    rw [List.foldl_cons]
    by_cases hc : Mt kind W s = true ∧ ¬ (b.1 = true ∧ s.2.2.2 ≤ b.2.2)
    · have e : step kind W b s = (true, s.2.2.1, s.2.2.2) := if_pos hc
      rw [e]
      have ih := best_mono (kind := kind) (W := W) L (true, s.2.2.1, s.2.2.2) rfl
      have hlt : ¬ s.2.2.2 ≤ b.2.2 := fun q => hc.2 ⟨h, q⟩
      exact ⟨ih.1, by have := ih.2; dsimp only at this; omega⟩
    · have e : step kind W b s = b := if_neg hc
      rw [e]
      exact best_mono L b h
theorem best_ge {kind : Int} {W : List Int} {x : Row} (hx : Mt kind W x = true) : ∀ (L : List Row) (b : Bst), x ∈ L → (L.foldl (step kind W) b).1 = true ∧ x.2.2.2 ≤ (L.foldl (step kind W) b).2.2
  | [], b, h => by cases h
  | s :: L, b, h => by
    rw [List.foldl_cons]
    rcases List.mem_cons.1 h with rfl | h
    · by_cases hc : b.1 = true ∧ x.2.2.2 ≤ b.2.2
      · have e : step kind W b x = b := if_neg fun q => q.2 hc
        rw [e]
        have := best_mono (kind := kind) (W := W) L b hc.1
        exact ⟨this.1, by omega⟩
      · have e : step kind W b x = (true, x.2.2.1, x.2.2.2) := if_pos ⟨hx, hc⟩
        rw [e]
        exact best_mono L (true, x.2.2.1, x.2.2.2) rfl
    · exact best_ge hx L _ h
theorem best_again {kind : Int} {W : List Int} {L : List Row} {x : Row} {z : Int} (hx : x ∈ L) : best kind W (L ++ [(x.1, x.2.1, z, x.2.2.2)]) = best kind W L := by
  unfold best
  rw [List.foldl_append]
  show step kind W (L.foldl (step kind W) (false, 0, 0)) (x.1, x.2.1, z, x.2.2.2) = _
  refine if_neg fun h => h.2 ?_
  exact best_ge (show Mt kind W x = true from h.1) L _ hx
theorem best_way {kind : Int} {W W' : List Int} : ∀ (L : List Row) (b : Bst), (∀ s ∈ L, Mt kind W s = Mt kind W' s) → L.foldl (step kind W) b = L.foldl (step kind W') b
  | [], b, h => rfl
  | s :: L, b, h => by
    rw [List.foldl_cons, List.foldl_cons]
    have e : step kind W b s = step kind W' b s := by unfold step; rw [h s (by simp)]
    rw [e]
    exact best_way L _ fun s hs => h s (by simp [hs])
theorem Mt_app {kind : Int} {A Y : List Int} {s : Row} (h : s.2.1.l.length ≤ Y.length) : Mt kind (A ++ Y) s = Mt kind Y s := by
  have e : T (A ++ Y) s.2.1 ((A ++ Y).length - s.2.1.l.length) = T Y s.2.1 (Y.length - s.2.1.l.length) := by
    unfold T
    rw [Bool.eq_iff_iff, List.all_eq_true, List.all_eq_true]
    have hi : ∀ i, i < s.2.1.l.length → (A ++ Y).getD ((A ++ Y).length - s.2.1.l.length + i) 0 = Y.getD (Y.length - s.2.1.l.length + i) 0 := fun i hi => by
      rw [List.getD_eq_getElem?_getD, List.getD_eq_getElem?_getD, List.getElem?_append_right (by rw [List.length_append]; omega)]
      congr 2
      rw [List.length_append]; omega
    constructor
    · intro h i hm
      have := h i hm
      rwa [hi i (List.mem_range.1 hm)] at this
    · intro h i hm
      have := h i hm
      rwa [← hi i (List.mem_range.1 hm)] at this
  unfold Mt
  rw [e, decide_eq_true h, decide_eq_true (show s.2.1.l.length ≤ (A ++ Y).length by rw [List.length_append]; omega)]
theorem best_app {kind : Int} {A Y : List Int} {L : List Row} (h : ∀ i, i < L.length → (L.getD i (0, nl0, 0, 0)).2.1.l.length ≤ Y.length) : best kind (A ++ Y) L = best kind Y L :=
  best_way L _ fun s hs => by
    obtain ⟨i, hi, rfl⟩ := mem_getD (0, nl0, 0, 0) hs
    exact Mt_app (h i hi)
theorem fin_ok {n : Nat} {kind : Int} (hn : 1000 ≤ n) (hl : Lt) (hA : Args.A.length ≤ 40) (h : ∀ i, i < Args.S.length → (Args.S.getD i (0, nl0, 0, 0)).2.1.l.length ≤ Args.Y.length) :
    (if 0 < (Args.A).length then
      if (0 + (Args.A).length) * 8 ≤ 140737488355328 then
        if 0 < 0 + (Args.A).length then
          if 0 < (Args.Y).length then
            if (((([] : List Int) ++ Args.A)).length + (Args.Y).length) * 8 ≤ 140737488355328 then
              (m_stylesStyleq3 n kind ((([] : List Int) ++ Args.A) ++ Args.Y)).bind fun c14_ =>
              if c14_ = (best kind Args.Y Args.S).2.1 then
                some ()
              else
                none
            else none
          else
            if ((([] : List Int) ++ Args.A)).length * 8 ≤ 140737488355328 then
              (m_stylesStyleq3 n kind (([] : List Int) ++ Args.A)).bind fun c14_ =>
              if c14_ = (best kind Args.Y Args.S).2.1 then
                some ()
              else
                none
            else none
        else none
      else none
    else
      if 0 < (Args.Y).length then
        if (0 + (Args.Y).length) * 8 ≤ 140737488355328 then
          if 0 < 0 + (Args.Y).length then
            (m_stylesStyleq3 n kind (([] : List Int) ++ Args.Y)).bind fun c13_ =>
            if c13_ = (best kind Args.Y Args.S).2.1 then
              some ()
            else
              none
          else none
        else none
      else
        (m_stylesStyleq4 n kind).bind fun c11_ =>
        if c11_ = (best kind Args.Y Args.S).2.1 then
          some ()
        else
          none) = some () := by
  have hy := hl.y
  have hS := hl.s
  have hp : ∀ i, i < Args.S.length → (Args.S.getD i (0, nl0, 0, 0)).2.1.l.length ≤ 100 := fun i hi => by have := hl.p i hi; omega
  simp only [List.nil_append]
  by_cases a : 0 < Args.A.length
  · rw [if_pos a, if_pos (by omega), if_pos (by omega)]
    by_cases y : 0 < Args.Y.length
    · rw [if_pos y, if_pos (by omega), style3_ok (Wa := Args.A ++ Args.Y) hn (by rw [List.length_append]; omega) (by omega) hp, best_app h]
      simp only [Option.bind_some]
      exact if_pos trivial
    · have e : Args.Y = [] := List.length_eq_zero_iff.1 (by omega)
      have hb := best_app (kind := kind) (A := Args.A) (Y := Args.Y) h
      rw [e, List.append_nil] at hb
      rw [if_neg y, if_pos (by omega), style3_ok (Wa := Args.A) hn (by omega) (by omega) hp, e, hb]
      simp only [Option.bind_some]
      exact if_pos trivial
  · rw [if_neg a]
    by_cases y : 0 < Args.Y.length
    · rw [if_pos y, if_pos (by omega), if_pos (by omega), style3_ok (Wa := Args.Y) hn (by omega) (by omega) hp]
      simp only [Option.bind_some]
      exact if_pos trivial
    · have e : Args.Y = [] := List.length_eq_zero_iff.1 (by omega)
      rw [if_neg y, style4_ok hn (by simp) (by omega) hp, e]
      simp only [Option.bind_some]
      exact if_pos trivial
theorem loop_ok {n : Nat} {kind : Int} (hn : 1000 ≤ n) (hl : Lt) : m_viewportlaw26StylesOthers_1 n kind (best kind Args.Y Args.S).2.1 0 = some (.inl ()) ∨ (m_viewportlaw26StylesOthers_1 n kind (best kind Args.Y Args.S).2.1 0 = some (.inr ()) ∧ ∀ i, i < Args.S.length → (Args.S.getD i (0, nl0, 0, 0)).2.1.l.length ≤ Args.Y.length) := by
  have hy := hl.y
  have hS := hl.s
  obtain ⟨r, hr, hloop⟩ := hoare (B := B_viewportlaw26StylesOthers_1 n kind (best kind Args.Y Args.S).2.1) (σ := Unit) (fun _ i => i)
    (fun i _ => ∀ j, j < i → (Args.S.getD j (0, nl0, 0, 0)).2.1.l.length ≤ Args.Y.length) (fun r => r = .inl () ∨ (r = .inr () ∧ ∀ i, i < Args.S.length → (Args.S.getD i (0, nl0, 0, 0)).2.1.l.length ≤ Args.Y.length)) Args.S.length
    (fun i s hi hI => by
      unfold B_viewportlaw26StylesOthers_1
      dsimp only
      simp only [List.nil_append]
      rw [if_pos (by omega), if_pos (by omega), if_pos (by omega), if_pos (by omega), if_pos (by omega), Int.toNat_natCast, w64_inc (by omega), style2_ok hn (by omega) (by rw [List.length_append]; simp; omega) (fun j hj => ?_), best_again (getD_mem hi)]
      · simp only [Option.bind_some]
        rw [if_pos trivial]
        by_cases h : (Args.S.getD i (0, nl0, 0, 0)).2.1.l.length ≤ Args.Y.length
        · rw [if_neg (by omega)]
          refine .inl ⟨(), fun j hj => ?_, rfl⟩
          rcases Nat.lt_or_ge j i with q | q
          · exact hI j q
          · obtain rfl : j = i := by omega
            exact h
        · rw [if_pos (by omega)]
          exact .inr ⟨_, .inl rfl, rfl⟩
      · rw [List.length_append] at hj
        rcases Nat.lt_or_ge j Args.S.length with q | q
        · rw [List.getD_eq_getElem?_getD, List.getElem?_append_left q, ← List.getD_eq_getElem?_getD]
          have := hl.p j q; omega
        · obtain rfl : j = Args.S.length := by simp at hj; omega
          rw [List.getD_eq_getElem?_getD, List.getElem?_append_right (Nat.le_refl _), Nat.sub_self]
          have := hl.p i hi
          show (Args.S.getD i (0, nl0, 0, 0)).2.1.l.length ≤ 100
          omega)
    (fun s hI => by
      unfold B_viewportlaw26StylesOthers_1
      dsimp only
      rw [if_neg (by omega)]
      exact ⟨_, .inr ⟨rfl, hI⟩, rfl⟩)
    n 0 () (Nat.zero_le _) (fun j hj => absurd hj (Nat.not_lt_zero _)) (by omega)
  have hloop : m_viewportlaw26StylesOthers_1 n kind (best kind Args.Y Args.S).2.1 0 = some r := hloop
  rcases hr with rfl | ⟨rfl, h⟩
  · exact .inl hloop
  · exact .inr ⟨hloop, h⟩
theorem stylesOthers_true (kind oK : Int) (oP : NL) (oS oR : Int) : ∃ n, m_viewportlaw26StylesOthers n kind oK oP oS oR = some () := by
  refine ⟨Args.S.length + 1000, ?_⟩
  generalize hn : Args.S.length + 1000 = n
  have hn1 : 1000 ≤ n := by omega
  obtain ⟨b, e, hb⟩ := light_ok (n := n) (by omega)
  unfold m_viewportlaw26StylesOthers m_viewportlaw26lives
  simp only [Option.bind_some]
  rw [e]
  simp only [Option.bind_some]
  cases b with
  | false => rfl
  | true =>
    have hl := hb rfl
    have hS := hl.s
    have hY := hl.y
    have hp : ∀ i, i < Args.S.length → (Args.S.getD i (0, nl0, 0, 0)).2.1.l.length ≤ 100 := fun i hi => by have := hl.p i hi; omega
    rw [if_pos rfl]
    by_cases hA : ((Args.A.length : Nat) : Int) > 40
    · rw [if_pos hA]
    · rw [if_neg hA]
      by_cases hP : ((oP.l.length : Nat) : Int) > 20
      · rw [if_pos hP]
      · rw [if_neg hP, style1_ok hn1 (by omega) (by omega) hp]
        simp only [Option.bind_some]
        by_cases hk : oK = kind
        · rw [if_pos hk]
          rcases loop_ok (n := n) (kind := kind) hn1 hl with h | ⟨h, h2⟩
          · rw [h]
          · rw [h]
            exact fin_ok hn1 hl (by omega) h2
        · rw [if_neg hk]
          by_cases h0 : 0 < Args.S.length
          · rw [if_pos h0, if_pos (by omega), if_pos (by omega), style2_ok hn1 (by omega) (by rw [List.length_append]; simp; omega) (fun j hj => ?_), best_miss hk]
            · simp only [Option.bind_some]
              rw [if_pos trivial]
              rcases loop_ok (n := n) (kind := kind) hn1 hl with h | ⟨h, h2⟩
              · rw [h]
              · rw [h]
                exact fin_ok hn1 hl (by omega) h2
            · cases j with
              | zero => show oP.l.length ≤ 100; omega
              | succ j =>
                have : j < Args.S.length := by rw [List.length_append] at hj; simp at hj; omega
                exact hp j this
          · have hnil : Args.S = [] := List.length_eq_zero_iff.1 (by omega)
            have hm : best kind Args.Y [(oK, oP, oS, oR)] = best kind Args.Y Args.S := by rw [hnil]; exact best_miss (L := []) hk
            rw [if_neg h0, style2_ok hn1 (by omega) (by simp) (fun j hj => ?_), hm]
            · simp only [Option.bind_some]
              rw [if_pos trivial]
              rcases loop_ok (n := n) (kind := kind) hn1 hl with h | ⟨h, h2⟩
              · rw [h]
              · rw [h]
                exact fin_ok hn1 hl (by omega) h2
            · obtain rfl : j = 0 := by simpa using hj
              show oP.l.length ≤ 100; omega

end Go.Proofs.Ytliifcfgcfenkaa.styow
