/-
  The pure side. No condition.
-/
import Derived.Test.YtpbhdiapgeiopaaGramBTold
import Derived.IntWalk
set_option linter.unusedSimpArgs false
set_option linter.unusedVariables false
set_option linter.unusedSectionVars false
set_option linter.unnecessarySimpa false
namespace Go.Proofs.Ytpbhdiapgeiopaa.gramw
open Go Go.Proofs.Ytpbhdiapgeiopaa Ax
variable [Args]


theorem w64_id {x : Int} (h1 : -9223372036854775808 ≤ x) (h2 : x < 9223372036854775808) : w64 x = x := IntWalk.i64_in _ (by omega)
theorem w64_sm {x : Int} (h1 : -1000000000000 ≤ x) (h2 : x ≤ 1000000000000) : w64 x = x := w64_id (by omega) (by omega)
theorem w64_inc {i : Nat} (h : i ≤ 1000000000) : w64 ((i : Int) + 1) = ((i + 1 : Nat) : Int) := by rw [w64_sm (by omega) (by omega)]; rfl
/-! loops -/
theorem whileI {st ρ : Type} {B : st → Option (st ⊕ ρ)} (I : st → Prop) (μ : st → Nat) (Q : ρ → Prop) (h : ∀ s, I s → (∃ s', I s' ∧ μ s' < μ s ∧ B s = some (.inl s')) ∨ ∃ r, Q r ∧ B s = some (.inr r)) : ∀ (n : Nat) (s : st), I s → μ s < n → ∃ r, Q r ∧ iterM B n s = some r
  | 0, s, _, hm => absurd hm (Nat.not_lt_zero _)
  | n + 1, s, hi, hm => by
    rcases h s hi with ⟨s', h1, h2, h3⟩ | ⟨r, h1, h2⟩
    · obtain ⟨r, q1, q2⟩ := whileI I μ Q h n s' h1 (by omega)
      exact ⟨r, q1, by rw [iterM_succ, h3]; exact q2⟩
    · exact ⟨r, h1, by rw [iterM_succ, h2]; rfl⟩
theorem hoare {σ st ρ : Type} {B : st → Option (st ⊕ ρ)} (S : σ → Int → st) (I : Nat → σ → Prop) (Q : ρ → Prop) (len : Nat)
    (h1 : ∀ (i : Nat) (s : σ), i < len → I i s → (∃ s', I (i + 1) s' ∧ B (S s (i : Int)) = some (.inl (S s' ((i + 1 : Nat) : Int)))) ∨ ∃ r, Q r ∧ B (S s (i : Int)) = some (.inr r))
    (h2 : ∀ s, I len s → ∃ r, Q r ∧ B (S s (len : Int)) = some (.inr r)) : ∀ (n i : Nat) (s : σ), i ≤ len → I i s → len - i < n → ∃ r, Q r ∧ iterM B n (S s (i : Int)) = some r
  | 0, i, s, _, _, hm => absurd hm (Nat.not_lt_zero _)
  | n + 1, i, s, hl, hi, hm => by
    have main : (∃ s', i < len ∧ I (i + 1) s' ∧ B (S s (i : Int)) = some (.inl (S s' ((i + 1 : Nat) : Int)))) ∨ ∃ r, Q r ∧ B (S s (i : Int)) = some (.inr r) := by
      by_cases hlt : i < len
      · rcases h1 i s hlt hi with ⟨s', a, b⟩ | h
        · exact .inl ⟨s', hlt, a, b⟩
        · exact .inr h
      · obtain rfl : i = len := by omega
        exact .inr (h2 s hi)
    rcases main with ⟨s', g0, g1, g3⟩ | ⟨r, g1, g2⟩
    · obtain ⟨r, q1, q2⟩ := hoare S I Q len h1 h2 n (i + 1) s' (by omega) g1 (by omega)
      exact ⟨r, q1, by rw [iterM_succ, g3]; exact q2⟩
    · exact ⟨r, g1, by rw [iterM_succ, g2]; rfl⟩
/-- a search: the first place that is not so ends it -/
theorem scan {β γ : Type} {B : Int → Option (Int ⊕ (β ⊕ γ))} (len : Nat) (p : Nat → Bool) (a : β) (c : γ)
    (h1 : ∀ i : Nat, i < len → B (i : Int) = some (if p i = true then .inl ((i + 1 : Nat) : Int) else .inr (.inl a))) (h2 : B (len : Int) = some (.inr (.inr c))) (n : Nat) (hn : len < n) :
    iterM B n 0 = some (if (List.range len).all p = true then .inr c else .inl a) := by
  obtain ⟨r, q1, q2⟩ := hoare (B := B) (σ := Unit) (fun _ i => i) (fun i _ => ∀ j, j < i → p j = true) (fun r => r = if (List.range len).all p = true then .inr c else .inl a) len
    (fun i s hi hI => by
      by_cases hp : p i = true
      · refine .inl ⟨(), fun j hj => ?_, by rw [h1 i hi, if_pos hp]⟩
        rcases Nat.lt_or_ge j i with h | h
        · exact hI j h
        · obtain rfl : j = i := by omega
          exact hp
      · refine .inr ⟨.inl a, ?_, by rw [h1 i hi, if_neg hp]⟩
        rw [if_neg]
        intro hall
        exact hp (List.all_eq_true.1 hall i (List.mem_range.2 hi)))
    (fun s hI => ⟨.inr c, by rw [if_pos (List.all_eq_true.2 fun j hj => hI j (List.mem_range.1 hj))], h2⟩) n 0 () (Nat.zero_le _) (fun j hj => absurd hj (Nat.not_lt_zero _)) (by omega)
  rw [show (0 : Int) = ((0 : Nat) : Int) from rfl, q2, q1]
theorem all_range {α : Type} {l : List α} {d : α} {p : α → Bool} : (List.range l.length).all (fun i => p (l.getD i d)) = l.all p := by
  rw [Bool.eq_iff_iff, List.all_eq_true, List.all_eq_true]
  constructor
  · intro h x hx
    obtain ⟨i, hi, rfl⟩ := List.mem_iff_getElem.1 hx
    have := h i (List.mem_range.2 hi)
    simpa [List.getD_eq_getElem?_getD, hi] using this
  · intro h i hi
    have hi := List.mem_range.1 hi
    have := h l[i] (List.getElem_mem hi)
    simpa [List.getD_eq_getElem?_getD, hi] using this
theorem getD_mem {α : Type} {l : List α} {i : Nat} {d : α} (h : i < l.length) : l.getD i d ∈ l := by
  rw [List.getD_eq_getElem?_getD, List.getElem?_eq_getElem h]; exact List.getElem_mem h
theorem mem_getD {α : Type} {l : List α} {x : α} (d : α) (h : x ∈ l) : ∃ i, i < l.length ∧ l.getD i d = x := by
  obtain ⟨i, hi, rfl⟩ := List.mem_iff_getElem.1 h
  exact ⟨i, hi, by simp [List.getD_eq_getElem?_getD, hi]⟩
theorem getD_set {α : Type} {l : List α} {i j : Nat} {x d : α} (h : i < l.length) : (l.set i x).getD j d = if j = i then x else l.getD j d := by
  simp only [List.getD_eq_getElem?_getD, List.getElem?_set]
  by_cases hj : i = j
  · subst hj; simp [h]
  · rw [if_neg hj, if_neg (Ne.symm hj)]
theorem count_set_lt {L : List Bool} {i : Nat} (h : i < L.length) (hf : ¬ L.getD i false = true) : (L.set i true).count false < L.count false := by
  have h0 : L[i] = false := by simpa [List.getD_eq_getElem?_getD, h] using hf
  have hc := List.count_set (l := L) (a := true) (b := false) (i := i) h
  have hp : 0 < L.count false := List.count_pos_iff.2 (h0 ▸ List.getElem_mem h)
  rw [h0] at hc
  simp at hc
  omega


/-! grammars -/
def holdB (T : Int) (tm : Bool) (L : List Bool) (s : Int) : Bool := if s < T then tm else L.getD (s - T).toNat false
def allB (T : Int) (tm : Bool) (L : List Bool) (r : List Int) : Bool := r.all (holdB T tm L)
structure Good (gT gN gK : Int) : Prop where
  t1 : 1 ≤ gT
  t2 : gT ≤ 8
  n1 : 1 ≤ gN
  n2 : gN ≤ 16
  k1 : 1 ≤ gK
  k2 : gK ≤ 3
  g1 : 1 ≤ Args.G.length
  g2 : Args.G.length ≤ 64
  len : ∀ p ∈ Args.G, p.2.l.length ≤ 8
  left : ∀ p ∈ Args.G, 0 ≤ p.1 ∧ p.1 < gN
  sym : ∀ p ∈ Args.G, ∀ s ∈ p.2.l, 0 ≤ s ∧ s < gT + gN
theorem light_loop {n : Nat} {gT gN gK : Int} (hn : 1000 ≤ n) (hG : Args.G.length ≤ 100) : ∃ r, m_viewportkitLightGrammar_1 n gT gN gK 0 = some r := by
  have := hoare (B := B_viewportkitLightGrammar_1 n gT gN gK) (σ := Unit) (fun _ i => i) (fun _ _ => True) (fun _ => True) Args.G.length
    (fun i s hi _ => by
      unfold B_viewportkitLightGrammar_1
      dsimp only
      rw [if_pos (by omega), if_pos (by omega), w64_inc (by omega)]
      split
      · split
        · exact .inr ⟨_, trivial, rfl⟩
        · split
          · exact .inr ⟨_, trivial, rfl⟩
          · exact .inl ⟨(), trivial, rfl⟩
      · split
        · exact .inr ⟨_, trivial, rfl⟩
        · exact .inl ⟨(), trivial, rfl⟩)
    (fun s _ => by
      unfold B_viewportkitLightGrammar_1
      dsimp only
      rw [if_neg (by omega)]
      exact ⟨_, trivial, rfl⟩) n 0 () (Nat.zero_le _) trivial (by omega)
  obtain ⟨r, _, h⟩ := this
  exact ⟨r, h⟩
theorem light_ok {n : Nat} {gT gN gK : Int} (hn : 1000 ≤ n) : ∃ b, m_viewportkitLightGrammar n gT gN gK = some b ∧ (b = true → Args.G.length ≤ 100) := by
  unfold m_viewportkitLightGrammar
  by_cases hG : ((Args.G.length : Nat) : Int) > 100
  · rw [if_pos hG]; exact ⟨false, rfl, by simp⟩
  · rw [if_neg hG]
    obtain ⟨r, hr⟩ := light_loop (gT := gT) (gN := gN) (gK := gK) hn (by omega)
    rw [hr]
    rcases r with _ | _
    · exact ⟨false, rfl, by simp⟩
    · dsimp only
      repeat' split
      all_goals exact ⟨_, rfl, fun _ => by omega⟩
theorem strange_ok {n : Nat} {gT gN gK s : Int} (h1 : 1 ≤ gT ∧ gT ≤ 8) (h2 : 1 ≤ gN ∧ gN ≤ 16) : m_gramCheck1 n gT gN gK s = some (!(decide (0 ≤ s ∧ s < gT + gN))) := by
  unfold m_gramCheck1
  rw [w64_sm (by omega) (by omega)]
  by_cases a : s < 0
  · rw [if_pos a]; simp; omega
  · rw [if_neg a]
    by_cases b : s ≥ gT + gN
    · rw [if_pos b]; simp; omega
    · rw [if_neg b]; simp; omega
theorem contains_ok {n : Nat} {gT gN gK : Int} {pr : NL} (hn : 1000 ≤ n) (h1 : 1 ≤ gT ∧ gT ≤ 8) (h2 : 1 ≤ gN ∧ gN ≤ 16) (hl : pr.l.length ≤ 100) : ∃ b, m_slicesContainsFuncintint n gT gN gK pr = some b ∧ (b = false → ∀ s ∈ pr.l, 0 ≤ s ∧ s < gT + gN) := by
  obtain ⟨r, hr, hloop⟩ := hoare (B := B_slicesIndexFuncintint_1 n gT gN gK pr ((pr.l.length : Nat) : Int)) (σ := Unit) (fun _ i => i) (fun i _ => ∀ j, j < i → 0 ≤ pr.l.getD j 0 ∧ pr.l.getD j 0 < gT + gN) (fun r => match r with | .inl i => 0 ≤ i | .inr _ => ∀ s ∈ pr.l, 0 ≤ s ∧ s < gT + gN) pr.l.length
    (fun i s hi hI => by
      unfold B_slicesIndexFuncintint_1
      dsimp only
      rw [if_pos (by omega), if_pos (by omega), if_pos (by omega), Int.toNat_natCast, strange_ok h1 h2, w64_inc (by omega)]
      simp only [Option.bind_some]
      split
      · exact .inr ⟨_, by show (0 : Int) ≤ (i : Int); omega, rfl⟩
      · rename_i hs
        refine .inl ⟨(), fun j hj => ?_, rfl⟩
        rcases Nat.lt_or_ge j i with h | h
        · exact hI j h
        · obtain rfl : j = i := by omega
          simpa using hs)
    (fun s hI => by
      unfold B_slicesIndexFuncintint_1
      dsimp only
      rw [if_neg (by omega)]
      exact ⟨_, fun s hs => by obtain ⟨i, hi, rfl⟩ := mem_getD 0 hs; exact hI i hi, rfl⟩) n 0 () (Nat.zero_le _) (fun j hj => absurd hj (Nat.not_lt_zero _)) (by omega)
  have hloop : m_slicesIndexFuncintint_1 n gT gN gK pr ((pr.l.length : Nat) : Int) 0 = some r := hloop
  unfold m_slicesContainsFuncintint m_slicesIndexFuncintint
  rw [hloop]
  rcases r with i | _
  · have hr : 0 ≤ i := hr
    simp only [Option.bind_some]
    rw [if_pos (by omega)]
    exact ⟨true, rfl, by simp⟩
  · simp only [Option.bind_some]
    rw [if_neg (by omega)]
    exact ⟨false, rfl, fun _ => hr⟩
theorem check_ok {n : Nat} {gT gN gK : Int} (hn : 1000 ≤ n) (hG : Args.G.length ≤ 100) : ∃ e, m_gramCheck n gT gN gK = some e ∧ (e = 0 → Good gT gN gK) := by
  unfold m_gramCheck
  by_cases a1 : gT > 8
  · rw [if_pos a1]; exact ⟨3, rfl, by omega⟩
  rw [if_neg a1]
  by_cases a2 : gN > 16
  · rw [if_pos a2]; exact ⟨3, rfl, by omega⟩
  rw [if_neg a2]
  by_cases a3 : gK > 3
  · rw [if_pos a3]; exact ⟨3, rfl, by omega⟩
  rw [if_neg a3]
  by_cases a4 : ((Args.G.length : Nat) : Int) > 64
  · rw [if_pos a4]; exact ⟨3, rfl, by omega⟩
  rw [if_neg a4]
  obtain ⟨r, hr, hl⟩ := hoare (B := B_gramCheck_1 n gT gN gK ((Args.G.length : Nat) : Int)) (σ := Unit) (fun _ i => i) (fun i _ => ∀ j, j < i → (Args.G.getD j (0, nl0)).2.l.length ≤ 8) (fun r => match r with | .inl _ => True | .inr _ => ∀ p ∈ Args.G, p.2.l.length ≤ 8) Args.G.length
    (fun i s hi hI => by
      unfold B_gramCheck_1
      dsimp only
      rw [if_pos (by omega), if_pos (by omega), Int.toNat_natCast, w64_inc (by omega)]
      split
      · exact .inr ⟨_, trivial, rfl⟩
      · refine .inl ⟨(), fun j hj => ?_, rfl⟩
        rcases Nat.lt_or_ge j i with h | h
        · exact hI j h
        · obtain rfl : j = i := by omega
          omega)
    (fun s hI => by
      unfold B_gramCheck_1
      dsimp only
      rw [if_neg (by omega)]
      exact ⟨_, fun p hp => by obtain ⟨i, hi, rfl⟩ := mem_getD (0, nl0) hp; exact hI i hi, rfl⟩) n 0 () (Nat.zero_le _) (fun j hj => absurd hj (Nat.not_lt_zero _)) (by omega)
  have hl : m_gramCheck_1 n gT gN gK ((Args.G.length : Nat) : Int) 0 = some r := hl
  rw [hl]
  rcases r with _ | _
  · exact ⟨3, rfl, by omega⟩
  dsimp only
  by_cases b1 : gT < 1
  · rw [if_pos b1]; exact ⟨2, rfl, by omega⟩
  rw [if_neg b1]
  by_cases b2 : gN < 1
  · rw [if_pos b2]; exact ⟨2, rfl, by omega⟩
  rw [if_neg b2]
  by_cases b3 : gK < 1
  · rw [if_pos b3]; exact ⟨2, rfl, by omega⟩
  rw [if_neg b3]
  by_cases b4 : ((Args.G.length : Nat) : Int) < 1
  · rw [if_pos b4]; exact ⟨2, rfl, by omega⟩
  rw [if_neg b4]
  have hlen : ∀ p ∈ Args.G, p.2.l.length ≤ 8 := hr
  obtain ⟨r2, hr2, hl2⟩ := hoare (B := B_gramCheck_2 n gT gN gK ((Args.G.length : Nat) : Int)) (σ := Unit) (fun _ i => i) (fun i _ => ∀ j, j < i → (0 ≤ (Args.G.getD j (0, nl0)).1 ∧ (Args.G.getD j (0, nl0)).1 < gN) ∧ ∀ s ∈ (Args.G.getD j (0, nl0)).2.l, 0 ≤ s ∧ s < gT + gN) (fun r => match r with | .inl _ => True | .inr _ => Good gT gN gK) Args.G.length
    (fun i s hi hI => by
      unfold B_gramCheck_2
      dsimp only
      rw [if_pos (by omega), if_pos (by omega), Int.toNat_natCast, w64_inc (by omega)]
      by_cases c1 : (Args.G.getD i (0, nl0)).1 < 0
      · rw [if_pos c1]; exact .inr ⟨_, trivial, rfl⟩
      rw [if_neg c1]
      by_cases c2 : (Args.G.getD i (0, nl0)).1 ≥ gN
      · rw [if_pos c2]; exact .inr ⟨_, trivial, rfl⟩
      rw [if_neg c2]
      obtain ⟨b, hb, hbs⟩ := contains_ok (n := n) (gT := gT) (gN := gN) (gK := gK) (pr := (Args.G.getD i (0, nl0)).2) hn ⟨by omega, by omega⟩ ⟨by omega, by omega⟩ (by have := hlen _ (getD_mem (d := (0, nl0)) hi); omega)
      rw [hb]
      simp only [Option.bind_some]
      cases b with
      | true => rw [if_pos rfl]; exact .inr ⟨_, trivial, rfl⟩
      | false =>
        rw [if_neg (by simp)]
        refine .inl ⟨(), fun j hj => ?_, rfl⟩
        rcases Nat.lt_or_ge j i with h | h
        · exact hI j h
        · obtain rfl : j = i := by omega
          exact ⟨⟨by omega, by omega⟩, hbs rfl⟩)
    (fun s hI => by
      unfold B_gramCheck_2
      dsimp only
      rw [if_neg (by omega)]
      have hg : Good gT gN gK := ⟨by omega, by omega, by omega, by omega, by omega, by omega, by omega, by omega, hlen, fun p hp => by obtain ⟨i, hi, rfl⟩ := mem_getD (0, nl0) hp; exact (hI i hi).1, fun p hp => by obtain ⟨i, hi, rfl⟩ := mem_getD (0, nl0) hp; exact (hI i hi).2⟩
      exact ⟨.inr (), hg, rfl⟩) n 0 () (Nat.zero_le _) (fun j hj => absurd hj (Nat.not_lt_zero _)) (by omega)
  have hl2 : m_gramCheck_2 n gT gN gK ((Args.G.length : Nat) : Int) 0 = some r2 := hl2
  rw [hl2]
  rcases r2 with _ | _
  · exact ⟨2, rfl, by omega⟩
  · exact ⟨0, rfl, fun _ => hr2⟩



theorem d1n_ok {n : Nat} {gT gN gK : Int} {L : List Bool} (hn : 1000 ≤ n) (g : Good gT gN gK) (hL : L.length = gN.toNat) {p : Int × NL} (hp : p ∈ Args.G) :
    m_gramderiving1n n p.1 p.2 gN.toNat gT gN gK L = some (if L.getD p.1.toNat false = true then (L, false) else if allB gT false L p.2.l = true then (L.set p.1.toNat true, true) else (L, false)) := by
  have hl := g.left p hp
  have hs := g.sym p hp
  have h8 := g.len p hp
  have hloop : m_gramderiving1n_1 n L gN.toNat gT gN gK p.1 p.2 ((p.2.l.length : Nat) : Int) 0 = some (if (List.range p.2.l.length).all (fun i => holdB gT false L (p.2.l.getD i 0)) = true then .inr () else .inl ()) :=
    scan (B := B_gramderiving1n_1 n L gN.toNat gT gN gK p.1 p.2 ((p.2.l.length : Nat) : Int)) p.2.l.length (fun i => holdB gT false L (p.2.l.getD i 0)) () () (fun i hi => by
      have hm := hs _ (getD_mem (d := 0) hi)
      have ht := g.t1
      unfold B_gramderiving1n_1
      dsimp only
      rw [if_pos (by omega), if_pos (by omega), Int.toNat_natCast, if_pos hi, w64_inc (by omega)]
      generalize p.2.l.getD i 0 = s at hm ⊢
      unfold holdB
      have hT := g.t2
      have hN := g.n2
      have hN1 := g.n1
      by_cases hst : s < gT
      · rw [if_pos hst, if_pos hst]
        unfold m_gramNullable1
        simp only [Option.bind_some]
        rw [if_neg (by omega), if_neg (by simp)]
      · rw [if_neg hst, if_neg hst, if_pos (by omega), w64_sm (by omega) (by omega), if_pos (by omega), if_pos (by omega)]
        split <;> rfl) (by
      unfold B_gramderiving1n_1
      dsimp only
      rw [if_neg (by omega)]) n (by omega)
  unfold m_gramderiving1n
  have hN := g.n1
  rw [if_pos (by omega), if_pos (by omega)]
  by_cases h : L.getD p.1.toNat false = true
  · rw [if_pos h, if_pos h]
  · rw [if_neg h, if_neg h, hloop, all_range (l := p.2.l) (d := 0) (p := holdB gT false L)]
    unfold allB
    by_cases ha : p.2.l.all (holdB gT false L) = true
    · rw [if_pos ha, if_pos ha]
    · rw [if_neg ha, if_neg ha]

theorem d1p_ok {n : Nat} {gT gN gK : Int} {L : List Bool} (hn : 1000 ≤ n) (g : Good gT gN gK) (hL : L.length = gN.toNat) {p : Int × NL} (hp : p ∈ Args.G) :
    m_gramderiving1p n p.1 p.2 gN.toNat gT gN gK L = some (if L.getD p.1.toNat false = true then (L, false) else if allB gT true L p.2.l = true then (L.set p.1.toNat true, true) else (L, false)) := by
  have hl := g.left p hp
  have hs := g.sym p hp
  have h8 := g.len p hp
  have hloop : m_gramderiving1p_1 n L gN.toNat gT gN gK p.1 p.2 ((p.2.l.length : Nat) : Int) 0 = some (if (List.range p.2.l.length).all (fun i => holdB gT true L (p.2.l.getD i 0)) = true then .inr () else .inl ()) :=
    scan (B := B_gramderiving1p_1 n L gN.toNat gT gN gK p.1 p.2 ((p.2.l.length : Nat) : Int)) p.2.l.length (fun i => holdB gT true L (p.2.l.getD i 0)) () () (fun i hi => by
      have hm := hs _ (getD_mem (d := 0) hi)
      have ht := g.t1
      unfold B_gramderiving1p_1
      dsimp only
      rw [if_pos (by omega), if_pos (by omega), Int.toNat_natCast, if_pos hi, w64_inc (by omega)]
      generalize p.2.l.getD i 0 = s at hm ⊢
      unfold holdB
      have hT := g.t2
      have hN := g.n2
      have hN1 := g.n1
      by_cases hst : s < gT
      · rw [if_pos hst, if_pos hst]
        unfold m_gramProductive1
        simp only [Option.bind_some]
        rw [if_pos trivial]
      · rw [if_neg hst, if_neg hst, if_pos (by omega), w64_sm (by omega) (by omega), if_pos (by omega), if_pos (by omega)]
        split <;> rfl) (by
      unfold B_gramderiving1p_1
      dsimp only
      rw [if_neg (by omega)]) n (by omega)
  unfold m_gramderiving1p
  have hN := g.n1
  rw [if_pos (by omega), if_pos (by omega)]
  by_cases h : L.getD p.1.toNat false = true
  · rw [if_pos h, if_pos h]
  · rw [if_neg h, if_neg h, hloop, all_range (l := p.2.l) (d := 0) (p := holdB gT true L)]
    unfold allB
    by_cases ha : p.2.l.all (holdB gT true L) = true
    · rw [if_pos ha, if_pos ha]
    · rw [if_neg ha, if_neg ha]

/-! what is closed; what comes by steps -/
def ClosedD (T : Int) (tm : Bool) (C : List Bool) : Prop := ∀ p ∈ Args.G, allB T tm C p.2.l = true → C.getD p.1.toNat false = true
theorem holdB_mono {T : Int} {tm tm' : Bool} {L C : List Bool} (ht : tm = true → tm' = true) (h : ∀ i, L.getD i false = true → C.getD i false = true) {s : Int} (hs : holdB T tm L s = true) : holdB T tm' C s = true := by
  unfold holdB at hs ⊢
  by_cases a : s < T
  · rw [if_pos a] at hs ⊢; exact ht hs
  · rw [if_neg a] at hs ⊢; exact h _ hs
theorem allB_mono {T : Int} {tm tm' : Bool} {L C : List Bool} (ht : tm = true → tm' = true) (h : ∀ i, L.getD i false = true → C.getD i false = true) {r : List Int} (hs : allB T tm L r = true) : allB T tm' C r = true := by
  unfold allB at hs ⊢
  rw [List.all_eq_true] at hs ⊢
  exact fun x hx => holdB_mono ht h (hs x hx)
structure InvD (T N : Int) (tm : Bool) (L : List Bool) : Prop where
  len : L.length = N.toNat
  by_ : ∀ i, L.getD i false = true → ∃ p ∈ Args.G, p.1.toNat = i ∧ allB T tm L p.2.l = true
  least : ∀ C tm', (tm = true → tm' = true) → ClosedD T tm' C → ∀ i, L.getD i false = true → C.getD i false = true
theorem InvD.start {T N : Int} {tm : Bool} : InvD T N tm (List.replicate N.toNat false) := by
  have h0 : ∀ i, (List.replicate N.toNat false).getD i false = false := fun i => by
    rw [List.getD_eq_getElem?_getD, List.getElem?_replicate]; split <;> rfl
  exact ⟨by simp, fun i h => (by rw [h0] at h; cases h), fun C tm' _ _ i h => (by rw [h0] at h; cases h)⟩
theorem set_true_mono {L : List Bool} {k : Nat} (hk : k < L.length) : ∀ i, L.getD i false = true → (L.set k true).getD i false = true := fun i h => by
  rw [getD_set hk]; split
  · rfl
  · exact h
theorem InvD.set {gT gN gK : Int} {tm : Bool} {L : List Bool} (g : Good gT gN gK) (h : InvD gT gN tm L) {p : Int × NL} (hp : p ∈ Args.G) (ha : allB gT tm L p.2.l = true) : InvD gT gN tm (L.set p.1.toNat true) := by
  have hl := g.left p hp
  have hN := g.n1
  have hk : p.1.toNat < L.length := by rw [h.len]; omega
  refine ⟨by rw [List.length_set]; exact h.len, fun i hi => ?_, fun C tm' ht hC i hi => ?_⟩
  · rw [getD_set hk] at hi
    by_cases e : i = p.1.toNat
    · exact ⟨p, hp, e.symm, allB_mono id (set_true_mono hk) ha⟩
    · rw [if_neg e] at hi
      obtain ⟨q, q1, q2, q3⟩ := h.by_ i hi
      exact ⟨q, q1, q2, allB_mono id (set_true_mono hk) q3⟩
  · rw [getD_set hk] at hi
    by_cases e : i = p.1.toNat
    · subst e
      exact hC p hp (allB_mono ht (h.least C tm' ht hC) ha)
    · rw [if_neg e] at hi
      exact h.least C tm' ht hC i hi

theorem passn_ok {n : Nat} {gT gN gK : Int} {L : List Bool} (hn : 1000 ≤ n) (g : Good gT gN gK) (hL : InvD gT gN false L) :
    ∃ L' b, m_gramuntilapiProdn_2 n gN.toNat gT gN gK ((Args.G.length : Nat) : Int) (L, false, 0) = some (L', b) ∧ InvD gT gN false L' ∧ (b = false → L' = L ∧ ClosedD gT false L) ∧ (b = true → L'.count false < L.count false) := by
  have hG := g.g2
  obtain ⟨r, hr, hloop⟩ := hoare (B := B_gramuntilapiProdn_2 n gN.toNat gT gN gK ((Args.G.length : Nat) : Int)) (σ := List Bool × Bool) (fun s i => (s.1, s.2, i))
    (fun i s => InvD gT gN false s.1 ∧ (s.2 = false → s.1 = L ∧ ∀ j, j < i → allB gT false L (Args.G.getD j (0, nl0)).2.l = true → L.getD (Args.G.getD j (0, nl0)).1.toNat false = true) ∧ (s.2 = true → s.1.count false < L.count false))
    (fun r => InvD gT gN false r.1 ∧ (r.2 = false → r.1 = L ∧ ClosedD gT false L) ∧ (r.2 = true → r.1.count false < L.count false)) Args.G.length
    (fun i s hi hI => by
      obtain ⟨M, b⟩ := s
      obtain ⟨h1, h2, h3⟩ := hI
      have hm := getD_mem (d := ((0 : Int), nl0)) hi
      dsimp only at h1 h2 h3
      unfold B_gramuntilapiProdn_2
      dsimp only
      rw [if_pos (by omega), if_pos (by omega), Int.toNat_natCast, d1n_ok hn g h1.len hm, w64_inc (by omega)]
      have hl := g.left _ hm
      have hN := g.n1
      have hk : (Args.G.getD i (0, nl0)).1.toNat < M.length := by rw [h1.len]; omega
      have keep : ∀ (hclosed : allB gT false M (Args.G.getD i (0, nl0)).2.l = true → M.getD (Args.G.getD i (0, nl0)).1.toNat false = true), (b = false → M = L ∧ ∀ j, j < i + 1 → allB gT false L (Args.G.getD j (0, nl0)).2.l = true → L.getD (Args.G.getD j (0, nl0)).1.toNat false = true) := fun hc hb => by
        obtain ⟨rfl, h2⟩ := h2 hb
        refine ⟨rfl, fun j hj => ?_⟩
        rcases Nat.lt_or_ge j i with h | h
        · exact h2 j h
        · obtain rfl : j = i := by omega
          exact hc
      by_cases a1 : M.getD (Args.G.getD i (0, nl0)).1.toNat false = true
      · rw [if_pos a1]
        simp only [Option.bind_some]
        rw [if_neg (by simp)]
        exact .inl ⟨(M, b), ⟨h1, keep (fun _ => a1), h3⟩, rfl⟩
      · rw [if_neg a1]
        by_cases a2 : allB gT false M (Args.G.getD i (0, nl0)).2.l = true
        · rw [if_pos a2]
          simp only [Option.bind_some]
          rw [if_pos trivial]
          refine .inl ⟨(M.set (Args.G.getD i (0, nl0)).1.toNat true, true), ⟨h1.set g hm a2, by simp, fun _ => ?_⟩, rfl⟩
          have hc := count_set_lt hk a1
          cases b with
          | false =>
            obtain ⟨rfl, _⟩ := h2 rfl
            exact hc
          | true => exact Nat.lt_trans hc (h3 rfl)
        · rw [if_neg a2]
          simp only [Option.bind_some]
          rw [if_neg (by simp)]
          exact .inl ⟨(M, b), ⟨h1, keep (fun h => absurd h a2), h3⟩, rfl⟩)
    (fun s hI => by
      obtain ⟨M, b⟩ := s
      obtain ⟨h1, h2, h3⟩ := hI
      dsimp only at h1 h2 h3
      unfold B_gramuntilapiProdn_2
      dsimp only
      rw [if_neg (by omega)]
      refine ⟨(M, b), ⟨h1, fun hb => ?_, h3⟩, rfl⟩
      obtain ⟨q1, q2⟩ := h2 hb
      refine ⟨q1, fun p hp => ?_⟩
      obtain ⟨j, hj, rfl⟩ := mem_getD (0, nl0) hp
      exact q2 j hj) n 0 (L, false) (Nat.zero_le _) ⟨hL, fun _ => ⟨rfl, fun j hj => absurd hj (Nat.not_lt_zero _)⟩, by simp⟩ (by omega)
  obtain ⟨L', b⟩ := r
  exact ⟨L', b, hloop, hr⟩
theorem untiln_ok {n : Nat} {gT gN gK : Int} {L : List Bool} (hn : 1000 ≤ n) (g : Good gT gN gK) (hL : InvD gT gN false L) :
    ∃ R, m_gramuntilapiProdn n gN.toNat gT gN gK L = some R ∧ InvD gT gN false R ∧ ClosedD gT false R := by
  have hcl : L.count false ≤ 16 := by
    have := List.count_le_length (a := false) (l := L)
    have := hL.len
    have := g.n2
    omega
  obtain ⟨R, hR, hloop⟩ := whileI (B := B_gramuntilapiProdn_1 n gN.toNat gT gN gK) (fun s => InvD gT gN false s.1 ∧ (s.2 = false → ClosedD gT false s.1)) (fun s => 2 * s.1.count false + (if s.2 = true then 1 else 0)) (fun R => InvD gT gN false R ∧ ClosedD gT false R)
    (fun s hI => by
      obtain ⟨M, b⟩ := s
      obtain ⟨h1, h2⟩ := hI
      dsimp only at h1 h2
      unfold B_gramuntilapiProdn_1
      dsimp only
      cases b with
      | false =>
        rw [if_neg (by simp)]
        exact .inr ⟨_, ⟨h1, h2 rfl⟩, rfl⟩
      | true =>
        rw [if_pos rfl]
        obtain ⟨L', b', e, q1, q2, q3⟩ := passn_ok hn g h1
        rw [e]
        simp only [Option.bind_some]
        refine .inl ⟨(L', b'), ⟨q1, fun hb => ?_⟩, ?_, rfl⟩
        · obtain ⟨rfl, hc⟩ := q2 hb
          exact hc
        · cases b' with
          | false =>
            obtain ⟨rfl, _⟩ := q2 rfl
            simp
          | true =>
            have := q3 rfl
            simp
            omega) n (L, true) ⟨hL, by simp⟩ (by simp; omega)
  refine ⟨R, ?_, hR⟩
  have hloop : m_gramuntilapiProdn_1 n gN.toNat gT gN gK (L, true) = some R := hloop
  unfold m_gramuntilapiProdn
  rw [hloop]
  rfl
theorem Nullable_ok {n : Nat} {gT gN gK : Int} (hn : 1000 ≤ n) (hc : m_gramCheck n gT gN gK = some 0) (g : Good gT gN gK) :
    ∃ R, m_gramNullable n gT gN gK = some R ∧ InvD gT gN false R ∧ ClosedD gT false R := by
  have h1 := g.n1
  have h2 := g.n2
  obtain ⟨R, hR, q⟩ := untiln_ok hn g (InvD.start (T := gT) (N := gN) (tm := false))
  refine ⟨R, ?_, q⟩
  unfold m_gramNullable m_gramderivingn
  rw [hc]
  simp only [Option.bind_some]
  rw [if_pos trivial, if_pos (by omega), if_pos (by omega), hR]
  rfl

theorem passp_ok {n : Nat} {gT gN gK : Int} {L : List Bool} (hn : 1000 ≤ n) (g : Good gT gN gK) (hL : InvD gT gN true L) :
    ∃ L' b, m_gramuntilapiProdp_2 n gN.toNat gT gN gK ((Args.G.length : Nat) : Int) (L, false, 0) = some (L', b) ∧ InvD gT gN true L' ∧ (b = false → L' = L ∧ ClosedD gT true L) ∧ (b = true → L'.count false < L.count false) := by
  have hG := g.g2
  obtain ⟨r, hr, hloop⟩ := hoare (B := B_gramuntilapiProdp_2 n gN.toNat gT gN gK ((Args.G.length : Nat) : Int)) (σ := List Bool × Bool) (fun s i => (s.1, s.2, i))
    (fun i s => InvD gT gN true s.1 ∧ (s.2 = false → s.1 = L ∧ ∀ j, j < i → allB gT true L (Args.G.getD j (0, nl0)).2.l = true → L.getD (Args.G.getD j (0, nl0)).1.toNat false = true) ∧ (s.2 = true → s.1.count false < L.count false))
    (fun r => InvD gT gN true r.1 ∧ (r.2 = false → r.1 = L ∧ ClosedD gT true L) ∧ (r.2 = true → r.1.count false < L.count false)) Args.G.length
    (fun i s hi hI => by
      obtain ⟨M, b⟩ := s
      obtain ⟨h1, h2, h3⟩ := hI
      have hm := getD_mem (d := ((0 : Int), nl0)) hi
      dsimp only at h1 h2 h3
      unfold B_gramuntilapiProdp_2
      dsimp only
      rw [if_pos (by omega), if_pos (by omega), Int.toNat_natCast, d1p_ok hn g h1.len hm, w64_inc (by omega)]
      have hl := g.left _ hm
      have hN := g.n1
      have hk : (Args.G.getD i (0, nl0)).1.toNat < M.length := by rw [h1.len]; omega
      have keep : ∀ (hclosed : allB gT true M (Args.G.getD i (0, nl0)).2.l = true → M.getD (Args.G.getD i (0, nl0)).1.toNat false = true), (b = false → M = L ∧ ∀ j, j < i + 1 → allB gT true L (Args.G.getD j (0, nl0)).2.l = true → L.getD (Args.G.getD j (0, nl0)).1.toNat false = true) := fun hc hb => by
        obtain ⟨rfl, h2⟩ := h2 hb
        refine ⟨rfl, fun j hj => ?_⟩
        rcases Nat.lt_or_ge j i with h | h
        · exact h2 j h
        · obtain rfl : j = i := by omega
          exact hc
      by_cases a1 : M.getD (Args.G.getD i (0, nl0)).1.toNat false = true
      · rw [if_pos a1]
        simp only [Option.bind_some]
        rw [if_neg (by simp)]
        exact .inl ⟨(M, b), ⟨h1, keep (fun _ => a1), h3⟩, rfl⟩
      · rw [if_neg a1]
        by_cases a2 : allB gT true M (Args.G.getD i (0, nl0)).2.l = true
        · rw [if_pos a2]
          simp only [Option.bind_some]
          rw [if_pos trivial]
          refine .inl ⟨(M.set (Args.G.getD i (0, nl0)).1.toNat true, true), ⟨h1.set g hm a2, by simp, fun _ => ?_⟩, rfl⟩
          have hc := count_set_lt hk a1
          cases b with
          | false =>
            obtain ⟨rfl, _⟩ := h2 rfl
            exact hc
          | true => exact Nat.lt_trans hc (h3 rfl)
        · rw [if_neg a2]
          simp only [Option.bind_some]
          rw [if_neg (by simp)]
          exact .inl ⟨(M, b), ⟨h1, keep (fun h => absurd h a2), h3⟩, rfl⟩)
    (fun s hI => by
      obtain ⟨M, b⟩ := s
      obtain ⟨h1, h2, h3⟩ := hI
      dsimp only at h1 h2 h3
      unfold B_gramuntilapiProdp_2
      dsimp only
      rw [if_neg (by omega)]
      refine ⟨(M, b), ⟨h1, fun hb => ?_, h3⟩, rfl⟩
      obtain ⟨q1, q2⟩ := h2 hb
      refine ⟨q1, fun p hp => ?_⟩
      obtain ⟨j, hj, rfl⟩ := mem_getD (0, nl0) hp
      exact q2 j hj) n 0 (L, false) (Nat.zero_le _) ⟨hL, fun _ => ⟨rfl, fun j hj => absurd hj (Nat.not_lt_zero _)⟩, by simp⟩ (by omega)
  obtain ⟨L', b⟩ := r
  exact ⟨L', b, hloop, hr⟩
theorem untilp_ok {n : Nat} {gT gN gK : Int} {L : List Bool} (hn : 1000 ≤ n) (g : Good gT gN gK) (hL : InvD gT gN true L) :
    ∃ R, m_gramuntilapiProdp n gN.toNat gT gN gK L = some R ∧ InvD gT gN true R ∧ ClosedD gT true R := by
  have hcl : L.count false ≤ 16 := by
    have := List.count_le_length (a := false) (l := L)
    have := hL.len
    have := g.n2
    omega
  obtain ⟨R, hR, hloop⟩ := whileI (B := B_gramuntilapiProdp_1 n gN.toNat gT gN gK) (fun s => InvD gT gN true s.1 ∧ (s.2 = false → ClosedD gT true s.1)) (fun s => 2 * s.1.count false + (if s.2 = true then 1 else 0)) (fun R => InvD gT gN true R ∧ ClosedD gT true R)
    (fun s hI => by
      obtain ⟨M, b⟩ := s
      obtain ⟨h1, h2⟩ := hI
      dsimp only at h1 h2
      unfold B_gramuntilapiProdp_1
      dsimp only
      cases b with
      | false =>
        rw [if_neg (by simp)]
        exact .inr ⟨_, ⟨h1, h2 rfl⟩, rfl⟩
      | true =>
        rw [if_pos rfl]
        obtain ⟨L', b', e, q1, q2, q3⟩ := passp_ok hn g h1
        rw [e]
        simp only [Option.bind_some]
        refine .inl ⟨(L', b'), ⟨q1, fun hb => ?_⟩, ?_, rfl⟩
        · obtain ⟨rfl, hc⟩ := q2 hb
          exact hc
        · cases b' with
          | false =>
            obtain ⟨rfl, _⟩ := q2 rfl
            simp
          | true =>
            have := q3 rfl
            simp
            omega) n (L, true) ⟨hL, by simp⟩ (by simp; omega)
  refine ⟨R, ?_, hR⟩
  have hloop : m_gramuntilapiProdp_1 n gN.toNat gT gN gK (L, true) = some R := hloop
  unfold m_gramuntilapiProdp
  rw [hloop]
  rfl
theorem Productive_ok {n : Nat} {gT gN gK : Int} (hn : 1000 ≤ n) (hc : m_gramCheck n gT gN gK = some 0) (g : Good gT gN gK) :
    ∃ R, m_gramProductive n gT gN gK = some R ∧ InvD gT gN true R ∧ ClosedD gT true R := by
  have h1 := g.n1
  have h2 := g.n2
  obtain ⟨R, hR, q⟩ := untilp_ok hn g (InvD.start (T := gT) (N := gN) (tm := true))
  refine ⟨R, ?_, q⟩
  unfold m_gramProductive m_gramderivingp
  rw [hc]
  simp only [Option.bind_some]
  rw [if_pos trivial, if_pos (by omega), if_pos (by omega), hR]
  rfl



/-! what is reached -/
def ClosedAt (T : Int) (C : List Bool) (p : Int × NL) : Prop := C.getD p.1.toNat false = true → ∀ s ∈ p.2.l, T ≤ s → C.getD (s - T).toNat false = true
def ClosedR (T : Int) (C : List Bool) : Prop := ∀ p ∈ Args.G, ClosedAt T C p
structure InvR (T N : Int) (L : List Bool) : Prop where
  len : L.length = N.toNat
  zero : L.getD 0 false = true
  least : ∀ C : List Bool, C.getD 0 false = true → ClosedR T C → ∀ i, L.getD i false = true → C.getD i false = true
theorem InvR.set {gT gN gK : Int} {L : List Bool} (g : Good gT gN gK) (h : InvR gT gN L) {p : Int × NL} (hp : p ∈ Args.G) (hl : L.getD p.1.toNat false = true) {s : Int} (hs : s ∈ p.2.l) (ht : gT ≤ s) : InvR gT gN (L.set (s - gT).toNat true) := by
  have h1 := g.sym p hp s hs
  have hk : (s - gT).toNat < L.length := by rw [h.len]; omega
  refine ⟨by rw [List.length_set]; exact h.len, set_true_mono hk _ h.zero, fun C h0 hC i hi => ?_⟩
  rw [getD_set hk] at hi
  by_cases e : i = (s - gT).toNat
  · subst e
    exact hC p hp (h.least C h0 hC _ hl) s hs ht
  · rw [if_neg e] at hi
    exact h.least C h0 hC i hi
theorem reach1_ok {n : Nat} {gT gN gK : Int} {L : List Bool} (hn : 1000 ≤ n) (g : Good gT gN gK) (hL : InvR gT gN L) {p : Int × NL} (hp : p ∈ Args.G) :
    ∃ L' b, m_gramReachable1 n p.1 p.2 gN.toNat gT gN gK L = some (L', b) ∧ InvR gT gN L' ∧ (b = false → L' = L ∧ ClosedAt gT L p) ∧ (b = true → L'.count false < L.count false) := by
  have h8 := g.len p hp
  have hlf := g.left p hp
  obtain ⟨r, hr, hloop⟩ := hoare (B := B_gramReachable1_1 n gT gN gK gN.toNat p.1 p.2 ((p.2.l.length : Nat) : Int)) (σ := List Bool × Bool) (fun s i => (s.1, s.2, i))
    (fun i s => InvR gT gN s.1 ∧ (s.2 = false → s.1 = L ∧ ∀ j, j < i → L.getD p.1.toNat false = true → gT ≤ p.2.l.getD j 0 → L.getD (p.2.l.getD j 0 - gT).toNat false = true) ∧ (s.2 = true → s.1.count false < L.count false))
    (fun r => InvR gT gN r.1 ∧ (r.2 = false → r.1 = L ∧ ClosedAt gT L p) ∧ (r.2 = true → r.1.count false < L.count false)) p.2.l.length
    (fun i s hi hI => by
      obtain ⟨M, b⟩ := s
      obtain ⟨h1, h2, h3⟩ := hI
      dsimp only at h1 h2 h3
      have hm := getD_mem (d := (0 : Int)) hi
      have hs := g.sym p hp _ hm
      have hT1 := g.t1
      have hT2 := g.t2
      have hN := g.n1
      have hN2 := g.n2
      have hlen := h1.len
      unfold B_gramReachable1_1
      dsimp only
      rw [if_pos (by omega), if_pos (by omega), Int.toNat_natCast, if_pos hi, w64_inc (by omega)]
      have keep : ∀ (hc : M.getD p.1.toNat false = true → gT ≤ p.2.l.getD i 0 → M.getD (p.2.l.getD i 0 - gT).toNat false = true), (b = false → M = L ∧ ∀ j, j < i + 1 → L.getD p.1.toNat false = true → gT ≤ p.2.l.getD j 0 → L.getD (p.2.l.getD j 0 - gT).toNat false = true) := fun hc hb => by
        obtain ⟨rfl, h2⟩ := h2 hb
        refine ⟨rfl, fun j hj => ?_⟩
        rcases Nat.lt_or_ge j i with h | h
        · exact h2 j h
        · obtain rfl : j = i := by omega
          exact hc
      by_cases a1 : p.2.l.getD i 0 ≥ gT
      · rw [if_pos a1, if_pos (by omega), if_pos (by omega)]
        by_cases a2 : M.getD p.1.toNat false = true
        · rw [if_pos a2, w64_sm (by omega) (by omega), if_pos (by omega), if_pos (by omega)]
          by_cases a3 : M.getD (p.2.l.getD i 0 - gT).toNat false = true
          · rw [if_pos a3]
            exact .inl ⟨(M, b), ⟨h1, keep (fun _ _ => a3), h3⟩, rfl⟩
          · rw [if_neg a3]
            refine .inl ⟨(M.set (p.2.l.getD i 0 - gT).toNat true, true), ⟨h1.set g hp a2 hm a1, by simp, fun _ => ?_⟩, rfl⟩
            have hc := count_set_lt (by omega) a3
            cases b with
            | false =>
              obtain ⟨rfl, _⟩ := h2 rfl
              exact hc
            | true => exact Nat.lt_trans hc (h3 rfl)
        · rw [if_neg a2]
          exact .inl ⟨(M, b), ⟨h1, keep (fun h => absurd h a2), h3⟩, rfl⟩
      · rw [if_neg a1]
        exact .inl ⟨(M, b), ⟨h1, keep (fun _ h => absurd h a1), h3⟩, rfl⟩)
    (fun s hI => by
      obtain ⟨M, b⟩ := s
      obtain ⟨h1, h2, h3⟩ := hI
      dsimp only at h1 h2 h3
      unfold B_gramReachable1_1
      dsimp only
      rw [if_neg (by omega)]
      refine ⟨(M, b), ⟨h1, fun hb => ?_, h3⟩, rfl⟩
      obtain ⟨q1, q2⟩ := h2 hb
      refine ⟨q1, fun ha s hs => ?_⟩
      obtain ⟨j, hj, rfl⟩ := mem_getD 0 hs
      exact q2 j hj ha) n 0 (L, false) (Nat.zero_le _) ⟨hL, fun _ => ⟨rfl, fun j hj => absurd hj (Nat.not_lt_zero _)⟩, by simp⟩ (by omega)
  obtain ⟨L', b⟩ := r
  have hloop : m_gramReachable1_1 n gT gN gK gN.toNat p.1 p.2 ((p.2.l.length : Nat) : Int) (L, false, 0) = some (L', b) := hloop
  refine ⟨L', b, ?_, hr⟩
  unfold m_gramReachable1
  rw [hloop]
  rfl
theorem passr_ok {n : Nat} {gT gN gK : Int} {L : List Bool} (hn : 1000 ≤ n) (g : Good gT gN gK) (hL : InvR gT gN L) :
    ∃ L' b, m_gramuntilapiProdr_2 n gT gN gK gN.toNat ((Args.G.length : Nat) : Int) (L, false, 0) = some (L', b) ∧ InvR gT gN L' ∧ (b = false → L' = L ∧ ClosedR gT L) ∧ (b = true → L'.count false < L.count false) := by
  have hG := g.g2
  obtain ⟨r, hr, hloop⟩ := hoare (B := B_gramuntilapiProdr_2 n gT gN gK gN.toNat ((Args.G.length : Nat) : Int)) (σ := List Bool × Bool) (fun s i => (s.1, s.2, i))
    (fun i s => InvR gT gN s.1 ∧ (s.2 = false → s.1 = L ∧ ∀ j, j < i → ClosedAt gT L (Args.G.getD j (0, nl0))) ∧ (s.2 = true → s.1.count false < L.count false))
    (fun r => InvR gT gN r.1 ∧ (r.2 = false → r.1 = L ∧ ClosedR gT L) ∧ (r.2 = true → r.1.count false < L.count false)) Args.G.length
    (fun i s hi hI => by
      obtain ⟨M, b⟩ := s
      obtain ⟨h1, h2, h3⟩ := hI
      have hm := getD_mem (d := ((0 : Int), nl0)) hi
      dsimp only at h1 h2 h3
      unfold B_gramuntilapiProdr_2
      dsimp only
      obtain ⟨L', b', e, q1, q2, q3⟩ := reach1_ok hn g h1 hm
      rw [if_pos (by omega), if_pos (by omega), Int.toNat_natCast, e, w64_inc (by omega)]
      simp only [Option.bind_some]
      cases b' with
      | true =>
        rw [if_pos rfl]
        refine .inl ⟨(L', true), ⟨q1, by simp, fun _ => ?_⟩, rfl⟩
        have hc := q3 rfl
        cases b with
        | false =>
          obtain ⟨rfl, _⟩ := h2 rfl
          exact hc
        | true => exact Nat.lt_trans hc (h3 rfl)
      | false =>
        rw [if_neg (by simp)]
        obtain ⟨rfl, hcl⟩ := q2 rfl
        refine .inl ⟨(L', b), ⟨h1, fun hb => ?_, h3⟩, rfl⟩
        obtain ⟨rfl, h2⟩ := h2 hb
        refine ⟨rfl, fun j hj => ?_⟩
        rcases Nat.lt_or_ge j i with h | h
        · exact h2 j h
        · obtain rfl : j = i := by omega
          exact hcl)
    (fun s hI => by
      obtain ⟨M, b⟩ := s
      obtain ⟨h1, h2, h3⟩ := hI
      dsimp only at h1 h2 h3
      unfold B_gramuntilapiProdr_2
      dsimp only
      rw [if_neg (by omega)]
      refine ⟨(M, b), ⟨h1, fun hb => ?_, h3⟩, rfl⟩
      obtain ⟨q1, q2⟩ := h2 hb
      refine ⟨q1, fun p hp => ?_⟩
      obtain ⟨j, hj, rfl⟩ := mem_getD (0, nl0) hp
      exact q2 j hj) n 0 (L, false) (Nat.zero_le _) ⟨hL, fun _ => ⟨rfl, fun j hj => absurd hj (Nat.not_lt_zero _)⟩, by simp⟩ (by omega)
  obtain ⟨L', b⟩ := r
  exact ⟨L', b, hloop, hr⟩
theorem untilr_ok {n : Nat} {gT gN gK : Int} {L : List Bool} (hn : 1000 ≤ n) (g : Good gT gN gK) (hL : InvR gT gN L) :
    ∃ R, m_gramuntilapiProdr n gN.toNat gT gN gK L = some R ∧ InvR gT gN R ∧ ClosedR gT R := by
  have hcl : L.count false ≤ 16 := by
    have := List.count_le_length (a := false) (l := L)
    have := hL.len
    have := g.n2
    omega
  obtain ⟨R, hR, hloop⟩ := whileI (B := B_gramuntilapiProdr_1 n gT gN gK gN.toNat) (fun s => InvR gT gN s.1 ∧ (s.2 = false → ClosedR gT s.1)) (fun s => 2 * s.1.count false + (if s.2 = true then 1 else 0)) (fun R => InvR gT gN R ∧ ClosedR gT R)
    (fun s hI => by
      obtain ⟨M, b⟩ := s
      obtain ⟨h1, h2⟩ := hI
      dsimp only at h1 h2
      unfold B_gramuntilapiProdr_1
      dsimp only
      cases b with
      | false =>
        rw [if_neg (by simp)]
        exact .inr ⟨_, ⟨h1, h2 rfl⟩, rfl⟩
      | true =>
        rw [if_pos rfl]
        obtain ⟨L', b', e, q1, q2, q3⟩ := passr_ok hn g h1
        rw [e]
        simp only [Option.bind_some]
        refine .inl ⟨(L', b'), ⟨q1, fun hb => ?_⟩, ?_, rfl⟩
        · obtain ⟨rfl, hc⟩ := q2 hb
          exact hc
        · cases b' with
          | false =>
            obtain ⟨rfl, _⟩ := q2 rfl
            simp
          | true =>
            have := q3 rfl
            simp
            omega) n (L, true) ⟨hL, by simp⟩ (by simp; omega)
  refine ⟨R, ?_, hR⟩
  have hloop : m_gramuntilapiProdr_1 n gT gN gK gN.toNat (L, true) = some R := hloop
  unfold m_gramuntilapiProdr
  rw [hloop]
  rfl
theorem reach_start {gT gN gK : Int} (g : Good gT gN gK) : InvR gT gN ((List.replicate gN.toNat false).set 0 true) := by
  have h1 := g.n1
  have hlen : (List.replicate gN.toNat false).length = gN.toNat := by simp
  have hk : 0 < (List.replicate gN.toNat false).length := by omega
  refine ⟨by rw [List.length_set, hlen], by rw [getD_set hk, if_pos rfl], fun C h0 _ i hi => ?_⟩
  rw [getD_set hk] at hi
  by_cases e : i = 0
  · subst e; exact h0
  · rw [if_neg e, List.getD_eq_getElem?_getD, List.getElem?_replicate] at hi
    split at hi <;> cases hi
theorem Reachable_ok {n : Nat} {gT gN gK : Int} (hn : 1000 ≤ n) (hc : m_gramCheck n gT gN gK = some 0) (g : Good gT gN gK) :
    ∃ R, m_gramReachable n gT gN gK = some R ∧ InvR gT gN R ∧ ClosedR gT R := by
  have h1 := g.n1
  have h2 := g.n2
  have hI : InvR gT gN ((List.replicate gN.toNat false).set 0 true) := reach_start g
  obtain ⟨R, hR, q⟩ := untilr_ok hn g hI
  refine ⟨R, ?_, q⟩
  unfold m_gramReachable
  rw [hc]
  simp only [Option.bind_some]
  rw [if_pos trivial, if_pos (by omega), if_pos (by omega), if_pos (by omega), if_pos (by simp; omega)]
  rw [show ((0 : Int)).toNat = 0 from rfl, hR]
  rfl
/-! the law's own -/
theorem holds_ok {n : Nat} {gT gN gK : Int} {L : List Bool} {tm : Bool} (hn : 1000 ≤ n) (g : Good gT gN gK) (hL : L.length = gN.toNat) {p : Int × NL} (hp : p ∈ Args.G) :
    m_viewportlaw11holds n gT gN gK p.2 tm gN.toNat L = some (allB gT tm L p.2.l) := by
  have hs := g.sym p hp
  have h8 := g.len p hp
  have hloop : m_viewportlaw11holds_1 n L p.2 tm gN.toNat gT gN gK 0 = some (if (List.range p.2.l.length).all (fun i => holdB gT tm L (p.2.l.getD i 0)) = true then .inr () else .inl ()) :=
    scan (B := B_viewportlaw11holds_1 n L p.2 tm gN.toNat gT gN gK) p.2.l.length (fun i => holdB gT tm L (p.2.l.getD i 0)) () () (fun i hi => by
      have hm := hs _ (getD_mem (d := 0) hi)
      have ht := g.t1
      unfold B_viewportlaw11holds_1
      dsimp only
      rw [if_pos (by omega), if_pos (by omega), Int.toNat_natCast, if_pos hi, w64_inc (by omega)]
      generalize p.2.l.getD i 0 = s at hm ⊢
      unfold holdB
      have hT := g.t2
      have hN := g.n2
      have hN1 := g.n1
      by_cases hst : s < gT
      · rw [if_pos hst, if_pos hst]
        cases tm with
        | true => rw [if_pos rfl, if_neg (by omega), if_pos rfl]
        | false => rw [if_neg (by simp), if_neg (by simp)]
      · rw [if_neg hst, if_neg hst, if_pos (by omega), w64_sm (by omega) (by omega), if_pos (by omega), if_pos (by omega)]
        split <;> rfl) (by
      unfold B_viewportlaw11holds_1
      dsimp only
      rw [if_neg (by omega)]) n (by omega)
  unfold m_viewportlaw11holds
  rw [hloop, all_range (l := p.2.l) (d := 0) (p := holdB gT tm L)]
  unfold allB
  cases p.2.l.all (holdB gT tm L) <;> rfl

end Go.Proofs.Ytpbhdiapgeiopaa.gramw
