/-
  The pure side. No condition.
-/
import Derived.Test.YtgcbagchpjpmoaaFirBTold
import Derived.IntWalk
set_option linter.unusedSimpArgs false
set_option linter.unusedVariables false
set_option linter.unusedSectionVars false
set_option linter.unnecessarySimpa false
namespace Go.Proofs.Ytgcbagchpjpmoaa.firw
open Go Go.Proofs.Ytgcbagchpjpmoaa Ax
variable [Args]


theorem w64_id {x : Int} (h1 : -9223372036854775808 ≤ x) (h2 : x < 9223372036854775808) : w64 x = x := IntWalk.i64_in _ (by omega)
theorem w64_sm {x : Int} (h1 : -1000000000000 ≤ x) (h2 : x ≤ 1000000000000) : w64 x = x := w64_id (by omega) (by omega)
theorem w64_inc {i : Nat} (h : i ≤ 1000000000) : w64 ((i : Int) + 1) = ((i + 1 : Nat) : Int) := by rw [w64_sm (by omega) (by omega)]; rfl
/-! loops -/
theorem whileI {st ρ : Type} {B : st → Option (st ⊕ ρ)} (I : st → Prop) (μ : st → Nat) (Q : ρ → Prop) (h : ∀ s, I s → (∃ s', I s' ∧ μ s' < μ s ∧ B s = some (.inl s')) ∨ ∃ r, Q r ∧ B s = some (.inr r)) : ∀ (n : Nat) (s : st), I s → μ s < n → ∃ r, Q r ∧ iterM B n s = some r
  | 0, s, _, hm => absurd hm (Nat.not_lt_zero _)
  | n + 1, s, hi, hm => by
    rcases h s hi with ⟨s', h1, h2, h3⟩ | ⟨r, h1, h2⟩
    · obtain ⟨r, q1, q2⟩ := whileI I μ Q h n s' h1 (by omega)
      exact ⟨r, q1, by rw [iterM_succ, h3]; exact q2⟩
    · exact ⟨r, h1, by rw [iterM_succ, h2]; rfl⟩
theorem hoare {σ st ρ : Type} {B : st → Option (st ⊕ ρ)} (S : σ → Int → st) (I : Nat → σ → Prop) (Q : ρ → Prop) (len : Nat)
    (h1 : ∀ (i : Nat) (s : σ), i < len → I i s → (∃ s', I (i + 1) s' ∧ B (S s (i : Int)) = some (.inl (S s' ((i + 1 : Nat) : Int)))) ∨ ∃ r, Q r ∧ B (S s (i : Int)) = some (.inr r))
    (h2 : ∀ s, I len s → ∃ r, Q r ∧ B (S s (len : Int)) = some (.inr r)) : ∀ (n i : Nat) (s : σ), i ≤ len → I i s → len - i < n → ∃ r, Q r ∧ iterM B n (S s (i : Int)) = some r
  | 0, i, s, _, _, hm => absurd hm (Nat.not_lt_zero _)
  | n + 1, i, s, hl, hi, hm => by
    have main : (∃ s', i < len ∧ I (i + 1) s' ∧ B (S s (i : Int)) = some (.inl (S s' ((i + 1 : Nat) : Int)))) ∨ ∃ r, Q r ∧ B (S s (i : Int)) = some (.inr r) := by
      by_cases hlt : i < len
      · rcases h1 i s hlt hi with ⟨s', a, b⟩ | h
        · exact .inl ⟨s', hlt, a, b⟩
        · exact .inr h
      · obtain rfl : i = len := by omega
        exact .inr (h2 s hi)
    rcases main with ⟨s', g0, g1, g3⟩ | ⟨r, g1, g2⟩
    · obtain ⟨r, q1, q2⟩ := hoare S I Q len h1 h2 n (i + 1) s' (by omega) g1 (by omega)
      exact ⟨r, q1, by rw [iterM_succ, g3]; exact q2⟩
    · exact ⟨r, g1, by rw [iterM_succ, g2]; rfl⟩
/-- a search: the first place that is not so ends it -/
theorem scan {β γ : Type} {B : Int → Option (Int ⊕ (β ⊕ γ))} (len : Nat) (p : Nat → Bool) (a : β) (c : γ)
    (h1 : ∀ i : Nat, i < len → B (i : Int) = some (if p i = true then .inl ((i + 1 : Nat) : Int) else .inr (.inl a))) (h2 : B (len : Int) = some (.inr (.inr c))) (n : Nat) (hn : len < n) :
    iterM B n 0 = some (if (List.range len).all p = true then .inr c else .inl a) := by
  obtain ⟨r, q1, q2⟩ := hoare (B := B) (σ := Unit) (fun _ i => i) (fun i _ => ∀ j, j < i → p j = true) (fun r => r = if (List.range len).all p = true then .inr c else .inl a) len
    (fun i s hi hI => by
      by_cases hp : p i = true
      · refine .inl ⟨(), fun j hj => ?_, by rw [h1 i hi, if_pos hp]⟩
        rcases Nat.lt_or_ge j i with h | h
        · exact hI j h
        · obtain rfl : j = i := by omega
          exact hp
      · refine .inr ⟨.inl a, ?_, by rw [h1 i hi, if_neg hp]⟩
        rw [if_neg]
        intro hall
        exact hp (List.all_eq_true.1 hall i (List.mem_range.2 hi)))
    (fun s hI => ⟨.inr c, by rw [if_pos (List.all_eq_true.2 fun j hj => hI j (List.mem_range.1 hj))], h2⟩) n 0 () (Nat.zero_le _) (fun j hj => absurd hj (Nat.not_lt_zero _)) (by omega)
  rw [show (0 : Int) = ((0 : Nat) : Int) from rfl, q2, q1]
theorem all_range {α : Type} {l : List α} {d : α} {p : α → Bool} : (List.range l.length).all (fun i => p (l.getD i d)) = l.all p := by
  rw [Bool.eq_iff_iff, List.all_eq_true, List.all_eq_true]
  constructor
  · intro h x hx
    obtain ⟨i, hi, rfl⟩ := List.mem_iff_getElem.1 hx
    have := h i (List.mem_range.2 hi)
    simpa [List.getD_eq_getElem?_getD, hi] using this
  · intro h i hi
    have hi := List.mem_range.1 hi
    have := h l[i] (List.getElem_mem hi)
    simpa [List.getD_eq_getElem?_getD, hi] using this
theorem getD_mem {α : Type} {l : List α} {i : Nat} {d : α} (h : i < l.length) : l.getD i d ∈ l := by
  rw [List.getD_eq_getElem?_getD, List.getElem?_eq_getElem h]; exact List.getElem_mem h
theorem mem_getD {α : Type} {l : List α} {x : α} (d : α) (h : x ∈ l) : ∃ i, i < l.length ∧ l.getD i d = x := by
  obtain ⟨i, hi, rfl⟩ := List.mem_iff_getElem.1 h
  exact ⟨i, hi, by simp [List.getD_eq_getElem?_getD, hi]⟩
theorem getD_set {α : Type} {l : List α} {i j : Nat} {x d : α} (h : i < l.length) : (l.set i x).getD j d = if j = i then x else l.getD j d := by
  simp only [List.getD_eq_getElem?_getD, List.getElem?_set]
  by_cases hj : i = j
  · subst hj; simp [h]
  · rw [if_neg hj, if_neg (Ne.symm hj)]
theorem count_set_lt {L : List Bool} {i : Nat} (h : i < L.length) (hf : ¬ L.getD i false = true) : (L.set i true).count false < L.count false := by
  have h0 : L[i] = false := by simpa [List.getD_eq_getElem?_getD, h] using hf
  have hc := List.count_set (l := L) (a := true) (b := false) (i := i) h
  have hp : 0 < L.count false := List.count_pos_iff.2 (h0 ▸ List.getElem_mem h)
  rw [h0] at hc
  simp at hc
  omega


/-! rows: all of it can be run, but for how many are looked at -/
theorem pick_ok {n k : Nat} {x : Int} (h0 : 1 ≤ k) (hk : k ≤ 1000) : ∃ e : Nat, m_viewportkitPickq1 n x (k : Int) = some (e : Int) ∧ e < k := by
  have hlt := Int.tmod_lt_of_pos x (show (0 : Int) < (k : Int) by omega)
  have hgt : -(k : Int) < Int.tmod x k := by
    rw [← Int.neg_neg (Int.tmod x k), ← Int.neg_tmod]
    have := Int.tmod_lt_of_pos (-x) (show (0 : Int) < (k : Int) by omega)
    omega
  unfold m_viewportkitPickq1
  rw [if_neg (by omega), if_pos (by omega)]
  by_cases h : Int.tmod x k < 0
  · rw [if_pos h, w64_sm (by omega) (by omega)]
    refine ⟨(Int.tmod x k + k).toNat, ?_, by omega⟩
    rw [Int.toNat_of_nonneg (by omega)]
  · rw [if_neg h]
    refine ⟨(Int.tmod x k).toNat, ?_, by omega⟩
    rw [Int.toNat_of_nonneg (by omega)]
/-- the law's way behind its arguments' bounds, whatever Pick gives -/
def GR (P : Int → Option Int) (n : Nat) (terms k : Int) : Option (Unit ⊕ Unit) :=
  (m_viewportlaw12rowsq1 n terms k).bind fun t => match t with
  | (c6_0, c6_1) =>
    match c6_0 with
    | [] =>
      none
    | c6_0a :: c6_0t =>
      (m_viewportlaw12FirstRows_1 n terms k 0 (c6_0a :: c6_0t) c6_1 (0, 1, 0)).bind fun t => match t with
      | (c7_0, c7_1) =>
        if c6_1 = true then
          if ((((c6_0a :: c6_0t)).length : Nat) : Int) = (w64 (c7_0 + c7_1)) then
            (m_viewportlaw12FirstRows_2 n terms k 0 (c6_0a :: c6_0t) 0).bind fun _ =>
            (P ((((c6_0a :: c6_0t)).length : Nat) : Int)).bind fun c11_ =>
            (m_firstRowsq1 n terms k).bind fun _ =>
            match m_firstRows1q2 n c11_ false (c6_0a :: c6_0t) (Nat.add 1180591620717411303424 1) 0 terms k with
            | none => none
            | some (.inl _) =>
              if 0 = c11_ then
                some (.inr ())
              else
                none
            | some (.inr (.inl c13_)) =>
              if c13_ = c11_ then
                some (.inr ())
              else
                none
            | some (.inr (.inr c13_)) =>
              if c13_ = c11_ then
                some (.inr ())
              else
                none
          else
            none
        else
          none
theorem law_GR {n : Nat} {terms k early : Int} (h1 : ¬ terms < 0) (h2 : ¬ terms > 4) (h3 : ¬ k < 1) (h4 : ¬ k > 3) : m_viewportlaw12FirstRows n terms k early = GR (fun m => m_viewportkitPickq1 n early m) n terms k := by
  unfold m_viewportlaw12FirstRows m_viewportlaw12lives
  simp only [Option.bind_some]
  rw [if_neg h1, if_neg h2, if_neg h3, if_neg h4]
  rfl
theorem GR_congr {P P' : Int → Option Int} {n : Nat} {t k : Int} {L : List ByteArray} {b : Bool} (hr : m_viewportlaw12rowsq1 n t k = some (L, b)) (h : P ((L.length : Nat) : Int) = P' ((L.length : Nat) : Int)) : GR P n t k = GR P' n t k := by
  unfold GR
  rw [hr]
  simp only [Option.bind_some]
  cases L with
  | nil => rfl
  | cons a l =>
    dsimp only
    rw [h]
def lenB (t k : Int) (N : Nat) : Bool := match m_viewportlaw12rowsq1 1000 t k with
  | some (l, _) => Nat.beq l.length N
  | none => false
def okc (t k : Int) (c : Nat) : Bool := match GR (fun _ => some (c : Int)) 1000 t k with
  | some _ => true
  | none => false
theorem fin {t k : Int} {N : Nat} (h1 : lenB t k N = true) (h2 : (List.range N).all (okc t k) = true) (h0 : 1 ≤ N) (hN : N ≤ 1000) (e : Int) : ∃ r, GR (fun m => m_viewportkitPickq1 1000 e m) 1000 t k = some r := by
  unfold lenB at h1
  split at h1
  · rename_i L b hr
    obtain rfl : L.length = N := Nat.eq_of_beq_eq_true h1
    obtain ⟨c, hc, hlt⟩ := pick_ok (n := 1000) (x := e) h0 hN
    rw [GR_congr (P' := fun _ => some (c : Int)) hr hc]
    have := List.all_eq_true.1 h2 c (List.mem_range.2 hlt)
    unfold okc at this
    split at this
    · rename_i r hr
      exact ⟨r, hr⟩
    · cases this
  · cases h1
set_option maxRecDepth 100000 in
theorem len_0_1 : lenB 0 1 1 = true := by kernel_rfl
set_option maxRecDepth 100000 in
theorem chk_0_1 : (List.range 1).all (okc 0 1) = true := by kernel_rfl
set_option maxRecDepth 100000 in
theorem len_0_2 : lenB 0 2 1 = true := by kernel_rfl
set_option maxRecDepth 100000 in
theorem chk_0_2 : (List.range 1).all (okc 0 2) = true := by kernel_rfl
set_option maxRecDepth 100000 in
theorem len_0_3 : lenB 0 3 1 = true := by kernel_rfl
set_option maxRecDepth 100000 in
theorem chk_0_3 : (List.range 1).all (okc 0 3) = true := by kernel_rfl
set_option maxRecDepth 100000 in
theorem len_1_1 : lenB 1 1 2 = true := by kernel_rfl
set_option maxRecDepth 100000 in
theorem chk_1_1 : (List.range 2).all (okc 1 1) = true := by kernel_rfl
set_option maxRecDepth 100000 in
theorem len_1_2 : lenB 1 2 3 = true := by kernel_rfl
set_option maxRecDepth 100000 in
theorem chk_1_2 : (List.range 3).all (okc 1 2) = true := by kernel_rfl
set_option maxRecDepth 100000 in
theorem len_1_3 : lenB 1 3 4 = true := by kernel_rfl
set_option maxRecDepth 100000 in
theorem chk_1_3 : (List.range 4).all (okc 1 3) = true := by kernel_rfl
set_option maxRecDepth 100000 in
theorem len_2_1 : lenB 2 1 3 = true := by kernel_rfl
set_option maxRecDepth 100000 in
theorem chk_2_1 : (List.range 3).all (okc 2 1) = true := by kernel_rfl
set_option maxRecDepth 100000 in
theorem len_2_2 : lenB 2 2 7 = true := by kernel_rfl
set_option maxRecDepth 100000 in
theorem chk_2_2 : (List.range 7).all (okc 2 2) = true := by kernel_rfl
set_option maxRecDepth 100000 in
theorem len_2_3 : lenB 2 3 15 = true := by kernel_rfl
set_option maxRecDepth 100000 in
theorem chk_2_3 : (List.range 15).all (okc 2 3) = true := by kernel_rfl
set_option maxRecDepth 100000 in
theorem len_3_1 : lenB 3 1 4 = true := by kernel_rfl
set_option maxRecDepth 100000 in
theorem chk_3_1 : (List.range 4).all (okc 3 1) = true := by kernel_rfl
set_option maxRecDepth 100000 in
theorem len_3_2 : lenB 3 2 13 = true := by kernel_rfl
set_option maxRecDepth 100000 in
theorem chk_3_2 : (List.range 13).all (okc 3 2) = true := by kernel_rfl
set_option maxRecDepth 100000 in
theorem len_3_3 : lenB 3 3 40 = true := by kernel_rfl
set_option maxRecDepth 100000 in
theorem chk_3_3 : (List.range 40).all (okc 3 3) = true := by kernel_rfl
set_option maxRecDepth 100000 in
theorem len_4_1 : lenB 4 1 5 = true := by kernel_rfl
set_option maxRecDepth 100000 in
theorem chk_4_1 : (List.range 5).all (okc 4 1) = true := by kernel_rfl
set_option maxRecDepth 100000 in
theorem len_4_2 : lenB 4 2 21 = true := by kernel_rfl
set_option maxRecDepth 100000 in
theorem chk_4_2 : (List.range 21).all (okc 4 2) = true := by kernel_rfl
set_option maxRecDepth 100000 in
theorem len_4_3 : lenB 4 3 85 = true := by kernel_rfl
set_option maxRecDepth 100000 in
theorem chk_4_3 : (List.range 85).all (okc 4 3) = true := by kernel_rfl
theorem firstRows_true (terms k early : Int) : ∃ n r, m_viewportlaw12FirstRows n terms k early = some r := by
  refine ⟨1000, ?_⟩
  by_cases h1 : terms < 0
  · unfold m_viewportlaw12FirstRows m_viewportlaw12lives
    simp only [Option.bind_some]
    rw [if_pos h1]; exact ⟨_, rfl⟩
  by_cases h2 : terms > 4
  · unfold m_viewportlaw12FirstRows m_viewportlaw12lives
    simp only [Option.bind_some]
    rw [if_neg h1, if_pos h2]; exact ⟨_, rfl⟩
  by_cases h3 : k < 1
  · unfold m_viewportlaw12FirstRows m_viewportlaw12lives
    simp only [Option.bind_some]
    rw [if_neg h1, if_neg h2, if_pos h3]; exact ⟨_, rfl⟩
  by_cases h4 : k > 3
  · unfold m_viewportlaw12FirstRows m_viewportlaw12lives
    simp only [Option.bind_some]
    rw [if_neg h1, if_neg h2, if_neg h3, if_pos h4]; exact ⟨_, rfl⟩
  rw [law_GR h1 h2 h3 h4]
  have ht : terms = 0 ∨ terms = 1 ∨ terms = 2 ∨ terms = 3 ∨ terms = 4 := by omega
  have hk : k = 1 ∨ k = 2 ∨ k = 3 := by omega
  rcases ht with rfl | rfl | rfl | rfl | rfl <;> rcases hk with rfl | rfl | rfl
  · exact fin len_0_1 chk_0_1 (by decide) (by decide) early
  · exact fin len_0_2 chk_0_2 (by decide) (by decide) early
  · exact fin len_0_3 chk_0_3 (by decide) (by decide) early
  · exact fin len_1_1 chk_1_1 (by decide) (by decide) early
  · exact fin len_1_2 chk_1_2 (by decide) (by decide) early
  · exact fin len_1_3 chk_1_3 (by decide) (by decide) early
  · exact fin len_2_1 chk_2_1 (by decide) (by decide) early
  · exact fin len_2_2 chk_2_2 (by decide) (by decide) early
  · exact fin len_2_3 chk_2_3 (by decide) (by decide) early
  · exact fin len_3_1 chk_3_1 (by decide) (by decide) early
  · exact fin len_3_2 chk_3_2 (by decide) (by decide) early
  · exact fin len_3_3 chk_3_3 (by decide) (by decide) early
  · exact fin len_4_1 chk_4_1 (by decide) (by decide) early
  · exact fin len_4_2 chk_4_2 (by decide) (by decide) early
  · exact fin len_4_3 chk_4_3 (by decide) (by decide) early

end Go.Proofs.Ytgcbagchpjpmoaa.firw
