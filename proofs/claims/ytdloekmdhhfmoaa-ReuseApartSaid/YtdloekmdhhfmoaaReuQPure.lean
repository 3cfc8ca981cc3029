/-
  The pure side. No condition.
-/
import Derived.Test.YtdloekmdhhfmoaaReuPure
import Derived.IntWalk
set_option linter.unusedSimpArgs false
set_option linter.unusedVariables false
set_option linter.unusedSectionVars false
set_option linter.unnecessarySimpa false
namespace Go.Proofs.Ytdloekmdhhfmoaa.reuw
open Go Go.Proofs.Ytdloekmdhhfmoaa Ax
variable [Args]


/-! the maximal parts that can be taken -/
def can (i : Nat) : Prop := (pt i).2.1 = 2 ∧ stL.getD i false = false
/-- the parts of M, one behind the other, lie from 'p' on; all ahead of 'i' that can be taken lie in one of them -/
inductive Mx : Nat → List Nat → Nat → Prop
  | nil {p i : Nat} (h : p ≤ i) (hn : ∀ j, p ≤ j → j < i → ¬ can j) : Mx p [] i
  | cons {p m e i : Nat} {M : List Nat} (h : p ≤ m) (hm : m < Args.A.length) (hn : ∀ j, p ≤ j → j < m → ¬ can j) (hc : can m) (he : Ks m 0 (m + 1) (atF m) e) (hN : e ≤ Args.A.length) (ht : Mx e M i) : Mx p (m :: M) i
theorem Mx.le {p i : Nat} {M : List Nat} (h : Mx p M i) : p ≤ i := by
  induction h with
  | nil h _ => exact h
  | cons h _ _ _ he _ _ ih => have := he.lt; omega
theorem Mx.snoc {p i e : Nat} {M : List Nat} (h : Mx p M i) (hi : i < Args.A.length) (hc : can i) (he : Ks i 0 (i + 1) (atF i) e) (hN : e ≤ Args.A.length) : Mx p (M ++ [i]) e := by
  induction h with
  | nil h hn => exact .cons h hi hn hc he hN (.nil (Nat.le_refl _) fun j h1 h2 => by omega)
  | cons h hm hn hc' he' hN' ht ih => exact .cons h hm hn hc' he' hN' (ih hi hc he)
theorem Mx.next {p i : Nat} {M : List Nat} (h : Mx p M i) (hc : ¬ can i) : Mx p M (i + 1) := by
  induction h with
  | @nil p i h hn =>
    refine .nil (by omega) fun j h1 h2 => ?_
    by_cases e : j = i
    · subst e; exact hc
    · exact hn j h1 (by omega)
  | cons h hm hn hc' he' hN' ht ih => exact .cons h hm hn hc' he' hN' (ih hc)
def cI (M : List Nat) : List Int := M.map (fun m : Nat => (m : Int))
def byt (b : Int) (m : Nat) : Int := w64 (w64 (b + toF m) - atF m)
theorem reusable_ok {n i : Nat} (hi : i < Args.A.length) : ∃ b, m_reusereusableq1 n stL Args.A.length Args.A.length (i : Int) = some b ∧ (b = true ↔ can i) := by
  have hl : stL.length = Args.A.length := stN_len _
  unfold m_reusereusableq1 can
  rw [if_pos (by omega)]
  simp only [Option.bind_some, Int.toNat_natCast]
  by_cases c1 : (pt i).2.1 = 2
  · rw [if_pos (show (Args.A.getD i (0, 0, 0, 0, 0, 0, nl0, 0)).2.1 = 2 from c1), if_pos (by omega), if_pos (by omega)]
    by_cases c2 : stL.getD i false = true
    · rw [if_pos c2]; exact ⟨_, rfl, (fun h => by cases h), fun h => by rw [c2] at h; cases h.2⟩
    · rw [if_neg c2]; exact ⟨_, rfl, (fun _ => ⟨c1, Bool.eq_false_iff.2 c2⟩), fun _ => rfl⟩
  · rw [if_neg (show ¬ (Args.A.getD i (0, 0, 0, 0, 0, 0, nl0, 0)).2.1 = 2 from c1)]; exact ⟨_, rfl, (fun h => by cases h), fun h => absurd h.1 c1⟩
theorem cI_cons {M : List Nat} : (cI M = [] ∧ M = []) ∨ ∃ a t, cI M = a :: t := by
  cases M with
  | nil => exact .inl ⟨rfl, rfl⟩
  | cons m M => exact .inr ⟨_, _, rfl⟩
theorem max1 {n : Nat} (hT : Tree) (hL : Args.A.length ≤ 120) (hn : 1000 ≤ n) : ∃ M, m_reusemaximal1q1_1 n stL Args.A.length ([], 0) = some (cI M) ∧ Mx 0 M Args.A.length := by
  obtain ⟨r, ⟨M, rfl, hM⟩, h⟩ := whileI (B := B_reusemaximal1q1_1 n stL Args.A.length) (fun s => ∃ (M : List Nat) (i : Nat), s = (cI M, (i : Int)) ∧ Mx 0 M i ∧ i ≤ Args.A.length ∧ M.length ≤ i) (fun s => Args.A.length - s.2.toNat) (fun r => ∃ M, r = cI M ∧ Mx 0 M Args.A.length)
    (fun s hI => by
      obtain ⟨M, i, rfl, hM, hi, hml⟩ := hI
      rcases Nat.lt_or_ge i Args.A.length with hlt | hge
      · obtain ⟨b, hb, hbc⟩ := reusable_ok (n := n) hlt
        obtain ⟨e, he, h1, h2⟩ := hT.end hlt
        have hend := prgEnd (n := n) (by omega) (by omega) he hlt h2
        have e2 : cI M ++ [(i : Int)] = cI (M ++ [i]) := by unfold cI; rw [List.map_append]; rfl
        cases b with
        | true =>
          have hc := hbc.1 rfl
          refine .inl ⟨(cI (M ++ [i]), (e : Int)), ⟨M ++ [i], e, rfl, hM.snoc hlt hc he h2, h2, by rw [List.length_append]; have : [i].length = 1 := rfl; omega⟩, by dsimp only; omega, ?_⟩
          have hlen : (cI M).length = M.length := by unfold cI; rw [List.length_map]
          rw [← e2]
          cases hcm : cI M with
          | nil =>
            unfold B_reusemaximal1q1_1
            dsimp only
            rw [if_pos (by omega), hb]
            simp only [Option.bind_some]
            rw [if_pos trivial]
            unfold m_slicesAppendSeqintint_1010y1
            simp only [Option.bind_some]
            rw [hend]
            rfl
          | cons a t =>
            rw [hcm] at hlen
            unfold B_reusemaximal1q1_1
            dsimp only
            rw [if_pos (by omega), hb]
            simp only [Option.bind_some]
            rw [if_pos trivial]
            unfold m_slicesAppendSeqintint_1010y2
            rw [if_pos (by omega)]
            simp only [Option.bind_some]
            rw [hend]
            rfl
        | false =>
          have hc : ¬ can i := fun h => by have := hbc.2 h; cases this
          refine .inl ⟨(cI M, ((i + 1 : Nat) : Int)), ⟨M, i + 1, rfl, hM.next hc, by omega, by omega⟩, by dsimp only; omega, ?_⟩
          rcases cI_cons (M := M) with ⟨e1, -⟩ | ⟨a, t, e1⟩
          all_goals
            rw [e1]
            unfold B_reusemaximal1q1_1
            dsimp only
            rw [if_pos (by omega), hb]
            simp only [Option.bind_some]
            rw [if_neg (by decide), w64_inc (by omega)]
      · obtain rfl : i = Args.A.length := by omega
        refine .inr ⟨cI M, ⟨M, rfl, hM⟩, ?_⟩
        rcases cI_cons (M := M) with ⟨e1, -⟩ | ⟨a, t, e1⟩
        all_goals
          rw [e1]
          unfold B_reusemaximal1q1_1
          dsimp only
          rw [if_neg (by omega)])
    n ([], 0) ⟨[], 0, rfl, .nil (Nat.le_refl _) fun j h1 h2 => by omega, Nat.zero_le _, Nat.le_refl _⟩ (by dsimp only; omega)
  exact ⟨M, h, hM⟩
/-- the bytes of them -/
theorem skip2 {n : Nat} (hL : Args.A.length ≤ 120) {b : Int} : ∀ d p f, (∀ j, p ≤ j → j < p + d → ¬ can j) → p + d ≤ Args.A.length → iterM (B_reusemaximal1q2_1 n stL Args.A.length) (f + d) (b, (p : Int)) = iterM (B_reusemaximal1q2_1 n stL Args.A.length) f (b, ((p + d : Nat) : Int))
  | 0, p, f, _, _ => rfl
  | d + 1, p, f, h, hp => by
    obtain ⟨c, hb, hbc⟩ := reusable_ok (n := n) (i := p) (by omega)
    have hc : c = false := by
      cases c with
      | false => rfl
      | true => exact absurd (hbc.1 rfl) (h p (Nat.le_refl _) (by omega))
    subst hc
    rw [← Nat.add_assoc, iterM_succ]
    have hB : B_reusemaximal1q2_1 n stL Args.A.length (b, (p : Int)) = some (.inl (b, ((p + 1 : Nat) : Int))) := by
      unfold B_reusemaximal1q2_1
      dsimp only
      rw [if_pos (by omega), hb]
      simp only [Option.bind_some]
      rw [if_neg (by decide), w64_inc (by omega)]
    rw [hB]
    have := skip2 (n := n) hL (b := b) d (p + 1) f (fun j h1 h2 => h j (by omega) (by omega)) (by omega)
    rw [show p + 1 + d = p + (d + 1) by omega] at this
    exact this
theorem Mx.bytes {n p i : Nat} {M : List Nat} (hT : Tree) (hL : Args.A.length ≤ 120) (hn : 1000 ≤ n) (h : Mx p M i) : i = Args.A.length → ∀ (b : Int) (f : Nat), Args.A.length - p < f → iterM (B_reusemaximal1q2_1 n stL Args.A.length) f (b, (p : Int)) = some (M.foldl byt b) := by
  induction h with
  | @nil p i h hnc =>
    intro hi b f hf
    subst hi
    obtain ⟨g, rfl⟩ : ∃ g, f = g + 1 + (Args.A.length - p) := ⟨f - (Args.A.length - p) - 1, by omega⟩
    rw [skip2 hL _ _ _ (fun j h1 h2 => hnc j h1 (by omega)) (by omega), show p + (Args.A.length - p) = Args.A.length by omega, iterM_succ]
    unfold B_reusemaximal1q2_1
    dsimp only
    rw [if_neg (by omega)]
    rfl
  | @cons p m e i M h hm hnc hc he hN ht ih =>
    intro hi b f hf
    subst hi
    have l1 := he.lt
    obtain ⟨g, rfl⟩ : ∃ g, f = g + 1 + (m - p) := ⟨f - (m - p) - 1, by omega⟩
    rw [skip2 hL _ _ _ (fun j h1 h2 => hnc j h1 (by omega)) (by omega), show p + (m - p) = m by omega, iterM_succ]
    obtain ⟨c, hb, hbc⟩ := reusable_ok (n := n) hm
    obtain rfl := hbc.2 hc
    have hend := prgEnd (n := n) (by omega) (by omega) he hm hN
    have hB : B_reusemaximal1q2_1 n stL Args.A.length (b, (m : Int)) = some (.inl (byt b m, (e : Int))) := by
      unfold B_reusemaximal1q2_1
      dsimp only
      rw [if_pos (by omega), hb]
      simp only [Option.bind_some]
      rw [if_pos trivial]
      unfold m_foldOverintint_1010y1 m_reuseBytes1q1
      rw [if_pos (by omega)]
      simp only [Option.bind_some, Int.toNat_natCast]
      rw [hend]
      rfl
    rw [hB]
    exact ih rfl (byt b m) g (by omega)
theorem Mx.inn {p i : Nat} {M : List Nat} (h : Mx p M i) : ∀ j, p ≤ j → j < i → can j → ∃ m ∈ M, ∃ e, Ks m 0 (m + 1) (atF m) e ∧ m ≤ j ∧ j < e := by
  induction h with
  | nil h hnc => exact fun j h1 h2 hc => absurd hc (hnc j h1 h2)
  | @cons p m e i M h hm hnc hc he hN ht ih =>
    intro j h1 h2 hcj
    rcases Nat.lt_or_ge j m with h3 | h3
    · exact absurd hcj (hnc j h1 h3)
    · rcases Nat.lt_or_ge j e with h4 | h4
      · exact ⟨m, List.mem_cons_self .., e, he, h3, h4⟩
      · obtain ⟨m', g1, g2⟩ := ih j h4 h2 hcj
        exact ⟨m', List.mem_cons_of_mem _ g1, g2⟩
theorem refEnd {n K i e : Nat} (hK : ∀ j, (kd j).length ≤ K) (hn : Args.A.length + K + 20 < n) (hc : m_viewportref16Checkq1 n = some 0) (he : Ks i 0 (i + 1) (atF i) e) (hi : i < Args.A.length) : m_viewportref16Endq1 n (i : Int) = some (e : Int) := by
  unfold m_viewportref16Endq1 m_viewportref16isq1
  rw [hc]
  simp only [Option.bind_some]
  rw [if_pos trivial, if_pos (by omega), if_pos (by omega)]
  simp only [Option.bind_some]
  rw [if_pos trivial, endOf hK he hi (by omega)]
  rfl
/-- the law's loop -/
theorem lawLoop {n K : Nat} {x : Nat} (hK : ∀ j, (kd j).length ≤ K) (hL : Args.A.length ≤ 120) (hn : Args.A.length + K + 20 < n) (hck : m_viewportref16Checkq1 n = some 0) (L : List Nat) (hLl : L.length ≤ 1000000) (hL0 : L ≠ []) {p i : Nat} {M : List Nat} (h : Mx p M i) : i = Args.A.length → ∀ (P : List Nat), L = P ++ M → ∀ (b : Int) (inb : Bool) (f : Nat), M.length < f →
    ∃ q : Bool, iterM (B_viewportlaw21ReuseApart_1 n (x : Int) stL Args.A.length) f (cI L, (p : Int), b, inb, (P.length : Int)) = some (M.foldl byt b, q) ∧ ((inb = true ∨ ∃ m ∈ M, ∃ e, Ks m 0 (m + 1) (atF m) e ∧ m ≤ x ∧ x < e) → q = true) := by
  have hl : stL.length = Args.A.length := stN_len _
  have hlen : (cI L).length = L.length := by unfold cI; rw [List.length_map]
  obtain ⟨la, lt, hla⟩ : ∃ a t, cI L = a :: t := by
    cases L with
    | nil => exact absurd rfl hL0
    | cons m M => exact ⟨_, _, rfl⟩
  induction h with
  | @nil p i h hnc =>
    intro hi P hP b inb f hf
    obtain ⟨g, rfl⟩ : ∃ g, f = g + 1 := ⟨f - 1, by omega⟩
    rw [iterM_succ]
    refine ⟨inb, ?_, fun h => by
      rcases h with h | ⟨m, hm, _⟩
      · exact h
      · cases hm⟩
    have : P.length = L.length := by rw [hP]; simp
    unfold B_viewportlaw21ReuseApart_1
    rw [hla] at hlen ⊢
    dsimp only
    rw [if_neg (by omega)]
    rfl
  | @cons p m e i M h hm hnc hc he hN ht ih =>
    intro hi P hP b inb f hf
    subst hi
    obtain ⟨g, rfl⟩ : ∃ g, f = g + 1 := ⟨f - 1, by omega⟩
    have hPl : P.length < L.length := by rw [hP]; simp
    have hget : (cI L).getD P.length 0 = (m : Int) := by
      rw [hP]; unfold cI
      rw [List.getD_eq_getElem?_getD, List.getElem?_map, List.getElem?_append_right (Nat.le_refl _), Nat.sub_self]; rfl
    have hB : B_viewportlaw21ReuseApart_1 n (x : Int) stL Args.A.length (cI L, (p : Int), b, inb, (P.length : Int)) = some (.inl (cI L, (e : Int), byt b m, (inb || (decide (m ≤ x) && decide (x < e))), ((P.length + 1 : Nat) : Int))) := by
      unfold B_viewportlaw21ReuseApart_1
      rw [hla] at hlen hget ⊢
      dsimp only
      rw [if_pos (by omega), if_pos (by omega)]
      simp only [Int.toNat_natCast, Option.bind_some]
      rw [hget, if_neg (by omega), if_neg (by omega), if_pos (by omega)]
      simp only [Int.toNat_natCast]
      rw [if_pos (by omega)]
      rw [if_neg (show ¬ stL.getD m false = true by rw [hc.2]; decide), if_pos (by omega), if_pos (show (Args.A.getD m (0, 0, 0, 0, 0, 0, nl0, 0)).2.1 = 2 from hc.1), refEnd hK hn hck he hm]
      simp only [Option.bind_some]
      rw [w64_inc (by omega)]
      cases inb with
      | true => rw [if_pos rfl, Bool.true_or]; rfl
      | false =>
        rw [if_neg (by decide), Bool.false_or]
        by_cases c1 : m ≤ x
        · rw [if_pos (by omega)]
          by_cases c2 : x < e
          · rw [if_pos (by omega), show (decide (m ≤ x) && decide (x < e)) = true by simp [c1, c2]]; rfl
          · rw [if_neg (by omega), show (decide (m ≤ x) && decide (x < e)) = false by simp [c2]]; rfl
        · rw [if_neg (by omega), show (decide (m ≤ x) && decide (x < e)) = false by simp [c1]]; rfl
    rw [iterM_succ, hB]
    obtain ⟨q, h1, h2⟩ := ih rfl (P ++ [m]) (by rw [hP]; simp) (byt b m) (inb || (decide (m ≤ x) && decide (x < e))) g (by simp at hf; omega)
    rw [List.length_append] at h1
    refine ⟨q, h1, fun hh => h2 ?_⟩
    rcases hh with hh | ⟨m', hm', e', g1, g2, g3⟩
    · exact .inl (by rw [hh]; rfl)
    · rcases List.mem_cons.1 hm' with rfl | hm'
      · have : e' = e := by
          have a1 := endOf (n := Args.A.length + K + 20) hK g1 hm (by omega)
          have a2 := endOf (n := Args.A.length + K + 20) hK he hm (by omega)
          rw [a1] at a2
          have := Option.some.inj a2
          omega
        subst this
        exact .inl (by simp [g2, g3])
      · exact .inr ⟨m', hm', e', g1, g2, g3⟩
theorem pickN {n : Nat} {g : Int} (h0 : 0 < Args.A.length) (hL : Args.A.length ≤ 120) : ∃ p : Nat, m_viewportkitPickq1 n g (((Args.A.length : Nat) : Int)) = some (p : Int) ∧ p < Args.A.length := by
  unfold m_viewportkitPickq1
  rw [if_neg (by omega), if_pos (by omega)]
  have h1 : (-((Args.A.length : Nat) : Int)) < Int.tmod g ((Args.A.length : Nat) : Int) := Int.lt_tmod_of_pos g (by omega)
  have h2 : Int.tmod g ((Args.A.length : Nat) : Int) < ((Args.A.length : Nat) : Int) := Int.tmod_lt_of_pos g (by omega)
  generalize Int.tmod g ((Args.A.length : Nat) : Int) = x at *
  by_cases c : x < 0
  · rw [if_pos c, w64_sm (by omega) (by omega)]
    exact ⟨(x + ((Args.A.length : Nat) : Int)).toNat, by rw [Int.toNat_of_nonneg (by omega)], by omega⟩
  · rw [if_neg c]
    exact ⟨x.toNat, by rw [Int.toNat_of_nonneg (by omega)], by omega⟩


/-! ReuseApart -/
theorem lightP_ok {n : Nat} (hL : Args.A.length ≤ 1200000 ∨ True) (hn : 200 < n) : ∃ b, m_viewportkitLightPartsq1 n 120 = some b ∧ (b = true → Args.A.length ≤ 120) := by
  obtain ⟨r, -, h⟩ := whileI (B := B_viewportkitLightPartsq1_1 n 120) (fun s => ∃ i : Nat, s.2 = i ∧ i ≤ 121) (fun s => 121 - s.2.toNat) (fun r => True)
    (fun s hI => by
      obtain ⟨x, q⟩ := s
      obtain ⟨i, rfl, hi⟩ := hI
      unfold B_viewportkitLightPartsq1_1
      dsimp only
      by_cases c1 : (i : Int) < ((Args.A.length : Nat) : Int)
      · rw [if_pos c1]
        by_cases c2 : (i : Int) ≤ 120
        · rw [if_pos c2, if_pos (by omega), w64_inc (by omega)]
          simp only [Option.bind_some]
          generalize Args.A.getD ((i : Int)).toNat (0, 0, 0, 0, 0, 0, nl0, 0) = p
          by_cases d1 : p.2.2.1 > 1048576
          · rw [if_pos d1]; exact .inr ⟨_, trivial, rfl⟩
          rw [if_neg d1]
          by_cases d2 : p.2.2.2.2.1 > 1048576
          · rw [if_pos d2]; exact .inr ⟨_, trivial, rfl⟩
          rw [if_neg d2]
          by_cases d3 : p.2.2.2.2.2.1 > 1048576
          · rw [if_pos d3]; exact .inr ⟨_, trivial, rfl⟩
          rw [if_neg d3]
          by_cases d4 : p.2.2.1 < -1048576
          · rw [if_pos d4]; exact .inr ⟨_, trivial, rfl⟩
          rw [if_neg d4]
          by_cases d5 : p.2.2.2.2.1 < -1048576
          · rw [if_pos d5]; exact .inr ⟨_, trivial, rfl⟩
          rw [if_neg d5]
          by_cases d6 : p.2.2.2.2.2.1 < -1048576
          · rw [if_pos d6]; exact .inr ⟨_, trivial, rfl⟩
          rw [if_neg d6]
          exact .inl ⟨(_, ((i + 1 : Nat) : Int)), ⟨i + 1, rfl, by omega⟩, by dsimp only; omega, rfl⟩
        · rw [if_neg c2]; exact .inr ⟨_, trivial, rfl⟩
      · rw [if_neg c1]; exact .inr ⟨_, trivial, rfl⟩) n (0, 0) ⟨0, rfl, by omega⟩ (by dsimp only; omega)
  unfold m_viewportkitLightPartsq1 m_viewportkitLightPartsq1_1
  rw [h]
  rcases r with r | r
  · exact ⟨_, rfl, fun h => by cases h⟩
  · dsimp only
    by_cases c1 : ((Args.A.length : Nat) : Int) ≤ 120
    · rw [if_pos c1]
      split
      · exact ⟨_, rfl, fun _ => by omega⟩
      · exact ⟨_, rfl, fun h => by cases h⟩
    · rw [if_neg c1]; exact ⟨_, rfl, fun h => by cases h⟩

theorem loop0 {n : Nat} {x : Int} {S : List Bool} {L : Nat} (hn : 1 < n) : m_viewportlaw21ReuseApart_1 n x S L ([], 0, 0, false, 0) = some (0, false) := by
  obtain ⟨g, rfl⟩ : ∃ g, n = g + 1 := ⟨n - 1, by omega⟩
  unfold m_viewportlaw21ReuseApart_1
  rw [iterM_succ]
  rfl
theorem all_ok {n K : Nat} (hT : Tree) (hK : ∀ j, (kd j).length ≤ K) (hL : Args.A.length ≤ 120) (hn : Args.A.length + K + 1000 < n) : ∃ M, m_reuseAllq1 n = some (cI M) ∧ Mx 0 M Args.A.length := by
  obtain ⟨M, h1, h2⟩ := max1 (n := n) hT hL (by omega)
  refine ⟨M, ?_, h2⟩
  unfold m_reuseAllq1 m_reusemaximalq1 m_slicesCollectintq1 m_slicesAppendSeqintintq1 m_reusemaximal1q1
  rw [prgStale hT hK (by omega)]
  simp only [Option.bind_some]
  rw [h1]
  simp only [Option.bind_some]
  cases M with
  | nil => rfl
  | cons m M => rfl
theorem bytes_ok {n K : Nat} {M : List Nat} (hT : Tree) (hK : ∀ j, (kd j).length ≤ K) (hL : Args.A.length ≤ 120) (hn : Args.A.length + K + 1000 < n) (h : Mx 0 M Args.A.length) : m_reuseBytesq1 n = some (M.foldl byt 0) := by
  unfold m_reuseBytesq1 m_reusemaximalq1 m_foldOverintintq1 m_reusemaximal1q2
  rw [prgStale hT hK (by omega)]
  simp only [Option.bind_some]
  have := h.bytes hT hL (n := n) (by omega) rfl 0 n (by omega)
  have this : m_reusemaximal1q2_1 n stL Args.A.length (0, 0) = some (M.foldl byt 0) := this
  rw [this]
  rfl
theorem Mx.len {p i : Nat} {M : List Nat} (h : Mx p M i) : i = Args.A.length → p + M.length ≤ i := by
  induction h with
  | nil h _ => intro _; simp; exact h
  | cons h hm _ _ he _ _ ih => intro e; have := ih e; have := he.lt; simp; omega
theorem reuseApart_true (g1 : Int) : ∃ n, m_viewportlaw21ReuseApart n g1 = some () := by
  obtain ⟨K, hK⟩ := bound_kd
  refine ⟨3000 + Args.A.length + K, ?_⟩
  generalize hn : 3000 + Args.A.length + K = n
  unfold m_viewportlaw21ReuseApart m_viewportlaw21lives
  simp only [Option.bind_some]
  obtain ⟨b, e1, h1⟩ := lightP_ok (n := n) (.inr trivial) (by omega)
  rw [e1]
  simp only [Option.bind_some]
  cases b with
  | false => rw [if_neg (by decide)]
  | true =>
    have hL := h1 rfl
    rw [if_pos rfl]
    obtain ⟨c, e2, h2⟩ := refCheck_ok (n := n) hK (by omega) (by omega)
    rw [e2]
    simp only [Option.bind_some]
    by_cases c0 : ¬ c = 0
    · rw [if_neg c0]
    obtain rfl := Decidable.not_not.1 c0
    have hT := h2 rfl
    have hpos := hT.pos
    obtain ⟨x, hx, hxl⟩ := pickN (n := n) (g := g1) hpos hL
    obtain ⟨M, hM, hMx⟩ := all_ok (n := n) hT hK hL (by omega)
    have hB := bytes_ok (n := n) hT hK hL (by omega) hMx
    have hml := hMx.len rfl
    have hl : stL.length = Args.A.length := stN_len _
    rw [if_pos rfl, hx]
    simp only [Option.bind_some]
    rw [hM]
    simp only [Option.bind_some]
    -- what is left is the same either way
    have fin : ∀ q : Bool, (can x → q = true) → (if 0 ≤ (x : Int) ∧ (x : Int) < (((Args.A).length : Nat) : Int) then
              ((some ((Args.A).getD ((x : Int)).toNat (0, 0, 0, 0, 0, 0, nl0, 0)))).bind fun c11_ =>
              if (c11_.2.1) = (2 : Int) then
                if 0 ≤ (x : Int) ∧ (x : Int) < ((Args.A.length : Nat) : Int) then
                  if ((x : Int)).toNat < (stL).length then
                    ((some ((stL).getD ((x : Int)).toNat (false)))).bind fun c15_ =>
                    if c15_ = true then
                      (m_reuseBytesq1 n).bind fun c17_ =>
                      if c17_ = M.foldl byt 0 then
                        some ()
                      else
                        none
                    else
                      if q = true then
                        (m_reuseBytesq1 n).bind fun c18_ =>
                        if c18_ = M.foldl byt 0 then
                          some ()
                        else
                          none
                      else
                        none
                  else none
                else none
              else
                (m_reuseBytesq1 n).bind fun c13_ =>
                if c13_ = M.foldl byt 0 then
                  some ()
                else
                  none
            else none) = some () := by
      intro q hq
      rw [if_pos (by omega), hB]
      simp only [Option.bind_some, Int.toNat_natCast]
      by_cases d1 : (pt x).2.1 = 2
      · rw [if_pos (show (Args.A.getD x (0, 0, 0, 0, 0, 0, nl0, 0)).2.1 = 2 from d1), if_pos (by omega), if_pos (by omega)]
        by_cases d2 : stL.getD x false = true
        · rw [if_pos d2, if_pos trivial]
        · rw [if_neg d2, if_pos (hq ⟨d1, Bool.eq_false_iff.2 d2⟩), if_pos trivial]
      · rw [if_neg (show ¬ (Args.A.getD x (0, 0, 0, 0, 0, 0, nl0, 0)).2.1 = 2 from d1), if_pos trivial]
    have hin := fun h : can x => hMx.inn x (Nat.zero_le _) hxl h
    cases M with
    | nil =>
      have e3 : cI [] = [] := rfl
      rw [e3]
      dsimp only
      rw [refStale hT hK (by omega) e2]
      simp only [Option.bind_some]
      rw [loop0 (by omega)]
      simp only [Option.bind_some]
      exact fin false fun h => by
        obtain ⟨m, hm, _⟩ := hin h
        cases hm
    | cons m M =>
      obtain ⟨q, hq1, hq2⟩ := lawLoop (n := n) (x := x) hK hL (by omega) e2 (m :: M) (by omega) (by simp) hMx rfl [] rfl 0 false n (by omega)
      have hq1 : m_viewportlaw21ReuseApart_1 n (x : Int) stL Args.A.length (cI (m :: M), 0, 0, false, 0) = some ((m :: M).foldl byt 0, q) := hq1
      have e3 : cI (m :: M) = (m : Int) :: cI M := rfl
      rw [e3] at hq1
      rw [e3]
      dsimp only
      rw [refStale hT hK (by omega) e2]
      simp only [Option.bind_some]
      rw [hq1]
      simp only [Option.bind_some]
      exact fin q fun h => hq2 (.inr (hin h))

end Go.Proofs.Ytdloekmdhhfmoaa.reuw
