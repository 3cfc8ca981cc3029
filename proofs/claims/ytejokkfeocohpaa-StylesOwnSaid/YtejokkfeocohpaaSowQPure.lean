/-
  The pure side. No condition.
-/
import Derived.Test.YtejokkfeocohpaaSowPure
import Derived.IntWalk
set_option linter.unusedSimpArgs false
set_option linter.unusedVariables false
set_option linter.unusedSectionVars false
set_option linter.unnecessarySimpa false
noncomputable section
namespace Go.Proofs.Ytejokkfeocohpaa.sow26
open Go Go.Proofs.Ytejokkfeocohpaa Ax
variable [Args]

section
variable [Cur]

/-! ways: which kid holds a part, who is whose, the way down and the way up -/
theorem Ks.cnt {i k next e : Nat} {a : Int} (h : Ks i k next a e) : next + ((kd i).length - k) ≤ e := by
 induction h with
 | done hk => omega
 | kid hk hv hn ha h1 h2 ih1 ih2 => have := h1.lt; omega
theorem Ks.hold {i k next e : Nat} {a : Int} (h : Ks i k next a e) : ∀ j : Nat, next ≤ j → j < e → ∃ q c f : Nat, k ≤ q ∧ q < (kd i).length ∧ (kd i).getD q 0 = (c : Int) ∧ c < Cur.x.l.length ∧ Ks c 0 (c + 1) (atF c) f ∧ next ≤ c ∧ c ≤ j ∧ j < f ∧ f ≤ e ∧ (∀ u, k ≤ u → u < q → (kd i).getD u 0 < (c : Int)) ∧ (∀ u, q < u → u < (kd i).length → (f : Int) ≤ (kd i).getD u 0) := by
 induction h with
 | done hk => exact fun j h1 h2 => absurd h1 (by omega)
 | @kid i k next e' e a hk hv hn ha h1 h2 ih1 ih2 =>
  intro j h3 h4
  have l1 := h1.lt
  have l2 := h2.lt
  rcases Nat.lt_or_ge j e' with h5 | h5
  ·refine ⟨k, next, e', Nat.le_refl _, hk, hv, hn, h1, Nat.le_refl _, h3, h5, l2, fun u u1 u2 => absurd u1 (by omega), fun u u1 u2 => ?_⟩
   obtain ⟨c, g1, g2, _, _⟩ := h2.kids u (by omega) u2
   rw [g1]; omega
  ·obtain ⟨q, c, f, g1, g2, g3, g4, g5, g6, g7, g8, g9, ga, gb⟩ := ih2 j h5 h4
   refine ⟨q, c, f, by omega, g2, g3, g4, g5, by omega, g7, g8, g9, fun u u1 u2 => ?_, gb⟩
   by_cases e1 : u = k
   ·subst e1; rw [hv]; omega
   ·exact ga u (by omega) u2
theorem kid_uniq (hT : Tree) {p p' : Nat} {c : Nat} (hp : p < Cur.x.l.length) (hp' : p' < Cur.x.l.length) (h : (c : Int) ∈ kd p) (h' : (c : Int) ∈ kd p') : p = p' := by
 have main : ∀ p p' : Nat, p < Cur.x.l.length → p' < Cur.x.l.length → (c : Int) ∈ kd p → (c : Int) ∈ kd p' → ¬ p < p' := by
  intro p p' hp hp' h h' hlt
  obtain ⟨e, k1, k2, k3⟩ := hT.end hp
  obtain ⟨e', m1, m2, m3⟩ := hT.end hp'
  obtain ⟨u, hu, huc⟩ := mem_getD 0 h
  obtain ⟨v, hv, hvc⟩ := mem_getD 0 h'
  obtain ⟨c1, a1, a2, a3, a4⟩ := k1.kids u (Nat.zero_le _) hu
  obtain ⟨c2, b1, b2, b3, b4⟩ := m1.kids v (Nat.zero_le _) hv
  have e1 : c1 = c := by omega
  have e2 : c2 = c := by omega
  subst e1
  subst e2
  obtain ⟨q, d, f, g1, g2, g3, g4, g5, g6, g7, g8, g9, ga, gb⟩ := k1.hold p' (by omega) (by omega)
  have : e' ≤ f := by
   by_cases e3 : p' = d
   ·subst e3
    have := Ks.uniq m1 g5 hp'
    omega
   ·obtain ⟨f', o1, o2⟩ := g5.cover p' (by omega) g8
    have := Ks.uniq m1 o2 hp'
    omega
  rcases Nat.lt_trichotomy u q with h6 | h6 | h6
  ·have := ga u (Nat.zero_le _) h6; omega
  ·subst h6; omega
  ·have := gb u h6 hu; omega
 rcases Nat.lt_trichotomy p p' with h6 | h6 | h6
 ·exact absurd h6 (main p p' hp hp' h h')
 ·exact h6
 ·exact absurd h6 (main p' p hp' hp h' h)
theorem par_of (hT : Tree) {p c : Nat} (hp : p < Cur.x.l.length) (hc : c < Cur.x.l.length) (h : (c : Int) ∈ kd p) : parL.getD c 0 = (p : Int) := by
 obtain ⟨q, g1, g2, g3⟩ := parN_mem hT hc Cur.x.l.length (Nat.le_refl _) ⟨p, hp, h⟩
 rw [kid_uniq hT hp g2 h g3]
 exact g1
theorem par_root (hT : Tree) : parL.getD 0 0 = -1 := by
 have hpos := hT.pos
 have main : ∀ n, n ≤ Cur.x.l.length → (parN n par0).getD 0 0 = -1 := by
  intro n
  induction n with
  | zero =>
   intro _
   show par0.getD 0 0 = -1
   unfold par0
   rw [getD_set (by rw [List.length_replicate]; exact hpos), if_pos rfl]
  | succ n ih =>
   intro hn
   have h0 : par0.length = Cur.x.l.length := by unfold par0; rw [List.length_set, List.length_replicate]
   have hk := kd_nat hT (by omega : n < Cur.x.l.length)
   show (setK (parN n par0) (n : Int) (kd n)).getD 0 0 = -1
   rw [setK_get (c := 0) (fun k hk' => by obtain ⟨d, e, _⟩ := hk k hk'; omega) (by rw [parN_len, h0]; exact hpos), if_neg (fun hm => by obtain ⟨d, e, h⟩ := hk _ hm; omega), ih (by omega)]
 exact main _ (Nat.le_refl _)
/-- the way to a part -/
inductive Up : Nat → List Nat → Prop
 | root : Up 0 [0]
 | step {p c : Nat} {L : List Nat} (h : Up p L) (hp : p < Cur.x.l.length) (hc : c < Cur.x.l.length) (hk : (c : Int) ∈ kd p) : Up c (L ++ [c])
def syms (L : List Nat) : List Int := L.map fun i => (pt i).1
theorem syms_app {L : List Nat} {i : Nat} : syms (L ++ [i]) = syms L ++ [(pt i).1] := by unfold syms; rw [List.map_append]; rfl
theorem syms_len {L : List Nat} : (syms L).length = L.length := by unfold syms; rw [List.length_map]
theorem Up.len (hT : Tree) {i : Nat} {L : List Nat} (h : Up i L) : 1 ≤ L.length ∧ L.length ≤ i + 1 ∧ (i ≠ 0 → 2 ≤ L.length) := by
 induction h with
 | root => exact ⟨Nat.le_refl _, Nat.le_refl _, fun h => absurd rfl h⟩
 | @step p c L h hp hc hk ih =>
  obtain ⟨d, e, h1⟩ := kd_nat hT hp _ hk
  have e2 : (L ++ [c]).length = L.length + 1 := by simp
  rw [e2]
  refine ⟨by omega, by omega, fun _ => by omega⟩

/-! looking for a number in a row that rises -/
theorem mid_ok {a b : Nat} (ha : a ≤ 1000000) (hb : b ≤ 1000000) : IntKind.i64.wrap (Int.fdiv (IntKind.u64.wrap (w64 ((a : Int) + (b : Int)))) 2) = (((a + b) / 2 : Nat) : Int) := by
 have e : Int.fdiv (IntKind.u64.wrap (w64 ((a : Int) + (b : Int)))) 2 = (((a + b) / 2 : Nat) : Int) := by
  rw [w64_sm (by omega) (by omega), IntWalk.u64_in _ (by omega), show (a : Int) + (b : Int) = ((a + b : Nat) : Int) by omega, Int.fdiv_eq_ediv_of_nonneg _ (by decide)]
  rfl
 rw [e]
 exact w64_sm (by omega) (by omega)
theorem less_ok {n : Nat} {a b : Int} : m_cmpLessintq1 n a b = some (decide (a < b)) := by
 unfold m_cmpLessintq1 m_cmpisNaNintq1
 simp only [Option.bind_some]
 by_cases h : a < b
 ·rw [if_pos h, decide_eq_true h]
 ·rw [if_neg h, decide_eq_false h]
theorem search1 {n q : Nat} {x : NL} {v : Int} (hl : x.l.length ≤ 1000000) (hn : x.l.length < n) (hq : q ≤ x.l.length) (h1 : ∀ u, u < q → x.l.getD u 0 < v) (h2 : ∀ u, q ≤ u → u < x.l.length → v ≤ x.l.getD u 0) : m_slicesBinarySearchintintq1_1 n x v (x.l.length : Int) (0, (x.l.length : Int)) = some (q : Int) := by
 obtain ⟨r, rfl, h⟩ := whileI (B := B_slicesBinarySearchintintq1_1 n x v (x.l.length : Int)) (fun s => ∃ a b : Nat, s = ((a : Int), (b : Int)) ∧ a ≤ q ∧ q ≤ b ∧ b ≤ x.l.length) (fun s => (s.2 - s.1).toNat) (fun r => r = (q : Int))
  (fun s hI => by
   obtain ⟨a, b, rfl, ha, hb, hbl⟩ := hI
   unfold B_slicesBinarySearchintintq1_1
   dsimp only
   by_cases hlt : a < b
   ·rw [if_pos (by omega), mid_ok (by omega) (by omega), if_pos (by omega)]
    simp only [Int.toNat_natCast]
    rw [if_pos (by omega)]
    simp only [Option.bind_some]
    rw [less_ok]
    simp only [Option.bind_some]
    by_cases hv : x.l.getD ((a + b) / 2) 0 < v
    ·rw [if_pos (decide_eq_true hv), w64_inc (by omega)]
     have : (a + b) / 2 < q := by
      rcases Nat.lt_or_ge ((a + b) / 2) q with h | h
      ·exact h
      ·have := h2 _ h (by omega); omega
     exact .inl ⟨((((a + b) / 2 + 1 : Nat) : Int), (b : Int)), ⟨(a + b) / 2 + 1, b, rfl, by omega, hb, hbl⟩, by dsimp only; omega, rfl⟩
    ·rw [if_neg (by simpa using hv)]
     have : q ≤ (a + b) / 2 := by
      rcases Nat.lt_or_ge ((a + b) / 2) q with h | h
      ·exact absurd (h1 _ h) hv
      ·exact h
     exact .inl ⟨((a : Int), (((a + b) / 2 : Nat) : Int)), ⟨a, (a + b) / 2, rfl, ha, this, by omega⟩, by dsimp only; omega, rfl⟩
   ·rw [if_neg (by omega)]
    exact .inr ⟨(a : Int), by omega, rfl⟩) n (0, (x.l.length : Int)) ⟨0, x.l.length, rfl, Nat.zero_le _, hq, Nat.le_refl _⟩ (by dsimp only; omega)
 exact h
/-- the kid on the way -/
theorem down_ok {n i j e : Nat} (hT : Tree) (hn : Cur.x.l.length < n) (hi : i < Cur.x.l.length) (he : Ks i 0 (i + 1) (atF i) e) (hel : e ≤ Cur.x.l.length) (h1 : i < j) (h2 : j < e) : ∃ q c f : Nat, q < (kd i).length ∧ (kd i).getD q 0 = (c : Int) ∧ c < Cur.x.l.length ∧ Ks c 0 (c + 1) (atF c) f ∧ i < c ∧ c ≤ j ∧ j < f ∧ f ≤ e ∧ (m_slicesBinarySearchintintq1 n (pt i).2.2.2.2.2.2.1 (j : Int) = some ((q : Int), true) ∨ m_slicesBinarySearchintintq1 n (pt i).2.2.2.2.2.2.1 (j : Int) = some (((q + 1 : Nat) : Int), false)) := by
 have hmax := hT.max
 have hcnt := he.cnt
 obtain ⟨q, c, f, g1, g2, g3, g4, g5, g6, g7, g8, g9, ga, gb⟩ := he.hold j h1 h2
 refine ⟨q, c, f, g2, g3, g4, g5, by omega, g7, g8, g9, ?_⟩
 have hlen : (kd i).length ≤ 1000000 := by omega
 have hkl : (pt i).2.2.2.2.2.2.1.l.length = (kd i).length := rfl
 have hkd : ∀ u, (pt i).2.2.2.2.2.2.1.l.getD u 0 = (kd i).getD u 0 := fun _ => rfl
 unfold m_slicesBinarySearchintintq1 m_slicesisNaNintq1
 by_cases hc : c = j
 ·left
  rw [search1 (q := q) (by rw [hkl]; exact hlen) (by rw [hkl]; omega) (by rw [hkl]; omega) (fun u hu => by rw [hkd]; have := ga u (Nat.zero_le _) hu; omega) (fun u hu hul => by
   rw [hkd]
   by_cases e1 : u = q
   ·subst e1; omega
   ·have := gb u (by omega) hul; omega)]
  simp only [Option.bind_some]
  rw [hkl, if_pos (by omega), if_pos (by omega)]
  simp only [Int.toNat_natCast]
  rw [if_pos g2]
  rw [if_pos (show (pt i).2.2.2.2.2.2.1.l.getD q 0 = (j : Int) from by rw [hkd, g3]; omega)]
 ·right
  rw [search1 (q := q + 1) (by rw [hkl]; exact hlen) (by rw [hkl]; omega) (by rw [hkl]; omega) (fun u hu => by
   rw [hkd]
   by_cases e1 : u = q
   ·subst e1; omega
   ·have := ga u (Nat.zero_le _) (by omega); omega) (fun u hu hul => by
   rw [hkd]
   have := gb u (by omega) hul; omega)]
  simp only [Option.bind_some]
  by_cases h3 : q + 1 < (kd i).length
  ·rw [hkl, if_pos (by omega), if_pos (by omega)]
   simp only [Int.toNat_natCast]
   rw [if_pos h3]
   have := gb (q + 1) (by omega) h3
   rw [if_neg (show ¬ (pt i).2.2.2.2.2.2.1.l.getD (q + 1) 0 = (j : Int) from by rw [hkd]; omega)]
  ·rw [hkl, if_neg (by omega)]
/-- the program's way -/
theorem path1_ok {n j : Nat} (hT : Tree) (hn : Cur.x.l.length < n) : ∀ (d at_ e : Nat) (L : List Nat), Cur.x.l.length - at_ ≤ d → at_ < Cur.x.l.length → Ks at_ 0 (at_ + 1) (atF at_) e → e ≤ Cur.x.l.length → at_ ≤ j → j < e → Up at_ L → ∀ f, d < f → ∃ M, Up j M ∧ iterM (B_treePathq1_1 n Cur.x (j : Int)) f ((at_ : Int), syms L) = some (syms M)
 | 0, at_, e, L, hd, hl, _, _, _, _, _, _, _ => absurd hd (by omega)
 | d + 1, at_, e, L, hd, hl, he, hel, h1, h2, hU, f, hf => by
  obtain ⟨f, rfl⟩ : ∃ g, f = g + 1 := ⟨f - 1, by omega⟩
  have hmax := hT.max
  have hUl := hU.len hT
  rw [iterM_succ]
  by_cases e1 : at_ = j
  ·subst e1
   refine ⟨L, hU, ?_⟩
   unfold B_treePathq1_1
   dsimp only
   rw [if_pos rfl]
   rfl
  ·obtain ⟨q, c, f', g1, g2, g3, g4, g5, g6, g7, g8, g9⟩ := down_ok hT hn hl he hel (by omega) h2
   have hkl := kd_le at_
   have hmem : (c : Int) ∈ kd at_ := by rw [← g2]; exact getD_mem g1
   have hU' := Up.step hU hl g3 hmem
   obtain ⟨M, hM, hM2⟩ := path1_ok hT hn d c f' (L ++ [c]) (by omega) g3 g4 (by omega) g6 g7 hU' f (by omega)
   refine ⟨M, hM, ?_⟩
   have hB : B_treePathq1_1 n Cur.x (j : Int) ((at_ : Int), syms L) = some (.inl ((c : Int), syms (L ++ [c]))) := by
    unfold B_treePathq1_1
    dsimp only
    rw [if_neg (by omega), if_pos (by omega)]
    simp only [Option.bind_some, Int.toNat_natCast]
    rw [syms_app]
    rcases g9 with g9 | g9
    ·have g9 : m_slicesBinarySearchintintq1 n (Cur.x.l.getD at_ (0, 0, 0, 0, 0, 0, nl0, 0)).2.2.2.2.2.2.1 (j : Int) = some ((q : Int), true) := g9
     rw [g9]
     simp only [Option.bind_some]
     rw [if_pos trivial, if_pos (show (0 : Int) ≤ (q : Int) ∧ (q : Int) < ((((Cur.x.l.getD at_ (0, 0, 0, 0, 0, 0, nl0, 0)).2.2.2.2.2.2.1.l.length : Nat)) : Int) from ⟨Int.natCast_nonneg _, Int.ofNat_lt.2 g1⟩)]
     simp only [Int.toNat_natCast]
     rw [if_pos (show q < (Cur.x.l.getD at_ (0, 0, 0, 0, 0, 0, nl0, 0)).2.2.2.2.2.2.1.l.length from g1), show (Cur.x.l.getD at_ (0, 0, 0, 0, 0, 0, nl0, 0)).2.2.2.2.2.2.1.l.getD q 0 = (c : Int) from g2, if_pos (by omega)]
     simp only [Int.toNat_natCast]
     rw [if_pos (by rw [syms_len]; omega)]
     rfl
    ·have g9 : m_slicesBinarySearchintintq1 n (Cur.x.l.getD at_ (0, 0, 0, 0, 0, 0, nl0, 0)).2.2.2.2.2.2.1 (j : Int) = some (((q + 1 : Nat) : Int), false) := g9
     have hcnt := he.cnt
     have e2 : w64 (((q + 1 : Nat) : Int) - 1) = (q : Int) := by rw [w64_sm (by omega) (by omega)]; omega
     rw [g9]
     simp only [Option.bind_some]
     rw [if_neg (by decide), e2, if_pos (show (0 : Int) ≤ (q : Int) ∧ (q : Int) < ((((Cur.x.l.getD at_ (0, 0, 0, 0, 0, 0, nl0, 0)).2.2.2.2.2.2.1.l.length : Nat)) : Int) from ⟨Int.natCast_nonneg _, Int.ofNat_lt.2 g1⟩)]
     simp only [Int.toNat_natCast]
     rw [if_pos (show q < (Cur.x.l.getD at_ (0, 0, 0, 0, 0, 0, nl0, 0)).2.2.2.2.2.2.1.l.length from g1), show (Cur.x.l.getD at_ (0, 0, 0, 0, 0, 0, nl0, 0)).2.2.2.2.2.2.1.l.getD q 0 = (c : Int) from g2, if_pos (by omega)]
     simp only [Int.toNat_natCast]
     rw [if_pos (by rw [syms_len]; omega)]
     rfl
   rw [hB]
   exact hM2
def capF (k : Nat) : Nat := if k = 0 then 0 else if k = 1 then 1 else Nat.add big 1
theorem path_ok {n j : Nat} (hT : Tree) (hn : Cur.x.l.length < n) (hj : j < Cur.x.l.length) : ∃ L, Up j L ∧ ∃ y : NL, m_treePathq1 n Cur.x (j : Int) = some y ∧ y.l = syms L := by
 have hpos := hT.pos
 have hmax := hT.max
 unfold m_treePathq1 m_treehasq1
 rw [if_pos (by omega), if_pos (by omega), check_ok hT hn]
 simp only [Option.bind_some]
 rw [if_pos trivial]
 simp only [Option.bind_some]
 rw [if_pos trivial, if_pos (by omega)]
 by_cases h0 : j = 0
 ·subst h0
  refine ⟨[0], .root, ?_⟩
  rw [if_pos (by omega), dif_pos (show [_].length ≤ 140737488355328 from Nat.succ_le_of_lt (by decide))]
  exact ⟨_, rfl, rfl⟩
 ·rw [if_neg (by omega)]
  obtain ⟨q, c, f', g1, g2, g3, g4, g5, g6, g7, g8, g9⟩ := down_ok hT hn hpos hT.ks (Nat.le_refl _) (by omega : 0 < j) hj
  have hcnt := hT.ks.cnt
  have hmem : (c : Int) ∈ kd 0 := by rw [← g2]; exact getD_mem g1
  have hU' := Up.step .root hpos g3 hmem
  obtain ⟨M, hM, hM2⟩ := path1_ok hT hn Cur.x.l.length c f' ([0] ++ [c]) (by omega) g3 g4 (by omega) g6 g7 hU' n hn
  have hM2 : m_treePathq1_1 n Cur.x (j : Int) ((c : Int), [(Cur.x.l.getD 0 (0, 0, 0, 0, 0, 0, nl0, 0)).1, (Cur.x.l.getD c (0, 0, 0, 0, 0, 0, nl0, 0)).1]) = some (syms M) := hM2
  have hMl := hM.len hT
  have hsl := syms_len (L := M)
  refine ⟨M, hM, ?_⟩
  rcases g9 with g9 | g9
  ·have g9 : m_slicesBinarySearchintintq1 n (Cur.x.l.getD 0 (0, 0, 0, 0, 0, 0, nl0, 0)).2.2.2.2.2.2.1 (j : Int) = some ((q : Int), true) := g9
   rw [Int.toNat_zero, g9]
   simp only [Option.bind_some]
   rw [if_pos trivial, if_pos (show (0 : Int) ≤ (q : Int) ∧ (q : Int) < ((((Cur.x.l.getD 0 (0, 0, 0, 0, 0, 0, nl0, 0)).2.2.2.2.2.2.1.l.length : Nat)) : Int) from ⟨Int.natCast_nonneg _, Int.ofNat_lt.2 g1⟩)]
   simp only [Int.toNat_natCast]
   rw [if_pos (show q < (Cur.x.l.getD 0 (0, 0, 0, 0, 0, 0, nl0, 0)).2.2.2.2.2.2.1.l.length from g1), show (Cur.x.l.getD 0 (0, 0, 0, 0, 0, 0, nl0, 0)).2.2.2.2.2.2.1.l.getD q 0 = (c : Int) from g2, if_pos (by omega)]
   simp only [Int.toNat_natCast]
   rw [hM2]
   simp only [Option.bind_some]
   rw [dif_pos (by omega)]
   exact ⟨_, rfl, rfl⟩
  ·have g9 : m_slicesBinarySearchintintq1 n (Cur.x.l.getD 0 (0, 0, 0, 0, 0, 0, nl0, 0)).2.2.2.2.2.2.1 (j : Int) = some (((q + 1 : Nat) : Int), false) := g9
   have e2 : w64 (((q + 1 : Nat) : Int) - 1) = (q : Int) := by rw [w64_sm (by omega) (by omega)]; omega
   rw [Int.toNat_zero, g9]
   simp only [Option.bind_some]
   rw [if_neg (by decide), e2, if_pos (show (0 : Int) ≤ (q : Int) ∧ (q : Int) < ((((Cur.x.l.getD 0 (0, 0, 0, 0, 0, 0, nl0, 0)).2.2.2.2.2.2.1.l.length : Nat)) : Int) from ⟨Int.natCast_nonneg _, Int.ofNat_lt.2 g1⟩)]
   simp only [Int.toNat_natCast]
   rw [if_pos (show q < (Cur.x.l.getD 0 (0, 0, 0, 0, 0, 0, nl0, 0)).2.2.2.2.2.2.1.l.length from g1), show (Cur.x.l.getD 0 (0, 0, 0, 0, 0, 0, nl0, 0)).2.2.2.2.2.2.1.l.getD q 0 = (c : Int) from g2, if_pos (by omega)]
   simp only [Int.toNat_natCast]
   rw [hM2]
   simp only [Option.bind_some]
   rw [dif_pos (by omega)]
   exact ⟨_, rfl, rfl⟩
/-! the document's way -/
theorem capF_1 {k : Nat} (h : 2 ≤ k) : capF k = Nat.add big 1 := by unfold capF; rw [if_neg (by omega), if_neg (by omega)]
theorem refPath1 {n : Nat} (hT : Tree) {y : NL} (hy : y.l = parL) {i : Nat} {L : List Nat} (h : Up i L) : ∀ (acc : List Int) (f : Nat), L.length + acc.length ≤ 1000000 → L.length < f → i < Cur.x.l.length → iterM (B_viewportref16Pathq1_1 n Cur.x y) f ((i : Int), acc, acc.length, capF acc.length) = some (syms L ++ acc, (syms L ++ acc).length, capF (syms L ++ acc).length) := by
 have hpl := parL_len
 have hyl : y.l.length = Cur.x.l.length := by rw [hy, hpl]
 -- one round
 have round : ∀ (i : Nat) (acc : List Int), i < Cur.x.l.length → acc.length ≤ 1000000 → B_viewportref16Pathq1_1 n Cur.x y ((i : Int), acc, acc.length, capF acc.length) = some (.inl (parL.getD i 0, (pt i).1 :: acc, ((pt i).1 :: acc).length, capF ((pt i).1 :: acc).length)) := by
  intro i acc hi ha
  cases acc with
  | nil =>
   unfold B_viewportref16Pathq1_1
   dsimp only
   rw [if_pos (by omega), if_pos (by omega)]
   simp only [Option.bind_some, Int.toNat_natCast]
   rw [if_pos (by omega), if_pos (by omega), hy]
   rfl
  | cons a t =>
   have e1 : (a :: t).length = t.length + 1 := rfl
   have e2 : ((pt i).1 :: a :: t).length = t.length + 2 := rfl
   have e3 : List.take (a :: t).length (List.drop 0 (a :: t)) = a :: t := by rw [List.drop_zero, List.take_length]
   unfold B_viewportref16Pathq1_1
   dsimp only
   rw [if_pos (by omega), if_pos (by omega)]
   simp only [Option.bind_some, Int.toNat_natCast]
   rw [if_pos (by omega), if_pos (by omega), if_pos (by omega), if_pos (by omega), if_pos (by omega), if_pos (by omega), e3, capF_1 (by omega), hy]
   rfl
 induction h with
 | root =>
  intro acc f h1 h2 hi
  obtain ⟨f, rfl⟩ : ∃ g, f = g + 1 := ⟨f - 1, by omega⟩
  have e1 : ([0] : List Nat).length = 1 := rfl
  obtain ⟨f, rfl⟩ : ∃ g, f = g + 1 := ⟨f - 1, by omega⟩
  rw [iterM_succ, round 0 acc hi (by omega), par_root hT]
  show iterM (B_viewportref16Pathq1_1 n Cur.x y) (f + 1) (-1, (pt 0).1 :: acc, ((pt 0).1 :: acc).length, capF ((pt 0).1 :: acc).length) = _
  rw [iterM_succ]
  unfold B_viewportref16Pathq1_1
  dsimp only
  rw [if_neg (by omega)]
  rfl
 | @step p c L h hp hc hk ih =>
  intro acc f h1 h2 hi
  obtain ⟨f, rfl⟩ : ∃ g, f = g + 1 := ⟨f - 1, by omega⟩
  have e1 : (L ++ [c]).length = L.length + 1 := by simp
  have e2 : ((pt c).1 :: acc).length = acc.length + 1 := rfl
  rw [iterM_succ, round c acc hi (by omega), par_of hT hp hc hk]
  have := ih ((pt c).1 :: acc) f (by omega) (by omega) hp
  rw [syms_app, List.append_assoc]
  exact this
theorem refPath {n K j : Nat} {L : List Nat} (hT : Tree) (hK : ∀ j, (kd j).length ≤ K) (hn : Cur.x.l.length + K + 10 < n) (hc : m_viewportref16Checkq1 n Cur.x = some 0) (hj : j < Cur.x.l.length) (hU : Up j L) : ∃ y : NL, m_viewportref16Pathq1 n Cur.x (j : Int) = some y ∧ y.l = syms L := by
 have hmax := hT.max
 have hUl := hU.len hT
 unfold m_viewportref16Pathq1 m_viewportref16isq1
 rw [hc]
 simp only [Option.bind_some]
 rw [if_pos trivial, if_pos (by omega), if_pos (by omega)]
 simp only [Option.bind_some]
 obtain ⟨y, hy, hyl⟩ := refPar hT hK (by omega) hc
 rw [if_pos trivial, hy]
 simp only [Option.bind_some]
 have h := refPath1 (n := n) hT hyl hU [] n (by simp; omega) (by omega) hj
 rw [List.append_nil, syms_len] at h
 have h : m_viewportref16Pathq1_1 n Cur.x y ((j : Int), [], 0, 0) = some (syms L, L.length, capF L.length) := h
 rw [h]
 simp only [Option.bind_some]
 have hs := syms_len (L := L)
 cases hq : syms L with
 | nil => rw [hq] at hs; simp at hs; omega
 | cons a t =>
  dsimp only
  rw [← hq, if_pos hs.symm, dif_pos (by omega)]
  exact ⟨_, rfl, rfl⟩
end


/-! the style of a way -/
abbrev S4 := Int × NL × Int × Int
def d4 : S4 := (0, nl0, 0, 0)
def endsL (w p : List Int) : Bool := decide (p.length ≤ w.length ∧ w.drop (w.length - p.length) = p)
theorem eqInts {n : Nat} {k l : NL} (hk : k.l.length ≤ 1000000) (hn : k.l.length < n) : m_slicesEqualintintq1 n k l = some (decide (k.l = l.l)) := by
 unfold m_slicesEqualintintq1
 by_cases hl : k.l.length = l.l.length
 ·rw [if_pos (by omega)]
  have := scan (B := B_slicesEqualintintq1_1 n k l (k.l.length : Int)) k.l.length (fun j => decide (k.l.getD j 0 = l.l.getD j 0)) () ()
   (fun j hj => by
    unfold B_slicesEqualintintq1_1
    dsimp only
    rw [if_pos (by omega), if_pos (by omega), Int.toNat_natCast, if_pos hj]
    try dsimp only [Option.bind_some]
    rw [if_pos (by omega), if_pos (by omega)]
    try dsimp only [Option.bind_some]
    by_cases c : k.l.getD j 0 = l.l.getD j 0
    ·rw [if_pos c, w64_inc (by omega), if_pos (by simpa using c)]
    ·rw [if_neg c, if_neg (by simpa using c)])
   (by
    unfold B_slicesEqualintintq1_1
    dsimp only
    rw [if_neg (by omega)]) n hn
  rw [show m_slicesEqualintintq1_1 n k l (k.l.length : Int) 0 = _ from this]
  by_cases c : k.l = l.l
  ·rw [if_pos (by rw [c]; simp)]
   simp [c]
  ·rw [if_neg (fun h => c ?_)]
   ·simp [c]
   ·apply List.ext_getElem hl
    intro j h1 h2
    have h3 := (List.all_eq_true.1 h) j (List.mem_range.2 h1)
    have h3 : k.l.getD j 0 = l.l.getD j 0 := by simpa using h3
    simpa [List.getD_eq_getElem?_getD, h1, h2] using h3
 ·rw [if_neg (by omega), decide_eq_false (fun h => hl (by rw [h]))]
theorem ends_ok {n : Nat} {w p : NL} (hw : w.l.length ≤ 1000000) (hn : w.l.length < n) : m_stylesendsWithintq1 n w p = some (endsL w.l p.l) := by
 unfold m_stylesendsWithintq1 endsL
 by_cases c : p.l.length ≤ w.l.length
 ·rw [if_pos (by omega)]
  try dsimp only [Option.bind_some]
  rw [w64_sm (by omega) (by omega), if_pos (by omega), dif_pos (by omega)]
  have e : (nlSub w ((w.l.length : Int) - (p.l.length : Int)).toNat w.l.length (by omega)).l = w.l.drop (w.l.length - p.l.length) := by
   show (w.l.drop ((w.l.length : Int) - (p.l.length : Int)).toNat).take (w.l.length - ((w.l.length : Int) - (p.l.length : Int)).toNat) = _
   rw [show ((w.l.length : Int) - (p.l.length : Int)).toNat = w.l.length - p.l.length by omega, List.take_of_length_le (by rw [List.length_drop]; omega)]
  rw [eqInts (by rw [e, List.length_drop]; omega) (by rw [e, List.length_drop]; omega), e]
  try dsimp only [Option.bind_some]
  congr 1
  simp [c]
 ·rw [if_neg (by omega)]
  simp [c]
def mat (k : Int) (w : List Int) (s : S4) : Bool := decide (s.1 = k) && endsL w s.2.1.l
theorem mat_ok {n : Nat} {w p : NL} {k a2 a3 a0 : Int} (hw : w.l.length ≤ 1000000) (hn : w.l.length < n) : m_stylesMatchesq1 n a0 p a2 a3 k w = some (mat k w.l (a0, p, a2, a3)) := by
 unfold m_stylesMatchesq1 mat
 by_cases c : a0 = k
 ·rw [if_pos c, ends_ok hw hn]
  simp [c]
 ·rw [if_neg c]
  simp [c]
abbrev B3 := Int × Int × Bool
def stp (k : Int) (w : List Int) (b : B3) (s : S4) : B3 := if mat k w s = true then (if b.2.2 = true ∧ s.2.2.2 ≤ b.2.1 then b else (s.2.2.1, s.2.2.2, true)) else b
theorem s1_ok {n : Nat} {w p : NL} {a0 a1 a2 a4 a6 a7 k : Int} {a3 : Bool} (hw : w.l.length ≤ 1000000) (hn : w.l.length < n) : ∃ k' p', m_stylesStyle1q1 n a0 a1 a2 a3 a4 p a6 a7 k w = some (k', p', stp k w.l (a1, a2, a3) (a4, p, a6, a7)) := by
 unfold m_stylesStyle1q1 stp
 rw [mat_ok hw hn]
 try dsimp only [Option.bind_some]
 cases mat k w.l (a4, p, a6, a7) with
 | false => exact ⟨_, _, rfl⟩
 | true =>
  rw [if_pos rfl, if_pos rfl]
  cases a3 with
  | false => exact ⟨_, _, rfl⟩
  | true =>
   rw [if_pos rfl]
   by_cases c : a7 ≤ a2
   ·rw [if_pos c, if_pos ⟨rfl, c⟩]; exact ⟨_, _, rfl⟩
   ·rw [if_neg c, if_neg (fun h => c h.2)]; exact ⟨_, _, rfl⟩
theorem s2_ok {n : Nat} {w p q : NL} {a0 a1 a2 a4 a6 a7 k : Int} {a3 : Bool} (hw : w.l.length ≤ 1000000) (hn : w.l.length < n) : ∃ k' p', m_stylesStyle1q2 n a0 q a1 a2 a3 a4 p a6 a7 k w = some (k', p', stp k w.l (a1, a2, a3) (a4, p, a6, a7)) := by
 unfold m_stylesStyle1q2 stp
 rw [mat_ok hw hn]
 try dsimp only [Option.bind_some]
 cases mat k w.l (a4, p, a6, a7) with
 | false => exact ⟨_, _, rfl⟩
 | true =>
  rw [if_pos rfl, if_pos rfl]
  cases a3 with
  | false => exact ⟨_, _, rfl⟩
  | true =>
   rw [if_pos rfl]
   by_cases c : a7 ≤ a2
   ·rw [if_pos c, if_pos ⟨rfl, c⟩]; exact ⟨_, _, rfl⟩
   ·rw [if_neg c, if_neg (fun h => c h.2)]; exact ⟨_, _, rfl⟩
abbrev V6 := Int × List NL × Int × Int × Bool × Int
abbrev R5 := Int × List NL × Int × Int × Bool
theorem valLoop {B : V6 → Option (V6 ⊕ R5)} (k : Int) (w : List Int) (L : List S4)
  (h1 : ∀ (i : Nat) (a : Int) (P : List NL) (b : B3), i < L.length → ∃ a' P', B (a, P, b.1, b.2.1, b.2.2, (i : Int)) = some (.inl (a', P', (stp k w b (L.getD i d4)).1, (stp k w b (L.getD i d4)).2.1, (stp k w b (L.getD i d4)).2.2, ((i + 1 : Nat) : Int))))
  (h2 : ∀ (a : Int) (P : List NL) (b : B3), ∃ a' p', B (a, P, b.1, b.2.1, b.2.2, (L.length : Int)) = some (.inr (a', p', b))) :
  ∀ (d i : Nat) (a : Int) (P : List NL) (b : B3) (f : Nat), i + d = L.length → d < f → ∃ a' p', iterM B f (a, P, b.1, b.2.1, b.2.2, (i : Int)) = some (a', p', (L.drop i).foldl (stp k w) b)
 | 0, i, a, P, b, f, h, hf => by
  obtain ⟨f, rfl⟩ : ∃ g, f = g + 1 := ⟨f - 1, by omega⟩
  obtain rfl : i = L.length := by omega
  obtain ⟨a', p', h⟩ := h2 a P b
  rw [iterM_succ, h, List.drop_length]
  exact ⟨a', p', rfl⟩
 | d + 1, i, a, P, b, f, h, hf => by
  obtain ⟨f, rfl⟩ : ∃ g, f = g + 1 := ⟨f - 1, by omega⟩
  have hi : i < L.length := by omega
  obtain ⟨a', P', h3⟩ := h1 i a P b hi
  obtain ⟨a2, p2, h4⟩ := valLoop k w L h1 h2 d (i + 1) a' P' (stp k w b (L.getD i d4)) f (by omega) (by omega)
  rw [iterM_succ, h3]
  refine ⟨a2, p2, ?_⟩
  rw [List.drop_eq_getElem_cons hi, List.foldl_cons]
  rw [show L.getD i d4 = L[i] by simp [List.getD_eq_getElem?_getD, hi]] at h4
  simpa [List.getD_eq_getElem?_getD, hi] using h4
def sty (k : Int) (w : List Int) (L : List S4) : Int := (L.foldl (stp k w) (0, 0, false)).1

theorem style1_ok {n : Nat} {L : List S4} {k : Int} {w : NL} (hL : (L).length ≤ 1000000) (hn : (L).length < n) (hw : w.l.length ≤ 1000000) (hn2 : w.l.length < n) : m_stylesStyleq1 n L k w = some (sty k w.l (L)) := by
 unfold m_stylesStyleq1 m_foldOverstyleschoiceq1 m_slicesValuesapiStyle1q1 m_slicesValuesapiStyleq1
 obtain ⟨a', p', h⟩ := valLoop (B := B_slicesValuesapiStyle1q1_1 n k w 0 0 0 false L (((L).length : Nat) : Int)) k w.l (L)
  (fun i a P b hi => by
   obtain ⟨b1, b2, b3⟩ := b
   unfold B_slicesValuesapiStyle1q1_1
   dsimp only
   cases P with
   | nil =>
    dsimp only
    rw [if_pos (by omega), if_pos (by omega), Int.toNat_natCast]
    try dsimp only [Option.bind_some]
    obtain ⟨k', p', h⟩ := s1_ok (n := n) (w := w) (p := ((L).getD i d4).2.1) (a0 := a) (a1 := b1) (a2 := b2) (a3 := b3) (a4 := ((L).getD i d4).1) (a6 := ((L).getD i d4).2.2.1) (a7 := ((L).getD i d4).2.2.2) (k := k) hw hn2
    have h : m_stylesStyle1q1 n a b1 b2 b3 ((L).getD i (0, nl0, 0, 0)).1 ((L).getD i (0, nl0, 0, 0)).2.1 ((L).getD i (0, nl0, 0, 0)).2.2.1 ((L).getD i (0, nl0, 0, 0)).2.2.2 k w = some (k', p', stp k w.l (b1, b2, b3) ((L).getD i d4)) := h
    unfold m_foldOverstyleschoice_1010y1
    rw [h]
    simp only [Option.bind_some]
    rw [w64_inc (by omega)]
    exact ⟨_, _, rfl⟩
   | cons x t =>
    dsimp only
    rw [if_pos (by omega), if_pos (by omega), Int.toNat_natCast]
    try dsimp only [Option.bind_some]
    obtain ⟨k', p', h⟩ := s2_ok (n := n) (w := w) (p := ((L).getD i d4).2.1) (q := x) (a0 := a) (a1 := b1) (a2 := b2) (a3 := b3) (a4 := ((L).getD i d4).1) (a6 := ((L).getD i d4).2.2.1) (a7 := ((L).getD i d4).2.2.2) (k := k) hw hn2
    have h : m_stylesStyle1q2 n a x b1 b2 b3 ((L).getD i (0, nl0, 0, 0)).1 ((L).getD i (0, nl0, 0, 0)).2.1 ((L).getD i (0, nl0, 0, 0)).2.2.1 ((L).getD i (0, nl0, 0, 0)).2.2.2 k w = some (k', p', stp k w.l (b1, b2, b3) ((L).getD i d4)) := h
    unfold m_foldOverstyleschoice_1010y2
    rw [h]
    simp only [Option.bind_some]
    rw [w64_inc (by omega)]
    exact ⟨_, _, rfl⟩
  )
  (fun a P b => by
   obtain ⟨b1, b2, b3⟩ := b
   unfold B_slicesValuesapiStyle1q1_1
   dsimp only
   cases P with
   | nil => dsimp only; rw [if_neg (by omega)]; exact ⟨_, _, rfl⟩
   | cons x t => dsimp only; rw [if_neg (by omega)]; exact ⟨_, _, rfl⟩) (L).length 0 0 [] (0, 0, false) n (by omega) hn
 have h : m_slicesValuesapiStyle1q1_1 n k w 0 0 0 false L (((L).length : Nat) : Int) (0, [], 0, 0, false, 0) = some (a', p', (L).foldl (stp k w.l) (0, 0, false)) := h
 simp only [Option.bind_some]
 rw [h]
 cases p' <;> rfl

theorem style2_ok {n : Nat} {L : WL rw_iLii} {k : Int} {w : NL} (hL : (L.l).length ≤ 1000000) (hn : (L.l).length < n) (hw : w.l.length ≤ 1000000) (hn2 : w.l.length < n) : m_stylesStyleq2 n L k w = some (sty k w.l (L.l)) := by
 unfold m_stylesStyleq2 m_foldOverstyleschoiceq2 m_slicesValuesapiStyle1q2 m_slicesValuesapiStyleq2
 obtain ⟨a', p', h⟩ := valLoop (B := B_slicesValuesapiStyle1q2_1 n k w 0 0 0 false L (((L.l).length : Nat) : Int)) k w.l (L.l)
  (fun i a P b hi => by
   obtain ⟨b1, b2, b3⟩ := b
   unfold B_slicesValuesapiStyle1q2_1
   dsimp only
   cases P with
   | nil =>
    dsimp only
    rw [if_pos (by omega), if_pos (by omega), Int.toNat_natCast]
    try dsimp only [Option.bind_some]
    obtain ⟨k', p', h⟩ := s1_ok (n := n) (w := w) (p := ((L.l).getD i d4).2.1) (a0 := a) (a1 := b1) (a2 := b2) (a3 := b3) (a4 := ((L.l).getD i d4).1) (a6 := ((L.l).getD i d4).2.2.1) (a7 := ((L.l).getD i d4).2.2.2) (k := k) hw hn2
    have h : m_stylesStyle1q1 n a b1 b2 b3 ((L.l).getD i (0, nl0, 0, 0)).1 ((L.l).getD i (0, nl0, 0, 0)).2.1 ((L.l).getD i (0, nl0, 0, 0)).2.2.1 ((L.l).getD i (0, nl0, 0, 0)).2.2.2 k w = some (k', p', stp k w.l (b1, b2, b3) ((L.l).getD i d4)) := h
    unfold m_foldOverstyleschoice_1010y3
    rw [h]
    simp only [Option.bind_some]
    rw [w64_inc (by omega)]
    exact ⟨_, _, rfl⟩
   | cons x t =>
    dsimp only
    rw [if_pos (by omega), if_pos (by omega), Int.toNat_natCast]
    try dsimp only [Option.bind_some]
    obtain ⟨k', p', h⟩ := s2_ok (n := n) (w := w) (p := ((L.l).getD i d4).2.1) (q := x) (a0 := a) (a1 := b1) (a2 := b2) (a3 := b3) (a4 := ((L.l).getD i d4).1) (a6 := ((L.l).getD i d4).2.2.1) (a7 := ((L.l).getD i d4).2.2.2) (k := k) hw hn2
    have h : m_stylesStyle1q2 n a x b1 b2 b3 ((L.l).getD i (0, nl0, 0, 0)).1 ((L.l).getD i (0, nl0, 0, 0)).2.1 ((L.l).getD i (0, nl0, 0, 0)).2.2.1 ((L.l).getD i (0, nl0, 0, 0)).2.2.2 k w = some (k', p', stp k w.l (b1, b2, b3) ((L.l).getD i d4)) := h
    unfold m_foldOverstyleschoice_1010y4
    rw [h]
    simp only [Option.bind_some]
    rw [w64_inc (by omega)]
    exact ⟨_, _, rfl⟩
  )
  (fun a P b => by
   obtain ⟨b1, b2, b3⟩ := b
   unfold B_slicesValuesapiStyle1q2_1
   dsimp only
   cases P with
   | nil => dsimp only; rw [if_neg (by omega)]; exact ⟨_, _, rfl⟩
   | cons x t => dsimp only; rw [if_neg (by omega)]; exact ⟨_, _, rfl⟩) (L.l).length 0 0 [] (0, 0, false) n (by omega) hn
 have h : m_slicesValuesapiStyle1q2_1 n k w 0 0 0 false L (((L.l).length : Nat) : Int) (0, [], 0, 0, false, 0) = some (a', p', (L.l).foldl (stp k w.l) (0, 0, false)) := h
 simp only [Option.bind_some]
 rw [h]
 cases p' <;> rfl

theorem style3_ok {n : Nat} {L : List S4} {k : Int} {w : NL} (hL : (L).length ≤ 1000000) (hn : (L).length < n) (hw : w.l.length ≤ 1000000) (hn2 : w.l.length < n) : m_stylesStyleq3 n L k w = some (sty k w.l (L)) := by
 unfold m_stylesStyleq3 m_foldOverstyleschoiceq3 m_slicesValuesapiStyle1q3 m_slicesValuesapiStyleq3
 obtain ⟨a', p', h⟩ := valLoop (B := B_slicesValuesapiStyle1q3_1 n k w 0 0 0 false L (((L).length : Nat) : Int)) k w.l (L)
  (fun i a P b hi => by
   obtain ⟨b1, b2, b3⟩ := b
   unfold B_slicesValuesapiStyle1q3_1
   dsimp only
   cases P with
   | nil =>
    dsimp only
    rw [if_pos (by omega), if_pos (by omega), Int.toNat_natCast]
    try dsimp only [Option.bind_some]
    obtain ⟨k', p', h⟩ := s1_ok (n := n) (w := w) (p := ((L).getD i d4).2.1) (a0 := a) (a1 := b1) (a2 := b2) (a3 := b3) (a4 := ((L).getD i d4).1) (a6 := ((L).getD i d4).2.2.1) (a7 := ((L).getD i d4).2.2.2) (k := k) hw hn2
    have h : m_stylesStyle1q1 n a b1 b2 b3 ((L).getD i (0, nl0, 0, 0)).1 ((L).getD i (0, nl0, 0, 0)).2.1 ((L).getD i (0, nl0, 0, 0)).2.2.1 ((L).getD i (0, nl0, 0, 0)).2.2.2 k w = some (k', p', stp k w.l (b1, b2, b3) ((L).getD i d4)) := h
    unfold m_foldOverstyleschoice_1010y5
    rw [h]
    simp only [Option.bind_some]
    rw [w64_inc (by omega)]
    exact ⟨_, _, rfl⟩
   | cons x t =>
    dsimp only
    rw [if_pos (by omega), if_pos (by omega), Int.toNat_natCast]
    try dsimp only [Option.bind_some]
    obtain ⟨k', p', h⟩ := s2_ok (n := n) (w := w) (p := ((L).getD i d4).2.1) (q := x) (a0 := a) (a1 := b1) (a2 := b2) (a3 := b3) (a4 := ((L).getD i d4).1) (a6 := ((L).getD i d4).2.2.1) (a7 := ((L).getD i d4).2.2.2) (k := k) hw hn2
    have h : m_stylesStyle1q2 n a x b1 b2 b3 ((L).getD i (0, nl0, 0, 0)).1 ((L).getD i (0, nl0, 0, 0)).2.1 ((L).getD i (0, nl0, 0, 0)).2.2.1 ((L).getD i (0, nl0, 0, 0)).2.2.2 k w = some (k', p', stp k w.l (b1, b2, b3) ((L).getD i d4)) := h
    unfold m_foldOverstyleschoice_1010y6
    rw [h]
    simp only [Option.bind_some]
    rw [w64_inc (by omega)]
    exact ⟨_, _, rfl⟩
  )
  (fun a P b => by
   obtain ⟨b1, b2, b3⟩ := b
   unfold B_slicesValuesapiStyle1q3_1
   dsimp only
   cases P with
   | nil => dsimp only; rw [if_neg (by omega)]; exact ⟨_, _, rfl⟩
   | cons x t => dsimp only; rw [if_neg (by omega)]; exact ⟨_, _, rfl⟩) (L).length 0 0 [] (0, 0, false) n (by omega) hn
 have h : m_slicesValuesapiStyle1q3_1 n k w 0 0 0 false L (((L).length : Nat) : Int) (0, [], 0, 0, false, 0) = some (a', p', (L).foldl (stp k w.l) (0, 0, false)) := h
 simp only [Option.bind_some]
 rw [h]
 cases p' <;> rfl


/-! loops that fill a list, or append to it -/
theorem snoc_range {β : Type} {i : Nat} {F : Nat → β} : (List.range (i + 1)).map F = (List.range i).map F ++ [F i] := by
 rw [List.range_succ, List.map_append]; rfl
theorem appLoop {α β : Type} {B : List α × Int → Option ((List α × Int) ⊕ List α)} (v : α → β) (F : Nat → β) (len C : Nat)
  (h1 : ∀ (i : Nat) (acc : List α), i < len → acc.length ≤ C + i → ∃ r, v r = F i ∧ B (acc, (i : Int)) = some (.inl (acc ++ [r], ((i + 1 : Nat) : Int))))
  (h2 : ∀ acc, B (acc, (len : Int)) = some (.inr acc)) (n : Nat) (acc0 : List α) (h0 : acc0.length ≤ C) (hn : len < n) :
  ∃ M, iterM B n (acc0, 0) = some (acc0 ++ M) ∧ M.map v = (List.range len).map F := by
 obtain ⟨r, q1, q2⟩ := hoare (B := B) (σ := List α) (fun L i => (L, i)) (fun i L => ∃ M, L = acc0 ++ M ∧ M.map v = (List.range i).map F) (fun r => ∃ M, r = acc0 ++ M ∧ M.map v = (List.range len).map F) len
  (fun i L hi hI => by
   obtain ⟨M, rfl, hM⟩ := hI
   have hl : M.length = i := by simpa using congrArg List.length hM
   obtain ⟨r, g1, g2⟩ := h1 i (acc0 ++ M) hi (by rw [List.length_append]; omega)
   refine .inl ⟨_, ⟨M ++ [r], by rw [List.append_assoc], ?_⟩, g2⟩
   rw [List.map_append, hM, snoc_range, ← g1]; rfl)
  (fun L hI => ⟨L, hI, h2 L⟩) n 0 acc0 (Nat.zero_le _) ⟨[], by simp, rfl⟩ (by omega)
 obtain ⟨M, rfl, hM⟩ := q1
 exact ⟨M, q2, hM⟩
theorem ext_getD {α : Type} {d : α} {L M : List α} (hl : L.length = M.length) (h : ∀ j, j < M.length → L.getD j d = M.getD j d) : L = M := by
 apply List.ext_getElem hl
 intro j h1 h2
 have := h j h2
 simpa [List.getD_eq_getElem?_getD, h1, h2] using this
theorem range_getD {β : Type} {F : Nat → β} {d : β} {len j : Nat} (h : j < len) : ((List.range len).map F).getD j d = F j := by
 simp [List.getD_eq_getElem?_getD, h]
theorem range_map {α β : Type} {f : α → β} {d : α} {l : List α} : (List.range l.length).map (fun j => f (l.getD j d)) = l.map f := by
 apply List.ext_getElem (by simp)
 intro j h1 h2
 have hj : j < l.length := by simpa using h2
 simp [List.getD_eq_getElem?_getD, hj]
theorem fillLoop {α : Type} {B : List α × Int → Option ((List α × Int) ⊕ List α)} (d : α) (F : Nat → α) (len : Nat)
  (h1 : ∀ (i : Nat) (L : List α), i < len → L.length = len → B (L, (i : Int)) = some (.inl (L.set i (F i), ((i + 1 : Nat) : Int))))
  (h2 : ∀ L, B (L, (len : Int)) = some (.inr L)) (n : Nat) (L0 : List α) (h0 : L0.length = len) (hn : len < n) :
  iterM B n (L0, 0) = some ((List.range len).map F) := by
 obtain ⟨r, rfl, q2⟩ := hoare (B := B) (σ := List α) (fun L i => (L, i)) (fun i L => L.length = len ∧ ∀ j, j < i → L.getD j d = F j) (fun r => r = (List.range len).map F) len
  (fun i L hi hI => .inl ⟨_, ⟨by rw [List.length_set, hI.1], fun j hj => by
   rw [getD_set (by rw [hI.1]; exact hi)]
   by_cases e : j = i
   ·rw [if_pos e, e]
   ·rw [if_neg e]; exact hI.2 j (by omega)⟩, h1 i L hi hI.1⟩)
  (fun L hI => ⟨L, ext_getD (d := d) (by simp [hI.1]) fun j hj => by
   have hj : j < len := by simpa using hj
   rw [hI.2 j hj, range_getD hj], h2 L⟩) n 0 L0 (Nat.zero_le _) ⟨h0, fun j hj => absurd hj (Nat.not_lt_zero _)⟩ (by omega)
 exact q2
/-- a loop that adds up -/
theorem foldLoop {σ : Type} {B : σ × Int → Option ((σ × Int) ⊕ σ)} (g : σ → Nat → σ) (len : Nat)
  (h1 : ∀ (i : Nat) (s : σ), i < len → B (s, (i : Int)) = some (.inl (g s i, ((i + 1 : Nat) : Int))))
  (h2 : ∀ s, B (s, (len : Int)) = some (.inr s)) (n : Nat) (s0 : σ) (hn : len < n) :
  iterM B n (s0, 0) = some ((List.range len).foldl g s0) := by
 obtain ⟨r, rfl, q2⟩ := hoare (B := B) (σ := σ) (fun s i => (s, i)) (fun i s => s = (List.range i).foldl g s0) (fun r => r = (List.range len).foldl g s0) len
  (fun i s hi hI => .inl ⟨_, by rw [List.range_succ, List.foldl_append, hI]; rfl, h1 i s hi⟩)
  (fun s hI => ⟨s, hI, h2 s⟩) n 0 s0 (Nat.zero_le _) rfl (by omega)
 exact q2
theorem getD_take {α : Type} {l : List α} {d : α} {i j : Nat} (h : j < i) : (l.take i).getD j d = l.getD j d := by
 simp [List.getD_eq_getElem?_getD, List.getElem?_take, h]
theorem getD_drop {α : Type} {l : List α} {d : α} {i j : Nat} : (l.drop i).getD j d = l.getD (i + j) d := by
 simp [List.getD_eq_getElem?_getD]
/-- rows of parts as they look -/
abbrev V8 := Int × Int × Int × Int × Int × Int × List Int × Int
def vw (r : Int × Int × Int × Int × Int × Int × NL × Int) : V8 := (r.1, r.2.1, r.2.2.1, r.2.2.2.1, r.2.2.2.2.1, r.2.2.2.2.2.1, r.2.2.2.2.2.2.1.l, r.2.2.2.2.2.2.2)
def mvK (f : Int → Int) (r : V8) : V8 := (r.1, r.2.1, r.2.2.1, r.2.2.2.1, r.2.2.2.2.1, r.2.2.2.2.2.1, r.2.2.2.2.2.2.1.map f, r.2.2.2.2.2.2.2)


def ins (i v : Int) : Int := w64 (v + i)
def rk (r : P8) (k : NL) : P8 := (r.1, r.2.1, r.2.2.1, r.2.2.2.1, r.2.2.2.2.1, r.2.2.2.2.2.1, k, r.2.2.2.2.2.2.2)
theorem vw_rk {r : P8} {k : NL} {f : Int → Int} (h : k.l = r.2.2.2.2.2.2.1.l.map f) : vw (rk r k) = mvK f (vw r) := by
 show (_, _, _, _, _, _, k.l, _) = _
 rw [h]; rfl
/-- rows whose kids are few -/
def FewK (n : Nat) (L : List P8) : Prop := ∀ r ∈ L, r.2.2.2.2.2.2.1.l.length ≤ 1000000 ∧ r.2.2.2.2.2.2.1.l.length < n
theorem fewD {n : Nat} {L : List P8} (h : FewK n L) {i : Nat} (hi : i < L.length) : (L.getD i d8).2.2.2.2.2.2.1.l.length ≤ 1000000 ∧ (L.getD i d8).2.2.2.2.2.2.1.l.length < n := h _ (getD_mem hi)
theorem few_of [Cur] (hT : Tree) {n : Nat} (hn : Cur.x.l.length < n) : FewK n Cur.x.l := fun r hr => by
 obtain ⟨i, hi, rfl⟩ := mem_getD d8 hr
 have := hT.few i
 have hm := hT.max
 exact ⟨by show (kd i).length ≤ _; omega, by show (kd i).length < _; omega⟩
def TreeOf (y : WL rw_iiiiiiLu) : Prop := @Tree _ ⟨y⟩
theorem chk {n : Nat} {x : WL rw_iiiiiiLu} (hT : TreeOf x) (hn : x.l.length < n) : m_treeCheckq1 n x = some 0 := @check_ok _ ⟨x⟩ n hT hn
abbrev KsOf (x : WL rw_iiiiiiLu) (i k next : Nat) (a : Int) (e : Nat) : Prop := @Ks _ ⟨x⟩ i k next a e
abbrev atOf (x : WL rw_iiiiiiLu) (i : Nat) : Int := @atF _ ⟨x⟩ i
/-- the document's check -/
theorem refC {n : Nat} {x : WL rw_iiiiiiLu} (hL : x.l.length ≤ 1000000) {K : Nat} (hK : ∀ j, (@kd _ ⟨x⟩ j).length ≤ K) (hn : x.l.length + K + 20 < n) : ∃ c, m_viewportref16Checkq1 n x = some c ∧ (c = 0 → TreeOf x) := @refCheck_ok _ ⟨x⟩ n K hK hn hL


/-! trees that are gone through -/
theorem lightP {n mo : Nat} {x : WL rw_iiiiiiLu} (hm : mo ≤ 1000) (hn : mo + 5 < n) : ∃ b, m_viewportkitLightPartsq1 n x (mo : Int) = some b ∧ (b = true → x.l.length ≤ mo ∧ ∀ r ∈ x.l, r.2.2.1 ≤ 1048576 ∧ r.2.2.2.2.1 ≤ 1048576 ∧ r.2.2.2.2.2.1 ≤ 1048576 ∧ -1048576 ≤ r.2.2.1 ∧ -1048576 ≤ r.2.2.2.2.1 ∧ -1048576 ≤ r.2.2.2.2.2.1) := by
 obtain ⟨r, hr, h⟩ := whileI (B := B_viewportkitLightPartsq1_1 n x (mo : Int)) (fun s => ∃ i : Nat, s.2 = i ∧ i ≤ mo + 1 ∧ ∀ j, j < i → j < x.l.length → (x.l.getD j d8).2.2.1 ≤ 1048576 ∧ (x.l.getD j d8).2.2.2.2.1 ≤ 1048576 ∧ (x.l.getD j d8).2.2.2.2.2.1 ≤ 1048576 ∧ -1048576 ≤ (x.l.getD j d8).2.2.1 ∧ -1048576 ≤ (x.l.getD j d8).2.2.2.2.1 ∧ -1048576 ≤ (x.l.getD j d8).2.2.2.2.2.1) (fun s => mo + 1 - s.2.toNat) (fun r => r = .inl () ∨ ∀ j, j < mo + 1 → j < x.l.length → (x.l.getD j d8).2.2.1 ≤ 1048576 ∧ (x.l.getD j d8).2.2.2.2.1 ≤ 1048576 ∧ (x.l.getD j d8).2.2.2.2.2.1 ≤ 1048576 ∧ -1048576 ≤ (x.l.getD j d8).2.2.1 ∧ -1048576 ≤ (x.l.getD j d8).2.2.2.2.1 ∧ -1048576 ≤ (x.l.getD j d8).2.2.2.2.2.1)
  (fun s hI => by
   obtain ⟨c, q⟩ := s
   obtain ⟨i, rfl, hi, hI⟩ := hI
   unfold B_viewportkitLightPartsq1_1
   dsimp only
   by_cases c1 : (i : Int) < ((x.l.length : Nat) : Int)
   ·rw [if_pos c1]
    by_cases c2 : (i : Int) ≤ (mo : Int)
    ·rw [if_pos c2, if_pos (by omega), w64_inc (by omega), Int.toNat_natCast]
     simp only [Option.bind_some]
     have hx : x.l.getD i (0, 0, 0, 0, 0, 0, nl0, 0) = x.l.getD i d8 := rfl
     rw [hx]
     by_cases d1 : (x.l.getD i d8).2.2.1 > 1048576
     ·rw [if_pos d1]; exact .inr ⟨_, .inl rfl, rfl⟩
     rw [if_neg d1]
     by_cases d2 : (x.l.getD i d8).2.2.2.2.1 > 1048576
     ·rw [if_pos d2]; exact .inr ⟨_, .inl rfl, rfl⟩
     rw [if_neg d2]
     by_cases d3 : (x.l.getD i d8).2.2.2.2.2.1 > 1048576
     ·rw [if_pos d3]; exact .inr ⟨_, .inl rfl, rfl⟩
     rw [if_neg d3]
     by_cases d4 : (x.l.getD i d8).2.2.1 < -1048576
     ·rw [if_pos d4]; exact .inr ⟨_, .inl rfl, rfl⟩
     rw [if_neg d4]
     by_cases d5 : (x.l.getD i d8).2.2.2.2.1 < -1048576
     ·rw [if_pos d5]; exact .inr ⟨_, .inl rfl, rfl⟩
     rw [if_neg d5]
     by_cases d6 : (x.l.getD i d8).2.2.2.2.2.1 < -1048576
     ·rw [if_pos d6]; exact .inr ⟨_, .inl rfl, rfl⟩
     rw [if_neg d6]
     refine .inl ⟨(_, ((i + 1 : Nat) : Int)), ⟨i + 1, rfl, by omega, fun j h1 h2 => ?_⟩, by dsimp only; omega, rfl⟩
     rcases Nat.lt_or_ge j i with h | h
     ·exact hI j h h2
     ·obtain rfl : j = i := by omega
      omega
    ·rw [if_neg c2]; exact .inr ⟨_, .inr fun j h1 h2 => hI j (by omega) h2, rfl⟩
   ·rw [if_neg c1]; exact .inr ⟨_, .inr fun j h1 h2 => hI j (by omega) h2, rfl⟩) n (0, 0) ⟨0, rfl, by omega, fun j h => absurd h (Nat.not_lt_zero _)⟩ (by dsimp only; omega)
 unfold m_viewportkitLightPartsq1 m_viewportkitLightPartsq1_1
 rw [h]
 rcases r with r | r
 ·exact ⟨_, rfl, fun h => by cases h⟩
 ·have hr := hr.resolve_left (fun h => by cases h)
  dsimp only
  by_cases c1 : ((x.l.length : Nat) : Int) ≤ (mo : Int)
  ·rw [if_pos c1]
   have key : x.l.length ≤ mo ∧ ∀ r ∈ x.l, r.2.2.1 ≤ 1048576 ∧ r.2.2.2.2.1 ≤ 1048576 ∧ r.2.2.2.2.2.1 ≤ 1048576 ∧ -1048576 ≤ r.2.2.1 ∧ -1048576 ≤ r.2.2.2.2.1 ∧ -1048576 ≤ r.2.2.2.2.2.1 := ⟨by omega, fun r hm => by
    obtain ⟨j, hj, rfl⟩ := mem_getD d8 hm
    exact hr j (by omega) hj⟩
   split
   ·exact ⟨_, rfl, fun _ => key⟩
   ·exact ⟨_, rfl, fun h => by cases h⟩
  ·rw [if_neg c1]; exact ⟨_, rfl, fun h => by cases h⟩


theorem pickW {n k : Nat} {x : Int} (h0 : 1 ≤ k) (hk : k ≤ 1000) : ∃ e : Nat, m_viewportkitPickq1 n x (k : Int) = some (e : Int) ∧ e < k := by
 have hlt := Int.tmod_lt_of_pos x (show (0 : Int) < (k : Int) by omega)
 have hgt : -(k : Int) < Int.tmod x k := by
  rw [← Int.neg_neg (Int.tmod x k), ← Int.neg_tmod]
  have := Int.tmod_lt_of_pos (-x) (show (0 : Int) < (k : Int) by omega)
  omega
 unfold m_viewportkitPickq1
 rw [if_neg (by omega), if_pos (by omega)]
 by_cases h : Int.tmod x k < 0
 ·rw [if_pos h, w64_sm (by omega) (by omega)]
  refine ⟨(Int.tmod x k + k).toNat, ?_, by omega⟩
  rw [Int.toNat_of_nonneg (by omega)]
 ·rw [if_neg h]
  refine ⟨(Int.tmod x k).toNat, ?_, by omega⟩
  rw [Int.toNat_of_nonneg (by omega)]


/-! a leaf's style -/
def wayOf (p : List Int) : List Int := p.take (p.length - 1)
theorem leaf1_ok {n i : Nat} {L : List S4} {x : WL rw_iiiiiiLu} {p : NL} (hL : (L).length ≤ 1000000) (hn : (L).length < n) (hx : x.l.length ≤ 1000000) (hn2 : p.l.length < n) (hi : i < x.l.length) (hp : m_treePathq1 n x (i : Int) = some p) (h1 : 1 ≤ p.l.length) (h2 : p.l.length ≤ 1000000) :
  m_stylesLeafq1 n L x (i : Int) = some (if (x.l.getD i (0, 0, 0, 0, 0, 0, nl0, 0)).2.1 = 3 ∨ (x.l.getD i (0, 0, 0, 0, 0, 0, nl0, 0)).2.1 = 5 then sty (x.l.getD i (0, 0, 0, 0, 0, 0, nl0, 0)).1 (wayOf p.l) (L) else 0) := by
 unfold m_stylesLeafq1
 have e : ∀ h : 0 ≤ p.l.length - 1 ∧ p.l.length - 1 ≤ p.l.length, (nlSub p 0 (p.l.length - 1) h).l = wayOf p.l := fun h => by
  show (p.l.drop 0).take (p.l.length - 1 - 0) = _
  rw [List.drop_zero, Nat.sub_zero]; rfl
 have hs := fun h : 0 ≤ p.l.length - 1 ∧ p.l.length - 1 ≤ p.l.length => style1_ok (n := n) (L := L) (k := (x.l.getD i (0, 0, 0, 0, 0, 0, nl0, 0)).1) (w := nlSub p 0 (p.l.length - 1) h) hL hn (by rw [e h]; unfold wayOf; rw [List.length_take]; omega) (by rw [e h]; unfold wayOf; rw [List.length_take]; omega)
 rw [hp]
 simp only [Option.bind_some]
 rw [if_neg (by omega), if_pos (by omega), Int.toNat_natCast]
 by_cases c1 : (x.l.getD i (0, 0, 0, 0, 0, 0, nl0, 0)).2.1 = 3
 ·rw [if_pos c1, if_pos (show (x.l.getD i (0, 0, 0, 0, 0, 0, nl0, 0)).2.1 = 3 ∨ (x.l.getD i (0, 0, 0, 0, 0, 0, nl0, 0)).2.1 = 5 from .inl c1), w64_sm (by omega) (by omega), if_pos (by omega), dif_pos (by omega)]
  have e2 : ((p.l.length : Int) - 1).toNat = p.l.length - 1 := by omega
  simp only [e2]
  rw [hs (by omega), e (by omega)]
  rfl
 ·by_cases c2 : (x.l.getD i (0, 0, 0, 0, 0, 0, nl0, 0)).2.1 = 5
  ·rw [if_neg c1, if_pos c2, if_pos (show (x.l.getD i (0, 0, 0, 0, 0, 0, nl0, 0)).2.1 = 3 ∨ (x.l.getD i (0, 0, 0, 0, 0, 0, nl0, 0)).2.1 = 5 from .inr c2), w64_sm (by omega) (by omega), if_pos (by omega), dif_pos (by omega)]
   have e2 : ((p.l.length : Int) - 1).toNat = p.l.length - 1 := by omega
   simp only [e2]
   rw [hs (by omega), e (by omega)]
   rfl
  ·rw [if_neg c1, if_neg c2, if_neg (by omega)]
theorem leaf2_ok {n i : Nat} {L : WL rw_iLii} {x : WL rw_iiiiiiLu} {p : NL} (hL : (L.l).length ≤ 1000000) (hn : (L.l).length < n) (hx : x.l.length ≤ 1000000) (hn2 : p.l.length < n) (hi : i < x.l.length) (hp : m_treePathq1 n x (i : Int) = some p) (h1 : 1 ≤ p.l.length) (h2 : p.l.length ≤ 1000000) :
  m_stylesLeafq2 n L x (i : Int) = some (if (x.l.getD i (0, 0, 0, 0, 0, 0, nl0, 0)).2.1 = 3 ∨ (x.l.getD i (0, 0, 0, 0, 0, 0, nl0, 0)).2.1 = 5 then sty (x.l.getD i (0, 0, 0, 0, 0, 0, nl0, 0)).1 (wayOf p.l) (L.l) else 0) := by
 unfold m_stylesLeafq2
 have e : ∀ h : 0 ≤ p.l.length - 1 ∧ p.l.length - 1 ≤ p.l.length, (nlSub p 0 (p.l.length - 1) h).l = wayOf p.l := fun h => by
  show (p.l.drop 0).take (p.l.length - 1 - 0) = _
  rw [List.drop_zero, Nat.sub_zero]; rfl
 have hs := fun h : 0 ≤ p.l.length - 1 ∧ p.l.length - 1 ≤ p.l.length => style2_ok (n := n) (L := L) (k := (x.l.getD i (0, 0, 0, 0, 0, 0, nl0, 0)).1) (w := nlSub p 0 (p.l.length - 1) h) hL hn (by rw [e h]; unfold wayOf; rw [List.length_take]; omega) (by rw [e h]; unfold wayOf; rw [List.length_take]; omega)
 rw [hp]
 simp only [Option.bind_some]
 rw [if_neg (by omega), if_pos (by omega), Int.toNat_natCast]
 by_cases c1 : (x.l.getD i (0, 0, 0, 0, 0, 0, nl0, 0)).2.1 = 3
 ·rw [if_pos c1, if_pos (show (x.l.getD i (0, 0, 0, 0, 0, 0, nl0, 0)).2.1 = 3 ∨ (x.l.getD i (0, 0, 0, 0, 0, 0, nl0, 0)).2.1 = 5 from .inl c1), w64_sm (by omega) (by omega), if_pos (by omega), dif_pos (by omega)]
  have e2 : ((p.l.length : Int) - 1).toNat = p.l.length - 1 := by omega
  simp only [e2]
  rw [hs (by omega), e (by omega)]
  rfl
 ·by_cases c2 : (x.l.getD i (0, 0, 0, 0, 0, 0, nl0, 0)).2.1 = 5
  ·rw [if_neg c1, if_pos c2, if_pos (show (x.l.getD i (0, 0, 0, 0, 0, 0, nl0, 0)).2.1 = 3 ∨ (x.l.getD i (0, 0, 0, 0, 0, 0, nl0, 0)).2.1 = 5 from .inr c2), w64_sm (by omega) (by omega), if_pos (by omega), dif_pos (by omega)]
   have e2 : ((p.l.length : Int) - 1).toNat = p.l.length - 1 := by omega
   simp only [e2]
   rw [hs (by omega), e (by omega)]
   rfl
  ·rw [if_neg c1, if_neg c2, if_neg (by omega)]
theorem leaf3_ok {n i : Nat} {L : List S4} {x : WL rw_iiiiiiLu} {p : NL} (hL : (L).length ≤ 1000000) (hn : (L).length < n) (hx : x.l.length ≤ 1000000) (hn2 : p.l.length < n) (hi : i < x.l.length) (hp : m_treePathq1 n x (i : Int) = some p) (h1 : 1 ≤ p.l.length) (h2 : p.l.length ≤ 1000000) :
  m_stylesLeafq3 n L x (i : Int) = some (if (x.l.getD i (0, 0, 0, 0, 0, 0, nl0, 0)).2.1 = 3 ∨ (x.l.getD i (0, 0, 0, 0, 0, 0, nl0, 0)).2.1 = 5 then sty (x.l.getD i (0, 0, 0, 0, 0, 0, nl0, 0)).1 (wayOf p.l) (L) else 0) := by
 unfold m_stylesLeafq3
 have e : ∀ h : 0 ≤ p.l.length - 1 ∧ p.l.length - 1 ≤ p.l.length, (nlSub p 0 (p.l.length - 1) h).l = wayOf p.l := fun h => by
  show (p.l.drop 0).take (p.l.length - 1 - 0) = _
  rw [List.drop_zero, Nat.sub_zero]; rfl
 have hs := fun h : 0 ≤ p.l.length - 1 ∧ p.l.length - 1 ≤ p.l.length => style3_ok (n := n) (L := L) (k := (x.l.getD i (0, 0, 0, 0, 0, 0, nl0, 0)).1) (w := nlSub p 0 (p.l.length - 1) h) hL hn (by rw [e h]; unfold wayOf; rw [List.length_take]; omega) (by rw [e h]; unfold wayOf; rw [List.length_take]; omega)
 rw [hp]
 simp only [Option.bind_some]
 rw [if_neg (by omega), if_pos (by omega), Int.toNat_natCast]
 by_cases c1 : (x.l.getD i (0, 0, 0, 0, 0, 0, nl0, 0)).2.1 = 3
 ·rw [if_pos c1, if_pos (show (x.l.getD i (0, 0, 0, 0, 0, 0, nl0, 0)).2.1 = 3 ∨ (x.l.getD i (0, 0, 0, 0, 0, 0, nl0, 0)).2.1 = 5 from .inl c1), w64_sm (by omega) (by omega), if_pos (by omega), dif_pos (by omega)]
  have e2 : ((p.l.length : Int) - 1).toNat = p.l.length - 1 := by omega
  simp only [e2]
  rw [hs (by omega), e (by omega)]
  rfl
 ·by_cases c2 : (x.l.getD i (0, 0, 0, 0, 0, 0, nl0, 0)).2.1 = 5
  ·rw [if_neg c1, if_pos c2, if_pos (show (x.l.getD i (0, 0, 0, 0, 0, 0, nl0, 0)).2.1 = 3 ∨ (x.l.getD i (0, 0, 0, 0, 0, 0, nl0, 0)).2.1 = 5 from .inr c2), w64_sm (by omega) (by omega), if_pos (by omega), dif_pos (by omega)]
   have e2 : ((p.l.length : Int) - 1).toNat = p.l.length - 1 := by omega
   simp only [e2]
   rw [hs (by omega), e (by omega)]
   rfl
  ·rw [if_neg c1, if_neg c2, if_neg (by omega)]
/-! what counts -/
theorem stp_miss {k : Int} {w : List Int} {b : B3} {s : S4} (h : mat k w s = false) : stp k w b s = b := by unfold stp; rw [h]; rfl
theorem fold_prio {k : Int} {w : List Int} {m : Int} : ∀ {L : List S4} {b : B3}, (∀ s ∈ L, s.2.2.2 ≤ m) → (b.2.2 = true → b.2.1 ≤ m) → (L.foldl (stp k w) b).2.2 = true → (L.foldl (stp k w) b).2.1 ≤ m
 | [], b, _, hb, h => hb h
 | s :: L, b, hL, hb, h => by
  rw [List.foldl_cons] at h ⊢
  refine fold_prio (fun t ht => hL t (List.mem_cons_of_mem _ ht)) (fun h2 => ?_) h
  have hs := hL s (List.mem_cons_self ..)
  unfold stp at h2 ⊢
  split
  ·split
   ·rename_i h3; exact hb h3.1
   ·exact hs
  ·rename_i h3
   rw [if_neg h3] at h2
   exact hb h2
theorem own_wins {k : Int} {w : List Int} {m : Int} {L : List S4} {s : S4} (hL : ∀ t ∈ L, t.2.2.2 ≤ m) (hs : m < s.2.2.2) (hm : mat k w s = true) : sty k w (L ++ [s]) = s.2.2.1 := by
 unfold sty
 rw [List.foldl_append]
 have hp := fold_prio (k := k) (w := w) (b := (0, 0, false)) hL (fun h => by cases h)
 show (stp k w (L.foldl (stp k w) (0, 0, false)) s).1 = _
 generalize L.foldl (stp k w) (0, 0, false) = b at hp ⊢
 unfold stp
 rw [if_pos hm, if_neg]
 intro h
 have := hp h.1
 omega
theorem other_idle {k : Int} {w : List Int} {L : List S4} {s : S4} (hm : mat k w s = false) : sty k w ([s] ++ L) = sty k w L := by
 unfold sty
 show (L.foldl (stp k w) (stp k w (0, 0, false) s)).1 = _
 rw [stp_miss hm]
theorem w64_ne (k : Int) : w64 (k + 1) ≠ k := by
 show IntKind.i64.wrap (k + 1) ≠ k
 rw [IntKind.wrap_i64]
 omega
theorem mat_own {k : Int} {w p : List Int} {s : S4} {c : Nat} (h1 : s.1 = k) (h2 : s.2.1.l = w.drop c) (hc : c ≤ w.length) : mat k w s = true := by
 unfold mat endsL
 rw [h1, h2, decide_eq_true rfl, Bool.true_and]
 refine decide_eq_true ⟨by rw [List.length_drop]; omega, ?_⟩
 rw [List.length_drop, show w.length - (w.length - c) = c by omega]
theorem mat_other {k : Int} {w : List Int} {s : S4} (h1 : s.1 ≠ k) : mat k w s = false := by
 unfold mat
 rw [decide_eq_false h1, Bool.false_and]
/-! the law -/
theorem maxLoop {n : Nat} {x : WL rw_iLii} {y : WL rw_iiiiiiLu} {i k : Int} {p : NL} (hx : x.l.length ≤ 1000000) (hn : x.l.length < n) : (m_viewportlaw26StylesOwn_9 n x y i k p (-1099511627776, 0) = some (.inl ())) ∨ ∃ m, m_viewportlaw26StylesOwn_9 n x y i k p (-1099511627776, 0) = some (.inr m) ∧ -1099511627776 ≤ m ∧ m ≤ 1099511627776 ∧ ∀ s ∈ x.l, s.2.2.2 ≤ m := by
 obtain ⟨r, q1, q2⟩ := hoare (B := B_viewportlaw26StylesOwn_9 n x y i k p) (σ := Int) (fun s j => (s, j)) (fun j m => -1099511627776 ≤ m ∧ m ≤ 1099511627776 ∧ ∀ s ∈ x.l.take j, s.2.2.2 ≤ m) (fun r => r = .inl () ∨ ∃ m, r = .inr m ∧ -1099511627776 ≤ m ∧ m ≤ 1099511627776 ∧ ∀ s ∈ x.l, s.2.2.2 ≤ m) x.l.length
  (fun j m hj hI => by
   obtain ⟨h1, h2, h3⟩ := hI
   unfold B_viewportlaw26StylesOwn_9 m_viewportlaw26StylesOwnt10
   dsimp only
   rw [if_pos (by omega), if_pos (by omega), Int.toNat_natCast]
   simp only [Option.bind_some]
   by_cases c : (x.l.getD j (0, nl0, 0, 0)).2.2.2 > 1099511627776
   ·rw [if_pos c]; exact .inr ⟨_, .inl rfl, rfl⟩
   ·rw [if_neg c]
    refine .inl ⟨maxB m (x.l.getD j (0, nl0, 0, 0)).2.2.2, ⟨by show _ ≤ (if _ then _ else _); split <;> omega, by show (if _ then _ else _) ≤ _; split <;> omega, fun s hs => ?_⟩, by rw [w64_inc (by omega)]⟩
    rw [List.take_add_one, List.getElem?_eq_getElem hj] at hs
    have hx : x.l.getD j (0, nl0, 0, 0) = x.l[j] := by simp [List.getD_eq_getElem?_getD, hj]
    rw [hx]
    show _ ≤ (if x.l[j].2.2.2 > m then x.l[j].2.2.2 else m)
    rcases List.mem_append.1 hs with hs | hs
    ·have := h3 s hs
     split <;> omega
    ·obtain rfl : s = x.l[j] := by simpa using hs
     split <;> omega)
  (fun m hI => by
   obtain ⟨h1, h2, h3⟩ := hI
   unfold B_viewportlaw26StylesOwn_9
   dsimp only
   rw [if_neg (by omega)]
   exact ⟨_, .inr ⟨m, rfl, h1, h2, by rwa [List.take_length] at h3⟩, rfl⟩) n 0 (-1099511627776) (Nat.zero_le _) ⟨by omega, by omega, fun s hs => by simp at hs⟩ (by omega)
 rcases q1 with rfl | ⟨m, rfl, h⟩
 ·exact .inl q2
 ·exact .inr ⟨m, q2, h⟩
theorem t11_ok {n i : Nat} {x : WL rw_iLii} {y : WL rw_iiiiiiLu} {p s : NL} {m : Int} {c : Nat} (hx : x.l.length ≤ 70) (hy : y.l.length ≤ 1000) (hn : 3000 < n) (hi : i < y.l.length) (hp : m_treePathq1 n y (i : Int) = some p) (h1 : 1 ≤ p.l.length) (h2 : p.l.length ≤ 2000)
  (hk : (y.l.getD i (0, 0, 0, 0, 0, 0, nl0, 0)).2.1 = 3 ∨ (y.l.getD i (0, 0, 0, 0, 0, 0, nl0, 0)).2.1 = 5) (hm : -1099511627776 ≤ m ∧ m ≤ 1099511627776) (hmx : ∀ s ∈ x.l, s.2.2.2 ≤ m) (hs : s.l = (wayOf p.l).drop c) (hc : c ≤ (wayOf p.l).length) :
  m_viewportlaw26StylesOwnt11 n x y (i : Int) (y.l.getD i (0, 0, 0, 0, 0, 0, nl0, 0)).1 s m () = some () := by
 unfold m_viewportlaw26StylesOwnt11
 have hw : w64 (m + 1) = m + 1 := w64_id (by omega) (by omega)
 have hne := w64_ne (y.l.getD i (0, 0, 0, 0, 0, 0, nl0, 0)).1
 rw [hw]
 generalize hkk : (y.l.getD i (0, 0, 0, 0, 0, 0, nl0, 0)).1 = k at hne
 have g1 := mat_own (k := k) (w := wayOf p.l) (p := []) (s := (k, s, 77, m + 1)) rfl hs hc
 have g2 := mat_other (k := k) (w := wayOf p.l) (s := (w64 (k + 1), s, 77, m + 1)) hne
 by_cases c0 : 0 < x.l.length
 ·rw [if_pos c0, if_pos (by omega), if_pos (by omega), if_pos (by rw [List.nil_append]; omega)]
  rw [leaf1_ok (by rw [List.length_append, List.nil_append]; show _ + 1 ≤ _; omega) (by rw [List.length_append, List.nil_append]; show _ + 1 < _; omega) (by omega) (by omega) hi hp h1 (by omega), if_pos hk, hkk, List.nil_append, own_wins hmx (by show m < m + 1; omega) g1]
  simp only [Option.bind_some]
  rw [if_pos trivial, if_pos (by omega), if_pos (by omega)]
  rw [leaf1_ok (by rw [List.length_append]; show 1 + _ ≤ _; omega) (by rw [List.length_append]; show 1 + _ < _; omega) (by omega) (by omega) hi hp h1 (by omega), if_pos hk, hkk, other_idle g2]
  simp only [Option.bind_some]
  rw [leaf2_ok (by omega) (by omega) (by omega) (by omega) hi hp h1 (by omega), if_pos hk, hkk]
  simp only [Option.bind_some]
  rw [if_pos trivial]
 ·rw [if_neg c0]
  have hx0 : x.l = [] := List.length_eq_zero_iff.1 (by omega)
  rw [leaf1_ok (by show 1 ≤ _; omega) (by show 1 < _; omega) (by omega) (by omega) hi hp h1 (by omega), if_pos hk, hkk]
  have w1 := own_wins (L := []) (fun t ht => by cases ht) (by show m < m + 1; omega) g1
  rw [List.nil_append] at w1
  rw [w1]
  simp only [Option.bind_some]
  rw [if_pos trivial]
  rw [leaf3_ok (by show 1 ≤ _; omega) (by show 1 < _; omega) (by omega) (by omega) hi hp h1 (by omega), if_pos hk, hkk]
  have w2 := other_idle (L := []) g2
  rw [List.append_nil] at w2
  rw [w2]
  simp only [Option.bind_some]
  rw [leaf2_ok (by omega) (by omega) (by omega) (by omega) hi hp h1 (by omega), if_pos hk, hkk, hx0]
  simp only [Option.bind_some]
  rw [if_pos trivial]
theorem t6_ok {n i K : Nat} {x : WL rw_iLii} {y : WL rw_iiiiiiLu} {g : Int} (hT : TreeOf y) (hc : m_viewportref16Checkq1 n y = some 0) (hx : x.l.length ≤ 70) (hy : y.l.length ≤ 100) (hn : 3000 < n) (hi : i < y.l.length)
  (hk : (y.l.getD i (0, 0, 0, 0, 0, 0, nl0, 0)).2.1 = 3 ∨ (y.l.getD i (0, 0, 0, 0, 0, 0, nl0, 0)).2.1 = 5) : m_viewportlaw26StylesOwnt6 n x y (i : Int) g () = some () := by
 obtain ⟨M, hU, p, hp, hpl⟩ := @path_ok _ ⟨y⟩ n i hT (by show y.l.length < n; omega) hi
 obtain ⟨r, hr, hrl⟩ := @refPath _ ⟨y⟩ n y.l.length i M hT (fun j => @Tree.few _ ⟨y⟩ hT j) (by show y.l.length + y.l.length + 10 < n; omega) hc hi hU
 have hp : m_treePathq1 n y (i : Int) = some p := hp
 have hr : m_viewportref16Pathq1 n y (i : Int) = some r := hr
 have hM := @Up.len _ ⟨y⟩ hT _ _ hU
 have hMl := @syms_len _ ⟨y⟩ M
 have hpr : p.l = r.l := by rw [hpl, hrl]
 have hpl1 : p.l.length = M.length := by rw [hpl, hMl]
 have hrl1 : r.l.length = M.length := by rw [hrl, hMl]
 unfold m_viewportlaw26StylesOwnt6 m_viewportlaw26StylesOwnt7
 rw [hr]
 simp only [Option.bind_some]
 rw [w64_sm (x := (r.l.length : Int) - 1) (by omega) (by omega), if_pos (by omega), dif_pos (by omega), if_pos (by omega)]
 have e2 : ((r.l.length : Int) - 1).toNat = r.l.length - 1 := by omega
 simp only [e2]
 have e3 : ∀ h : 0 ≤ r.l.length - 1 ∧ r.l.length - 1 ≤ r.l.length, (nlSub r 0 (r.l.length - 1) h).l = wayOf p.l := fun h => by
  show (r.l.drop 0).take (r.l.length - 1 - 0) = _
  rw [List.drop_zero, Nat.sub_zero, hpr]; rfl
 have e4 : (wayOf p.l).length = M.length - 1 := by unfold wayOf; rw [List.length_take, hpl1]; omega
 have inner : ∀ z : NL, z.l = wayOf p.l → ((m_viewportkitPickq1 n g (w64 (((z.l.length : Nat) : Int) + 1))).bind fun y7_7_ => if 0 ≤ y7_7_ then if h : y7_7_.toNat ≤ z.l.length ∧ z.l.length ≤ z.l.length then (m_viewportlaw26StylesOwnt8 n x y (i : Int) (y.l.getD ((i : Nat) : Int).toNat (0, 0, 0, 0, 0, 0, nl0, 0)).1 (nlSub z y7_7_.toNat z.l.length h) ()).bind fun _ => some () else none else none) = some () := fun z hz3 => by
  have hzl : z.l.length = M.length - 1 := by rw [hz3, e4]
  obtain ⟨c, h1, h2⟩ := pickW (n := n) (k := z.l.length + 1) (x := g) (by omega) (by omega)
  rw [w64_sm (x := (z.l.length : Int) + 1) (by omega) (by omega), show ((z.l.length : Int) + 1) = ((z.l.length + 1 : Nat) : Int) by omega, h1]
  simp only [Option.bind_some, Int.toNat_natCast]
  rw [if_pos (by omega), dif_pos (by omega)]
  have h8 : ∀ h, m_viewportlaw26StylesOwnt8 n x y (i : Int) (y.l.getD i (0, 0, 0, 0, 0, 0, nl0, 0)).1 (nlSub z c z.l.length h) () = some () := fun h => by
   unfold m_viewportlaw26StylesOwnt8
   rcases maxLoop (n := n) (x := x) (y := y) (i := (i : Int)) (k := (y.l.getD i (0, 0, 0, 0, 0, 0, nl0, 0)).1) (p := nlSub z c z.l.length h) (by omega) (by omega) with h3 | ⟨m, h3, h4, h5, h6⟩
   ·rw [h3]
   ·rw [h3]
    simp only
    rw [t11_ok (c := c) hx (by omega) hn hi hp (by omega) (by omega) hk ⟨h4, h5⟩ h6 (by
     show (z.l.drop c).take (z.l.length - c) = _
     rw [List.take_of_length_le (by rw [List.length_drop]; exact Nat.le_refl _), hz3]) (by rw [e4]; omega)]
    rfl
  rw [h8]
  rfl
 rw [inner _ (e3 _)]
 rfl
theorem lightS {n : Nat} {x : WL rw_iLii} (hn : x.l.length < n) : ∃ b, m_viewportkitLightStylesq1 n x = some b ∧ (b = true → x.l.length ≤ 70) := by
 have hle := x.le
 obtain ⟨r, -, hr⟩ := hoare (B := B_viewportkitLightStylesq1_1 n x) (σ := Unit) (fun _ j => j) (fun _ _ => True) (fun _ => True) x.l.length
  (fun j _ hj _ => by
   unfold B_viewportkitLightStylesq1_1
   dsimp only
   rw [if_pos (by omega), if_pos (by omega)]
   simp only [Option.bind_some]
   split
   ·exact .inr ⟨_, trivial, rfl⟩
   ·exact .inl ⟨(), trivial, by rw [@w64_inc' _ ⟨wB⟩ j (by omega)]⟩)
  (fun _ _ => by
   unfold B_viewportkitLightStylesq1_1
   dsimp only
   rw [if_neg (by omega)]
   exact ⟨_, trivial, rfl⟩) n 0 () (Nat.zero_le _) trivial (by omega)
 unfold m_viewportkitLightStylesq1
 rw [show m_viewportkitLightStylesq1_1 n x 0 = some r from hr]
 rcases r with r | r
 ·exact ⟨false, rfl, fun h => by cases h⟩
 ·dsimp only
  by_cases c : ((x.l.length : Nat) : Int) ≤ 70
  ·rw [if_pos c]; exact ⟨true, rfl, fun _ => by omega⟩
  ·rw [if_neg c]; exact ⟨false, rfl, fun h => by cases h⟩
theorem t4_ok {n : Nat} {x : WL rw_iLii} {y : WL rw_iiiiiiLu} {g h : Int} (hT : TreeOf y) (hc : m_viewportref16Checkq1 n y = some 0) (hx : x.l.length ≤ 70) (hy : y.l.length ≤ 100) (hn : 3000 < n) : m_viewportlaw26StylesOwnt4 n x y g h () = some () := by
 have hpos : 0 < y.l.length := @Tree.pos _ ⟨y⟩ hT
 obtain ⟨i, h1, hi⟩ := pickW (n := n) (k := y.l.length) (x := g) (by omega) (by omega)
 unfold m_viewportlaw26StylesOwnt4 m_viewportlaw26StylesOwnt5
 rw [h1]
 simp only [Option.bind_some]
 rw [if_pos (by omega), Int.toNat_natCast]
 by_cases c1 : (y.l.getD i (0, 0, 0, 0, 0, 0, nl0, 0)).2.1 = 3
 ·rw [if_pos c1, t6_ok (K := 0) hT hc hx hy hn hi (.inl c1)]; rfl
 ·rw [if_neg c1]
  by_cases c2 : (y.l.getD i (0, 0, 0, 0, 0, 0, nl0, 0)).2.1 = 5
  ·rw [if_pos c2, t6_ok (K := 0) hT hc hx hy hn hi (.inr c2)]; rfl
  ·obtain ⟨M, hU, p, hp, hpl⟩ := @path_ok _ ⟨y⟩ n i hT (by show y.l.length < n; omega) hi
   have hM := @Up.len _ ⟨y⟩ hT _ _ hU
   have hMl := @syms_len _ ⟨y⟩ M
   have hpl1 : p.l.length = M.length := by rw [hpl, hMl]
   rw [if_neg c2, leaf2_ok (by omega) (by omega) (by omega) (by omega) hi hp (by omega) (by omega), if_neg (by omega)]
   rfl
theorem stylesOwn_true (g2 g3 : Int) : ∃ n, m_viewportlaw26StylesOwn n g2 g3 = some () := by
 obtain ⟨K, hK⟩ := @bound_kd _ ⟨wB⟩
 let n := K + wA.l.length + 5000
 refine ⟨n, ?_⟩
 have hn : 3000 < n := by show 3000 < K + wA.l.length + 5000; omega
 have hnA : wA.l.length < n := by show wA.l.length < K + wA.l.length + 5000; omega
 show (m_viewportlaw26StylesOwnt2 n wA wB g2 g3 ()).bind _ = _
 have no : (match m_viewportlaw26StylesOwnt3 n wA wB g2 g3 true () with
  | none => none
  | some (.inl _) => some ()
  | some (.inr _) => (m_viewportlaw26StylesOwnt4 n wA wB g2 g3 ()).bind fun _ => some ()) = some () := rfl
 have key : m_viewportlaw26StylesOwnt2 n wA wB g2 g3 () = some () := by
  unfold m_viewportlaw26StylesOwnt2 m_viewportlaw26lightq1
  obtain ⟨b, hb, hbl⟩ := lightS (n := n) (x := wA) hnA
  rw [hb]
  simp only [Option.bind_some]
  cases b with
  | false => exact no
  | true =>
   have hx := hbl rfl
   obtain ⟨b2, hb2, hl2⟩ := lightP (n := n) (mo := 100) (x := wB) (by omega) (by omega)
   have hb2 : m_viewportkitLightPartsq1 n wB 100 = some b2 := hb2
   rw [if_pos rfl, hb2]
   simp only [Option.bind_some]
   cases b2 with
   | false => exact no
   | true =>
    have hy := (hl2 rfl).1
    rw [if_pos rfl]
    obtain ⟨c, hc, hcT⟩ := refC (x := wB) (by omega) hK (n := n) (by show wB.l.length + K + 20 < K + wA.l.length + 5000; omega)
    rw [hc]
    simp only [Option.bind_some]
    by_cases c0 : c = 0
    ·subst c0
     rw [if_pos rfl]
     show (m_viewportlaw26StylesOwnt4 n wA wB g2 g3 ()).bind _ = _
     rw [t4_ok (hcT rfl) hc hx hy hn]
     rfl
    ·rw [if_neg c0]; exact no
 rw [key]
 rfl

end Go.Proofs.Ytejokkfeocohpaa.sow26
