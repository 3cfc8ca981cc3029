/-
  The pure side. No condition.
-/
import Derived.Test.YtiiionooieoniaaStlPure
import Derived.IntWalk
set_option linter.unusedSimpArgs false
set_option linter.unusedVariables false
set_option linter.unusedSectionVars false
set_option linter.unnecessarySimpa false
namespace Go.Proofs.Ytiiionooieoniaa.stlw
open Go Go.Proofs.Ytiiionooieoniaa Ax
variable [Args]


/-! ways: which kid holds a part, who is whose, the way down and the way up -/
theorem Ks.cnt {i k next e : Nat} {a : Int} (h : Ks i k next a e) : next + ((kd i).length - k) ≤ e := by
 induction h with
 | done hk => omega
 | kid hk hv hn ha h1 h2 ih1 ih2 => have := h1.lt; omega
theorem Ks.hold {i k next e : Nat} {a : Int} (h : Ks i k next a e) : ∀ j : Nat, next ≤ j → j < e → ∃ q c f : Nat, k ≤ q ∧ q < (kd i).length ∧ (kd i).getD q 0 = (c : Int) ∧ c < Args.B.length ∧ Ks c 0 (c + 1) (atF c) f ∧ next ≤ c ∧ c ≤ j ∧ j < f ∧ f ≤ e ∧ (∀ u, k ≤ u → u < q → (kd i).getD u 0 < (c : Int)) ∧ (∀ u, q < u → u < (kd i).length → (f : Int) ≤ (kd i).getD u 0) := by
 induction h with
 | done hk => exact fun j h1 h2 => absurd h1 (by omega)
 | @kid i k next e' e a hk hv hn ha h1 h2 ih1 ih2 =>
  intro j h3 h4
  have l1 := h1.lt
  have l2 := h2.lt
  rcases Nat.lt_or_ge j e' with h5 | h5
  ·refine ⟨k, next, e', Nat.le_refl _, hk, hv, hn, h1, Nat.le_refl _, h3, h5, l2, fun u u1 u2 => absurd u1 (by omega), fun u u1 u2 => ?_⟩
   obtain ⟨c, g1, g2, _, _⟩ := h2.kids u (by omega) u2
   rw [g1]; omega
  ·obtain ⟨q, c, f, g1, g2, g3, g4, g5, g6, g7, g8, g9, ga, gb⟩ := ih2 j h5 h4
   refine ⟨q, c, f, by omega, g2, g3, g4, g5, by omega, g7, g8, g9, fun u u1 u2 => ?_, gb⟩
   by_cases e1 : u = k
   ·subst e1; rw [hv]; omega
   ·exact ga u (by omega) u2
theorem kid_uniq (hT : Tree) {p p' : Nat} {c : Nat} (hp : p < Args.B.length) (hp' : p' < Args.B.length) (h : (c : Int) ∈ kd p) (h' : (c : Int) ∈ kd p') : p = p' := by
 have main : ∀ p p' : Nat, p < Args.B.length → p' < Args.B.length → (c : Int) ∈ kd p → (c : Int) ∈ kd p' → ¬ p < p' := by
  intro p p' hp hp' h h' hlt
  obtain ⟨e, k1, k2, k3⟩ := hT.end hp
  obtain ⟨e', m1, m2, m3⟩ := hT.end hp'
  obtain ⟨u, hu, huc⟩ := mem_getD 0 h
  obtain ⟨v, hv, hvc⟩ := mem_getD 0 h'
  obtain ⟨c1, a1, a2, a3, a4⟩ := k1.kids u (Nat.zero_le _) hu
  obtain ⟨c2, b1, b2, b3, b4⟩ := m1.kids v (Nat.zero_le _) hv
  have e1 : c1 = c := by omega
  have e2 : c2 = c := by omega
  subst e1
  subst e2
  obtain ⟨q, d, f, g1, g2, g3, g4, g5, g6, g7, g8, g9, ga, gb⟩ := k1.hold p' (by omega) (by omega)
  have : e' ≤ f := by
   by_cases e3 : p' = d
   ·subst e3
    have := Ks.uniq m1 g5 hp'
    omega
   ·obtain ⟨f', o1, o2⟩ := g5.cover p' (by omega) g8
    have := Ks.uniq m1 o2 hp'
    omega
  rcases Nat.lt_trichotomy u q with h6 | h6 | h6
  ·have := ga u (Nat.zero_le _) h6; omega
  ·subst h6; omega
  ·have := gb u h6 hu; omega
 rcases Nat.lt_trichotomy p p' with h6 | h6 | h6
 ·exact absurd h6 (main p p' hp hp' h h')
 ·exact h6
 ·exact absurd h6 (main p' p hp' hp h' h)
theorem par_of (hT : Tree) {p c : Nat} (hp : p < Args.B.length) (hc : c < Args.B.length) (h : (c : Int) ∈ kd p) : parL.getD c 0 = (p : Int) := by
 obtain ⟨q, g1, g2, g3⟩ := parN_mem hT hc Args.B.length (Nat.le_refl _) ⟨p, hp, h⟩
 rw [kid_uniq hT hp g2 h g3]
 exact g1
theorem par_root (hT : Tree) : parL.getD 0 0 = -1 := by
 have hpos := hT.pos
 have main : ∀ n, n ≤ Args.B.length → (parN n par0).getD 0 0 = -1 := by
  intro n
  induction n with
  | zero =>
   intro _
   show par0.getD 0 0 = -1
   unfold par0
   rw [getD_set (by rw [List.length_replicate]; exact hpos), if_pos rfl]
  | succ n ih =>
   intro hn
   have h0 : par0.length = Args.B.length := by unfold par0; rw [List.length_set, List.length_replicate]
   have hk := kd_nat hT (by omega : n < Args.B.length)
   show (setK (parN n par0) (n : Int) (kd n)).getD 0 0 = -1
   rw [setK_get (c := 0) (fun k hk' => by obtain ⟨d, e, _⟩ := hk k hk'; omega) (by rw [parN_len, h0]; exact hpos), if_neg (fun hm => by obtain ⟨d, e, h⟩ := hk _ hm; omega), ih (by omega)]
 exact main _ (Nat.le_refl _)
/-- the way to a part -/
inductive Up : Nat → List Nat → Prop
 | root : Up 0 [0]
 | step {p c : Nat} {L : List Nat} (h : Up p L) (hp : p < Args.B.length) (hc : c < Args.B.length) (hk : (c : Int) ∈ kd p) : Up c (L ++ [c])
def syms (L : List Nat) : List Int := L.map fun i => (pt i).1
theorem syms_app {L : List Nat} {i : Nat} : syms (L ++ [i]) = syms L ++ [(pt i).1] := by unfold syms; rw [List.map_append]; rfl
theorem syms_len {L : List Nat} : (syms L).length = L.length := by unfold syms; rw [List.length_map]
theorem Up.len (hT : Tree) {i : Nat} {L : List Nat} (h : Up i L) : 1 ≤ L.length ∧ L.length ≤ i + 1 ∧ (i ≠ 0 → 2 ≤ L.length) := by
 induction h with
 | root => exact ⟨Nat.le_refl _, Nat.le_refl _, fun h => absurd rfl h⟩
 | @step p c L h hp hc hk ih =>
  obtain ⟨d, e, h1⟩ := kd_nat hT hp _ hk
  have e2 : (L ++ [c]).length = L.length + 1 := by simp
  rw [e2]
  refine ⟨by omega, by omega, fun _ => by omega⟩

/-! looking for a number in a row that rises -/
theorem mid_ok {a b : Nat} (ha : a ≤ 1000000) (hb : b ≤ 1000000) : IntKind.i64.wrap (Int.fdiv (IntKind.u64.wrap (w64 ((a : Int) + (b : Int)))) 2) = (((a + b) / 2 : Nat) : Int) := by
 have e : Int.fdiv (IntKind.u64.wrap (w64 ((a : Int) + (b : Int)))) 2 = (((a + b) / 2 : Nat) : Int) := by
  rw [w64_sm (by omega) (by omega), IntWalk.u64_in _ (by omega), show (a : Int) + (b : Int) = ((a + b : Nat) : Int) by omega, Int.fdiv_eq_ediv_of_nonneg _ (by decide)]
  rfl
 rw [e]
 exact w64_sm (by omega) (by omega)
theorem less_ok {n : Nat} {a b : Int} : m_cmpLessintq1 n a b = some (decide (a < b)) := by
 unfold m_cmpLessintq1 m_cmpisNaNintq1
 simp only [Option.bind_some]
 by_cases h : a < b
 ·rw [if_pos h, decide_eq_true h]
 ·rw [if_neg h, decide_eq_false h]
theorem search1 {n q : Nat} {x : NL} {v : Int} (hl : x.l.length ≤ 1000000) (hn : x.l.length < n) (hq : q ≤ x.l.length) (h1 : ∀ u, u < q → x.l.getD u 0 < v) (h2 : ∀ u, q ≤ u → u < x.l.length → v ≤ x.l.getD u 0) : m_slicesBinarySearchintintq1_1 n x v (x.l.length : Int) (0, (x.l.length : Int)) = some (q : Int) := by
 obtain ⟨r, rfl, h⟩ := whileI (B := B_slicesBinarySearchintintq1_1 n x v (x.l.length : Int)) (fun s => ∃ a b : Nat, s = ((a : Int), (b : Int)) ∧ a ≤ q ∧ q ≤ b ∧ b ≤ x.l.length) (fun s => (s.2 - s.1).toNat) (fun r => r = (q : Int))
  (fun s hI => by
   obtain ⟨a, b, rfl, ha, hb, hbl⟩ := hI
   unfold B_slicesBinarySearchintintq1_1
   dsimp only
   by_cases hlt : a < b
   ·rw [if_pos (by omega), mid_ok (by omega) (by omega), if_pos (by omega)]
    simp only [Int.toNat_natCast]
    rw [if_pos (by omega)]
    simp only [Option.bind_some]
    rw [less_ok]
    simp only [Option.bind_some]
    by_cases hv : x.l.getD ((a + b) / 2) 0 < v
    ·rw [if_pos (decide_eq_true hv), w64_inc (by omega)]
     have : (a + b) / 2 < q := by
      rcases Nat.lt_or_ge ((a + b) / 2) q with h | h
      ·exact h
      ·have := h2 _ h (by omega); omega
     exact .inl ⟨((((a + b) / 2 + 1 : Nat) : Int), (b : Int)), ⟨(a + b) / 2 + 1, b, rfl, by omega, hb, hbl⟩, by dsimp only; omega, rfl⟩
    ·rw [if_neg (by simpa using hv)]
     have : q ≤ (a + b) / 2 := by
      rcases Nat.lt_or_ge ((a + b) / 2) q with h | h
      ·exact absurd (h1 _ h) hv
      ·exact h
     exact .inl ⟨((a : Int), (((a + b) / 2 : Nat) : Int)), ⟨a, (a + b) / 2, rfl, ha, this, by omega⟩, by dsimp only; omega, rfl⟩
   ·rw [if_neg (by omega)]
    exact .inr ⟨(a : Int), by omega, rfl⟩) n (0, (x.l.length : Int)) ⟨0, x.l.length, rfl, Nat.zero_le _, hq, Nat.le_refl _⟩ (by dsimp only; omega)
 exact h
/-- the kid on the way -/
theorem down_ok {n i j e : Nat} (hT : Tree) (hn : Args.B.length < n) (hi : i < Args.B.length) (he : Ks i 0 (i + 1) (atF i) e) (hel : e ≤ Args.B.length) (h1 : i < j) (h2 : j < e) : ∃ q c f : Nat, q < (kd i).length ∧ (kd i).getD q 0 = (c : Int) ∧ c < Args.B.length ∧ Ks c 0 (c + 1) (atF c) f ∧ i < c ∧ c ≤ j ∧ j < f ∧ f ≤ e ∧ (m_slicesBinarySearchintintq1 n (pt i).2.2.2.2.2.2.1 (j : Int) = some ((q : Int), true) ∨ m_slicesBinarySearchintintq1 n (pt i).2.2.2.2.2.2.1 (j : Int) = some (((q + 1 : Nat) : Int), false)) := by
 have hmax := hT.max
 have hcnt := he.cnt
 obtain ⟨q, c, f, g1, g2, g3, g4, g5, g6, g7, g8, g9, ga, gb⟩ := he.hold j h1 h2
 refine ⟨q, c, f, g2, g3, g4, g5, by omega, g7, g8, g9, ?_⟩
 have hlen : (kd i).length ≤ 1000000 := by omega
 have hkl : (pt i).2.2.2.2.2.2.1.l.length = (kd i).length := rfl
 have hkd : ∀ u, (pt i).2.2.2.2.2.2.1.l.getD u 0 = (kd i).getD u 0 := fun _ => rfl
 unfold m_slicesBinarySearchintintq1 m_slicesisNaNintq1
 by_cases hc : c = j
 ·left
  rw [search1 (q := q) (by rw [hkl]; exact hlen) (by rw [hkl]; omega) (by rw [hkl]; omega) (fun u hu => by rw [hkd]; have := ga u (Nat.zero_le _) hu; omega) (fun u hu hul => by
   rw [hkd]
   by_cases e1 : u = q
   ·subst e1; omega
   ·have := gb u (by omega) hul; omega)]
  simp only [Option.bind_some]
  rw [hkl, if_pos (by omega), if_pos (by omega)]
  simp only [Int.toNat_natCast]
  rw [if_pos g2]
  rw [if_pos (show (pt i).2.2.2.2.2.2.1.l.getD q 0 = (j : Int) from by rw [hkd, g3]; omega)]
 ·right
  rw [search1 (q := q + 1) (by rw [hkl]; exact hlen) (by rw [hkl]; omega) (by rw [hkl]; omega) (fun u hu => by
   rw [hkd]
   by_cases e1 : u = q
   ·subst e1; omega
   ·have := ga u (Nat.zero_le _) (by omega); omega) (fun u hu hul => by
   rw [hkd]
   have := gb u (by omega) hul; omega)]
  simp only [Option.bind_some]
  by_cases h3 : q + 1 < (kd i).length
  ·rw [hkl, if_pos (by omega), if_pos (by omega)]
   simp only [Int.toNat_natCast]
   rw [if_pos h3]
   have := gb (q + 1) (by omega) h3
   rw [if_neg (show ¬ (pt i).2.2.2.2.2.2.1.l.getD (q + 1) 0 = (j : Int) from by rw [hkd]; omega)]
  ·rw [hkl, if_neg (by omega)]
/-- the program's way -/
theorem path1_ok {n j : Nat} (hT : Tree) (hn : Args.B.length < n) : ∀ (d at_ e : Nat) (L : List Nat), Args.B.length - at_ ≤ d → at_ < Args.B.length → Ks at_ 0 (at_ + 1) (atF at_) e → e ≤ Args.B.length → at_ ≤ j → j < e → Up at_ L → ∀ f, d < f → ∃ M, Up j M ∧ iterM (B_treePathq1_1 n (j : Int)) f ((at_ : Int), syms L) = some (syms M)
 | 0, at_, e, L, hd, hl, _, _, _, _, _, _, _ => absurd hd (by omega)
 | d + 1, at_, e, L, hd, hl, he, hel, h1, h2, hU, f, hf => by
  obtain ⟨f, rfl⟩ : ∃ g, f = g + 1 := ⟨f - 1, by omega⟩
  have hmax := hT.max
  have hUl := hU.len hT
  rw [iterM_succ]
  by_cases e1 : at_ = j
  ·subst e1
   refine ⟨L, hU, ?_⟩
   unfold B_treePathq1_1
   dsimp only
   rw [if_pos rfl]
   rfl
  ·obtain ⟨q, c, f', g1, g2, g3, g4, g5, g6, g7, g8, g9⟩ := down_ok hT hn hl he hel (by omega) h2
   have hkl := kd_le at_
   have hmem : (c : Int) ∈ kd at_ := by rw [← g2]; exact getD_mem g1
   have hU' := Up.step hU hl g3 hmem
   obtain ⟨M, hM, hM2⟩ := path1_ok hT hn d c f' (L ++ [c]) (by omega) g3 g4 (by omega) g6 g7 hU' f (by omega)
   refine ⟨M, hM, ?_⟩
   have hB : B_treePathq1_1 n (j : Int) ((at_ : Int), syms L) = some (.inl ((c : Int), syms (L ++ [c]))) := by
    unfold B_treePathq1_1
    dsimp only
    rw [if_neg (by omega), if_pos (by omega)]
    simp only [Option.bind_some, Int.toNat_natCast]
    rw [syms_app]
    rcases g9 with g9 | g9
    ·have g9 : m_slicesBinarySearchintintq1 n (Args.B.getD at_ (0, 0, 0, 0, 0, 0, nl0, 0)).2.2.2.2.2.2.1 (j : Int) = some ((q : Int), true) := g9
     rw [g9]
     simp only [Option.bind_some]
     rw [if_pos trivial, if_pos (show (0 : Int) ≤ (q : Int) ∧ (q : Int) < ((((Args.B.getD at_ (0, 0, 0, 0, 0, 0, nl0, 0)).2.2.2.2.2.2.1.l.length : Nat)) : Int) from ⟨Int.natCast_nonneg _, Int.ofNat_lt.2 g1⟩)]
     simp only [Int.toNat_natCast]
     rw [if_pos (show q < (Args.B.getD at_ (0, 0, 0, 0, 0, 0, nl0, 0)).2.2.2.2.2.2.1.l.length from g1), show (Args.B.getD at_ (0, 0, 0, 0, 0, 0, nl0, 0)).2.2.2.2.2.2.1.l.getD q 0 = (c : Int) from g2, if_pos (by omega)]
     simp only [Int.toNat_natCast]
     rw [if_pos (by rw [syms_len]; omega)]
     rfl
    ·have g9 : m_slicesBinarySearchintintq1 n (Args.B.getD at_ (0, 0, 0, 0, 0, 0, nl0, 0)).2.2.2.2.2.2.1 (j : Int) = some (((q + 1 : Nat) : Int), false) := g9
     have hcnt := he.cnt
     have e2 : w64 (((q + 1 : Nat) : Int) - 1) = (q : Int) := by rw [w64_sm (by omega) (by omega)]; omega
     rw [g9]
     simp only [Option.bind_some]
     rw [if_neg (by decide), e2, if_pos (show (0 : Int) ≤ (q : Int) ∧ (q : Int) < ((((Args.B.getD at_ (0, 0, 0, 0, 0, 0, nl0, 0)).2.2.2.2.2.2.1.l.length : Nat)) : Int) from ⟨Int.natCast_nonneg _, Int.ofNat_lt.2 g1⟩)]
     simp only [Int.toNat_natCast]
     rw [if_pos (show q < (Args.B.getD at_ (0, 0, 0, 0, 0, 0, nl0, 0)).2.2.2.2.2.2.1.l.length from g1), show (Args.B.getD at_ (0, 0, 0, 0, 0, 0, nl0, 0)).2.2.2.2.2.2.1.l.getD q 0 = (c : Int) from g2, if_pos (by omega)]
     simp only [Int.toNat_natCast]
     rw [if_pos (by rw [syms_len]; omega)]
     rfl
   rw [hB]
   exact hM2
def capF (k : Nat) : Nat := if k = 0 then 0 else if k = 1 then 1 else Nat.add big 1
theorem path_ok {n j : Nat} (hT : Tree) (hn : Args.B.length < n) (hj : j < Args.B.length) : ∃ L, Up j L ∧ m_treePathq1 n (j : Int) = some (syms L, capF L.length) := by
 have hpos := hT.pos
 have hmax := hT.max
 unfold m_treePathq1 m_treehasq1
 rw [if_pos (by omega), if_pos (by omega), check_ok hT hn]
 simp only [Option.bind_some]
 rw [if_pos trivial]
 simp only [Option.bind_some]
 rw [if_pos trivial, if_pos (by omega)]
 by_cases h0 : j = 0
 ·subst h0
  refine ⟨[0], .root, ?_⟩
  rw [if_pos (by omega)]
  rfl
 ·rw [if_neg (by omega)]
  obtain ⟨q, c, f', g1, g2, g3, g4, g5, g6, g7, g8, g9⟩ := down_ok hT hn hpos hT.ks (Nat.le_refl _) (by omega : 0 < j) hj
  have hcnt := hT.ks.cnt
  have hmem : (c : Int) ∈ kd 0 := by rw [← g2]; exact getD_mem g1
  have hU' := Up.step .root hpos g3 hmem
  obtain ⟨M, hM, hM2⟩ := path1_ok hT hn Args.B.length c f' ([0] ++ [c]) (by omega) g3 g4 (by omega) g6 g7 hU' n hn
  have hM2 : m_treePathq1_1 n (j : Int) ((c : Int), [(Args.B.getD 0 (0, 0, 0, 0, 0, 0, nl0, 0)).1, (Args.B.getD c (0, 0, 0, 0, 0, 0, nl0, 0)).1]) = some (syms M) := hM2
  have hMl := hM.len hT
  have hcap : capF M.length = Nat.add big 1 := by unfold capF; rw [if_neg (by omega), if_neg (by have := hMl.2.2 h0; omega)]
  refine ⟨M, hM, ?_⟩
  rw [hcap]
  rcases g9 with g9 | g9
  ·have g9 : m_slicesBinarySearchintintq1 n (Args.B.getD 0 (0, 0, 0, 0, 0, 0, nl0, 0)).2.2.2.2.2.2.1 (j : Int) = some ((q : Int), true) := g9
   rw [Int.toNat_zero, g9]
   simp only [Option.bind_some]
   rw [if_pos trivial, if_pos (show (0 : Int) ≤ (q : Int) ∧ (q : Int) < ((((Args.B.getD 0 (0, 0, 0, 0, 0, 0, nl0, 0)).2.2.2.2.2.2.1.l.length : Nat)) : Int) from ⟨Int.natCast_nonneg _, Int.ofNat_lt.2 g1⟩)]
   simp only [Int.toNat_natCast]
   rw [if_pos (show q < (Args.B.getD 0 (0, 0, 0, 0, 0, 0, nl0, 0)).2.2.2.2.2.2.1.l.length from g1), show (Args.B.getD 0 (0, 0, 0, 0, 0, 0, nl0, 0)).2.2.2.2.2.2.1.l.getD q 0 = (c : Int) from g2, if_pos (by omega)]
   simp only [Int.toNat_natCast]
   rw [hM2]
   rfl
  ·have g9 : m_slicesBinarySearchintintq1 n (Args.B.getD 0 (0, 0, 0, 0, 0, 0, nl0, 0)).2.2.2.2.2.2.1 (j : Int) = some (((q + 1 : Nat) : Int), false) := g9
   have e2 : w64 (((q + 1 : Nat) : Int) - 1) = (q : Int) := by rw [w64_sm (by omega) (by omega)]; omega
   rw [Int.toNat_zero, g9]
   simp only [Option.bind_some]
   rw [if_neg (by decide), e2, if_pos (show (0 : Int) ≤ (q : Int) ∧ (q : Int) < ((((Args.B.getD 0 (0, 0, 0, 0, 0, 0, nl0, 0)).2.2.2.2.2.2.1.l.length : Nat)) : Int) from ⟨Int.natCast_nonneg _, Int.ofNat_lt.2 g1⟩)]
   simp only [Int.toNat_natCast]
   rw [if_pos (show q < (Args.B.getD 0 (0, 0, 0, 0, 0, 0, nl0, 0)).2.2.2.2.2.2.1.l.length from g1), show (Args.B.getD 0 (0, 0, 0, 0, 0, 0, nl0, 0)).2.2.2.2.2.2.1.l.getD q 0 = (c : Int) from g2, if_pos (by omega)]
   simp only [Int.toNat_natCast]
   rw [hM2]
   rfl


/-! the document's way -/
theorem capF_1 {k : Nat} (h : 2 ≤ k) : capF k = Nat.add big 1 := by unfold capF; rw [if_neg (by omega), if_neg (by omega)]
theorem big_lt : 1000000000000 < big := by decide
theorem refPath1 {n : Nat} (hT : Tree) {i : Nat} {L : List Nat} (h : Up i L) : ∀ (acc : List Int) (f : Nat), L.length + acc.length ≤ 1000000 → L.length < f → i < Args.B.length → iterM (B_viewportref16Pathq1_1 n parL Args.B.length) f ((i : Int), acc, acc.length, capF acc.length) = some (syms L ++ acc, (syms L ++ acc).length, capF (syms L ++ acc).length) := by
 have hpl := parL_len
 -- one round
 have round : ∀ (i : Nat) (acc : List Int), i < Args.B.length → acc.length ≤ 1000000 → B_viewportref16Pathq1_1 n parL Args.B.length ((i : Int), acc, acc.length, capF acc.length) = some (.inl (parL.getD i 0, (pt i).1 :: acc, ((pt i).1 :: acc).length, capF ((pt i).1 :: acc).length)) := by
  intro i acc hi ha
  cases acc with
  | nil =>
   unfold B_viewportref16Pathq1_1
   dsimp only
   rw [if_pos (by omega), if_pos (by omega)]
   simp only [Option.bind_some, Int.toNat_natCast]
   rw [if_pos (by omega), if_pos (by omega)]
   rfl
  | cons a t =>
   have e1 : (a :: t).length = t.length + 1 := rfl
   have e2 : ((pt i).1 :: a :: t).length = t.length + 2 := rfl
   have e3 : List.take (a :: t).length (List.drop 0 (a :: t)) = a :: t := by rw [List.drop_zero, List.take_length]
   unfold B_viewportref16Pathq1_1
   dsimp only
   rw [if_pos (by omega), if_pos (by omega)]
   simp only [Option.bind_some, Int.toNat_natCast]
   rw [if_pos (by omega), if_pos (by omega), if_pos (by omega), if_pos (by omega), if_pos (by omega), if_pos (by omega), e3, capF_1 (by omega)]
   rfl
 induction h with
 | root =>
  intro acc f h1 h2 hi
  obtain ⟨f, rfl⟩ : ∃ g, f = g + 1 := ⟨f - 1, by omega⟩
  have e1 : ([0] : List Nat).length = 1 := rfl
  obtain ⟨f, rfl⟩ : ∃ g, f = g + 1 := ⟨f - 1, by omega⟩
  rw [iterM_succ, round 0 acc hi (by omega), par_root hT]
  show iterM (B_viewportref16Pathq1_1 n parL Args.B.length) (f + 1) (-1, (pt 0).1 :: acc, ((pt 0).1 :: acc).length, capF ((pt 0).1 :: acc).length) = _
  rw [iterM_succ]
  unfold B_viewportref16Pathq1_1
  dsimp only
  rw [if_neg (by omega)]
  rfl
 | @step p c L h hp hc hk ih =>
  intro acc f h1 h2 hi
  obtain ⟨f, rfl⟩ : ∃ g, f = g + 1 := ⟨f - 1, by omega⟩
  have e1 : (L ++ [c]).length = L.length + 1 := by simp
  have e2 : ((pt c).1 :: acc).length = acc.length + 1 := rfl
  rw [iterM_succ, round c acc hi (by omega), par_of hT hp hc hk]
  have := ih ((pt c).1 :: acc) f (by omega) (by omega) hp
  rw [syms_app, List.append_assoc]
  exact this
theorem refPath {n K j : Nat} {L : List Nat} (hT : Tree) (hK : ∀ j, (kd j).length ≤ K) (hn : Args.B.length + K + 10 < n) (hc : m_viewportref16Checkq1 n = some 0) (hj : j < Args.B.length) (hU : Up j L) : m_viewportref16Pathq1 n (j : Int) = some (syms L, L.length, capF L.length) := by
 have hmax := hT.max
 have hUl := hU.len hT
 unfold m_viewportref16Pathq1 m_viewportref16isq1
 rw [hc]
 simp only [Option.bind_some]
 rw [if_pos trivial, if_pos (by omega), if_pos (by omega)]
 simp only [Option.bind_some]
 rw [if_pos trivial, refPar hT hK (by omega) hc]
 simp only [Option.bind_some]
 have h := refPath1 (n := n) hT hU [] n (by simp; omega) (by omega) hj
 rw [List.append_nil, syms_len] at h
 have h : m_viewportref16Pathq1_1 n parL Args.B.length ((j : Int), [], 0, 0) = some (syms L, L.length, capF L.length) := h
 rw [h]
 simp only [Option.bind_some]
 have hs := syms_len (L := L)
 cases hq : syms L with
 | nil => rw [hq] at hs; simp at hs; omega
 | cons a t => rfl

/-! whatever the way, there is a style -/
theorem equal2_ok {n : Nat} {L : List Int} {off ln k : Nat} {x : NL} (hn : ln < n) (hl : off + ln ≤ L.length) (hln : ln ≤ 1000000) : ∃ b, m_slicesEqualintintq2 n L off ln k x = some b := by
 unfold m_slicesEqualintintq2
 by_cases h : ((ln : Nat) : Int) = ((x.l.length : Nat) : Int)
 ·rw [if_pos h]
  obtain ⟨r, -, hr⟩ := hoare (B := B_slicesEqualintintq2_1 n L off ln k x (ln : Int)) (σ := Unit) (fun _ q => q) (fun _ _ => True) (fun _ => True) ln
   (fun i s hi _ => by
    unfold B_slicesEqualintintq2_1
    dsimp only
    rw [if_pos (by omega), if_pos (by omega)]
    simp only [Int.toNat_natCast]
    rw [if_pos (by omega)]
    simp only [Option.bind_some]
    rw [if_pos (by omega), if_pos (by omega)]
    split
    ·exact .inl ⟨(), trivial, by rw [w64_inc (by omega)]⟩
    ·exact .inr ⟨_, trivial, rfl⟩)
   (fun s _ => by
    unfold B_slicesEqualintintq2_1
    dsimp only
    rw [if_neg (by omega)]
    exact ⟨_, trivial, rfl⟩) n 0 () (Nat.zero_le _) trivial (by omega)
  have hr : m_slicesEqualintintq2_1 n L off ln k x (ln : Int) 0 = some r := hr
  rw [hr]
  rcases r with r | r
  ·exact ⟨_, rfl⟩
  ·exact ⟨_, rfl⟩
 ·rw [if_neg h]; exact ⟨_, rfl⟩
/-- what the way's capacity may be -/
def okW (L : List Int) (a k : Nat) : Prop := a ≤ L.length ∧ a ≤ 1000000 ∧ ((a = 0 ∧ k = 1) ∨ k = Nat.add big 1)
theorem big_add : Nat.add big 1 = big + 1 := rfl
theorem ends_ok {n : Nat} {L : List Int} {a k : Nat} {x : NL} (hn : 1000000 < n) (h : okW L a k) : ∃ b, m_stylesendsWithintq1 n L a k x = some b := by
 obtain ⟨h1, h2, h3⟩ := h
 have hb := big_lt
 have hb2 := big_add
 unfold m_stylesendsWithintq1
 by_cases c1 : ((x.l.length : Nat) : Int) ≤ ((a : Nat) : Int)
 ·rw [if_pos c1]
  have e1 : w64 (((a : Nat) : Int) - ((x.l.length : Nat) : Int)) = ((a - x.l.length : Nat) : Int) := by rw [w64_sm (by omega) (by omega)]; omega
  rw [e1]
  simp only [Option.bind_some, Int.toNat_natCast]
  rw [if_pos (by omega)]
  rcases h3 with ⟨ha, rfl⟩ | rfl
  ·subst ha
   rw [if_pos (by omega), if_pos (by omega), if_neg (by omega)]
   obtain ⟨b, hb⟩ := equal2_ok (n := n) (L := L) (off := 0 - x.l.length) (ln := 0 - (0 - x.l.length)) (k := 1 - (0 - x.l.length)) (x := x) (by omega) (by omega) (by omega)
   rw [hb]; exact ⟨_, rfl⟩
  ·rw [if_pos (by omega), if_neg (by omega), if_pos rfl]
   obtain ⟨b, hb⟩ := equal2_ok (n := n) (L := L) (off := a - x.l.length) (ln := a - (a - x.l.length)) (k := Nat.add big 1) (x := x) (by omega) (by omega) (by omega)
   rw [hb]; exact ⟨_, rfl⟩
 ·rw [if_neg c1]; exact ⟨_, rfl⟩
theorem matches_ok {n : Nat} {L : List Int} {a k : Nat} {x : NL} {a0 a2 a3 a4 : Int} (hn : 1000000 < n) (h : okW L a k) : ∃ b, m_stylesMatchesq1 n a0 x a2 a3 a4 L a k = some b := by
 unfold m_stylesMatchesq1
 by_cases c : a0 = a4
 ·rw [if_pos c]
  obtain ⟨b, hb⟩ := ends_ok (n := n) (x := x) hn h
  rw [hb]; exact ⟨_, rfl⟩
 ·rw [if_neg c]; exact ⟨_, rfl⟩
theorem st1_ok {n : Nat} {L : List Int} {a k : Nat} {x : NL} {a0 a1 a2 a4 a6 a7 a8 : Int} {a3 : Bool} (hn : 1000000 < n) (h : okW L a k) : ∃ r, m_stylesStyle1q1 n a0 a1 a2 a3 a4 x a6 a7 a8 L a k = some r := by
 unfold m_stylesStyle1q1
 obtain ⟨b, hb⟩ := matches_ok (n := n) (x := x) (a0 := a4) (a2 := a6) (a3 := a7) (a4 := a8) hn h
 rw [hb]
 simp only [Option.bind_some]
 split
 ·split
  ·split <;> exact ⟨_, rfl⟩
  ·exact ⟨_, rfl⟩
 ·exact ⟨_, rfl⟩
theorem st2_ok {n : Nat} {L : List Int} {a k : Nat} {x y : NL} {a0 a2 a3 a5 a7 a8 a9 : Int} {a4 : Bool} (hn : 1000000 < n) (h : okW L a k) : ∃ r, m_stylesStyle1q2 n a0 y a2 a3 a4 a5 x a7 a8 a9 L a k = some r := by
 unfold m_stylesStyle1q2
 obtain ⟨b, hb⟩ := matches_ok (n := n) (x := x) (a0 := a5) (a2 := a7) (a3 := a8) (a4 := a9) hn h
 rw [hb]
 simp only [Option.bind_some]
 split
 ·split
  ·split <;> exact ⟨_, rfl⟩
  ·exact ⟨_, rfl⟩
 ·exact ⟨_, rfl⟩
theorem fold1_ok {n : Nat} {L : List Int} {a k : Nat} {x : NL} {a0 a1 a2 a4 a8 a9 a10 a12 a14 a15 : Int} {a3 a11 : Bool} (hn : 1000000 < n) (h : okW L a k) : ∃ r, m_foldOverstyleschoice_1010y1 n a0 a1 a2 a3 a4 L a k a8 a9 a10 a11 a12 x a14 a15 = some r := by
 unfold m_foldOverstyleschoice_1010y1
 obtain ⟨r, hr⟩ := st1_ok (n := n) (a0 := a0) (a1 := a1) (a2 := a2) (a3 := a3) (a4 := a12) (x := x) (a6 := a14) (a7 := a15) (a8 := a4) hn h
 rw [hr]
 obtain ⟨r0, r1, r2, r3, r4⟩ := r
 simp only [Option.bind_some]
 cases r1 <;> exact ⟨_, rfl⟩
theorem fold2_ok {n : Nat} {L : List Int} {a k : Nat} {x y : NL} {a0 a2 a3 a5 a9 a10 a11 a13 a15 a16 : Int} {a4 a12 : Bool} (hn : 1000000 < n) (h : okW L a k) : ∃ r, m_foldOverstyleschoice_1010y2 n a0 y a2 a3 a4 a5 L a k a9 a10 a11 a12 a13 x a15 a16 = some r := by
 unfold m_foldOverstyleschoice_1010y2
 obtain ⟨r, hr⟩ := st2_ok (n := n) (a0 := a0) (y := y) (a2 := a2) (a3 := a3) (a4 := a4) (a5 := a13) (x := x) (a7 := a15) (a8 := a16) (a9 := a5) hn h
 rw [hr]
 exact ⟨_, rfl⟩
theorem style_ok {n : Nat} {L : List Int} {a k : Nat} {kd_ : Int} (hn : 1000000 < n) (hA : Args.A.length ≤ 1000000) (h : okW L a k) : ∃ r, m_stylesStyleq1 n kd_ L a k = some r := by
 unfold m_stylesStyleq1 m_slicesValuesapiStyleq1 m_foldOverstyleschoiceq1 m_slicesValuesapiStyle1q1
 obtain ⟨r, -, hr⟩ := hoare (B := B_slicesValuesapiStyle1q1_1 n kd_ L a k 0 0 0 false (Args.A.length : Int)) (σ := Int × List NL × Int × Int × Bool) (fun s q => (s.1, s.2.1, s.2.2.1, s.2.2.2.1, s.2.2.2.2, q)) (fun _ _ => True) (fun _ => True) Args.A.length
  (fun i s hi _ => by
   obtain ⟨s0, s1, s2, s3, s4⟩ := s
   cases s1 with
   | nil =>
    unfold B_slicesValuesapiStyle1q1_1
    dsimp only
    rw [if_pos (by omega), if_pos (by omega), w64_inc (by omega)]
    simp only [Option.bind_some]
    generalize Args.A.getD ((i : Int)).toNat (0, nl0, 0, 0) = p
    obtain ⟨r, hr⟩ := fold1_ok (n := n) (a0 := s0) (a1 := s2) (a2 := s3) (a3 := s4) (a4 := kd_) (a8 := 0) (a9 := 0) (a10 := 0) (a11 := false) (a12 := p.1) (x := p.2.1) (a14 := p.2.2.1) (a15 := p.2.2.2) hn h
    rw [hr]
    obtain ⟨r0, r1, r2, r3, r4⟩ := r
    simp only [Option.bind_some]
    cases r1 with
    | nil => exact .inl ⟨(r0, [], r2, r3, r4), trivial, rfl⟩
    | cons b t => exact .inl ⟨(r0, [b], r2, r3, r4), trivial, rfl⟩
   | cons b t =>
    unfold B_slicesValuesapiStyle1q1_1
    dsimp only
    rw [if_pos (by omega), if_pos (by omega), w64_inc (by omega)]
    simp only [Option.bind_some]
    generalize Args.A.getD ((i : Int)).toNat (0, nl0, 0, 0) = p
    obtain ⟨r, hr⟩ := fold2_ok (n := n) (a0 := s0) (y := b) (a2 := s2) (a3 := s3) (a4 := s4) (a5 := kd_) (a9 := 0) (a10 := 0) (a11 := 0) (a12 := false) (a13 := p.1) (x := p.2.1) (a15 := p.2.2.1) (a16 := p.2.2.2) hn h
    rw [hr]
    obtain ⟨r0, r1, r2, r3, r4⟩ := r
    simp only [Option.bind_some]
    exact .inl ⟨(r0, [r1], r2, r3, r4), trivial, rfl⟩)
  (fun s _ => by
   obtain ⟨s0, s1, s2, s3, s4⟩ := s
   cases s1 with
   | nil =>
    unfold B_slicesValuesapiStyle1q1_1
    dsimp only
    rw [if_neg (by omega)]
    exact ⟨_, trivial, rfl⟩
   | cons b t =>
    unfold B_slicesValuesapiStyle1q1_1
    dsimp only
    rw [if_neg (by omega)]
    exact ⟨_, trivial, rfl⟩) n 0 (0, [], 0, 0, false) (Nat.zero_le _) trivial (by omega)
 have hr : m_slicesValuesapiStyle1q1_1 n kd_ L a k 0 0 0 false (Args.A.length : Int) (0, [], 0, 0, false, 0) = some r := hr
 simp only [Option.bind_some]
 rw [hr]
 obtain ⟨r0, r1, r2, r3, r4⟩ := r
 simp only [Option.bind_some]
 cases r1 <;> exact ⟨_, rfl⟩
theorem lightS_ok {n : Nat} (hn : Args.A.length < n) : ∃ b, m_viewportkitLightStylesq1 n = some b ∧ (b = true → Args.A.length ≤ 70) := by
 have hA := Args.hA
 obtain ⟨r, -, h⟩ := hoare (B := B_viewportkitLightStylesq1_1 n) (σ := Unit) (fun _ q => q) (fun _ _ => True) (fun r => True) Args.A.length
  (fun i s hi _ => by
   unfold B_viewportkitLightStylesq1_1
   dsimp only
   rw [if_pos (by omega), if_pos (by omega)]
   simp only [Option.bind_some]
   rw [w64_inc' (by omega)]
   split
   ·exact .inr ⟨_, trivial, rfl⟩
   ·exact .inl ⟨(), trivial, rfl⟩)
  (fun s _ => by
   unfold B_viewportkitLightStylesq1_1
   dsimp only
   rw [if_neg (by omega)]
   exact ⟨_, trivial, rfl⟩) n 0 () (Nat.zero_le _) trivial (by omega)
 unfold m_viewportkitLightStylesq1 m_viewportkitLightStylesq1_1
 have h : iterM (B_viewportkitLightStylesq1_1 n) n 0 = some r := h
 rw [h]
 rcases r with r | r
 ·exact ⟨_, rfl, fun h => by cases h⟩
 ·dsimp only
  by_cases c : ((Args.A.length : Nat) : Int) ≤ 70
  ·rw [if_pos c]; exact ⟨_, rfl, fun _ => by omega⟩
  ·rw [if_neg c]; exact ⟨_, rfl, fun h => by cases h⟩
theorem lightP_ok {n : Nat} (hL : Args.B.length ≤ 1000000 ∨ True) (hn : 200 < n) : ∃ b, m_viewportkitLightPartsq1 n 100 = some b ∧ (b = true → Args.B.length ≤ 100) := by
 obtain ⟨r, -, h⟩ := whileI (B := B_viewportkitLightPartsq1_1 n 100) (fun s => ∃ i : Nat, s.2 = i ∧ i ≤ 101) (fun s => 101 - s.2.toNat) (fun r => True)
  (fun s hI => by
   obtain ⟨x, q⟩ := s
   obtain ⟨i, rfl, hi⟩ := hI
   unfold B_viewportkitLightPartsq1_1
   dsimp only
   by_cases c1 : (i : Int) < ((Args.B.length : Nat) : Int)
   ·rw [if_pos c1]
    by_cases c2 : (i : Int) ≤ 100
    ·rw [if_pos c2, if_pos (by omega), w64_inc (by omega)]
     simp only [Option.bind_some]
     generalize Args.B.getD ((i : Int)).toNat (0, 0, 0, 0, 0, 0, nl0, 0) = p
     by_cases d1 : p.2.2.1 > 1048576
     ·rw [if_pos d1]; exact .inr ⟨_, trivial, rfl⟩
     rw [if_neg d1]
     by_cases d2 : p.2.2.2.2.1 > 1048576
     ·rw [if_pos d2]; exact .inr ⟨_, trivial, rfl⟩
     rw [if_neg d2]
     by_cases d3 : p.2.2.2.2.2.1 > 1048576
     ·rw [if_pos d3]; exact .inr ⟨_, trivial, rfl⟩
     rw [if_neg d3]
     by_cases d4 : p.2.2.1 < -1048576
     ·rw [if_pos d4]; exact .inr ⟨_, trivial, rfl⟩
     rw [if_neg d4]
     by_cases d5 : p.2.2.2.2.1 < -1048576
     ·rw [if_pos d5]; exact .inr ⟨_, trivial, rfl⟩
     rw [if_neg d5]
     by_cases d6 : p.2.2.2.2.2.1 < -1048576
     ·rw [if_pos d6]; exact .inr ⟨_, trivial, rfl⟩
     rw [if_neg d6]
     exact .inl ⟨(_, ((i + 1 : Nat) : Int)), ⟨i + 1, rfl, by omega⟩, by dsimp only; omega, rfl⟩
    ·rw [if_neg c2]; exact .inr ⟨_, trivial, rfl⟩
   ·rw [if_neg c1]; exact .inr ⟨_, trivial, rfl⟩) n (0, 0) ⟨0, rfl, by omega⟩ (by dsimp only; omega)
 unfold m_viewportkitLightPartsq1 m_viewportkitLightPartsq1_1
 rw [h]
 rcases r with r | r
 ·exact ⟨_, rfl, fun h => by cases h⟩
 ·dsimp only
  by_cases c1 : ((Args.B.length : Nat) : Int) ≤ 100
  ·rw [if_pos c1]
   split
   ·exact ⟨_, rfl, fun _ => by omega⟩
   ·exact ⟨_, rfl, fun h => by cases h⟩
  ·rw [if_neg c1]; exact ⟨_, rfl, fun h => by cases h⟩
theorem pickN {n : Nat} {g : Int} (h0 : 0 < Args.B.length) (hL : Args.B.length ≤ 120) : ∃ p : Nat, m_viewportkitPickq1 n g (((Args.B.length : Nat) : Int)) = some (p : Int) ∧ p < Args.B.length := by
 unfold m_viewportkitPickq1
 rw [if_neg (by omega), if_pos (by omega)]
 have h1 : (-((Args.B.length : Nat) : Int)) < Int.tmod g ((Args.B.length : Nat) : Int) := Int.lt_tmod_of_pos g (by omega)
 have h2 : Int.tmod g ((Args.B.length : Nat) : Int) < ((Args.B.length : Nat) : Int) := Int.tmod_lt_of_pos g (by omega)
 generalize Int.tmod g ((Args.B.length : Nat) : Int) = x at *
 by_cases c : x < 0
 ·rw [if_pos c, w64_sm (by omega) (by omega)]
  exact ⟨(x + ((Args.B.length : Nat) : Int)).toNat, by rw [Int.toNat_of_nonneg (by omega)], by omega⟩
 ·rw [if_neg c]
  exact ⟨x.toNat, by rw [Int.toNat_of_nonneg (by omega)], by omega⟩

theorem light_ok {n : Nat} (hn : Args.A.length + 300 < n) : ∃ b, m_viewportlaw26lightq1 n = some b ∧ (b = true → Args.A.length ≤ 70 ∧ Args.B.length ≤ 100) := by
 unfold m_viewportlaw26lightq1
 obtain ⟨b, h1, h2⟩ := lightS_ok (n := n) (by omega)
 rw [h1]
 simp only [Option.bind_some]
 cases b with
 | false => rw [if_neg (by decide)]; exact ⟨_, rfl, fun h => by cases h⟩
 | true =>
  rw [if_pos rfl]
  obtain ⟨c, h3, h4⟩ := lightP_ok (n := n) (.inr trivial) (by omega)
  rw [h3]
  exact ⟨_, rfl, fun h => ⟨h2 rfl, h4 h⟩⟩
theorem stylesLeaf_true (g2 : Int) : ∃ n, m_viewportlaw26StylesLeaf n g2 = some () := by
 obtain ⟨K, hK⟩ := bound_kd
 refine ⟨2000000 + Args.A.length + Args.B.length + K, ?_⟩
 generalize hn : 2000000 + Args.A.length + Args.B.length + K = n
 unfold m_viewportlaw26StylesLeaf m_viewportlaw26lives
 simp only [Option.bind_some]
 obtain ⟨b, e1, h1⟩ := light_ok (n := n) (by omega)
 rw [e1]
 simp only [Option.bind_some]
 cases b with
 | false => rw [if_neg (by decide)]
 | true =>
  obtain ⟨hA, hL⟩ := h1 rfl
  rw [if_pos rfl]
  obtain ⟨c, e2, h2⟩ := refCheck_ok (n := n) hK (by omega) (by omega)
  rw [e2]
  simp only [Option.bind_some]
  by_cases c0 : ¬ c = 0
  ·rw [if_neg c0]
  obtain rfl := Decidable.not_not.1 c0
  have hT := h2 rfl
  have hpos := hT.pos
  obtain ⟨x, hx, hxl⟩ := pickN (n := n) (g := g2) hpos (by omega)
  obtain ⟨L, hU, hP⟩ := path_ok (n := n) hT (by omega) hxl
  have hUl := hU.len hT
  have hR := refPath (n := n) hT hK (by omega) e2 hxl hU
  have hs := syms_len (L := L)
  have hb := big_lt
  have hb2 := big_add
  have hw : okW (syms L) (L.length - 1) (capF L.length) := by
   refine ⟨by omega, by omega, ?_⟩
   by_cases h : L.length = 1
   ·left; exact ⟨by omega, by rw [h]; rfl⟩
   ·right; exact capF_1 (by omega)
  have hcap : L.length ≤ capF L.length ∧ (capF L.length < big ∨ capF L.length = Nat.add big 1) := by
   by_cases h : L.length = 1
   ·have e : capF L.length = 1 := by rw [h]; rfl
    rw [e]; exact ⟨by omega, .inl (by omega)⟩
   ·have e := capF_1 (show 2 ≤ L.length by omega)
    rw [e]; exact ⟨by omega, .inr rfl⟩
  have ew : w64 ((L.length : Int) - 1) = ((L.length - 1 : Nat) : Int) := by rw [w64_sm (by omega) (by omega)]; omega
  rw [if_pos rfl, hx]
  simp only [Option.bind_some]
  obtain ⟨r, hr⟩ := style_ok (n := n) (kd_ := (Args.B.getD x (0, 0, 0, 0, 0, 0, nl0, 0)).1) (by omega) (by omega) hw
  have hleaf : m_stylesLeafq1 n (x : Int) = some (if (Args.B.getD x (0, 0, 0, 0, 0, 0, nl0, 0)).2.1 = 3 then r else if (Args.B.getD x (0, 0, 0, 0, 0, 0, nl0, 0)).2.1 = 5 then r else 0) := by
   unfold m_stylesLeafq1
   rw [hP]
   simp only [Option.bind_some]
   rw [hs, if_neg (by omega), if_pos (by omega), ew]
   simp only [Option.bind_some, Int.toNat_natCast]
   by_cases k3 : (Args.B.getD x (0, 0, 0, 0, 0, 0, nl0, 0)).2.1 = 3
   ·rw [if_pos k3, if_pos k3, if_pos (by omega), if_pos hcap, hr]
    rfl
   ·rw [if_neg k3, if_neg k3]
    by_cases k5 : (Args.B.getD x (0, 0, 0, 0, 0, 0, nl0, 0)).2.1 = 5
    ·rw [if_pos k5, if_pos k5, if_pos (by omega), if_pos hcap, hr]
     rfl
    ·rw [if_neg k5, if_neg k5]
  rw [hleaf]
  simp only [Option.bind_some]
  rw [if_pos (by omega), hR]
  simp only [Option.bind_some, Int.toNat_natCast]
  rw [ew]
  simp only [Int.toNat_natCast]
  by_cases k3 : (Args.B.getD x (0, 0, 0, 0, 0, 0, nl0, 0)).2.1 = 3
  ·rw [if_pos k3, if_pos k3, if_pos (by omega), if_pos hcap, hr]
   simp only [Option.bind_some]
   rw [if_pos trivial]
  ·rw [if_neg k3, if_neg k3]
   by_cases k5 : (Args.B.getD x (0, 0, 0, 0, 0, 0, nl0, 0)).2.1 = 5
   ·rw [if_pos k5, if_pos k5, if_pos (by omega), if_pos hcap, hr]
    simp only [Option.bind_some]
    rw [if_pos trivial]
   ·rw [if_neg k5, if_neg k5, if_pos rfl]

end Go.Proofs.Ytiiionooieoniaa.stlw
