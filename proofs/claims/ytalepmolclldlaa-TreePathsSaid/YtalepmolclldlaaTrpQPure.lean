/-
  The pure side. No condition.
-/
import Derived.Test.YtalepmolclldlaaTrpPure
import Derived.IntWalk
set_option linter.unusedSimpArgs false
set_option linter.unusedVariables false
set_option linter.unusedSectionVars false
set_option linter.unnecessarySimpa false
namespace Go.Proofs.Ytalepmolclldlaa.trp
open Go Go.Proofs.Ytalepmolclldlaa Ax
variable [Args]


/-! ways: which kid holds a part, who is whose, the way down and the way up -/
theorem Ks.cnt {i k next e : Nat} {a : Int} (h : Ks i k next a e) : next + ((kd i).length - k) ≤ e := by
 induction h with
 | done hk => omega
 | kid hk hv hn ha h1 h2 ih1 ih2 => have := h1.lt; omega
theorem Ks.hold {i k next e : Nat} {a : Int} (h : Ks i k next a e) : ∀ j : Nat, next ≤ j → j < e → ∃ q c f : Nat, k ≤ q ∧ q < (kd i).length ∧ (kd i).getD q 0 = (c : Int) ∧ c < Args.A.length ∧ Ks c 0 (c + 1) (atF c) f ∧ next ≤ c ∧ c ≤ j ∧ j < f ∧ f ≤ e ∧ (∀ u, k ≤ u → u < q → (kd i).getD u 0 < (c : Int)) ∧ (∀ u, q < u → u < (kd i).length → (f : Int) ≤ (kd i).getD u 0) := by
 induction h with
 | done hk => exact fun j h1 h2 => absurd h1 (by omega)
 | @kid i k next e' e a hk hv hn ha h1 h2 ih1 ih2 =>
  intro j h3 h4
  have l1 := h1.lt
  have l2 := h2.lt
  rcases Nat.lt_or_ge j e' with h5 | h5
  ·refine ⟨k, next, e', Nat.le_refl _, hk, hv, hn, h1, Nat.le_refl _, h3, h5, l2, fun u u1 u2 => absurd u1 (by omega), fun u u1 u2 => ?_⟩
   obtain ⟨c, g1, g2, _, _⟩ := h2.kids u (by omega) u2
   rw [g1]; omega
  ·obtain ⟨q, c, f, g1, g2, g3, g4, g5, g6, g7, g8, g9, ga, gb⟩ := ih2 j h5 h4
   refine ⟨q, c, f, by omega, g2, g3, g4, g5, by omega, g7, g8, g9, fun u u1 u2 => ?_, gb⟩
   by_cases e1 : u = k
   ·subst e1; rw [hv]; omega
   ·exact ga u (by omega) u2
theorem kid_uniq (hT : Tree) {p p' : Nat} {c : Nat} (hp : p < Args.A.length) (hp' : p' < Args.A.length) (h : (c : Int) ∈ kd p) (h' : (c : Int) ∈ kd p') : p = p' := by
 have main : ∀ p p' : Nat, p < Args.A.length → p' < Args.A.length → (c : Int) ∈ kd p → (c : Int) ∈ kd p' → ¬ p < p' := by
  intro p p' hp hp' h h' hlt
  obtain ⟨e, k1, k2, k3⟩ := hT.end hp
  obtain ⟨e', m1, m2, m3⟩ := hT.end hp'
  obtain ⟨u, hu, huc⟩ := mem_getD 0 h
  obtain ⟨v, hv, hvc⟩ := mem_getD 0 h'
  obtain ⟨c1, a1, a2, a3, a4⟩ := k1.kids u (Nat.zero_le _) hu
  obtain ⟨c2, b1, b2, b3, b4⟩ := m1.kids v (Nat.zero_le _) hv
  have e1 : c1 = c := by omega
  have e2 : c2 = c := by omega
  subst e1
  subst e2
  obtain ⟨q, d, f, g1, g2, g3, g4, g5, g6, g7, g8, g9, ga, gb⟩ := k1.hold p' (by omega) (by omega)
  have : e' ≤ f := by
   by_cases e3 : p' = d
   ·subst e3
    have := Ks.uniq m1 g5 hp'
    omega
   ·obtain ⟨f', o1, o2⟩ := g5.cover p' (by omega) g8
    have := Ks.uniq m1 o2 hp'
    omega
  rcases Nat.lt_trichotomy u q with h6 | h6 | h6
  ·have := ga u (Nat.zero_le _) h6; omega
  ·subst h6; omega
  ·have := gb u h6 hu; omega
 rcases Nat.lt_trichotomy p p' with h6 | h6 | h6
 ·exact absurd h6 (main p p' hp hp' h h')
 ·exact h6
 ·exact absurd h6 (main p' p hp' hp h' h)
theorem par_of (hT : Tree) {p c : Nat} (hp : p < Args.A.length) (hc : c < Args.A.length) (h : (c : Int) ∈ kd p) : parL.getD c 0 = (p : Int) := by
 obtain ⟨q, g1, g2, g3⟩ := parN_mem hT hc Args.A.length (Nat.le_refl _) ⟨p, hp, h⟩
 rw [kid_uniq hT hp g2 h g3]
 exact g1
theorem par_root (hT : Tree) : parL.getD 0 0 = -1 := by
 have hpos := hT.pos
 have main : ∀ n, n ≤ Args.A.length → (parN n par0).getD 0 0 = -1 := by
  intro n
  induction n with
  | zero =>
   intro _
   show par0.getD 0 0 = -1
   unfold par0
   rw [getD_set (by rw [List.length_replicate]; exact hpos), if_pos rfl]
  | succ n ih =>
   intro hn
   have h0 : par0.length = Args.A.length := by unfold par0; rw [List.length_set, List.length_replicate]
   have hk := kd_nat hT (by omega : n < Args.A.length)
   show (setK (parN n par0) (n : Int) (kd n)).getD 0 0 = -1
   rw [setK_get (c := 0) (fun k hk' => by obtain ⟨d, e, _⟩ := hk k hk'; omega) (by rw [parN_len, h0]; exact hpos), if_neg (fun hm => by obtain ⟨d, e, h⟩ := hk _ hm; omega), ih (by omega)]
 exact main _ (Nat.le_refl _)
/-- the way to a part -/
inductive Up : Nat → List Nat → Prop
 | root : Up 0 [0]
 | step {p c : Nat} {L : List Nat} (h : Up p L) (hp : p < Args.A.length) (hc : c < Args.A.length) (hk : (c : Int) ∈ kd p) : Up c (L ++ [c])
def syms (L : List Nat) : List Int := L.map fun i => (pt i).1
theorem syms_app {L : List Nat} {i : Nat} : syms (L ++ [i]) = syms L ++ [(pt i).1] := by unfold syms; rw [List.map_append]; rfl
theorem syms_len {L : List Nat} : (syms L).length = L.length := by unfold syms; rw [List.length_map]
theorem Up.len (hT : Tree) {i : Nat} {L : List Nat} (h : Up i L) : 1 ≤ L.length ∧ L.length ≤ i + 1 ∧ (i ≠ 0 → 2 ≤ L.length) := by
 induction h with
 | root => exact ⟨Nat.le_refl _, Nat.le_refl _, fun h => absurd rfl h⟩
 | @step p c L h hp hc hk ih =>
  obtain ⟨d, e, h1⟩ := kd_nat hT hp _ hk
  have e2 : (L ++ [c]).length = L.length + 1 := by simp
  rw [e2]
  refine ⟨by omega, by omega, fun _ => by omega⟩

/-! looking for a number in a row that rises -/
theorem mid_ok {a b : Nat} (ha : a ≤ 1000000) (hb : b ≤ 1000000) : IntKind.i64.wrap (Int.fdiv (IntKind.u64.wrap (w64 ((a : Int) + (b : Int)))) 2) = (((a + b) / 2 : Nat) : Int) := by
 have e : Int.fdiv (IntKind.u64.wrap (w64 ((a : Int) + (b : Int)))) 2 = (((a + b) / 2 : Nat) : Int) := by
  rw [w64_sm (by omega) (by omega), IntWalk.u64_in _ (by omega), show (a : Int) + (b : Int) = ((a + b : Nat) : Int) by omega, Int.fdiv_eq_ediv_of_nonneg _ (by decide)]
  rfl
 rw [e]
 exact w64_sm (by omega) (by omega)
theorem less_ok {n : Nat} {a b : Int} : m_cLq1 n a b = some (decide (a < b)) := by
 unfold m_cLq1 m_cNq1
 simp only [Option.bind_some]
 by_cases h : a < b
 ·rw [if_pos h, decide_eq_true h]
 ·rw [if_neg h, decide_eq_false h]
theorem search1 {n q : Nat} {x : NL} {v : Int} (hl : x.l.length ≤ 1000000) (hn : x.l.length < n) (hq : q ≤ x.l.length) (h1 : ∀ u, u < q → x.l.getD u 0 < v) (h2 : ∀ u, q ≤ u → u < x.l.length → v ≤ x.l.getD u 0) : m_bSq1_1 n x v (x.l.length : Int) (0, (x.l.length : Int)) = some (q : Int) := by
 obtain ⟨r, rfl, h⟩ := whileI (B := B_bSq1_1 n x v (x.l.length : Int)) (fun s => ∃ a b : Nat, s = ((a : Int), (b : Int)) ∧ a ≤ q ∧ q ≤ b ∧ b ≤ x.l.length) (fun s => (s.2 - s.1).toNat) (fun r => r = (q : Int))
  (fun s hI => by
   obtain ⟨a, b, rfl, ha, hb, hbl⟩ := hI
   unfold B_bSq1_1
   dsimp only
   by_cases hlt : a < b
   ·rw [if_pos (by omega), mid_ok (by omega) (by omega), if_pos (by omega)]
    simp only [Int.toNat_natCast]
    rw [if_pos (by omega)]
    simp only [Option.bind_some]
    rw [less_ok]
    simp only [Option.bind_some]
    by_cases hv : x.l.getD ((a + b) / 2) 0 < v
    ·rw [if_pos (decide_eq_true hv), w64_inc (by omega)]
     have : (a + b) / 2 < q := by
      rcases Nat.lt_or_ge ((a + b) / 2) q with h | h
      ·exact h
      ·have := h2 _ h (by omega); omega
     exact .inl ⟨((((a + b) / 2 + 1 : Nat) : Int), (b : Int)), ⟨(a + b) / 2 + 1, b, rfl, by omega, hb, hbl⟩, by dsimp only; omega, rfl⟩
    ·rw [if_neg (by simpa using hv)]
     have : q ≤ (a + b) / 2 := by
      rcases Nat.lt_or_ge ((a + b) / 2) q with h | h
      ·exact absurd (h1 _ h) hv
      ·exact h
     exact .inl ⟨((a : Int), (((a + b) / 2 : Nat) : Int)), ⟨a, (a + b) / 2, rfl, ha, this, by omega⟩, by dsimp only; omega, rfl⟩
   ·rw [if_neg (by omega)]
    exact .inr ⟨(a : Int), by omega, rfl⟩) n (0, (x.l.length : Int)) ⟨0, x.l.length, rfl, Nat.zero_le _, hq, Nat.le_refl _⟩ (by dsimp only; omega)
 exact h
/-- the kid on the way -/
theorem down_ok {n i j e : Nat} (hT : Tree) (hn : Args.A.length < n) (hi : i < Args.A.length) (he : Ks i 0 (i + 1) (atF i) e) (hel : e ≤ Args.A.length) (h1 : i < j) (h2 : j < e) : ∃ q c f : Nat, q < (kd i).length ∧ (kd i).getD q 0 = (c : Int) ∧ c < Args.A.length ∧ Ks c 0 (c + 1) (atF c) f ∧ i < c ∧ c ≤ j ∧ j < f ∧ f ≤ e ∧ (m_bSq1 n (pt i).2.2.2.2.2.2.1 (j : Int) = some ((q : Int), true) ∨ m_bSq1 n (pt i).2.2.2.2.2.2.1 (j : Int) = some (((q + 1 : Nat) : Int), false)) := by
 have hmax := hT.max
 have hcnt := he.cnt
 obtain ⟨q, c, f, g1, g2, g3, g4, g5, g6, g7, g8, g9, ga, gb⟩ := he.hold j h1 h2
 refine ⟨q, c, f, g2, g3, g4, g5, by omega, g7, g8, g9, ?_⟩
 have hlen : (kd i).length ≤ 1000000 := by omega
 have hkl : (pt i).2.2.2.2.2.2.1.l.length = (kd i).length := rfl
 have hkd : ∀ u, (pt i).2.2.2.2.2.2.1.l.getD u 0 = (kd i).getD u 0 := fun _ => rfl
 unfold m_bSq1 m_nNq1
 by_cases hc : c = j
 ·left
  rw [search1 (q := q) (by rw [hkl]; exact hlen) (by rw [hkl]; omega) (by rw [hkl]; omega) (fun u hu => by rw [hkd]; have := ga u (Nat.zero_le _) hu; omega) (fun u hu hul => by
   rw [hkd]
   by_cases e1 : u = q
   ·subst e1; omega
   ·have := gb u (by omega) hul; omega)]
  simp only [Option.bind_some]
  rw [hkl, if_pos (by omega), if_pos (by omega)]
  simp only [Int.toNat_natCast]
  rw [if_pos g2]
  rw [if_pos (show (pt i).2.2.2.2.2.2.1.l.getD q 0 = (j : Int) from by rw [hkd, g3]; omega)]
 ·right
  rw [search1 (q := q + 1) (by rw [hkl]; exact hlen) (by rw [hkl]; omega) (by rw [hkl]; omega) (fun u hu => by
   rw [hkd]
   by_cases e1 : u = q
   ·subst e1; omega
   ·have := ga u (Nat.zero_le _) (by omega); omega) (fun u hu hul => by
   rw [hkd]
   have := gb u (by omega) hul; omega)]
  simp only [Option.bind_some]
  by_cases h3 : q + 1 < (kd i).length
  ·rw [hkl, if_pos (by omega), if_pos (by omega)]
   simp only [Int.toNat_natCast]
   rw [if_pos h3]
   have := gb (q + 1) (by omega) h3
   rw [if_neg (show ¬ (pt i).2.2.2.2.2.2.1.l.getD (q + 1) 0 = (j : Int) from by rw [hkd]; omega)]
  ·rw [hkl, if_neg (by omega)]
/-- the program's way -/
theorem path1_ok {n j : Nat} (hT : Tree) (hn : Args.A.length < n) : ∀ (d at_ e : Nat) (L : List Nat), Args.A.length - at_ ≤ d → at_ < Args.A.length → Ks at_ 0 (at_ + 1) (atF at_) e → e ≤ Args.A.length → at_ ≤ j → j < e → Up at_ L → ∀ f, d < f → ∃ M, Up j M ∧ iterM (B_pAq1_1 n (j : Int)) f ((at_ : Int), syms L) = some (syms M)
 | 0, at_, e, L, hd, hl, _, _, _, _, _, _, _ => absurd hd (by omega)
 | d + 1, at_, e, L, hd, hl, he, hel, h1, h2, hU, f, hf => by
  obtain ⟨f, rfl⟩ : ∃ g, f = g + 1 := ⟨f - 1, by omega⟩
  have hmax := hT.max
  have hUl := hU.len hT
  rw [iterM_succ]
  by_cases e1 : at_ = j
  ·subst e1
   refine ⟨L, hU, ?_⟩
   unfold B_pAq1_1
   dsimp only
   rw [if_pos rfl]
   rfl
  ·obtain ⟨q, c, f', g1, g2, g3, g4, g5, g6, g7, g8, g9⟩ := down_ok hT hn hl he hel (by omega) h2
   have hkl := kd_le at_
   have hmem : (c : Int) ∈ kd at_ := by rw [← g2]; exact getD_mem g1
   have hU' := Up.step hU hl g3 hmem
   obtain ⟨M, hM, hM2⟩ := path1_ok hT hn d c f' (L ++ [c]) (by omega) g3 g4 (by omega) g6 g7 hU' f (by omega)
   refine ⟨M, hM, ?_⟩
   have hB : B_pAq1_1 n (j : Int) ((at_ : Int), syms L) = some (.inl ((c : Int), syms (L ++ [c]))) := by
    unfold B_pAq1_1
    dsimp only
    rw [if_neg (by omega), if_pos (by omega)]
    simp only [Option.bind_some, Int.toNat_natCast]
    rw [syms_app]
    rcases g9 with g9 | g9
    ·have g9 : m_bSq1 n (Args.A.getD at_ (0, 0, 0, 0, 0, 0, nl0, 0)).2.2.2.2.2.2.1 (j : Int) = some ((q : Int), true) := g9
     rw [g9]
     simp only [Option.bind_some]
     rw [if_pos trivial, if_pos (show (0 : Int) ≤ (q : Int) ∧ (q : Int) < ((((Args.A.getD at_ (0, 0, 0, 0, 0, 0, nl0, 0)).2.2.2.2.2.2.1.l.length : Nat)) : Int) from ⟨Int.natCast_nonneg _, Int.ofNat_lt.2 g1⟩)]
     simp only [Int.toNat_natCast]
     rw [if_pos (show q < (Args.A.getD at_ (0, 0, 0, 0, 0, 0, nl0, 0)).2.2.2.2.2.2.1.l.length from g1), show (Args.A.getD at_ (0, 0, 0, 0, 0, 0, nl0, 0)).2.2.2.2.2.2.1.l.getD q 0 = (c : Int) from g2, if_pos (by omega)]
     simp only [Int.toNat_natCast]
     rw [if_pos (by rw [syms_len]; omega)]
     rfl
    ·have g9 : m_bSq1 n (Args.A.getD at_ (0, 0, 0, 0, 0, 0, nl0, 0)).2.2.2.2.2.2.1 (j : Int) = some (((q + 1 : Nat) : Int), false) := g9
     have hcnt := he.cnt
     have e2 : w64 (((q + 1 : Nat) : Int) - 1) = (q : Int) := by rw [w64_sm (by omega) (by omega)]; omega
     rw [g9]
     simp only [Option.bind_some]
     rw [if_neg (by decide), e2, if_pos (show (0 : Int) ≤ (q : Int) ∧ (q : Int) < ((((Args.A.getD at_ (0, 0, 0, 0, 0, 0, nl0, 0)).2.2.2.2.2.2.1.l.length : Nat)) : Int) from ⟨Int.natCast_nonneg _, Int.ofNat_lt.2 g1⟩)]
     simp only [Int.toNat_natCast]
     rw [if_pos (show q < (Args.A.getD at_ (0, 0, 0, 0, 0, 0, nl0, 0)).2.2.2.2.2.2.1.l.length from g1), show (Args.A.getD at_ (0, 0, 0, 0, 0, 0, nl0, 0)).2.2.2.2.2.2.1.l.getD q 0 = (c : Int) from g2, if_pos (by omega)]
     simp only [Int.toNat_natCast]
     rw [if_pos (by rw [syms_len]; omega)]
     rfl
   rw [hB]
   exact hM2
def capF (k : Nat) : Nat := if k = 0 then 0 else if k = 1 then 1 else Nat.add big 1
theorem path_ok {n j : Nat} (hT : Tree) (hn : Args.A.length < n) (hj : j < Args.A.length) : ∃ L, Up j L ∧ m_pAq1 n (j : Int) = some (syms L, capF L.length) := by
 have hpos := hT.pos
 have hmax := hT.max
 unfold m_pAq1 m_treehasq1
 rw [if_pos (by omega), if_pos (by omega), check_ok hT hn]
 simp only [Option.bind_some]
 rw [if_pos trivial]
 simp only [Option.bind_some]
 rw [if_pos trivial, if_pos (by omega)]
 by_cases h0 : j = 0
 ·subst h0
  refine ⟨[0], .root, ?_⟩
  rw [if_pos (by omega)]
  rfl
 ·rw [if_neg (by omega)]
  obtain ⟨q, c, f', g1, g2, g3, g4, g5, g6, g7, g8, g9⟩ := down_ok hT hn hpos hT.ks (Nat.le_refl _) (by omega : 0 < j) hj
  have hcnt := hT.ks.cnt
  have hmem : (c : Int) ∈ kd 0 := by rw [← g2]; exact getD_mem g1
  have hU' := Up.step .root hpos g3 hmem
  obtain ⟨M, hM, hM2⟩ := path1_ok hT hn Args.A.length c f' ([0] ++ [c]) (by omega) g3 g4 (by omega) g6 g7 hU' n hn
  have hM2 : m_pAq1_1 n (j : Int) ((c : Int), [(Args.A.getD 0 (0, 0, 0, 0, 0, 0, nl0, 0)).1, (Args.A.getD c (0, 0, 0, 0, 0, 0, nl0, 0)).1]) = some (syms M) := hM2
  have hMl := hM.len hT
  have hcap : capF M.length = Nat.add big 1 := by unfold capF; rw [if_neg (by omega), if_neg (by have := hMl.2.2 h0; omega)]
  refine ⟨M, hM, ?_⟩
  rw [hcap]
  rcases g9 with g9 | g9
  ·have g9 : m_bSq1 n (Args.A.getD 0 (0, 0, 0, 0, 0, 0, nl0, 0)).2.2.2.2.2.2.1 (j : Int) = some ((q : Int), true) := g9
   rw [Int.toNat_zero, g9]
   simp only [Option.bind_some]
   rw [if_pos trivial, if_pos (show (0 : Int) ≤ (q : Int) ∧ (q : Int) < ((((Args.A.getD 0 (0, 0, 0, 0, 0, 0, nl0, 0)).2.2.2.2.2.2.1.l.length : Nat)) : Int) from ⟨Int.natCast_nonneg _, Int.ofNat_lt.2 g1⟩)]
   simp only [Int.toNat_natCast]
   rw [if_pos (show q < (Args.A.getD 0 (0, 0, 0, 0, 0, 0, nl0, 0)).2.2.2.2.2.2.1.l.length from g1), show (Args.A.getD 0 (0, 0, 0, 0, 0, 0, nl0, 0)).2.2.2.2.2.2.1.l.getD q 0 = (c : Int) from g2, if_pos (by omega)]
   simp only [Int.toNat_natCast]
   rw [hM2]
   rfl
  ·have g9 : m_bSq1 n (Args.A.getD 0 (0, 0, 0, 0, 0, 0, nl0, 0)).2.2.2.2.2.2.1 (j : Int) = some (((q + 1 : Nat) : Int), false) := g9
   have e2 : w64 (((q + 1 : Nat) : Int) - 1) = (q : Int) := by rw [w64_sm (by omega) (by omega)]; omega
   rw [Int.toNat_zero, g9]
   simp only [Option.bind_some]
   rw [if_neg (by decide), e2, if_pos (show (0 : Int) ≤ (q : Int) ∧ (q : Int) < ((((Args.A.getD 0 (0, 0, 0, 0, 0, 0, nl0, 0)).2.2.2.2.2.2.1.l.length : Nat)) : Int) from ⟨Int.natCast_nonneg _, Int.ofNat_lt.2 g1⟩)]
   simp only [Int.toNat_natCast]
   rw [if_pos (show q < (Args.A.getD 0 (0, 0, 0, 0, 0, 0, nl0, 0)).2.2.2.2.2.2.1.l.length from g1), show (Args.A.getD 0 (0, 0, 0, 0, 0, 0, nl0, 0)).2.2.2.2.2.2.1.l.getD q 0 = (c : Int) from g2, if_pos (by omega)]
   simp only [Int.toNat_natCast]
   rw [hM2]
   rfl


/-! a part and everything inside it is handed over in order: the first that is meant -/
def fh (p : Nat → Bool) : Nat → Nat → Option Nat
 | _, 0 => none
 | a, n + 1 => if p a = true then some a else fh p (a + 1) n
theorem fh_add {p : Nat → Bool} : ∀ (n m a : Nat), fh p a (n + m) = match fh p a n with | some c => some c | none => fh p (a + n) m
 | 0, m, a => by rw [Nat.zero_add]; rfl
 | n + 1, m, a => by
  rw [show n + 1 + m = (n + m) + 1 by omega]
  show (if p a = true then some a else fh p (a + 1) (n + m)) = match (if p a = true then some a else fh p (a + 1) n) with | some c => some c | none => fh p (a + (n + 1)) m
  by_cases h : p a = true
  ·rw [if_pos h, if_pos h]
  ·rw [if_neg h, if_neg h, fh_add n m (a + 1), show a + 1 + n = a + (n + 1) by omega]
def oR : Option Nat → Int ⊕ Unit
 | some c => .inl (c : Int)
 | none => .inr ()
def hit (s t : Int) (j : Nat) : Bool := decide (((pt j).2.1 = 1 ∨ (pt j).2.1 = 2) ∧ (pt j).1 = s ∧ (pt j).2.2.1 = t)
theorem find1 {n j : Nat} {s t z : Int} {b : Bool} (hj : j < Args.A.length) : m_tF_11010y1 n s t z b 0 (j : Int) = some (if hit s t j = true then .inl () else .inr ()) := by
 unfold m_tF_11010y1 m_pIq1
 rw [if_pos (by omega), Int.toNat_natCast]
 show ((some (pt j)).bind _) = _
 dsimp only [Option.bind_some]
 unfold hit
 by_cases c1 : (pt j).2.1 = 1
 ·rw [if_pos c1]
  dsimp only [Option.bind_some]
  rw [if_pos rfl]
  by_cases c2 : (pt j).1 = s
  ·rw [if_pos c2]
   by_cases c3 : (pt j).2.2.1 = t
   ·rw [if_pos c3, if_pos (by simp [c1, c2, c3])]
   ·rw [if_neg c3, if_neg (by simp [c3])]
  ·rw [if_neg c2, if_neg (by simp [c2])]
 ·rw [if_neg c1]
  by_cases c0 : (pt j).2.1 = 2
  ·rw [if_pos c0]
   dsimp only [Option.bind_some]
   rw [if_pos rfl]
   by_cases c2 : (pt j).1 = s
   ·rw [if_pos c2]
    by_cases c3 : (pt j).2.2.1 = t
    ·rw [if_pos c3, if_pos (by simp [c0, c2, c3])]
    ·rw [if_neg c3, if_neg (by simp [c3])]
   ·rw [if_neg c2, if_neg (by simp [c2])]
  ·rw [if_neg c0]
   dsimp only [Option.bind_some]
   rw [if_neg (by decide), if_neg (by simp [c1, c0])]
theorem visit1 {s t z : Int} {b : Bool} {m j e : Nat} {f : Nat → Prop} (hj : j < Args.A.length) (he : j + 1 ≤ e)
  (hr : iterM (B_viq3_1 (m_viq3 m) m s t z b 0 (pt j).2.2.2.2.2.2.1 ((kd j).length : Int)) m 0 = some (oR (fh (hit s t) (j + 1) (e - (j + 1))))) :
  m_viq3 (m + 1) (j : Int) s t z b 0 = some (oR (fh (hit s t) j (e - j))) := by
 show s_viq3 (m_viq3 m) m (j : Int) s t z b 0 = _
 unfold s_viq3 m_viq3_1
 rw [find1 hj, show e - j = (e - (j + 1)) + 1 by omega]
 show _ = some (oR (if hit s t j = true then some j else fh (hit s t) (j + 1) (e - (j + 1))))
 by_cases c : hit s t j = true
 ·rw [if_pos c, if_pos c]; rfl
 ·rw [if_neg c, if_neg c]
  dsimp only
  rw [if_pos (by omega), Int.toNat_natCast]
  show ((some (pt j)).bind _) = _
  dsimp only [Option.bind_some]
  show (match iterM (B_viq3_1 (m_viq3 m) m s t z b 0 (pt j).2.2.2.2.2.2.1 ((kd j).length : Int)) m 0 with | none => (none : Option (Int ⊕ Unit)) | some (.inl c4_) => some (Sum.inl c4_) | some (.inr _) => some (Sum.inr ())) = _
  rw [hr]
  cases fh (hit s t) (j + 1) (e - (j + 1)) <;> rfl
theorem Ks.vis {K i k next e : Nat} {a s t z : Int} {b : Bool} (hK : ∀ j, (kd j).length ≤ K) (h : Ks i k next a e) : i < next → i < Args.A.length → ∀ n f, Args.A.length - i + K + 9 < n → (kd i).length - k < f → iterM (B_viq3_1 (m_viq3 n) n s t z b 0 (pt i).2.2.2.2.2.2.1 ((kd i).length : Int)) f (k : Int) = some (oR (fh (hit s t) next (e - next))) := by
 induction h with
 | @done i k next a hk ha =>
  intro hin hi n f hn hf
  obtain ⟨f, rfl⟩ : ∃ g, f = g + 1 := ⟨f - 1, by omega⟩
  rw [iterM_succ, Nat.sub_self]
  unfold B_viq3_1
  dsimp only
  rw [if_neg (by omega)]
  rfl
 | @kid i k next e' e a hk hv hn' ha h1 h2 ih1 ih2 =>
  intro hin hi n f hn hf
  obtain ⟨f, rfl⟩ : ∃ g, f = g + 1 := ⟨f - 1, by omega⟩
  have hkl := kd_le i
  have l1 := h1.lt
  have l2 := h2.lt
  obtain ⟨m, rfl⟩ : ∃ m, n = m + 1 := ⟨n - 1, by omega⟩
  have e1 := visit1 (s := s) (t := t) (z := z) (b := b) (f := fun _ => True) hn' l1 (ih1 (by omega) hn' m m (by omega) (by have := hK next; omega))
  have hB : B_viq3_1 (m_viq3 (m + 1)) (m + 1) s t z b 0 (pt i).2.2.2.2.2.2.1 ((kd i).length : Int) (k : Int) = match fh (hit s t) next (e' - next) with | some c => some (.inr (.inl (c : Int))) | Option.none => some (.inl ((k + 1 : Nat) : Int)) := by
   unfold B_viq3_1
   dsimp only
   rw [if_pos (by omega)]
   show (if 0 ≤ (k : Int) ∧ (k : Int) < ((kd i).length : Int) then (if (k : Int).toNat < (kd i).length then (some ((kd i).getD (k : Int).toNat 0)).bind _ else _) else _) = _
   rw [if_pos (by omega), Int.toNat_natCast, if_pos hk, hv]
   dsimp only [Option.bind_some]
   rw [e1, w64_inc' (by omega)]
   cases fh (hit s t) next (e' - next) <;> rfl
  rw [iterM_succ, hB, show e - next = (e' - next) + (e - e') by omega, fh_add, show next + (e' - next) = e' by omega]
  cases hq : fh (hit s t) next (e' - next) with
  | some c => rfl
  | none => exact ih2 (by omega) hi (m + 1) f hn (by omega)
theorem fh_some {p : Nat → Bool} : ∀ {n a c : Nat}, fh p a n = some c → p c = true ∧ a ≤ c ∧ c < a + n
 | 0, a, c, h => by cases h
 | n + 1, a, c, h => by
  have h : (if p a = true then some a else fh p (a + 1) n) = some c := h
  by_cases e : p a = true
  ·rw [if_pos e] at h
   obtain rfl := Option.some.inj h
   exact ⟨e, Nat.le_refl _, by omega⟩
  ·rw [if_neg e] at h
   obtain ⟨h1, h2, h3⟩ := fh_some h
   exact ⟨h1, by omega, by omega⟩


/-! ways are told apart by where they end; leaves -/
theorem Up.last (hT : Tree) {i : Nat} {L : List Nat} (h : Up i L) (h0 : i ≠ 0) : ∃ (p : Nat) (M : List Nat), L = M ++ [i] ∧ Up p M ∧ p < i ∧ parL.getD i 0 = (p : Int) ∧ (i : Int) ∈ kd p ∧ p < Args.A.length := by
 cases h with
 | root => exact absurd rfl h0
 | @step p c M h hp hc hk =>
  obtain ⟨d, e, h1⟩ := kd_nat hT hp _ hk
  exact ⟨p, M, rfl, h, by omega, par_of hT hp hc hk, hk, hp⟩
theorem Up.uniq (hT : Tree) {i : Nat} {L M : List Nat} (h : Up i L) (g : Up i M) : L = M := by
 induction h generalizing M with
 | root =>
  cases g with
  | root => rfl
  | step h hp hc hk => obtain ⟨d, e, h1⟩ := kd_nat hT hp _ hk; omega
 | @step p c L h hp hc hk ih =>
  obtain ⟨d, e, h1⟩ := kd_nat hT hp _ hk
  obtain ⟨q, N, e1, e2, e3, e4, e5, e6⟩ := g.last hT (by omega)
  have := kid_uniq hT hp e6 hk e5
  subst this
  rw [e1, ih e2]
theorem Up.end (hT : Tree) {i : Nat} {L : List Nat} (h : Up i L) : (syms L).getD (L.length - 1) 0 = (pt i).1 ∧ 0 < L.length := by
 cases h with
 | root => exact ⟨rfl, by simp⟩
 | @step p c M h hp hc hk =>
  refine ⟨?_, by simp⟩
  rw [syms_app, show (M ++ [i]).length - 1 = (syms M).length by rw [syms_len]; simp, List.getD_eq_getElem?_getD, List.getElem?_append_right (Nat.le_refl _), Nat.sub_self]
  rfl
theorem same_ok {n c e : Nat} {X Y : List Int} {m : Nat} (hm : X.length = m) (hY : m ≤ Y.length) (hl : m ≤ 1000000) (h : ∀ j, j < m → X.getD j 0 = Y.getD j 0) (hn : m < n) : m_sIq1 n X c Y m e = some true := by
 obtain ⟨r, q1, q2⟩ := hoare (B := B_sIq1_1 n X Y c m e) (σ := Unit) (fun _ j => j) (fun _ _ => True) (fun r => r = .inr ()) m
  (fun j _ hj _ => by
   refine .inl ⟨(), trivial, ?_⟩
   unfold B_sIq1_1
   dsimp only
   rw [if_pos (by omega), if_pos (by omega), Int.toNat_natCast]
   dsimp only [Option.bind_some]
   rw [if_pos (by omega), if_pos (by omega)]
   rw [if_pos (h j hj), w64_inc (by omega)])
  (fun _ _ => by
   refine ⟨.inr (), rfl, ?_⟩
   unfold B_sIq1_1
   dsimp only
   rw [if_neg (by omega)])
  n 0 () (Nat.zero_le _) trivial (by omega)
 have q2 : m_sIq1_1 n X Y c m e 0 = some r := q2
 unfold m_sIq1
 rw [if_pos (by omega), q2, q1]
/-- the places a, a + 1, .. (n of them) that are leaves -/
def inn (j : Nat) : Bool := decide ((pt j).2.1 = 1 ∨ (pt j).2.1 = 2)
def lfs : Nat → Nat → List Int
 | _, 0 => []
 | a, n + 1 => (if inn a = true then [] else [(a : Int)]) ++ lfs (a + 1) n
theorem lfs_add : ∀ (n m a : Nat), lfs a (n + m) = lfs a n ++ lfs (a + n) m
 | 0, m, a => by rw [Nat.zero_add]; rfl
 | n + 1, m, a => by
  rw [show n + 1 + m = (n + m) + 1 by omega]
  show _ ++ lfs (a + 1) (n + m) = (_ ++ lfs (a + 1) n) ++ lfs (a + (n + 1)) m
  rw [lfs_add n m (a + 1), List.append_assoc, show a + 1 + n = a + (n + 1) by omega]
theorem lfs_len : ∀ (n a : Nat), (lfs a n).length ≤ n
 | 0, a => Nat.le_refl _
 | n + 1, a => by
  have := lfs_len n (a + 1)
  show (_ ++ lfs (a + 1) n).length ≤ _
  rw [List.length_append]
  split <;> simp <;> omega
theorem mem_lfs {i : Nat} : ∀ (n a : Nat), (i : Int) ∈ lfs a n ↔ (a ≤ i ∧ i < a + n ∧ inn i = false)
 | 0, a => ⟨(fun h => by cases h), fun h => by omega⟩
 | n + 1, a => by
  show (i : Int) ∈ (if inn a = true then [] else [(a : Int)]) ++ lfs (a + 1) n ↔ _
  rw [List.mem_append, mem_lfs n (a + 1)]
  by_cases c : inn a = true
  ·rw [if_pos c]
   constructor
   ·rintro (h | ⟨h1, h2, h3⟩)
    ·cases h
    ·exact ⟨by omega, by omega, h3⟩
   ·rintro ⟨h1, h2, h3⟩
    refine .inr ⟨?_, by omega, h3⟩
    rcases Nat.lt_or_ge a i with h | h
    ·omega
    ·obtain rfl : a = i := by omega
     rw [c] at h3; cases h3
  ·rw [if_neg c, List.mem_singleton]
   constructor
   ·rintro (h | ⟨h1, h2, h3⟩)
    ·obtain rfl : i = a := by omega
     exact ⟨Nat.le_refl _, by omega, Bool.eq_false_iff.2 c⟩
    ·exact ⟨by omega, by omega, h3⟩
   ·rintro ⟨h1, h2, h3⟩
    rcases Nat.lt_or_ge a i with h | h
    ·exact .inr ⟨by omega, by omega, h3⟩
    ·exact .inl (by omega)
theorem inner_ok (n j : Nat) : m_pIq1 n (pt j).1 (pt j).2.1 (pt j).2.2.1 (pt j).2.2.2.1 (pt j).2.2.2.2.1 (pt j).2.2.2.2.2.1 (pt j).2.2.2.2.2.2.1 (pt j).2.2.2.2.2.2.2 = some (inn j) := by
 unfold m_pIq1 inn
 by_cases c1 : (pt j).2.1 = 1
 ·rw [if_pos c1]; simp [c1]
 ·rw [if_neg c1]
  by_cases c2 : (pt j).2.1 = 2
  ·rw [if_pos c2]; simp [c2]
  ·rw [if_neg c2]; simp [c1, c2]
theorem leaf1 {n j : Nat} {z : Int} (hj : j < Args.A.length) : m_lV_111010y1 n z (j : Int) = some (lfs j 1) := by
 unfold m_lV_111010y1
 rw [if_pos (by omega), Int.toNat_natCast]
 show ((some (pt j)).bind _) = _
 dsimp only [Option.bind_some]
 rw [inner_ok]
 dsimp only [Option.bind_some]
 show _ = some ((if inn j = true then [] else [(j : Int)]) ++ [])
 by_cases c : inn j = true
 ·rw [if_pos c, if_pos c]; rfl
 ·rw [if_neg c, if_neg c]; rfl
theorem leaf2 {n j : Nat} {z : Int} {L : List Int} (hj : j < Args.A.length) (hL : L.length ≤ 1000000) : m_lV_111010y2 n L z (j : Int) = some (L ++ lfs j 1) := by
 unfold m_lV_111010y2
 rw [if_pos (by omega), Int.toNat_natCast]
 show ((some (pt j)).bind _) = _
 dsimp only [Option.bind_some]
 rw [inner_ok]
 dsimp only [Option.bind_some]
 show _ = some (L ++ ((if inn j = true then [] else [(j : Int)]) ++ []))
 by_cases c : inn j = true
 ·rw [if_pos c, if_pos c]; simp
 ·rw [if_neg c, if_neg c, if_pos (by omega)]; simp
theorem Ks.lv2 {K i k next e : Nat} {a z : Int} (hA : Args.A.length ≤ 1000000) (hK : ∀ j, (kd j).length ≤ K) (h : Ks i k next a e) : i < next → i < Args.A.length → ∀ n f (L : List Int), L.length ≤ next → Args.A.length - i + K + 9 < n → (kd i).length - k < f → iterM (B_viq2_1 (m_viq2 n) n z (pt i).2.2.2.2.2.2.1 ((kd i).length : Int)) f (L, (k : Int)) = some (L ++ lfs next (e - next)) := by
 induction h with
 | @done i k next a hk ha =>
  intro hin hi n f L hL hn hf
  obtain ⟨f, rfl⟩ : ∃ g, f = g + 1 := ⟨f - 1, by omega⟩
  rw [iterM_succ, Nat.sub_self]
  unfold B_viq2_1
  dsimp only
  rw [if_neg (by omega)]
  show some L = some (L ++ [])
  rw [List.append_nil]
 | @kid i k next e' e a hk hv hn' ha h1 h2 ih1 ih2 =>
  intro hin hi n f L hL hn hf
  obtain ⟨f, rfl⟩ : ∃ g, f = g + 1 := ⟨f - 1, by omega⟩
  have hkl := kd_le i
  have hKn := hK next
  have l1 := h1.lt
  have l2 := h2.lt
  obtain ⟨m, rfl⟩ : ∃ m, n = m + 1 := ⟨n - 1, by omega⟩
  have hl1 : (L ++ lfs next 1).length ≤ next + 1 := by rw [List.length_append]; have := lfs_len 1 next; omega
  have e1 := ih1 (by omega) hn' m m (L ++ lfs next 1) hl1 (by omega) (by omega)
  have hrec : m_viq2 (m + 1) (next : Int) L z = some (L ++ lfs next (e' - next)) := by
   show s_viq2 (m_viq2 m) m (next : Int) L z = _
   unfold s_viq2 m_viq2_1
   rw [leaf2 hn' (by omega)]
   dsimp only [Option.bind_some]
   rw [if_pos (by omega), Int.toNat_natCast]
   show ((iterM (B_viq2_1 (m_viq2 m) m z (pt next).2.2.2.2.2.2.1 ((kd next).length : Int)) m (L ++ lfs next 1, ((0 : Nat) : Int))).bind _) = _
   rw [e1]
   dsimp only [Option.bind_some]
   rw [List.append_assoc, ← lfs_add 1 (e' - (next + 1)) next, show 1 + (e' - (next + 1)) = e' - next by omega]
  have hB : B_viq2_1 (m_viq2 (m + 1)) (m + 1) z (pt i).2.2.2.2.2.2.1 ((kd i).length : Int) (L, (k : Int)) = some (.inl (L ++ lfs next (e' - next), ((k + 1 : Nat) : Int))) := by
   unfold B_viq2_1
   dsimp only
   rw [if_pos (by omega)]
   show (if 0 ≤ (k : Int) ∧ (k : Int) < ((kd i).length : Int) then (if (k : Int).toNat < (kd i).length then (some ((kd i).getD (k : Int).toNat 0)).bind _ else _) else _) = _
   rw [if_pos (by omega), Int.toNat_natCast, if_pos hk, hv]
   dsimp only [Option.bind_some]
   rw [hrec, w64_inc' (by omega)]
   rfl
  rw [iterM_succ, hB]
  have hl2 : (L ++ lfs next (e' - next)).length ≤ e' := by rw [List.length_append]; have := lfs_len (e' - next) next; omega
  have g := ih2 (by omega) hi (m + 1) f _ hl2 hn (by omega)
  show iterM _ f (L ++ lfs next (e' - next), ((k + 1 : Nat) : Int)) = _
  rw [g, List.append_assoc, show e - next = (e' - next) + (e - e') by omega, lfs_add, show next + (e' - next) = e' by omega]
theorem vis2 {K n j e : Nat} {z : Int} {L : List Int} (hA : Args.A.length ≤ 1000000) (hK : ∀ j, (kd j).length ≤ K) (hj : j < Args.A.length) (h : Ks j 0 (j + 1) (atF j) e) (hL : L.length ≤ j) (hn : Args.A.length + K + 12 < n) : m_viq2 n (j : Int) L z = some (L ++ lfs j (e - j)) := by
 have l1 := h.lt
 have hKj := hK j
 obtain ⟨m, rfl⟩ : ∃ m, n = m + 1 := ⟨n - 1, by omega⟩
 have hl1 : (L ++ lfs j 1).length ≤ j + 1 := by rw [List.length_append]; have := lfs_len 1 j; omega
 have e1 := h.lv2 (z := z) hA hK (by omega) hj m m (L ++ lfs j 1) hl1 (by omega) (by omega)
 show s_viq2 (m_viq2 m) m (j : Int) L z = _
 unfold s_viq2 m_viq2_1
 rw [leaf2 hj (by omega)]
 dsimp only [Option.bind_some]
 rw [if_pos (by omega), Int.toNat_natCast]
 show ((iterM (B_viq2_1 (m_viq2 m) m z (pt j).2.2.2.2.2.2.1 ((kd j).length : Int)) m (L ++ lfs j 1, ((0 : Nat) : Int))).bind _) = _
 rw [e1]
 dsimp only [Option.bind_some]
 rw [List.append_assoc, ← lfs_add 1 (e - (j + 1)) j, show 1 + (e - (j + 1)) = e - j by omega]
theorem Ks.lv1 {K i k next e : Nat} {a z : Int} (hA : Args.A.length ≤ 1000000) (hK : ∀ j, (kd j).length ≤ K) (h : Ks i k next a e) : i < next → i < Args.A.length → ∀ n f (L : List Int), L.length ≤ next → Args.A.length + K + 12 + (Args.A.length - i) < n → (kd i).length - k < f → iterM (B_viq1_1 (m_viq1 n) n z (pt i).2.2.2.2.2.2.1 ((kd i).length : Int)) f (L, (k : Int)) = some (L ++ lfs next (e - next)) := by
 induction h with
 | @done i k next a hk ha =>
  intro hin hi n f L hL hn hf
  obtain ⟨f, rfl⟩ : ∃ g, f = g + 1 := ⟨f - 1, by omega⟩
  rw [iterM_succ, Nat.sub_self]
  unfold B_viq1_1
  cases L with
  | nil => dsimp only; rw [if_neg (by omega)]; rfl
  | cons b T =>
   dsimp only
   rw [if_neg (by omega)]
   show some (b :: T) = some ((b :: T) ++ [])
   rw [List.append_nil]
 | @kid i k next e' e a hk hv hn' ha h1 h2 ih1 ih2 =>
  intro hin hi n f L hL hn hf
  obtain ⟨f, rfl⟩ : ∃ g, f = g + 1 := ⟨f - 1, by omega⟩
  have hkl := kd_le i
  have hKn := hK next
  have l1 := h1.lt
  have l2 := h2.lt
  obtain ⟨m, rfl⟩ : ∃ m, n = m + 1 := ⟨n - 1, by omega⟩
  have hB : B_viq1_1 (m_viq1 (m + 1)) (m + 1) z (pt i).2.2.2.2.2.2.1 ((kd i).length : Int) (L, (k : Int)) = some (.inl (L ++ lfs next (e' - next), ((k + 1 : Nat) : Int))) := by
   unfold B_viq1_1
   cases L with
   | nil =>
    have hl1 : (lfs next 1).length ≤ next + 1 := by have := lfs_len 1 next; omega
    have e1 := ih1 (by omega) hn' m m (lfs next 1) hl1 (by omega) (by omega)
    have hrec : m_viq1 (m + 1) (next : Int) z = some (lfs next (e' - next)) := by
     show s_viq1 (m_viq1 m) m (next : Int) z = _
     unfold s_viq1 m_viq1_1
     rw [leaf1 hn']
     dsimp only [Option.bind_some]
     have fin : ∀ X : List Int, X = lfs next 1 → (if 0 ≤ (next : Int) ∧ (next : Int) < ((Args.A.length : Nat) : Int) then ((some (Args.A.getD ((next : Int)).toNat (0, 0, 0, 0, 0, 0, nl0, 0))).bind fun c3_ => (iterM (B_viq1_1 (m_viq1 m) m z c3_.2.2.2.2.2.2.1 ((c3_.2.2.2.2.2.2.1.l.length : Nat) : Int)) m (X, 0)).bind fun c4_ => match c4_ with | [] => some ([] : List Int) | c4_a :: c4_t => some (c4_a :: c4_t)) else Option.none) = some (lfs next (e' - next)) := by
      intro X hX
      subst hX
      rw [if_pos (by omega), Int.toNat_natCast]
      show ((iterM (B_viq1_1 (m_viq1 m) m z (pt next).2.2.2.2.2.2.1 ((kd next).length : Int)) m (lfs next 1, ((0 : Nat) : Int))).bind _) = _
      rw [e1]
      dsimp only [Option.bind_some]
      rw [← lfs_add 1 (e' - (next + 1)) next, show 1 + (e' - (next + 1)) = e' - next by omega]
      cases lfs next (e' - next) <;> rfl
     cases hq : lfs next 1 with
     | nil => exact fin [] hq.symm
     | cons b T => exact fin (b :: T) hq.symm
    dsimp only
    rw [if_pos (by omega)]
    show (if 0 ≤ (k : Int) ∧ (k : Int) < ((kd i).length : Int) then (if (k : Int).toNat < (kd i).length then (some ((kd i).getD (k : Int).toNat 0)).bind _ else _) else _) = _
    rw [if_pos (by omega), Int.toNat_natCast, if_pos hk, hv]
    dsimp only [Option.bind_some]
    rw [hrec, w64_inc' (by omega)]
    dsimp only [Option.bind_some, List.nil_append]
    cases lfs next (e' - next) <;> rfl
   | cons b T =>
    have hrec := vis2 (n := m + 1) (z := z) (L := b :: T) hA hK hn' h1 (by omega) (by omega)
    dsimp only
    rw [if_pos (by omega)]
    show (if 0 ≤ (k : Int) ∧ (k : Int) < ((kd i).length : Int) then (if (k : Int).toNat < (kd i).length then (some ((kd i).getD (k : Int).toNat 0)).bind _ else _) else _) = _
    rw [if_pos (by omega), Int.toNat_natCast, if_pos hk, hv]
    dsimp only [Option.bind_some]
    rw [hrec, w64_inc' (by omega)]
    rfl
  rw [iterM_succ, hB]
  have hl2 : (L ++ lfs next (e' - next)).length ≤ e' := by rw [List.length_append]; have := lfs_len (e' - next) next; omega
  have g := ih2 (by omega) hi (m + 1) f _ hl2 hn (by omega)
  show iterM _ f (L ++ lfs next (e' - next), ((k + 1 : Nat) : Int)) = _
  rw [g, List.append_assoc, show e - next = (e' - next) + (e - e') by omega, lfs_add, show next + (e' - next) = e' by omega]


/-! TreePaths -/
theorem leaves_ok {n K : Nat} (hT : Tree) (hK : ∀ j, (kd j).length ≤ K) (hn : 2 * Args.A.length + K + 30 < n) : m_lVq1 n = some (lfs 0 Args.A.length) := by
 have hpos := hT.pos
 have hmax := hT.max
 have hk := hT.ks
 have hK0 := hK 0
 obtain ⟨m, rfl⟩ : ∃ m, n = m + 1 := ⟨n - 1, by omega⟩
 have e1 := hk.lv1 (z := 0) (by omega) hK (by omega) hpos m m (lfs 0 1) (lfs_len 1 0) (by omega) (by omega)
 have hv : m_viq1 (m + 1) 0 0 = some (lfs 0 Args.A.length) := by
  show s_viq1 (m_viq1 m) m 0 0 = _
  unfold s_viq1 m_viq1_1
  rw [show m_lV_111010y1 m 0 0 = some (lfs 0 1) from leaf1 (j := 0) hpos]
  dsimp only [Option.bind_some]
  have fin : ∀ X : List Int, X = lfs 0 1 → (if 0 ≤ (0 : Int) ∧ (0 : Int) < ((Args.A.length : Nat) : Int) then ((some (Args.A.getD ((0 : Int)).toNat (0, 0, 0, 0, 0, 0, nl0, 0))).bind fun c3_ => (iterM (B_viq1_1 (m_viq1 m) m 0 c3_.2.2.2.2.2.2.1 ((c3_.2.2.2.2.2.2.1.l.length : Nat) : Int)) m (X, 0)).bind fun c4_ => match c4_ with | [] => some ([] : List Int) | c4_a :: c4_t => some (c4_a :: c4_t)) else Option.none) = some (lfs 0 Args.A.length) := by
   intro X hX
   subst hX
   rw [if_pos (by omega)]
   show ((iterM (B_viq1_1 (m_viq1 m) m 0 (pt 0).2.2.2.2.2.2.1 ((kd 0).length : Int)) m (lfs 0 1, ((0 : Nat) : Int))).bind _) = _
   rw [e1]
   dsimp only [Option.bind_some]
   rw [show lfs 1 (Args.A.length - 1) = lfs (0 + 1) (Args.A.length - 1) from rfl, ← lfs_add 1 (Args.A.length - 1) 0, show 1 + (Args.A.length - 1) = Args.A.length by omega]
   cases lfs 0 Args.A.length <;> rfl
  cases hq : lfs 0 1 with
  | nil => exact fin [] hq.symm
  | cons b T => exact fin (b :: T) hq.symm
 unfold m_lVq1 m_pl1q1
 rw [check_ok hT (by omega)]
 dsimp only [Option.bind_some]
 rw [if_pos rfl, show m_plq1 (m + 1) 0 = some () from rfl, hv]
 dsimp only [Option.bind_some]
 cases lfs 0 Args.A.length <;> rfl
theorem has_ok {n j : Nat} (hT : Tree) (hn : Args.A.length < n) (hj : j < Args.A.length) : m_treehasq1 n (j : Int) = some true := by
 unfold m_treehasq1
 rw [if_pos (by omega), if_pos (by omega), check_ok hT hn]
 rfl
theorem end_ok {n j e : Nat} (hT : Tree) (hn : Args.A.length < n) (hj : j < Args.A.length) (h : Ks j 0 (j + 1) (atF j) e) (he : e ≤ Args.A.length) : m_tEq1 n (j : Int) = some (e : Int) := by
 have hmax := hT.max
 unfold m_tEq1
 rw [has_ok hT hn hj]
 dsimp only [Option.bind_some]
 rw [if_pos rfl, prgEnd hn (by omega) h hj he]
 rfl
theorem isleaf {n x : Nat} {L : List Int} {b : Bool} (hL : L.length ≤ 1000000) (hn : L.length < n) : m_V_1 n (x : Int) b (false, L, 0) = some (decide ((x : Int) ∈ L)) := by
 cases L with
 | nil =>
  obtain ⟨m, rfl⟩ : ∃ m, n = m + 1 := ⟨n - 1, by omega⟩
  unfold m_V_1
  rw [iterM_succ]
  unfold B_V_1
  dsimp only
  rw [if_neg (by omega)]
  rfl
 | cons d T =>
  obtain ⟨r, q1, q2⟩ := hoare (B := B_V_1 n (x : Int) b) (σ := Bool) (fun v j => (v, d :: T, j)) (fun j v => v = decide ((x : Int) ∈ (d :: T).take j)) (fun r => r = decide ((x : Int) ∈ d :: T)) (d :: T).length
   (fun j v hj hv => by
    subst hv
    refine .inl ⟨_, rfl, ?_⟩
    unfold B_V_1
    dsimp only
    rw [if_pos (by omega), w64_inc (by omega)]
    have ht : (d :: T).take (j + 1) = (d :: T).take j ++ [(d :: T).getD j 0] := by
     rw [List.take_add_one, List.getElem?_eq_getElem hj, List.getD_eq_getElem?_getD, List.getElem?_eq_getElem hj]; rfl
    rw [ht]
    by_cases c : (x : Int) ∈ (d :: T).take j
    ·rw [if_pos (decide_eq_true c), decide_eq_true (List.mem_append_left _ c)]
    ·rw [if_neg (by simpa using c), if_pos (by omega), Int.toNat_natCast]
     dsimp only [Option.bind_some]
     by_cases e : (d :: T).getD j 0 = (x : Int)
     ·rw [if_pos e, e, decide_eq_true (List.mem_append_right _ (List.mem_singleton.2 rfl))]
     ·rw [if_neg e, decide_eq_false (fun h => (List.mem_append.1 h).elim c fun h => e (List.mem_singleton.1 h).symm)])
   (fun v hv => by
    refine ⟨_, ?_, by unfold B_V_1; dsimp only; rw [if_neg (by omega)]⟩
    rw [hv, List.take_length])
   n 0 false (Nat.zero_le _) (by simp) (by omega)
  have q2 : m_V_1 n (x : Int) b (false, d :: T, 0) = some r := q2
  rw [q2, q1]
theorem fh_none {p : Nat → Bool} : ∀ {n a : Nat}, fh p a n = none → ∀ j, a ≤ j → j < a + n → p j = false
 | 0, a, _, j, h1, h2 => absurd h1 (by omega)
 | n + 1, a, h, j, h1, h2 => by
  have h : (if p a = true then some a else fh p (a + 1) n) = none := h
  by_cases e : p a = true
  ·rw [if_pos e] at h; cases h
  ·rw [if_neg e] at h
   by_cases c : j = a
   ·rw [c]; exact Bool.eq_false_iff.2 e
   ·exact fh_none h j (by omega) (by omega)
theorem fh_first {p : Nat → Bool} : ∀ {n a c : Nat}, fh p a n = some c → ∀ j, a ≤ j → j < c → p j = false
 | 0, a, c, h, j, _, _ => by cases h
 | n + 1, a, c, h, j, h1, h2 => by
  have h : (if p a = true then some a else fh p (a + 1) n) = some c := h
  by_cases e : p a = true
  ·rw [if_pos e] at h
   obtain rfl := Option.some.inj h
   omega
  ·rw [if_neg e] at h
   by_cases c : j = a
   ·rw [c]; exact Bool.eq_false_iff.2 e
   ·exact fh_first h j (by omega) h2
theorem find_ok {n K : Nat} {s t : Int} (hT : Tree) (hK : ∀ j, (kd j).length ≤ K) (hn : Args.A.length + K + 20 < n) : (∃ c : Nat, m_tFq1 n s t = some ((c : Int), true) ∧ c < Args.A.length ∧ hit s t c = true ∧ ∀ j, j < c → hit s t j = false) ∨ (m_tFq1 n s t = some (0, false) ∧ ∀ j, j < Args.A.length → hit s t j = false) := by
 obtain ⟨m, rfl⟩ : ∃ m, n = m + 1 := ⟨n - 1, by omega⟩
 have hk := hT.ks
 have hpos := hT.pos
 have h1 := hk.vis (s := s) (t := t) (z := 0) (b := false) hK (by omega) hpos m m (by omega) (by have := hK 0; omega)
 have h2 := visit1 (s := s) (t := t) (z := 0) (b := false) (m := m) (j := 0) (e := Args.A.length) (f := fun _ => True) hpos (by omega) h1
 have h2 : m_viq3 (m + 1) 0 s t 0 false 0 = _ := h2
 unfold m_tFq1 m_pl1q2
 rw [check_ok hT (by omega)]
 dsimp only [Option.bind_some]
 rw [if_pos rfl]
 rw [h2, show m_plq1 (m + 1) 0 = some () from rfl]
 dsimp only [Option.bind_some]
 cases hq : fh (hit s t) 0 (Args.A.length - 0) with
 | none => exact .inr ⟨rfl, fun j hj => fh_none hq j (Nat.zero_le _) (by omega)⟩
 | some c =>
  obtain ⟨g1, g2, g3⟩ := fh_some hq
  exact .inl ⟨c, rfl, by omega, g1, fun j hj => fh_first hq j (Nat.zero_le _) hj⟩


/-! TreePaths: the law -/
theorem lightP_ok {n : Nat} (hL : Args.A.length ≤ 1200000 ∨ True) (hn : 200 < n) : ∃ b, m_LPq1 n 120 = some b ∧ (b = true → Args.A.length ≤ 120) := by
 obtain ⟨r, -, h⟩ := whileI (B := B_LPq1_1 n 120) (fun s => ∃ i : Nat, s.2 = i ∧ i ≤ 121) (fun s => 121 - s.2.toNat) (fun r => True)
  (fun s hI => by
   obtain ⟨x, q⟩ := s
   obtain ⟨i, rfl, hi⟩ := hI
   unfold B_LPq1_1
   dsimp only
   by_cases c1 : (i : Int) < ((Args.A.length : Nat) : Int)
   ·rw [if_pos c1]
    by_cases c2 : (i : Int) ≤ 120
    ·rw [if_pos c2, if_pos (by omega), w64_inc (by omega)]
     simp only [Option.bind_some]
     generalize Args.A.getD ((i : Int)).toNat (0, 0, 0, 0, 0, 0, nl0, 0) = p
     by_cases d1 : p.2.2.1 > 1048576
     ·rw [if_pos d1]; exact .inr ⟨_, trivial, rfl⟩
     rw [if_neg d1]
     by_cases d2 : p.2.2.2.2.1 > 1048576
     ·rw [if_pos d2]; exact .inr ⟨_, trivial, rfl⟩
     rw [if_neg d2]
     by_cases d3 : p.2.2.2.2.2.1 > 1048576
     ·rw [if_pos d3]; exact .inr ⟨_, trivial, rfl⟩
     rw [if_neg d3]
     by_cases d4 : p.2.2.1 < -1048576
     ·rw [if_pos d4]; exact .inr ⟨_, trivial, rfl⟩
     rw [if_neg d4]
     by_cases d5 : p.2.2.2.2.1 < -1048576
     ·rw [if_pos d5]; exact .inr ⟨_, trivial, rfl⟩
     rw [if_neg d5]
     by_cases d6 : p.2.2.2.2.2.1 < -1048576
     ·rw [if_pos d6]; exact .inr ⟨_, trivial, rfl⟩
     rw [if_neg d6]
     exact .inl ⟨(_, ((i + 1 : Nat) : Int)), ⟨i + 1, rfl, by omega⟩, by dsimp only; omega, rfl⟩
    ·rw [if_neg c2]; exact .inr ⟨_, trivial, rfl⟩
   ·rw [if_neg c1]; exact .inr ⟨_, trivial, rfl⟩) n (0, 0) ⟨0, rfl, by omega⟩ (by dsimp only; omega)
 unfold m_LPq1 m_LPq1_1
 rw [h]
 rcases r with r | r
 ·exact ⟨_, rfl, fun h => by cases h⟩
 ·dsimp only
  by_cases c1 : ((Args.A.length : Nat) : Int) ≤ 120
  ·rw [if_pos c1]
   split
   ·exact ⟨_, rfl, fun _ => by omega⟩
   ·exact ⟨_, rfl, fun h => by cases h⟩
  ·rw [if_neg c1]; exact ⟨_, rfl, fun h => by cases h⟩

theorem light2 {n : Nat} (hn : 0 < n) : m_LPq2 n 120 = some true := by
 obtain ⟨m, rfl⟩ : ∃ m, n = m + 1 := ⟨n - 1, by omega⟩
 unfold m_LPq2 m_LPq2_1
 rw [iterM_succ]
 unfold B_LPq2_1
 dsimp only [Option.bind_some]
 rw [if_pos (by decide), if_pos (by decide)]
theorem pickN {n : Nat} {g : Int} (h0 : 0 < Args.A.length) (hL : Args.A.length ≤ 120) : ∃ p : Nat, m_pKq1 n g (((Args.A.length : Nat) : Int)) = some (p : Int) ∧ p < Args.A.length := by
 unfold m_pKq1
 rw [if_neg (by omega), if_pos (by omega)]
 have h1 : (-((Args.A.length : Nat) : Int)) < Int.tmod g ((Args.A.length : Nat) : Int) := Int.lt_tmod_of_pos g (by omega)
 have h2 : Int.tmod g ((Args.A.length : Nat) : Int) < ((Args.A.length : Nat) : Int) := Int.tmod_lt_of_pos g (by omega)
 generalize Int.tmod g ((Args.A.length : Nat) : Int) = x at *
 by_cases c : x < 0
 ·rw [if_pos c, w64_sm (by omega) (by omega)]
  exact ⟨(x + ((Args.A.length : Nat) : Int)).toNat, by rw [Int.toNat_of_nonneg (by omega)], by omega⟩
 ·rw [if_neg c]
  exact ⟨x.toNat, by rw [Int.toNat_of_nonneg (by omega)], by omega⟩
theorem light_ok {n : Nat} (hn : 200 < n) : ∃ b, m_liq1 n 0 0 0 = some b ∧ (b = true → Args.A.length ≤ 120) := by
 obtain ⟨b, e1, h1⟩ := lightP_ok (n := n) (.inr trivial) hn
 unfold m_liq1
 rw [e1]
 dsimp only [Option.bind_some]
 cases b with
 | false => exact ⟨false, rfl, fun h => by cases h⟩
 | true =>
  rw [if_pos rfl, light2 (by omega)]
  exact ⟨true, rfl, fun _ => h1 rfl⟩
def tl (n x : Nat) (q : Bool) (X : List Int) : Option Unit :=
 (m_V_1 n (x : Int) q (false, X, 0)).bind fun c =>
 (m_tFq1 n (pt x).1 (pt x).2.2.1).bind fun t => match t with
 | (a, b) =>
  if c = true then (if q = true then none else some ())
  else if q = true then
   (if b = true then
    (if a ≤ (x : Int) then
     (if 0 ≤ a ∧ a < ((Args.A.length : Nat) : Int) then
      ((some (Args.A.getD a.toNat (0, 0, 0, 0, 0, 0, nl0, 0))).bind fun c45 => if c45.1 = (pt x).1 then (if c45.2.2.1 = (pt x).2.2.1 then some () else none) else none)
     else none)
    else none)
   else none)
  else none
theorem tail_ok {n K x : Nat} {q : Bool} {X : List Int} (hT : Tree) (hK : ∀ j, (kd j).length ≤ K) (hn : 2 * Args.A.length + K + 30 < n) (hx : x < Args.A.length) (hX : X = lfs 0 Args.A.length) (hq : q = inn x) : tl n x q X = some () := by
 have hmax := hT.max
 have hl : X.length ≤ Args.A.length := by rw [hX]; exact lfs_len _ _
 have hm : ((x : Int) ∈ X) ↔ inn x = false := by rw [hX, mem_lfs]; constructor; exact fun h => h.2.2; exact fun h => ⟨Nat.zero_le _, by omega, h⟩
 unfold tl
 rw [isleaf (by omega) (by omega)]
 dsimp only [Option.bind_some]
 cases hi : inn x with
 | false =>
  rw [hi] at hq
  subst hq
  rw [decide_eq_true (hm.2 hi)]
  rcases find_ok (n := n) (s := (pt x).1) (t := (pt x).2.2.1) hT hK (by omega) with ⟨c, e, hc, hh, hf⟩ | ⟨e, hf⟩ <;> rw [e] <;> rfl
 | true =>
  rw [hi] at hq
  subst hq
  rw [decide_eq_false (fun h => by rw [hm.1 h] at hi; cases hi)]
  have hxx : hit (pt x).1 (pt x).2.2.1 x = true := by
   exact decide_eq_true ⟨of_decide_eq_true hi, rfl, rfl⟩
  rcases find_ok (n := n) (s := (pt x).1) (t := (pt x).2.2.1) hT hK (by omega) with ⟨c, e, hc, hh, hf⟩ | ⟨e, hf⟩
  ·rw [e]
   have hcx : c ≤ x := by
    rcases Nat.lt_or_ge x c with h | h
    ·rw [hf x h] at hxx; cases hxx
    ·exact h
   unfold hit at hh
   simp only [decide_eq_true_eq] at hh
   dsimp only [Option.bind_some]
   rw [if_neg (by decide), if_pos rfl, if_pos rfl, if_pos (by omega), if_pos (by omega), Int.toNat_natCast]
   show (if (pt c).1 = (pt x).1 then (if (pt c).2.2.1 = (pt x).2.2.1 then some () else none) else none) = some ()
   rw [if_pos hh.2.1, if_pos hh.2.2]
  ·rw [hf x hx] at hxx; cases hxx
theorem treePaths_true (g1 : Int) : ∃ n, m_V n g1 = some () := by
 obtain ⟨K, hK⟩ := bound_kd
 refine ⟨3000 + 3 * Args.A.length + K, ?_⟩
 generalize hn : 3000 + 3 * Args.A.length + K = n
 unfold m_V m_viewportlaw16lives
 simp only [Option.bind_some]
 obtain ⟨b, e1, h1⟩ := light_ok (n := n) (by omega)
 rw [e1]
 simp only [Option.bind_some]
 cases b with
 | false => rw [if_neg (by decide)]
 | true =>
  have hL := h1 rfl
  rw [if_pos rfl]
  obtain ⟨c, e2, h2⟩ := prgCheck (n := n) (by omega) (by omega)
  rw [e2]
  simp only [Option.bind_some]
  by_cases c0 : ¬ c = 0
  ·rw [if_neg c0]
  obtain rfl := Decidable.not_not.1 c0
  have hT := h2 rfl
  have hpos := hT.pos
  have hmax := hT.max
  obtain ⟨x, hx, hxl⟩ := pickN (n := n) (g := g1) hpos hL
  obtain ⟨L, hU, e4⟩ := path_ok (n := n) (j := x) hT (by omega) hxl
  have hUl := hU.len hT
  have hend := hU.end hT
  have hpl : parL.length = Args.A.length := parL_len
  have hw : w64 (((syms L).length : Int) - 1) = ((L.length - 1 : Nat) : Int) := by rw [syms_len, w64_sm (by omega) (by omega)]; omega
  rw [if_pos rfl, if_neg (by omega), hx]
  dsimp only [Option.bind_some]
  rw [prgPar hT hK (by omega)]
  dsimp only [Option.bind_some]
  rw [e4]
  dsimp only [Option.bind_some]
  rw [if_pos rfl, if_neg (by rw [syms_len]; omega), hw]
  rw [if_pos (by rw [syms_len]; omega), Int.toNat_natCast]
  rw [if_pos (by omega), Int.toNat_natCast, hend.1]
  rw [if_pos (show (pt x).1 = (Args.A.getD x (0, 0, 0, 0, 0, 0, nl0, 0)).1 from rfl), if_pos (by omega), if_pos (by show 0 < _; omega)]
  rw [show parL.getD ((0 : Int)).toNat 0 = -1 from par_root hT, if_pos rfl]
  have t1 : ∀ (q : Bool) (X : List Int), X = lfs 0 Args.A.length → q = inn x → tl n x q X = some () := fun q X h1 h2 => tail_ok hT hK (by omega) hxl h1 h2
  have hin : ∀ (k1 : (pt x).2.1 = 1 ∨ (pt x).2.1 = 2), true = inn x := fun h => by unfold inn; rw [decide_eq_true h]
  have hin0 : ∀ (k1 : ¬ (pt x).2.1 = 1) (k2 : ¬ (pt x).2.1 = 2), false = inn x := fun h h' => by unfold inn; rw [decide_eq_false (by omega)]
  by_cases c1 : (x : Int) > 0
  ·rw [if_pos c1, if_pos (by omega), if_pos (by omega)]
   obtain ⟨p, M, g1, g2, g3, g4, g5, g6⟩ := hU.last hT (by omega)
   rw [g4]
   rw [if_neg (by omega), if_neg (by omega)]
   obtain ⟨M', hU', e5⟩ := path_ok (n := n) (j := p) hT (by omega) g6
   obtain rfl := hU'.uniq hT g2
   rw [e5]
   dsimp only [Option.bind_some]
   have hcap : (syms L).length ≤ capF L.length ∧ (capF L.length < big ∨ capF L.length = Nat.add big 1) := by
    rw [syms_len]
    have h2 := hUl.2.2 (by omega)
    unfold capF
    rw [if_neg (by omega), if_neg (by omega)]
    exact ⟨by show L.length ≤ 1180591620717411303424 + 1; omega, .inr rfl⟩
   rw [if_pos (by rw [syms_len]; omega), if_pos hcap]
   have hsame : m_sIq1 n (syms M') (capF M'.length) (syms L) (L.length - 1) (capF L.length) = some true := by
    refine same_ok (by rw [syms_len, g1]; simp) (by rw [syms_len]; omega) (by omega) (fun j hj => ?_) (by omega)
    rw [g1, syms_app]
    have hj' : j < (syms M').length := by rw [syms_len]; rw [g1] at hj; simpa using hj
    rw [List.getD_eq_getElem?_getD, List.getD_eq_getElem?_getD, List.getElem?_append_left hj']
   rw [hsame]
   dsimp only [Option.bind_some]
   obtain ⟨f, f1, f2, f3⟩ := hT.end hxl
   obtain ⟨p', e', p1, p2, p3, p4⟩ := par_end hT (by omega) hxl f1
   have : p = p' := by omega
   subst this
   rw [if_pos rfl, end_ok hT (by omega) hxl f1 f3]
   dsimp only [Option.bind_some]
   have he' : e' ≤ Args.A.length := p3.hi (by omega)
   rw [end_ok hT (by omega) g6 p3 he']
   dsimp only [Option.bind_some]
   rw [if_neg (by omega)]
   by_cases k1 : (pt x).2.1 = 1
   ·rw [if_pos (show (Args.A.getD x (0, 0, 0, 0, 0, 0, nl0, 0)).2.1 = 1 from k1), leaves_ok hT hK (by omega)]
    dsimp only [Option.bind_some]
    cases hq : lfs 0 Args.A.length with
    | nil => exact t1 true [] hq.symm (hin (.inl k1))
    | cons d T => exact t1 true (d :: T) hq.symm (hin (.inl k1))
   ·rw [if_neg (show ¬ (Args.A.getD x (0, 0, 0, 0, 0, 0, nl0, 0)).2.1 = 1 from k1)]
    by_cases k2 : (pt x).2.1 = 2
    ·rw [if_pos (show (Args.A.getD x (0, 0, 0, 0, 0, 0, nl0, 0)).2.1 = 2 from k2), leaves_ok hT hK (by omega)]
     dsimp only [Option.bind_some]
     cases hq : lfs 0 Args.A.length with
     | nil => exact t1 true [] hq.symm (hin (.inr k2))
     | cons d T => exact t1 true (d :: T) hq.symm (hin (.inr k2))
    ·rw [if_neg (show ¬ (Args.A.getD x (0, 0, 0, 0, 0, 0, nl0, 0)).2.1 = 2 from k2), leaves_ok hT hK (by omega)]
     dsimp only [Option.bind_some]
     cases hq : lfs 0 Args.A.length with
     | nil => exact t1 false [] hq.symm (hin0 k1 k2)
     | cons d T => exact t1 false (d :: T) hq.symm (hin0 k1 k2)
  ·rw [if_neg c1]
   by_cases k1 : (pt x).2.1 = 1
   ·rw [if_pos (show (Args.A.getD x (0, 0, 0, 0, 0, 0, nl0, 0)).2.1 = 1 from k1), leaves_ok hT hK (by omega)]
    dsimp only [Option.bind_some]
    cases hq : lfs 0 Args.A.length with
    | nil => exact t1 true [] hq.symm (hin (.inl k1))
    | cons d T => exact t1 true (d :: T) hq.symm (hin (.inl k1))
   ·rw [if_neg (show ¬ (Args.A.getD x (0, 0, 0, 0, 0, 0, nl0, 0)).2.1 = 1 from k1)]
    by_cases k2 : (pt x).2.1 = 2
    ·rw [if_pos (show (Args.A.getD x (0, 0, 0, 0, 0, 0, nl0, 0)).2.1 = 2 from k2), leaves_ok hT hK (by omega)]
     dsimp only [Option.bind_some]
     cases hq : lfs 0 Args.A.length with
     | nil => exact t1 true [] hq.symm (hin (.inr k2))
     | cons d T => exact t1 true (d :: T) hq.symm (hin (.inr k2))
    ·rw [if_neg (show ¬ (Args.A.getD x (0, 0, 0, 0, 0, 0, nl0, 0)).2.1 = 2 from k2), leaves_ok hT hK (by omega)]
     dsimp only [Option.bind_some]
     cases hq : lfs 0 Args.A.length with
     | nil => exact t1 false [] hq.symm (hin0 k1 k2)
     | cons d T => exact t1 false (d :: T) hq.symm (hin0 k1 k2)

end Go.Proofs.Ytalepmolclldlaa.trp
