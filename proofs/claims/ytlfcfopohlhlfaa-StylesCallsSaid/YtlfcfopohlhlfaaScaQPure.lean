/-
  The pure side. No condition.
-/
import Derived.Test.YtlfcfopohlhlfaaScaPure
import Derived.IntWalk
set_option linter.unusedSimpArgs false
set_option linter.unusedVariables false
set_option linter.unusedSectionVars false
set_option linter.unnecessarySimpa false
noncomputable section
namespace Go.Proofs.Ytlfcfopohlhlfaa.sca26
open Go Go.Proofs.Ytlfcfopohlhlfaa Ax
variable [Args]

section
variable [Cur]

theorem Ks.cnt {i k next e : Nat} {a : Int} (h : Ks i k next a e) : next + ((kd i).length - k) ≤ e := by
 induction h with
 | done hk => omega
 | kid hk hv hn ha h1 h2 ih1 ih2 => have := h1.lt; omega
theorem Ks.hold {i k next e : Nat} {a : Int} (h : Ks i k next a e) : ∀ j : Nat, next ≤ j → j < e → ∃ q c f : Nat, k ≤ q ∧ q < (kd i).length ∧ (kd i).getD q 0 = (c : Int) ∧ c < Cur.x.l.length ∧ Ks c 0 (c + 1) (atF c) f ∧ next ≤ c ∧ c ≤ j ∧ j < f ∧ f ≤ e ∧ (∀ u, k ≤ u → u < q → (kd i).getD u 0 < (c : Int)) ∧ (∀ u, q < u → u < (kd i).length → (f : Int) ≤ (kd i).getD u 0) := by
 induction h with
 | done hk => exact fun j h1 h2 => absurd h1 (by omega)
 | @kid i k next e' e a hk hv hn ha h1 h2 ih1 ih2 =>
  intro j h3 h4
  have l1 := h1.lt
  have l2 := h2.lt
  rcases Nat.lt_or_ge j e' with h5 | h5
  ·refine ⟨k, next, e', Nat.le_refl _, hk, hv, hn, h1, Nat.le_refl _, h3, h5, l2, fun u u1 u2 => absurd u1 (by omega), fun u u1 u2 => ?_⟩
   obtain ⟨c, g1, g2, _, _⟩ := h2.kids u (by omega) u2
   rw [g1]; omega
  ·obtain ⟨q, c, f, g1, g2, g3, g4, g5, g6, g7, g8, g9, ga, gb⟩ := ih2 j h5 h4
   refine ⟨q, c, f, by omega, g2, g3, g4, g5, by omega, g7, g8, g9, fun u u1 u2 => ?_, gb⟩
   by_cases e1 : u = k
   ·subst e1; rw [hv]; omega
   ·exact ga u (by omega) u2
theorem kid_uniq (hT : Tree) {p p' : Nat} {c : Nat} (hp : p < Cur.x.l.length) (hp' : p' < Cur.x.l.length) (h : (c : Int) ∈ kd p) (h' : (c : Int) ∈ kd p') : p = p' := by
 have main : ∀ p p' : Nat, p < Cur.x.l.length → p' < Cur.x.l.length → (c : Int) ∈ kd p → (c : Int) ∈ kd p' → ¬ p < p' := by
  intro p p' hp hp' h h' hlt
  obtain ⟨e, k1, k2, k3⟩ := hT.end hp
  obtain ⟨e', m1, m2, m3⟩ := hT.end hp'
  obtain ⟨u, hu, huc⟩ := qwk_ 0 h
  obtain ⟨v, hv, hvc⟩ := qwk_ 0 h'
  obtain ⟨c1, a1, a2, a3, a4⟩ := k1.kids u (Nat.zero_le _) hu
  obtain ⟨c2, b1, b2, b3, b4⟩ := m1.kids v (Nat.zero_le _) hv
  have e1 : c1 = c := by omega
  have e2 : c2 = c := by omega
  subst e1
  subst e2
  obtain ⟨q, d, f, g1, g2, g3, g4, g5, g6, g7, g8, g9, ga, gb⟩ := k1.hold p' (by omega) (by omega)
  have : e' ≤ f := by
   by_cases e3 : p' = d
   ·subst e3
    have := Ks.uniq m1 g5 hp'
    omega
   ·obtain ⟨f', o1, o2⟩ := g5.cover p' (by omega) g8
    have := Ks.uniq m1 o2 hp'
    omega
  rcases Nat.lt_trichotomy u q with h6 | h6 | h6
  ·have := ga u (Nat.zero_le _) h6; omega
  ·subst h6; omega
  ·have := gb u h6 hu; omega
 rcases Nat.lt_trichotomy p p' with h6 | h6 | h6
 ·exact absurd h6 (main p p' hp hp' h h')
 ·exact h6
 ·exact absurd h6 (main p' p hp' hp h' h)
theorem par_of (hT : Tree) {p c : Nat} (hp : p < Cur.x.l.length) (hc : c < Cur.x.l.length) (h : (c : Int) ∈ kd p) : parL.getD c 0 = (p : Int) := by
 obtain ⟨q, g1, g2, g3⟩ := parN_mem hT hc Cur.x.l.length (Nat.le_refl _) ⟨p, hp, h⟩
 rw [kid_uniq hT hp g2 h g3]
 exact g1
theorem par_root (hT : Tree) : parL.getD 0 0 = -1 := by
 have hpos := hT.pos
 have main : ∀ n, n ≤ Cur.x.l.length → (parN n par0).getD 0 0 = -1 := by
  intro n
  induction n with
  | zero =>
   intro _
   show par0.getD 0 0 = -1
   unfold par0
   rw [getD_set (by rw [List.length_replicate]; exact hpos), if_pos rfl]
  | succ n ih =>
   intro hn
   have h0 : par0.length = Cur.x.l.length := by unfold par0; rw [List.length_set, List.length_replicate]
   have hk := kd_nat hT (by omega : n < Cur.x.l.length)
   show (setK (parN n par0) (n : Int) (kd n)).getD 0 0 = -1
   rw [setK_get (c := 0) (fun k hk' => by obtain ⟨d, e, _⟩ := hk k hk'; omega) (by rw [qud_, h0]; exact hpos), if_neg (fun hm => by obtain ⟨d, e, h⟩ := hk _ hm; omega), ih (by omega)]
 exact main _ (Nat.le_refl _)
inductive Up : Nat → List Nat → Prop
 | root : Up 0 [0]
 | step {p c : Nat} {L : List Nat} (h : Up p L) (hp : p < Cur.x.l.length) (hc : c < Cur.x.l.length) (hk : (c : Int) ∈ kd p) : Up c (L ++ [c])
def syms (L : List Nat) : List Int := L.map fun i => (pt i).1
theorem syms_app {L : List Nat} {i : Nat} : syms (L ++ [i]) = syms L ++ [(pt i).1] := by unfold syms; rw [List.map_append]; rfl
theorem que_ {L : List Nat} : (syms L).length = L.length := by unfold syms; rw [List.length_map]
theorem Up.len (hT : Tree) {i : Nat} {L : List Nat} (h : Up i L) : 1 ≤ L.length ∧ L.length ≤ i + 1 ∧ (i ≠ 0 → 2 ≤ L.length) := by
 induction h with
 | root => exact ⟨Nat.le_refl _, Nat.le_refl _, fun h => absurd rfl h⟩
 | @step p c L h hp hc hk ih =>
  obtain ⟨d, e, h1⟩ := kd_nat hT hp _ hk
  have e2 : (L ++ [c]).length = L.length + 1 := by simp
  rw [e2]
  refine ⟨by omega, by omega, fun _ => by omega⟩

theorem mid_ok {a b : Nat} (ha : a ≤ 1000000) (hb : b ≤ 1000000) : IntKind.i64.wrap (Int.fdiv (IntKind.u64.wrap (w64 ((a : Int) + (b : Int)))) 2) = (((a + b) / 2 : Nat) : Int) := by
 have e : Int.fdiv (IntKind.u64.wrap (w64 ((a : Int) + (b : Int)))) 2 = (((a + b) / 2 : Nat) : Int) := by
  rw [qpl_ (by omega) (by omega), IntWalk.u64_in _ (by omega), show (a : Int) + (b : Int) = ((a + b : Nat) : Int) by omega, Int.fdiv_eq_ediv_of_nonneg _ (by decide)]
  rfl
 rw [e]
 exact qpl_ (by omega) (by omega)
theorem less_ok {n : Nat} {a b : Int} : qie_ n a b = some (decide (a < b)) := by
 unfold qie_ qi3_
 simp only [Option.bind_some]
 by_cases h : a < b
 ·rw [if_pos h, decide_eq_true h]
 ·rw [if_neg h, decide_eq_false h]
theorem search1 {n q : Nat} {x : NL} {v : Int} (hl : x.l.length ≤ 1000000) (hn : x.l.length < n) (hq : q ≤ x.l.length) (h1 : ∀ u, u < q → x.l.getD u 0 < v) (h2 : ∀ u, q ≤ u → u < x.l.length → v ≤ x.l.getD u 0) : qdp_ n x v (x.l.length : Int) (0, (x.l.length : Int)) = some (q : Int) := by
 obtain ⟨r, rfl, h⟩ := whileI (B := q5_ n x v (x.l.length : Int)) (fun s => ∃ a b : Nat, s = ((a : Int), (b : Int)) ∧ a ≤ q ∧ q ≤ b ∧ b ≤ x.l.length) (fun s => (s.2 - s.1).toNat) (fun r => r = (q : Int))
  (fun s hI => by
   obtain ⟨a, b, rfl, ha, hb, hbl⟩ := hI
   unfold q5_
   dsimp only
   by_cases hlt : a < b
   ·rw [if_pos (by omega), mid_ok (by omega) (by omega), if_pos (by omega)]
    simp only [Int.toNat_natCast]
    rw [if_pos (by omega)]
    simp only [Option.bind_some]
    rw [less_ok]
    simp only [Option.bind_some]
    by_cases hv : x.l.getD ((a + b) / 2) 0 < v
    ·rw [if_pos (decide_eq_true hv), w64_inc (by omega)]
     have : (a + b) / 2 < q := by
      rcases Nat.lt_or_ge ((a + b) / 2) q with h | h
      ·exact h
      ·have := h2 _ h (by omega); omega
     exact .inl ⟨((((a + b) / 2 + 1 : Nat) : Int), (b : Int)), ⟨(a + b) / 2 + 1, b, rfl, by omega, hb, hbl⟩, by dsimp only; omega, rfl⟩
    ·rw [if_neg (by simpa using hv)]
     have : q ≤ (a + b) / 2 := by
      rcases Nat.lt_or_ge ((a + b) / 2) q with h | h
      ·exact absurd (h1 _ h) hv
      ·exact h
     exact .inl ⟨((a : Int), (((a + b) / 2 : Nat) : Int)), ⟨a, (a + b) / 2, rfl, ha, this, by omega⟩, by dsimp only; omega, rfl⟩
   ·rw [if_neg (by omega)]
    exact .inr ⟨(a : Int), by omega, rfl⟩) n (0, (x.l.length : Int)) ⟨0, x.l.length, rfl, Nat.zero_le _, hq, Nat.le_refl _⟩ (by dsimp only; omega)
 exact h
theorem down_ok {n i j e : Nat} (hT : Tree) (hn : Cur.x.l.length < n) (hi : i < Cur.x.l.length) (he : Ks i 0 (i + 1) (atF i) e) (hel : e ≤ Cur.x.l.length) (h1 : i < j) (h2 : j < e) : ∃ q c f : Nat, q < (kd i).length ∧ (kd i).getD q 0 = (c : Int) ∧ c < Cur.x.l.length ∧ Ks c 0 (c + 1) (atF c) f ∧ i < c ∧ c ≤ j ∧ j < f ∧ f ≤ e ∧ (qe_ n (pt i).2.2.2.2.2.2.1 (j : Int) = some ((q : Int), true) ∨ qe_ n (pt i).2.2.2.2.2.2.1 (j : Int) = some (((q + 1 : Nat) : Int), false)) := by
 have hmax := hT.max
 have hcnt := he.cnt
 obtain ⟨q, c, f, g1, g2, g3, g4, g5, g6, g7, g8, g9, ga, gb⟩ := he.hold j h1 h2
 refine ⟨q, c, f, g2, g3, g4, g5, by omega, g7, g8, g9, ?_⟩
 have hlen : (kd i).length ≤ 1000000 := by omega
 have hkl : (pt i).2.2.2.2.2.2.1.l.length = (kd i).length := rfl
 have hkd : ∀ u, (pt i).2.2.2.2.2.2.1.l.getD u 0 = (kd i).getD u 0 := fun _ => rfl
 unfold qe_ qgl_
 by_cases hc : c = j
 ·left
  rw [search1 (q := q) (by rw [hkl]; exact hlen) (by rw [hkl]; omega) (by rw [hkl]; omega) (fun u hu => by rw [hkd]; have := ga u (Nat.zero_le _) hu; omega) (fun u hu hul => by
   rw [hkd]
   by_cases e1 : u = q
   ·subst e1; omega
   ·have := gb u (by omega) hul; omega)]
  simp only [Option.bind_some]
  rw [hkl, if_pos (by omega), if_pos (by omega)]
  simp only [Int.toNat_natCast]
  rw [if_pos g2]
  rw [if_pos (show (pt i).2.2.2.2.2.2.1.l.getD q 0 = (j : Int) from by rw [hkd, g3]; omega)]
 ·right
  rw [search1 (q := q + 1) (by rw [hkl]; exact hlen) (by rw [hkl]; omega) (by rw [hkl]; omega) (fun u hu => by
   rw [hkd]
   by_cases e1 : u = q
   ·subst e1; omega
   ·have := ga u (Nat.zero_le _) (by omega); omega) (fun u hu hul => by
   rw [hkd]
   have := gb u (by omega) hul; omega)]
  simp only [Option.bind_some]
  by_cases h3 : q + 1 < (kd i).length
  ·rw [hkl, if_pos (by omega), if_pos (by omega)]
   simp only [Int.toNat_natCast]
   rw [if_pos h3]
   have := gb (q + 1) (by omega) h3
   rw [if_neg (show ¬ (pt i).2.2.2.2.2.2.1.l.getD (q + 1) 0 = (j : Int) from by rw [hkd]; omega)]
  ·rw [hkl, if_neg (by omega)]
theorem path1_ok {n j : Nat} (hT : Tree) (hn : Cur.x.l.length < n) : ∀ (d at_ e : Nat) (L : List Nat), Cur.x.l.length - at_ ≤ d → at_ < Cur.x.l.length → Ks at_ 0 (at_ + 1) (atF at_) e → e ≤ Cur.x.l.length → at_ ≤ j → j < e → Up at_ L → ∀ f, d < f → ∃ M, Up j M ∧ iterM (qer_ n Cur.x (j : Int)) f ((at_ : Int), syms L) = some (syms M)
 | 0, at_, e, L, hd, hl, _, _, _, _, _, _, _ => absurd hd (by omega)
 | d + 1, at_, e, L, hd, hl, he, hel, h1, h2, hU, f, hf => by
  obtain ⟨f, rfl⟩ : ∃ g, f = g + 1 := ⟨f - 1, by omega⟩
  have hmax := hT.max
  have hUl := hU.len hT
  rw [qb1_]
  by_cases e1 : at_ = j
  ·subst e1
   refine ⟨L, hU, ?_⟩
   unfold qer_
   dsimp only
   rw [if_pos rfl]
   rfl
  ·obtain ⟨q, c, f', g1, g2, g3, g4, g5, g6, g7, g8, g9⟩ := down_ok hT hn hl he hel (by omega) h2
   have hkl := kd_le at_
   have hmem : (c : Int) ∈ kd at_ := by rw [← g2]; exact getD_mem g1
   have hU' := Up.step hU hl g3 hmem
   obtain ⟨M, hM, hM2⟩ := path1_ok hT hn d c f' (L ++ [c]) (by omega) g3 g4 (by omega) g6 g7 hU' f (by omega)
   refine ⟨M, hM, ?_⟩
   have hB : qer_ n Cur.x (j : Int) ((at_ : Int), syms L) = some (.inl ((c : Int), syms (L ++ [c]))) := by
    unfold qer_
    dsimp only
    rw [if_neg (by omega), if_pos (by omega)]
    simp only [Option.bind_some, Int.toNat_natCast]
    rw [syms_app]
    rcases g9 with g9 | g9
    ·have g9 : qe_ n (Cur.x.l.getD at_ (0, 0, 0, 0, 0, 0, nl0, 0)).2.2.2.2.2.2.1 (j : Int) = some ((q : Int), true) := g9
     rw [g9]
     simp only [Option.bind_some]
     rw [if_pos trivial, if_pos (show (0 : Int) ≤ (q : Int) ∧ (q : Int) < ((((Cur.x.l.getD at_ (0, 0, 0, 0, 0, 0, nl0, 0)).2.2.2.2.2.2.1.l.length : Nat)) : Int) from ⟨Int.natCast_nonneg _, Int.ofNat_lt.2 g1⟩)]
     simp only [Int.toNat_natCast]
     rw [if_pos (show q < (Cur.x.l.getD at_ (0, 0, 0, 0, 0, 0, nl0, 0)).2.2.2.2.2.2.1.l.length from g1), show (Cur.x.l.getD at_ (0, 0, 0, 0, 0, 0, nl0, 0)).2.2.2.2.2.2.1.l.getD q 0 = (c : Int) from g2, if_pos (by omega)]
     simp only [Int.toNat_natCast]
     rw [if_pos (by rw [que_]; omega)]
     rfl
    ·have g9 : qe_ n (Cur.x.l.getD at_ (0, 0, 0, 0, 0, 0, nl0, 0)).2.2.2.2.2.2.1 (j : Int) = some (((q + 1 : Nat) : Int), false) := g9
     have hcnt := he.cnt
     have e2 : w64 (((q + 1 : Nat) : Int) - 1) = (q : Int) := by rw [qpl_ (by omega) (by omega)]; omega
     rw [g9]
     simp only [Option.bind_some]
     rw [if_neg (by decide), e2, if_pos (show (0 : Int) ≤ (q : Int) ∧ (q : Int) < ((((Cur.x.l.getD at_ (0, 0, 0, 0, 0, 0, nl0, 0)).2.2.2.2.2.2.1.l.length : Nat)) : Int) from ⟨Int.natCast_nonneg _, Int.ofNat_lt.2 g1⟩)]
     simp only [Int.toNat_natCast]
     rw [if_pos (show q < (Cur.x.l.getD at_ (0, 0, 0, 0, 0, 0, nl0, 0)).2.2.2.2.2.2.1.l.length from g1), show (Cur.x.l.getD at_ (0, 0, 0, 0, 0, 0, nl0, 0)).2.2.2.2.2.2.1.l.getD q 0 = (c : Int) from g2, if_pos (by omega)]
     simp only [Int.toNat_natCast]
     rw [if_pos (by rw [que_]; omega)]
     rfl
   rw [hB]
   exact hM2
def capF (k : Nat) : Nat := if k = 0 then 0 else if k = 1 then 1 else Nat.add big 1
theorem path_ok {n j : Nat} (hT : Tree) (hn : Cur.x.l.length < n) (hj : j < Cur.x.l.length) : ∃ L, Up j L ∧ ∃ y : NL, qge_ n Cur.x (j : Int) = some y ∧ y.l = syms L := by
 have hpos := hT.pos
 have hmax := hT.max
 unfold qge_ qgk_
 rw [if_pos (by omega), if_pos (by omega), check_ok hT hn]
 simp only [Option.bind_some]
 rw [if_pos trivial]
 simp only [Option.bind_some]
 rw [if_pos trivial, if_pos (by omega)]
 by_cases h0 : j = 0
 ·subst h0
  refine ⟨[0], .root, ?_⟩
  rw [if_pos (by omega), dif_pos (show [_].length ≤ 140737488355328 from Nat.succ_le_of_lt (by decide))]
  exact ⟨_, rfl, rfl⟩
 ·rw [if_neg (by omega)]
  obtain ⟨q, c, f', g1, g2, g3, g4, g5, g6, g7, g8, g9⟩ := down_ok hT hn hpos hT.ks (Nat.le_refl _) (by omega : 0 < j) hj
  have hcnt := hT.ks.cnt
  have hmem : (c : Int) ∈ kd 0 := by rw [← g2]; exact getD_mem g1
  have hU' := Up.step .root hpos g3 hmem
  obtain ⟨M, hM, hM2⟩ := path1_ok hT hn Cur.x.l.length c f' ([0] ++ [c]) (by omega) g3 g4 (by omega) g6 g7 hU' n hn
  have hM2 : qkh_ n Cur.x (j : Int) ((c : Int), [(Cur.x.l.getD 0 (0, 0, 0, 0, 0, 0, nl0, 0)).1, (Cur.x.l.getD c (0, 0, 0, 0, 0, 0, nl0, 0)).1]) = some (syms M) := hM2
  have hMl := hM.len hT
  have hsl := que_ (L := M)
  refine ⟨M, hM, ?_⟩
  rcases g9 with g9 | g9
  ·have g9 : qe_ n (Cur.x.l.getD 0 (0, 0, 0, 0, 0, 0, nl0, 0)).2.2.2.2.2.2.1 (j : Int) = some ((q : Int), true) := g9
   rw [Int.toNat_zero, g9]
   simp only [Option.bind_some]
   rw [if_pos trivial, if_pos (show (0 : Int) ≤ (q : Int) ∧ (q : Int) < ((((Cur.x.l.getD 0 (0, 0, 0, 0, 0, 0, nl0, 0)).2.2.2.2.2.2.1.l.length : Nat)) : Int) from ⟨Int.natCast_nonneg _, Int.ofNat_lt.2 g1⟩)]
   simp only [Int.toNat_natCast]
   rw [if_pos (show q < (Cur.x.l.getD 0 (0, 0, 0, 0, 0, 0, nl0, 0)).2.2.2.2.2.2.1.l.length from g1), show (Cur.x.l.getD 0 (0, 0, 0, 0, 0, 0, nl0, 0)).2.2.2.2.2.2.1.l.getD q 0 = (c : Int) from g2, if_pos (by omega)]
   simp only [Int.toNat_natCast]
   rw [hM2]
   simp only [Option.bind_some]
   rw [dif_pos (by omega)]
   exact ⟨_, rfl, rfl⟩
  ·have g9 : qe_ n (Cur.x.l.getD 0 (0, 0, 0, 0, 0, 0, nl0, 0)).2.2.2.2.2.2.1 (j : Int) = some (((q + 1 : Nat) : Int), false) := g9
   have e2 : w64 (((q + 1 : Nat) : Int) - 1) = (q : Int) := by rw [qpl_ (by omega) (by omega)]; omega
   rw [Int.toNat_zero, g9]
   simp only [Option.bind_some]
   rw [if_neg (by decide), e2, if_pos (show (0 : Int) ≤ (q : Int) ∧ (q : Int) < ((((Cur.x.l.getD 0 (0, 0, 0, 0, 0, 0, nl0, 0)).2.2.2.2.2.2.1.l.length : Nat)) : Int) from ⟨Int.natCast_nonneg _, Int.ofNat_lt.2 g1⟩)]
   simp only [Int.toNat_natCast]
   rw [if_pos (show q < (Cur.x.l.getD 0 (0, 0, 0, 0, 0, 0, nl0, 0)).2.2.2.2.2.2.1.l.length from g1), show (Cur.x.l.getD 0 (0, 0, 0, 0, 0, 0, nl0, 0)).2.2.2.2.2.2.1.l.getD q 0 = (c : Int) from g2, if_pos (by omega)]
   simp only [Int.toNat_natCast]
   rw [hM2]
   simp only [Option.bind_some]
   rw [dif_pos (by omega)]
   exact ⟨_, rfl, rfl⟩
theorem capF_1 {k : Nat} (h : 2 ≤ k) : capF k = Nat.add big 1 := by unfold capF; rw [if_neg (by omega), if_neg (by omega)]
theorem refPath1 {n : Nat} (hT : Tree) {y : NL} (hy : y.l = parL) {i : Nat} {L : List Nat} (h : Up i L) : ∀ (acc : List Int) (f : Nat), L.length + acc.length ≤ 1000000 → L.length < f → i < Cur.x.l.length → iterM (qo_ n Cur.x y) f ((i : Int), acc, acc.length, capF acc.length) = some (syms L ++ acc, (syms L ++ acc).length, capF (syms L ++ acc).length) := by
 have hpl := parL_len
 have hyl : y.l.length = Cur.x.l.length := by rw [hy, hpl]
 -- one round
 have round : ∀ (i : Nat) (acc : List Int), i < Cur.x.l.length → acc.length ≤ 1000000 → qo_ n Cur.x y ((i : Int), acc, acc.length, capF acc.length) = some (.inl (parL.getD i 0, (pt i).1 :: acc, ((pt i).1 :: acc).length, capF ((pt i).1 :: acc).length)) := by
  intro i acc hi ha
  cases acc with
  | nil =>
   unfold qo_
   dsimp only
   rw [if_pos (by omega), if_pos (by omega)]
   simp only [Option.bind_some, Int.toNat_natCast]
   rw [if_pos (by omega), if_pos (by omega), hy]
   rfl
  | cons a t =>
   have e1 : (a :: t).length = t.length + 1 := rfl
   have e2 : ((pt i).1 :: a :: t).length = t.length + 2 := rfl
   have e3 : List.take (a :: t).length (List.drop 0 (a :: t)) = a :: t := by rw [List.drop_zero, List.take_length]
   unfold qo_
   dsimp only
   rw [if_pos (by omega), if_pos (by omega)]
   simp only [Option.bind_some, Int.toNat_natCast]
   rw [if_pos (by omega), if_pos (by omega), if_pos (by omega), if_pos (by omega), if_pos (by omega), if_pos (by omega), e3, capF_1 (by omega), hy]
   rfl
 induction h with
 | root =>
  intro acc f h1 h2 hi
  obtain ⟨f, rfl⟩ : ∃ g, f = g + 1 := ⟨f - 1, by omega⟩
  have e1 : ([0] : List Nat).length = 1 := rfl
  obtain ⟨f, rfl⟩ : ∃ g, f = g + 1 := ⟨f - 1, by omega⟩
  rw [qb1_, round 0 acc hi (by omega), par_root hT]
  show iterM (qo_ n Cur.x y) (f + 1) (-1, (pt 0).1 :: acc, ((pt 0).1 :: acc).length, capF ((pt 0).1 :: acc).length) = _
  rw [qb1_]
  unfold qo_
  dsimp only
  rw [if_neg (by omega)]
  rfl
 | @step p c L h hp hc hk ih =>
  intro acc f h1 h2 hi
  obtain ⟨f, rfl⟩ : ∃ g, f = g + 1 := ⟨f - 1, by omega⟩
  have e1 : (L ++ [c]).length = L.length + 1 := by simp
  have e2 : ((pt c).1 :: acc).length = acc.length + 1 := rfl
  rw [qb1_, round c acc hi (by omega), par_of hT hp hc hk]
  have := ih ((pt c).1 :: acc) f (by omega) (by omega) hp
  rw [syms_app, List.append_assoc]
  exact this
theorem refPath {n K j : Nat} {L : List Nat} (hT : Tree) (hK : ∀ j, (kd j).length ≤ K) (hn : Cur.x.l.length + K + 10 < n) (hc : qf_ n Cur.x = some 0) (hj : j < Cur.x.l.length) (hU : Up j L) : ∃ y : NL, qbu_ n Cur.x (j : Int) = some y ∧ y.l = syms L := by
 have hmax := hT.max
 have hUl := hU.len hT
 unfold qbu_ qf0_
 rw [hc]
 simp only [Option.bind_some]
 rw [if_pos trivial, if_pos (by omega), if_pos (by omega)]
 simp only [Option.bind_some]
 obtain ⟨y, hy, hyl⟩ := refPar hT hK (by omega) hc
 rw [if_pos trivial, hy]
 simp only [Option.bind_some]
 have h := refPath1 (n := n) hT hyl hU [] n (by simp; omega) (by omega) hj
 rw [List.append_nil, que_] at h
 have h : qfs_ n Cur.x y ((j : Int), [], 0, 0) = some (syms L, L.length, capF L.length) := h
 rw [h]
 simp only [Option.bind_some]
 have hs := que_ (L := L)
 cases hq : syms L with
 | nil => rw [hq] at hs; simp at hs; omega
 | cons a t =>
  dsimp only
  rw [← hq, if_pos hs.symm, dif_pos (by omega)]
  exact ⟨_, rfl, rfl⟩
end


abbrev S4 := Int × NL × Int × Int
def d4 : S4 := (0, nl0, 0, 0)
def endsL (w p : List Int) : Bool := decide (p.length ≤ w.length ∧ w.drop (w.length - p.length) = p)
theorem eqInts {n : Nat} {k l : NL} (hk : k.l.length ≤ 1000000) (hn : k.l.length < n) : qdq_ n k l = some (decide (k.l = l.l)) := by
 unfold qdq_
 by_cases hl : k.l.length = l.l.length
 ·rw [if_pos (by omega)]
  have := scan (B := qbx_ n k l (k.l.length : Int)) k.l.length (fun j => decide (k.l.getD j 0 = l.l.getD j 0)) () ()
   (fun j hj => by
    unfold qbx_
    dsimp only
    rw [if_pos (by omega), if_pos (by omega), Int.toNat_natCast, if_pos hj]
    try dsimp only [Option.bind_some]
    rw [if_pos (by omega), if_pos (by omega)]
    try dsimp only [Option.bind_some]
    by_cases c : k.l.getD j 0 = l.l.getD j 0
    ·rw [if_pos c, w64_inc (by omega), if_pos (by simpa using c)]
    ·rw [if_neg c, if_neg (by simpa using c)])
   (by
    unfold qbx_
    dsimp only
    rw [if_neg (by omega)]) n hn
  rw [show qej_ n k l (k.l.length : Int) 0 = _ from this]
  by_cases c : k.l = l.l
  ·rw [if_pos (by rw [c]; simp)]
   simp [c]
  ·rw [if_neg (fun h => c ?_)]
   ·simp [c]
   ·apply List.ext_getElem hl
    intro j h1 h2
    have h3 := (List.all_eq_true.1 h) j (List.mem_range.2 h1)
    have h3 : k.l.getD j 0 = l.l.getD j 0 := by simpa using h3
    simpa [List.getD_eq_getElem?_getD, h1, h2] using h3
 ·rw [if_neg (by omega), decide_eq_false (fun h => hl (by rw [h]))]
theorem ends_ok {n : Nat} {w p : NL} (hw : w.l.length ≤ 1000000) (hn : w.l.length < n) : qdr_ n w p = some (endsL w.l p.l) := by
 unfold qdr_ endsL
 by_cases c : p.l.length ≤ w.l.length
 ·rw [if_pos (by omega)]
  try dsimp only [Option.bind_some]
  rw [qpl_ (by omega) (by omega), if_pos (by omega), dif_pos (by omega)]
  have e : (nlSub w ((w.l.length : Int) - (p.l.length : Int)).toNat w.l.length (by omega)).l = w.l.drop (w.l.length - p.l.length) := by
   show (w.l.drop ((w.l.length : Int) - (p.l.length : Int)).toNat).take (w.l.length - ((w.l.length : Int) - (p.l.length : Int)).toNat) = _
   rw [show ((w.l.length : Int) - (p.l.length : Int)).toNat = w.l.length - p.l.length by omega, List.take_of_length_le (by rw [List.length_drop]; omega)]
  rw [eqInts (by rw [e, List.length_drop]; omega) (by rw [e, List.length_drop]; omega), e]
  try dsimp only [Option.bind_some]
  congr 1
  simp [c]
 ·rw [if_neg (by omega)]
  simp [c]
def mat (k : Int) (w : List Int) (s : S4) : Bool := decide (s.1 = k) && endsL w s.2.1.l
theorem mat_ok {n : Nat} {w p : NL} {k a2 a3 a0 : Int} (hw : w.l.length ≤ 1000000) (hn : w.l.length < n) : qdo_ n a0 p a2 a3 k w = some (mat k w.l (a0, p, a2, a3)) := by
 unfold qdo_ mat
 by_cases c : a0 = k
 ·rw [if_pos c, ends_ok hw hn]
  simp [c]
 ·rw [if_neg c]
  simp [c]
abbrev B3 := Int × Int × Bool
def stp (k : Int) (w : List Int) (b : B3) (s : S4) : B3 := if mat k w s = true then (if b.2.2 = true ∧ s.2.2.2 ≤ b.2.1 then b else (s.2.2.1, s.2.2.2, true)) else b
theorem s1_ok {n : Nat} {w p : NL} {a0 a1 a2 a4 a6 a7 k : Int} {a3 : Bool} (hw : w.l.length ≤ 1000000) (hn : w.l.length < n) : ∃ k' p', qe4_ n a0 a1 a2 a3 a4 p a6 a7 k w = some (k', p', stp k w.l (a1, a2, a3) (a4, p, a6, a7)) := by
 unfold qe4_ stp
 rw [mat_ok hw hn]
 try dsimp only [Option.bind_some]
 cases mat k w.l (a4, p, a6, a7) with
 | false => exact ⟨_, _, rfl⟩
 | true =>
  rw [if_pos rfl, if_pos rfl]
  cases a3 with
  | false => exact ⟨_, _, rfl⟩
  | true =>
   rw [if_pos rfl]
   by_cases c : a7 ≤ a2
   ·rw [if_pos c, if_pos ⟨rfl, c⟩]; exact ⟨_, _, rfl⟩
   ·rw [if_neg c, if_neg (fun h => c h.2)]; exact ⟨_, _, rfl⟩
theorem s2_ok {n : Nat} {w p q : NL} {a0 a1 a2 a4 a6 a7 k : Int} {a3 : Bool} (hw : w.l.length ≤ 1000000) (hn : w.l.length < n) : ∃ k' p', qe5_ n a0 q a1 a2 a3 a4 p a6 a7 k w = some (k', p', stp k w.l (a1, a2, a3) (a4, p, a6, a7)) := by
 unfold qe5_ stp
 rw [mat_ok hw hn]
 try dsimp only [Option.bind_some]
 cases mat k w.l (a4, p, a6, a7) with
 | false => exact ⟨_, _, rfl⟩
 | true =>
  rw [if_pos rfl, if_pos rfl]
  cases a3 with
  | false => exact ⟨_, _, rfl⟩
  | true =>
   rw [if_pos rfl]
   by_cases c : a7 ≤ a2
   ·rw [if_pos c, if_pos ⟨rfl, c⟩]; exact ⟨_, _, rfl⟩
   ·rw [if_neg c, if_neg (fun h => c h.2)]; exact ⟨_, _, rfl⟩
abbrev V6 := Int × List NL × Int × Int × Bool × Int
abbrev R5 := Int × List NL × Int × Int × Bool
theorem valLoop {B : V6 → Option (V6 ⊕ R5)} (k : Int) (w : List Int) (L : List S4)
  (h1 : ∀ (i : Nat) (a : Int) (P : List NL) (b : B3), i < L.length → ∃ a' P', B (a, P, b.1, b.2.1, b.2.2, (i : Int)) = some (.inl (a', P', (stp k w b (L.getD i d4)).1, (stp k w b (L.getD i d4)).2.1, (stp k w b (L.getD i d4)).2.2, ((i + 1 : Nat) : Int))))
  (h2 : ∀ (a : Int) (P : List NL) (b : B3), ∃ a' p', B (a, P, b.1, b.2.1, b.2.2, (L.length : Int)) = some (.inr (a', p', b))) :
  ∀ (d i : Nat) (a : Int) (P : List NL) (b : B3) (f : Nat), i + d = L.length → d < f → ∃ a' p', iterM B f (a, P, b.1, b.2.1, b.2.2, (i : Int)) = some (a', p', (L.drop i).foldl (stp k w) b)
 | 0, i, a, P, b, f, h, hf => by
  obtain ⟨f, rfl⟩ : ∃ g, f = g + 1 := ⟨f - 1, by omega⟩
  obtain rfl : i = L.length := by omega
  obtain ⟨a', p', h⟩ := h2 a P b
  rw [qb1_, h, List.drop_length]
  exact ⟨a', p', rfl⟩
 | d + 1, i, a, P, b, f, h, hf => by
  obtain ⟨f, rfl⟩ : ∃ g, f = g + 1 := ⟨f - 1, by omega⟩
  have hi : i < L.length := by omega
  obtain ⟨a', P', h3⟩ := h1 i a P b hi
  obtain ⟨a2, p2, h4⟩ := valLoop k w L h1 h2 d (i + 1) a' P' (stp k w b (L.getD i d4)) f (by omega) (by omega)
  rw [qb1_, h3]
  refine ⟨a2, p2, ?_⟩
  rw [List.drop_eq_getElem_cons hi, List.foldl_cons]
  rw [show L.getD i d4 = L[i] by simp [List.getD_eq_getElem?_getD, hi]] at h4
  simpa [List.getD_eq_getElem?_getD, hi] using h4
def sty (k : Int) (w : List Int) (L : List S4) : Int := (L.foldl (stp k w) (0, 0, false)).1

theorem style_ok {n : Nat} {L : WL rw_iLii} {k : Int} {w : NL} (hL : (L.l).length ≤ 1000000) (hn : (L.l).length < n) (hw : w.l.length ≤ 1000000) (hn2 : w.l.length < n) : qew_ n L k w = some (sty k w.l (L.l)) := by
 unfold qew_ qd3_ qdm_ qd2_
 obtain ⟨a', p', h⟩ := valLoop (B := q4_ n k w 0 0 0 false L (((L.l).length : Nat) : Int)) k w.l (L.l)
  (fun i a P b hi => by
   obtain ⟨b1, b2, b3⟩ := b
   unfold q4_
   dsimp only
   cases P with
   | nil =>
    dsimp only
    rw [if_pos (by omega), if_pos (by omega), Int.toNat_natCast]
    try dsimp only [Option.bind_some]
    obtain ⟨k', p', h⟩ := s1_ok (n := n) (w := w) (p := ((L.l).getD i d4).2.1) (a0 := a) (a1 := b1) (a2 := b2) (a3 := b3) (a4 := ((L.l).getD i d4).1) (a6 := ((L.l).getD i d4).2.2.1) (a7 := ((L.l).getD i d4).2.2.2) (k := k) hw hn2
    have h : qe4_ n a b1 b2 b3 ((L.l).getD i (0, nl0, 0, 0)).1 ((L.l).getD i (0, nl0, 0, 0)).2.1 ((L.l).getD i (0, nl0, 0, 0)).2.2.1 ((L.l).getD i (0, nl0, 0, 0)).2.2.2 k w = some (k', p', stp k w.l (b1, b2, b3) ((L.l).getD i d4)) := h
    unfold qcp_
    rw [h]
    simp only [Option.bind_some]
    rw [w64_inc (by omega)]
    exact ⟨_, _, rfl⟩
   | cons x t =>
    dsimp only
    rw [if_pos (by omega), if_pos (by omega), Int.toNat_natCast]
    try dsimp only [Option.bind_some]
    obtain ⟨k', p', h⟩ := s2_ok (n := n) (w := w) (p := ((L.l).getD i d4).2.1) (q := x) (a0 := a) (a1 := b1) (a2 := b2) (a3 := b3) (a4 := ((L.l).getD i d4).1) (a6 := ((L.l).getD i d4).2.2.1) (a7 := ((L.l).getD i d4).2.2.2) (k := k) hw hn2
    have h : qe5_ n a x b1 b2 b3 ((L.l).getD i (0, nl0, 0, 0)).1 ((L.l).getD i (0, nl0, 0, 0)).2.1 ((L.l).getD i (0, nl0, 0, 0)).2.2.1 ((L.l).getD i (0, nl0, 0, 0)).2.2.2 k w = some (k', p', stp k w.l (b1, b2, b3) ((L.l).getD i d4)) := h
    unfold qcq_
    rw [h]
    simp only [Option.bind_some]
    rw [w64_inc (by omega)]
    exact ⟨_, _, rfl⟩
  )
  (fun a P b => by
   obtain ⟨b1, b2, b3⟩ := b
   unfold q4_
   dsimp only
   cases P with
   | nil => dsimp only; rw [if_neg (by omega)]; exact ⟨_, _, rfl⟩
   | cons x t => dsimp only; rw [if_neg (by omega)]; exact ⟨_, _, rfl⟩) (L.l).length 0 0 [] (0, 0, false) n (by omega) hn
 have h : qel_ n k w 0 0 0 false L (((L.l).length : Nat) : Int) (0, [], 0, 0, false, 0) = some (a', p', (L.l).foldl (stp k w.l) (0, 0, false)) := h
 simp only [Option.bind_some]
 rw [h]
 cases p' <;> rfl



theorem ext_getD {α : Type} {d : α} {L M : List α} (hl : L.length = M.length) (h : ∀ j, j < M.length → L.getD j d = M.getD j d) : L = M := by
 apply List.ext_getElem hl
 intro j h1 h2
 have := h j h2
 simpa [List.getD_eq_getElem?_getD, h1, h2] using this
theorem getD_drop {α : Type} {l : List α} {d : α} {i j : Nat} : (l.drop i).getD j d = l.getD (i + j) d := by
 simp [List.getD_eq_getElem?_getD]
def ins (i v : Int) : Int := w64 (v + i)
def TreeOf (y : WL rw_iiiiiiLu) : Prop := @Tree _ ⟨y⟩
theorem chk {n : Nat} {x : WL rw_iiiiiiLu} (hT : TreeOf x) (hn : x.l.length < n) : qea_ n x = some 0 := @check_ok _ ⟨x⟩ n hT hn
theorem refC {n : Nat} {x : WL rw_iiiiiiLu} (hL : x.l.length ≤ 1000000) {K : Nat} (hK : ∀ j, (@kd _ ⟨x⟩ j).length ≤ K) (hn : x.l.length + K + 20 < n) : ∃ c, qf_ n x = some c ∧ (c = 0 → TreeOf x) := @refCheck_ok _ ⟨x⟩ n K hK hn hL

theorem bare_true (n : Nat) (a0 a1 a2 a3 a4 a5 : Int) (a6 : NL) (a7 : Int) (h : SP a1 a2 a3 a4 a5 a6.l.length) : qz_ n a0 a1 a2 a3 a4 a5 a6 a7 = some true := by
 obtain ⟨h1, h2, h3, h4, h5, h6, h7, h8, h9⟩ := h
 have leaf := @leaf_ok _ ⟨(wl0 : WL rw_iiiiiiLu)⟩ n
 unfold qz_
 rw [if_neg (by omega), if_neg (by omega), if_neg (by omega), if_neg (by omega), if_neg (by omega)]
 have hc : a1 = 1 ∨ a1 = 2 ∨ a1 = 3 ∨ a1 = 4 ∨ a1 = 5 ∨ a1 = 6 := by omega
 rcases hc with rfl | rfl | rfl | rfl | rfl | rfl
 ·have g := h7 (by omega)
  simp only [leaf, Option.bind_some, Int.reduceEq, reduceIte, g, Bool.false_eq_true]
 ·have g := h7 (by omega)
  simp only [leaf, Option.bind_some, Int.reduceEq, reduceIte, g, Bool.false_eq_true]
 ·have g := h6 (by omega)
  have l := h9 (by omega) (by omega)
  simp only [leaf, Option.bind_some, Int.reduceEq, reduceIte, if_neg (show ¬ a3 < a2 by omega), if_neg (show ¬ a3 > a4 by omega), l]
  rfl
 ·have g := h7 (by omega)
  have g8 := h8 rfl
  have l := h9 (by omega) (by omega)
  simp only [leaf, Option.bind_some, Int.reduceEq, reduceIte, g, g8, l]
  rfl
 ·have g := h6 (by omega)
  have l := h9 (by omega) (by omega)
  simp only [leaf, Option.bind_some, Int.reduceEq, reduceIte, if_neg (show ¬ a3 < a2 by omega), if_neg (show ¬ a3 > a4 by omega), l]
  rfl
 ·have g := h6 (by omega)
  have l := h9 (by omega) (by omega)
  simp only [leaf, Option.bind_some, Int.reduceEq, reduceIte, if_neg (show ¬ a3 < a2 by omega), if_neg (show ¬ a3 > a4 by omega), l]
  rfl
theorem refTrue {n : Nat} {y : WL rw_iiiiiiLu} (hT : TreeOf y) (hn : y.l.length + y.l.length + 20 < n) : qf_ n y = some 0 := by
 have hmax : y.l.length ≤ 524288 := @Tree.max _ ⟨y⟩ hT
 have hp : 0 < y.l.length := @Tree.pos _ ⟨y⟩ hT
 obtain ⟨r, q1, q2⟩ := hoare (B := qh_ n y) (σ := Unit) (fun _ i => i) (fun _ _ => True) (fun r => r = .inr ()) y.l.length
  (fun j _ hj _ => by
   refine .inl ⟨(), trivial, ?_⟩
   have hb := bare_true n (y.l.getD j d8).1 (y.l.getD j d8).2.1 (y.l.getD j d8).2.2.1 (y.l.getD j d8).2.2.2.1 (y.l.getD j d8).2.2.2.2.1 (y.l.getD j d8).2.2.2.2.2.1 (y.l.getD j d8).2.2.2.2.2.2.1 (y.l.getD j d8).2.2.2.2.2.2.2 (@Tree.sp _ ⟨y⟩ hT j hj)
   unfold qh_
   dsimp only
   rw [if_pos (by omega), if_pos (by omega), Int.toNat_natCast]
   dsimp only [Option.bind_some]
   rw [show qz_ n (y.l.getD j (0, 0, 0, 0, 0, 0, nl0, 0)).1 (y.l.getD j (0, 0, 0, 0, 0, 0, nl0, 0)).2.1 (y.l.getD j (0, 0, 0, 0, 0, 0, nl0, 0)).2.2.1 (y.l.getD j (0, 0, 0, 0, 0, 0, nl0, 0)).2.2.2.1 (y.l.getD j (0, 0, 0, 0, 0, 0, nl0, 0)).2.2.2.2.1 (y.l.getD j (0, 0, 0, 0, 0, 0, nl0, 0)).2.2.2.2.2.1 (y.l.getD j (0, 0, 0, 0, 0, 0, nl0, 0)).2.2.2.2.2.2.1 (y.l.getD j (0, 0, 0, 0, 0, 0, nl0, 0)).2.2.2.2.2.2.2 = some true from hb]
   dsimp only [Option.bind_some]
   rw [if_pos rfl, w64_inc (by omega)]
   by_cases c : (j : Int) > 0
   ·have g : (y.l.getD j (0, 0, 0, 0, 0, 0, nl0, 0)).2.1 ≠ 1 := @Tree.root _ ⟨y⟩ hT j (by omega) hj
    rw [if_pos c, if_neg g]
   ·rw [if_neg c])
  (fun _ _ => by
   refine ⟨.inr (), rfl, ?_⟩
   unfold qh_
   dsimp only
   rw [if_neg (by omega)])
  n 0 () (Nat.zero_le _) trivial (by omega)
 have q2 : qcv_ n y 0 = some r := q2
 have he : qd_ n y 0 = some (y.l.length : Int) := @endOf _ ⟨y⟩ y.l.length 0 y.l.length (fun j => @Tree.few _ ⟨y⟩ hT j) (@Tree.ks _ ⟨y⟩ hT) hp n (by show y.l.length - 0 + y.l.length + 10 < n; omega)
 unfold qf_
 rw [if_neg (by omega), q2, q1]
 dsimp only
 rw [if_neg (by omega), he]
 dsimp only [Option.bind_some]
 rw [if_pos rfl]


theorem lightP {n mo : Nat} {x : WL rw_iiiiiiLu} (hm : mo ≤ 1000) (hn : mo + 5 < n) : ∃ b, qb0_ n x (mo : Int) = some b ∧ (b = true → x.l.length ≤ mo ∧ ∀ r ∈ x.l, r.2.2.1 ≤ 1048576 ∧ r.2.2.2.2.1 ≤ 1048576 ∧ r.2.2.2.2.2.1 ≤ 1048576 ∧ -1048576 ≤ r.2.2.1 ∧ -1048576 ≤ r.2.2.2.2.1 ∧ -1048576 ≤ r.2.2.2.2.2.1) := by
 obtain ⟨r, hr, h⟩ := whileI (B := qbg_ n x (mo : Int)) (fun s => ∃ i : Nat, s.2 = i ∧ i ≤ mo + 1 ∧ ∀ j, j < i → j < x.l.length → (x.l.getD j d8).2.2.1 ≤ 1048576 ∧ (x.l.getD j d8).2.2.2.2.1 ≤ 1048576 ∧ (x.l.getD j d8).2.2.2.2.2.1 ≤ 1048576 ∧ -1048576 ≤ (x.l.getD j d8).2.2.1 ∧ -1048576 ≤ (x.l.getD j d8).2.2.2.2.1 ∧ -1048576 ≤ (x.l.getD j d8).2.2.2.2.2.1) (fun s => mo + 1 - s.2.toNat) (fun r => r = .inl () ∨ ∀ j, j < mo + 1 → j < x.l.length → (x.l.getD j d8).2.2.1 ≤ 1048576 ∧ (x.l.getD j d8).2.2.2.2.1 ≤ 1048576 ∧ (x.l.getD j d8).2.2.2.2.2.1 ≤ 1048576 ∧ -1048576 ≤ (x.l.getD j d8).2.2.1 ∧ -1048576 ≤ (x.l.getD j d8).2.2.2.2.1 ∧ -1048576 ≤ (x.l.getD j d8).2.2.2.2.2.1)
  (fun s hI => by
   obtain ⟨c, q⟩ := s
   obtain ⟨i, rfl, hi, hI⟩ := hI
   unfold qbg_
   dsimp only
   by_cases c1 : (i : Int) < ((x.l.length : Nat) : Int)
   ·rw [if_pos c1]
    by_cases c2 : (i : Int) ≤ (mo : Int)
    ·rw [if_pos c2, if_pos (by omega), w64_inc (by omega), Int.toNat_natCast]
     simp only [Option.bind_some]
     have hx : x.l.getD i (0, 0, 0, 0, 0, 0, nl0, 0) = x.l.getD i d8 := rfl
     rw [hx]
     by_cases d1 : (x.l.getD i d8).2.2.1 > 1048576
     ·rw [if_pos d1]; exact .inr ⟨_, .inl rfl, rfl⟩
     rw [if_neg d1]
     by_cases d2 : (x.l.getD i d8).2.2.2.2.1 > 1048576
     ·rw [if_pos d2]; exact .inr ⟨_, .inl rfl, rfl⟩
     rw [if_neg d2]
     by_cases d3 : (x.l.getD i d8).2.2.2.2.2.1 > 1048576
     ·rw [if_pos d3]; exact .inr ⟨_, .inl rfl, rfl⟩
     rw [if_neg d3]
     by_cases d4 : (x.l.getD i d8).2.2.1 < -1048576
     ·rw [if_pos d4]; exact .inr ⟨_, .inl rfl, rfl⟩
     rw [if_neg d4]
     by_cases d5 : (x.l.getD i d8).2.2.2.2.1 < -1048576
     ·rw [if_pos d5]; exact .inr ⟨_, .inl rfl, rfl⟩
     rw [if_neg d5]
     by_cases d6 : (x.l.getD i d8).2.2.2.2.2.1 < -1048576
     ·rw [if_pos d6]; exact .inr ⟨_, .inl rfl, rfl⟩
     rw [if_neg d6]
     refine .inl ⟨(_, ((i + 1 : Nat) : Int)), ⟨i + 1, rfl, by omega, fun j h1 h2 => ?_⟩, by dsimp only; omega, rfl⟩
     rcases Nat.lt_or_ge j i with h | h
     ·exact hI j h h2
     ·obtain rfl : j = i := by omega
      omega
    ·rw [if_neg c2]; exact .inr ⟨_, .inr fun j h1 h2 => hI j (by omega) h2, rfl⟩
   ·rw [if_neg c1]; exact .inr ⟨_, .inr fun j h1 h2 => hI j (by omega) h2, rfl⟩) n (0, 0) ⟨0, rfl, by omega, fun j h => absurd h (Nat.not_lt_zero _)⟩ (by dsimp only; omega)
 unfold qb0_ qc2_
 rw [h]
 rcases r with r | r
 ·exact ⟨_, rfl, fun h => by cases h⟩
 ·have hr := hr.resolve_left (fun h => by cases h)
  dsimp only
  by_cases c1 : ((x.l.length : Nat) : Int) ≤ (mo : Int)
  ·rw [if_pos c1]
   have key : x.l.length ≤ mo ∧ ∀ r ∈ x.l, r.2.2.1 ≤ 1048576 ∧ r.2.2.2.2.1 ≤ 1048576 ∧ r.2.2.2.2.2.1 ≤ 1048576 ∧ -1048576 ≤ r.2.2.1 ∧ -1048576 ≤ r.2.2.2.2.1 ∧ -1048576 ≤ r.2.2.2.2.2.1 := ⟨by omega, fun r hm => by
    obtain ⟨j, hj, rfl⟩ := qwk_ d8 hm
    exact hr j (by omega) hj⟩
   split
   ·exact ⟨_, rfl, fun _ => key⟩
   ·exact ⟨_, rfl, fun h => by cases h⟩
  ·rw [if_neg c1]; exact ⟨_, rfl, fun h => by cases h⟩


theorem anyLoop {ε : Type} {B : Int → Option (Int ⊕ (ε ⊕ Unit))} (S : Nat → Int) (bad : Nat → Bool) (v : Nat → ε) (len : Nat)
  (h1 : ∀ i, i < len → bad i = true → B (S i) = some (.inr (.inl (v i))))
  (h2 : ∀ i, i < len → bad i = false → B (S i) = some (.inl (S (i + 1))))
  (h3 : B (S len) = some (.inr (.inr ()))) : ∀ (d i f : Nat), i + d = len → d < f → (∀ j, j < i → bad j = false) →
   ((List.range len).any bad = false ∧ iterM B f (S i) = some (.inr ())) ∨ ((List.range len).any bad = true ∧ ∃ i' : Nat, i' < len ∧ iterM B f (S i) = some (.inl (v i')))
 | 0, i, f, h, hf, hb => by
  obtain ⟨f, rfl⟩ : ∃ g, f = g + 1 := ⟨f - 1, by omega⟩
  obtain rfl : i = len := by omega
  refine .inl ⟨?_, by rw [qb1_, h3]; rfl⟩
  rw [Bool.eq_false_iff]
  intro h
  obtain ⟨j, hj, hj2⟩ := List.any_eq_true.1 h
  rw [hb j (List.mem_range.1 hj)] at hj2
  cases hj2
 | d + 1, i, f, h, hf, hb => by
  obtain ⟨f, rfl⟩ : ∃ g, f = g + 1 := ⟨f - 1, by omega⟩
  have hi : i < len := by omega
  cases hc : bad i with
  | true => exact .inr ⟨List.any_eq_true.2 ⟨i, List.mem_range.2 hi, hc⟩, i, hi, by rw [qb1_, h1 i hi hc]; rfl⟩
  | false =>
   have := anyLoop S bad v len h1 h2 h3 d (i + 1) f (by omega) (by omega) (fun j hj => by
    by_cases e : j = i
    ·rw [e]; exact hc
    ·exact hb j (by omega))
   rw [qb1_, h2 i hi hc]
   exact this
theorem anyU {B : Int → Option (Int ⊕ (Unit ⊕ Unit))} (S : Nat → Int) (bad : Nat → Bool) (len : Nat)
  (h1 : ∀ i, i < len → bad i = true → B (S i) = some (.inr (.inl ())))
  (h2 : ∀ i, i < len → bad i = false → B (S i) = some (.inl (S (i + 1))))
  (h3 : B (S len) = some (.inr (.inr ()))) {n : Nat} (hn : len < n) : iterM B n (S 0) = some (if (List.range len).any bad = true then .inl () else .inr ()) := by
 rcases anyLoop S bad (fun _ => ()) len h1 h2 h3 len 0 n (by omega) hn (fun j hj => by omega) with ⟨a, b⟩ | ⟨a, i, _, b⟩
 ·rw [b, a]; rfl
 ·rw [b, a]; rfl
theorem anyI {B : Int → Option (Int ⊕ (Int ⊕ Unit))} (bad : Nat → Bool) (len : Nat)
  (h1 : ∀ i : Nat, i < len → bad i = true → B (i : Int) = some (.inr (.inl (i : Int))))
  (h2 : ∀ i : Nat, i < len → bad i = false → B (i : Int) = some (.inl ((i + 1 : Nat) : Int)))
  (h3 : B (len : Int) = some (.inr (.inr ()))) {n : Nat} (hn : len < n) : ((List.range len).any bad = false ∧ iterM B n 0 = some (.inr ())) ∨ ((List.range len).any bad = true ∧ ∃ i : Nat, iterM B n 0 = some (.inl (i : Int))) := by
 rcases anyLoop (fun i => (i : Int)) bad (fun i => (i : Int)) len h1 h2 h3 len 0 n (by omega) hn (fun j hj => by omega) with h | ⟨a, i, _, b⟩
 ·exact .inl h
 ·exact .inr ⟨a, i, b⟩

theorem lightS {n : Nat} {x : WL rw_iLii} (hn : x.l.length < n) : ∃ b, qcf_ n x = some b ∧ (b = true → x.l.length ≤ 70 ∧ ∀ i, i < x.l.length → (x.l.getD i d4).2.1.l.length ≤ 20) := by
 have hle := x.le
 have q := anyU (B := qn_ n x) (fun i => (i : Int)) (fun i => decide ((((x.l.getD i d4).2.1.l.length : Nat) : Int) > 20)) x.l.length
  (fun i hi hb => by
   have hb := of_decide_eq_true hb
   unfold qn_
   dsimp only
   rw [if_pos (by omega), if_pos (by omega), Int.toNat_natCast]
   simp only [Option.bind_some]
   exact if_pos hb)
  (fun i hi hb => by
   have hb := of_decide_eq_false hb
   unfold qn_
   dsimp only
   rw [if_pos (by omega), if_pos (by omega), Int.toNat_natCast]
   simp only [Option.bind_some]
   rw [@w64_inc' _ ⟨wC⟩ i (by omega)]
   exact if_neg hb)
  (by
   unfold qn_
   dsimp only
   rw [if_neg (by omega)]) hn
 unfold qcf_
 rw [show qct_ n x 0 = _ from q]
 cases ha : (List.range x.l.length).any fun i => decide ((((x.l.getD i d4).2.1.l.length : Nat) : Int) > 20) with
 | true => exact ⟨false, rfl, fun h => by cases h⟩
 | false =>
  simp only [Bool.false_eq_true, if_false]
  by_cases c : ((x.l.length : Nat) : Int) ≤ 70
  ·rw [if_pos c]
   refine ⟨true, rfl, fun _ => ⟨by omega, fun i hi => ?_⟩⟩
   have := List.any_eq_false.1 ha i (List.mem_range.2 hi)
   have := of_decide_eq_false (Bool.eq_false_iff.2 this)
   omega
  ·rw [if_neg c]; exact ⟨false, rfl, fun h => by cases h⟩
abbrev G2 := Int × NL
def d2 : G2 := (0, nl0)
theorem lightG {n : Nat} {t u k : Int} {x : WL rw_iL} (hn : 100 < n) : ∃ b, qcc_ n t u k x = some b ∧ (b = true → x.l.length ≤ 100 ∧ ∀ i, i < x.l.length → (x.l.getD i d2).2.l.length ≤ 100) := by
 have hle := x.le
 unfold qcc_
 by_cases c : ((x.l.length : Nat) : Int) > 100
 ·rw [if_pos c]; exact ⟨false, rfl, fun h => by cases h⟩
 ·rw [if_neg c]
  let big_ (i : Nat) : Bool := decide ((5 < (x.l.getD i d2).2.l.length ∧ (x.l.getD i d2).2.l.length ≤ 8) ∨ 100 < (x.l.getD i d2).2.l.length)
  have q := anyU (B := qk_ n t u k x) (fun i => (i : Int)) big_ x.l.length
   (fun i hi hb => by
    have hb : (5 < (x.l.getD i d2).2.l.length ∧ (x.l.getD i d2).2.l.length ≤ 8) ∨ 100 < (x.l.getD i d2).2.l.length := of_decide_eq_true hb
    have e : x.l.getD i (0, nl0) = x.l.getD i d2 := rfl
    unfold qk_
    dsimp only
    rw [if_pos (by omega), if_pos (by omega), Int.toNat_natCast]
    simp only [Option.bind_some, e]
    by_cases c1 : (((x.l.getD i d2).2.l.length : Nat) : Int) > 5
    ·rw [if_pos c1]
     by_cases c2 : (((x.l.getD i d2).2.l.length : Nat) : Int) ≤ 8
     ·rw [if_pos c2]
     ·rw [if_neg c2, if_pos (by omega)]
    ·rw [if_neg c1, if_pos (by omega)])
   (fun i hi hb => by
    have hb : ¬ ((5 < (x.l.getD i d2).2.l.length ∧ (x.l.getD i d2).2.l.length ≤ 8) ∨ 100 < (x.l.getD i d2).2.l.length) := of_decide_eq_false hb
    have e : x.l.getD i (0, nl0) = x.l.getD i d2 := rfl
    unfold qk_
    dsimp only
    rw [if_pos (by omega), if_pos (by omega), Int.toNat_natCast]
    simp only [Option.bind_some, e]
    rw [@w64_inc' _ ⟨wC⟩ i (by omega)]
    by_cases c1 : (((x.l.getD i d2).2.l.length : Nat) : Int) > 5
    ·rw [if_pos c1, if_neg (by omega), if_neg (by omega)]
    ·rw [if_neg c1, if_neg (by omega)])
   (by
    unfold qk_
    dsimp only
    rw [if_neg (by omega)]) (n := n) (by omega)
  rw [show qcn_ n t u k x 0 = _ from q]
  cases ha : (List.range x.l.length).any big_ with
  | true => exact ⟨false, rfl, fun h => by cases h⟩
  | false =>
   have good : x.l.length ≤ 100 ∧ ∀ i, i < x.l.length → (x.l.getD i d2).2.l.length ≤ 100 := ⟨by omega, fun i hi => by
    have := List.any_eq_false.1 ha i (List.mem_range.2 hi)
    have : ¬ ((5 < (x.l.getD i d2).2.l.length ∧ (x.l.getD i d2).2.l.length ≤ 8) ∨ 100 < (x.l.getD i d2).2.l.length) := of_decide_eq_false (Bool.eq_false_iff.2 this)
    omega⟩
   simp only [Bool.false_eq_true, if_false]
   repeat' split
   all_goals exact ⟨_, rfl, fun _ => good⟩

def odd1 (t u s : Int) : Bool := decide (s < 0 ∨ s ≥ w64 (t + u))
def oddP (t u : Int) (p : NL) : Bool := (List.range p.l.length).any fun j => odd1 t u (p.l.getD j 0)
theorem odd1_ok {n : Nat} {s t u k : Int} {P : WL rw_iL} : qh2_ n s t u k P = some (odd1 t u s) := by
 unfold qh2_ odd1
 by_cases c : s < 0
 ·rw [if_pos c, decide_eq_true (.inl c)]
 ·by_cases c2 : s ≥ w64 (t + u)
  ·rw [if_neg c, if_pos c2, decide_eq_true (.inr c2)]
  ·rw [if_neg c, if_neg c2, decide_eq_false (fun h => h.elim c c2)]
theorem oddP_ok {n : Nat} {t u k : Int} {P : WL rw_iL} {p : NL} (hp : p.l.length ≤ 100) (hn : 100 < n) : qb2_ n p t u k P = some (oddP t u p) := by
 unfold qb2_ qdk_
 rcases anyI (B := qp_ n t u k P p ((p.l.length : Nat) : Int)) (fun j => odd1 t u (p.l.getD j 0)) p.l.length
  (fun i hi hb => by
   unfold qp_
   dsimp only
   rw [if_pos (by omega), if_pos (by omega), if_pos (by rw [Int.toNat_natCast]; exact hi), Int.toNat_natCast]
   simp only [Option.bind_some]
   rw [odd1_ok, Option.bind_some, hb, if_pos rfl])
  (fun i hi hb => by
   unfold qp_
   dsimp only
   rw [if_pos (by omega), if_pos (by omega), if_pos (by rw [Int.toNat_natCast]; exact hi), Int.toNat_natCast]
   simp only [Option.bind_some]
   rw [odd1_ok, Option.bind_some, hb, if_neg (by decide), w64_inc (by omega)])
  (by
   unfold qp_
   dsimp only
   rw [if_neg (by omega)]) (n := n) (by omega) with ⟨a, b⟩ | ⟨a, i, b⟩
 ·rw [show qcd_ n t u k P p ((p.l.length : Nat) : Int) 0 = _ from b]
  unfold oddP
  rw [a]
  rfl
 ·rw [show qcd_ n t u k P p ((p.l.length : Nat) : Int) 0 = _ from b]
  unfold oddP
  rw [a]
  simp only [Option.bind_some]
  rw [if_pos (by omega)]
theorem oddP_ref {n : Nat} {t u k a b : Int} {P : WL rw_iL} {p : NL} (hp : p.l.length ≤ 100) (hn : 100 < n) : qdt_ n t u k P a b p 0 = some (if oddP t u p = true then .inl () else .inr ()) :=
 anyU (B := q6_ n t u k P a b p) (fun i => (i : Int)) (fun j => odd1 t u (p.l.getD j 0)) p.l.length
  (fun i hi hb => by
   have hb := of_decide_eq_true hb
   unfold q6_
   dsimp only
   rw [if_pos (by omega), if_pos (by omega), if_pos (by rw [Int.toNat_natCast]; exact hi), Int.toNat_natCast]
   simp only [Option.bind_some]
   by_cases c : p.l.getD i 0 < 0
   ·rw [if_pos c]
   ·rw [if_neg c, if_pos (hb.resolve_left c)])
  (fun i hi hb => by
   have hb := of_decide_eq_false hb
   unfold q6_
   dsimp only
   rw [if_pos (by omega), if_pos (by omega), if_pos (by rw [Int.toNat_natCast]; exact hi), Int.toNat_natCast]
   simp only [Option.bind_some]
   rw [if_neg (fun h => hb (.inl h)), if_neg (fun h => hb (.inr h)), w64_inc (by omega)])
  (by
   unfold q6_
   dsimp only
   rw [if_neg (by omega)]) (by omega)
def badG (t u : Int) (r : G2) : Bool := decide (r.1 < 0 ∨ r.1 ≥ u) || oddP t u r.2
section
variable {n : Nat} {t u k : Int} {x : WL rw_iL} (hx : x.l.length ≤ 100) (hr : ∀ i, i < x.l.length → (x.l.getD i d2).2.l.length ≤ 100) (hn : 100 < n)
include hx hn
theorem long_ok : qi0_ n t u k x ((x.l.length : Nat) : Int) 0 = some (if ((List.range x.l.length).any fun i => decide ((((x.l.getD i d2).2.l.length : Nat) : Int) > 8)) = true then .inl () else .inr ()) :=
 anyU (B := qd8_ n t u k x ((x.l.length : Nat) : Int)) (fun i => (i : Int)) (fun i => decide ((((x.l.getD i d2).2.l.length : Nat) : Int) > 8)) x.l.length
  (fun i hi hb => by
   have hb := of_decide_eq_true hb
   unfold qd8_
   dsimp only
   rw [if_pos (by omega), if_pos (by omega), Int.toNat_natCast]
   simp only [Option.bind_some]
   exact if_pos hb)
  (fun i hi hb => by
   have hb := of_decide_eq_false hb
   unfold qd8_
   dsimp only
   rw [if_pos (by omega), if_pos (by omega), Int.toNat_natCast]
   simp only [Option.bind_some]
   rw [w64_inc (by omega)]
   exact if_neg hb)
  (by
   unfold qd8_
   dsimp only
   rw [if_neg (by omega)]) (by omega)
theorem long_ref : qdx_ n t u k x 0 = some (if ((List.range x.l.length).any fun i => decide ((((x.l.getD i d2).2.l.length : Nat) : Int) > 8)) = true then .inl () else .inr ()) :=
 anyU (B := q8_ n t u k x) (fun i => (i : Int)) (fun i => decide ((((x.l.getD i d2).2.l.length : Nat) : Int) > 8)) x.l.length
  (fun i hi hb => by
   have hb := of_decide_eq_true hb
   unfold q8_
   dsimp only
   rw [if_pos (by omega), if_pos (by omega), Int.toNat_natCast]
   simp only [Option.bind_some]
   exact if_pos hb)
  (fun i hi hb => by
   have hb := of_decide_eq_false hb
   unfold q8_
   dsimp only
   rw [if_pos (by omega), if_pos (by omega), Int.toNat_natCast]
   simp only [Option.bind_some]
   rw [w64_inc (by omega)]
   exact if_neg hb)
  (by
   unfold q8_
   dsimp only
   rw [if_neg (by omega)]) (by omega)
include hr
theorem bad_ok : qiy_ n t u k x ((x.l.length : Nat) : Int) 0 = some (if ((List.range x.l.length).any fun i => badG t u (x.l.getD i d2)) = true then .inl () else .inr ()) :=
 anyU (B := qd7_ n t u k x ((x.l.length : Nat) : Int)) (fun i => (i : Int)) (fun i => badG t u (x.l.getD i d2)) x.l.length
  (fun i hi hb => by
   have e : x.l.getD i (0, nl0) = x.l.getD i d2 := rfl
   unfold badG at hb
   unfold qd7_
   dsimp only
   rw [if_pos (by omega), if_pos (by omega), Int.toNat_natCast]
   simp only [Option.bind_some, e]
   rw [oddP_ok (hr i hi) hn, Option.bind_some]
   by_cases c : (x.l.getD i d2).1 < 0
   ·rw [if_pos c]
   ·by_cases c2 : (x.l.getD i d2).1 ≥ u
    ·rw [if_neg c, if_pos c2]
    ·rw [decide_eq_false (fun h => h.elim c c2), Bool.false_or] at hb
     rw [if_neg c, if_neg c2, if_pos hb])
  (fun i hi hb => by
   have e : x.l.getD i (0, nl0) = x.l.getD i d2 := rfl
   unfold badG at hb
   rw [Bool.or_eq_false_iff] at hb
   have h1 := of_decide_eq_false hb.1
   unfold qd7_
   dsimp only
   rw [if_pos (by omega), if_pos (by omega), Int.toNat_natCast]
   simp only [Option.bind_some, e]
   rw [oddP_ok (hr i hi) hn, Option.bind_some, if_neg (fun h => h1 (.inl h)), if_neg (fun h => h1 (.inr h)), hb.2, if_neg (by decide), w64_inc (by omega)])
  (by
   unfold qd7_
   dsimp only
   rw [if_neg (by omega)]) (by omega)
theorem bad_ref : qdv_ n t u k x 0 = some (if ((List.range x.l.length).any fun i => badG t u (x.l.getD i d2)) = true then .inl () else .inr ()) :=
 anyU (B := q7_ n t u k x) (fun i => (i : Int)) (fun i => badG t u (x.l.getD i d2)) x.l.length
  (fun i hi hb => by
   have e : x.l.getD i (0, nl0) = x.l.getD i d2 := rfl
   unfold badG at hb
   unfold q7_
   dsimp only
   rw [if_pos (by omega), if_pos (by omega), Int.toNat_natCast]
   simp only [Option.bind_some, e]
   rw [oddP_ref (hr i hi) hn]
   by_cases c : (x.l.getD i d2).1 < 0
   ·rw [if_pos c]
   ·by_cases c2 : (x.l.getD i d2).1 ≥ u
    ·rw [if_neg c, if_pos c2]
    ·rw [decide_eq_false (fun h => h.elim c c2), Bool.false_or] at hb
     rw [if_neg c, if_neg c2, if_pos hb])
  (fun i hi hb => by
   have e : x.l.getD i (0, nl0) = x.l.getD i d2 := rfl
   unfold badG at hb
   rw [Bool.or_eq_false_iff] at hb
   have h1 := of_decide_eq_false hb.1
   unfold q7_
   dsimp only
   rw [if_pos (by omega), if_pos (by omega), Int.toNat_natCast]
   simp only [Option.bind_some, e]
   rw [oddP_ref (hr i hi) hn, if_neg (fun h => h1 (.inl h)), if_neg (fun h => h1 (.inr h)), hb.2, if_neg (by decide)]
   simp only []
   rw [w64_inc (by omega)])
  (by
   unfold q7_
   dsimp only
   rw [if_neg (by omega)]) (by omega)
theorem gram_same : ∃ c, qhp_ n t u k x = some c ∧ qbf_ n t u k x = some c := by
 have e : qhp_ n t u k x = qbf_ n t u k x := by
  unfold qhp_ qbf_
  rw [long_ok hx hn, bad_ok hx hr hn, long_ref hx hn, bad_ref hx hr hn]
 have s : ∃ c, qbf_ n t u k x = some c := by
  unfold qbf_
  rw [long_ref hx hn, bad_ref hx hr hn]
  cases ((List.range x.l.length).any fun i => decide ((((x.l.getD i d2).2.l.length : Nat) : Int) > 8)) <;> cases ((List.range x.l.length).any fun i => badG t u (x.l.getD i d2)) <;> simp only [Bool.false_eq_true, if_false, if_true] <;> (repeat' split) <;> exact ⟨_, rfl⟩
 obtain ⟨c, hc⟩ := s
 exact ⟨c, e.trans hc, hc⟩
end


def odd2 (t u s : Int) : Bool := decide (s ≠ -3 ∧ (s < t ∨ s ≥ w64 (t + u)))
def oddW (t u : Int) (p : NL) : Bool := (List.range p.l.length).any fun j => odd2 t u (p.l.getD j 0)
theorem odd2_ok {n : Nat} {s t u k : Int} {P : WL rw_iL} : qf5_ n s t u k P = some (odd2 t u s) := by
 unfold qf5_ odd2
 by_cases c0 : s = -3
 ·rw [if_pos c0, decide_eq_false (fun h => h.1 c0)]
 ·by_cases c : s < t
  ·rw [if_neg c0, if_pos c, decide_eq_true ⟨c0, .inl c⟩]
  ·by_cases c2 : s ≥ w64 (t + u)
   ·rw [if_neg c0, if_neg c, if_pos c2, decide_eq_true ⟨c0, .inr c2⟩]
   ·rw [if_neg c0, if_neg c, if_neg c2, decide_eq_false (fun h => h.2.elim c c2)]
theorem oddW_ok {n : Nat} {t u k : Int} {P : WL rw_iL} {p : NL} (hp : p.l.length ≤ 100) (hn : 100 < n) : qb3_ n p t u k P = some (oddW t u p) := by
 unfold qb3_ qdl_
 rcases anyI (B := qq_ n t u k P p ((p.l.length : Nat) : Int)) (fun j => odd2 t u (p.l.getD j 0)) p.l.length
  (fun i hi hb => by
   unfold qq_
   dsimp only
   rw [if_pos (by omega), if_pos (by omega), if_pos (by rw [Int.toNat_natCast]; exact hi), Int.toNat_natCast]
   simp only [Option.bind_some]
   rw [odd2_ok, Option.bind_some, hb, if_pos rfl])
  (fun i hi hb => by
   unfold qq_
   dsimp only
   rw [if_pos (by omega), if_pos (by omega), if_pos (by rw [Int.toNat_natCast]; exact hi), Int.toNat_natCast]
   simp only [Option.bind_some]
   rw [odd2_ok, Option.bind_some, hb, if_neg (by decide), w64_inc (by omega)])
  (by
   unfold qq_
   dsimp only
   rw [if_neg (by omega)]) (n := n) (by omega) with ⟨a, b⟩ | ⟨a, i, b⟩
 ·rw [show qce_ n t u k P p ((p.l.length : Nat) : Int) 0 = _ from b]
  unfold oddW
  rw [a]
  rfl
 ·rw [show qce_ n t u k P p ((p.l.length : Nat) : Int) 0 = _ from b]
  unfold oddW
  rw [a]
  simp only [Option.bind_some]
  rw [if_pos (by omega)]
theorem oddW_ref {n : Nat} {t u k a b c d : Int} {x : WL rw_iLii} {P : WL rw_iL} {p : NL} (hp : p.l.length ≤ 100) (hn : 100 < n) : qdz_ n x t u k P a b p c d 0 = some (if oddW t u p = true then .inl () else .inr ()) :=
 anyU (B := q9_ n x t u k P a b p c d) (fun i => (i : Int)) (fun j => odd2 t u (p.l.getD j 0)) p.l.length
  (fun i hi hb => by
   have hb := of_decide_eq_true hb
   unfold q9_
   dsimp only
   rw [if_pos (by omega), if_pos (by omega), if_pos (by rw [Int.toNat_natCast]; exact hi), Int.toNat_natCast]
   simp only [Option.bind_some]
   rw [if_neg hb.1]
   by_cases c : p.l.getD i 0 < t
   ·rw [if_pos c]
   ·rw [if_neg c, if_pos (hb.2.resolve_left c)])
  (fun i hi hb => by
   have hb := of_decide_eq_false hb
   unfold q9_
   dsimp only
   rw [if_pos (by omega), if_pos (by omega), if_pos (by rw [Int.toNat_natCast]; exact hi), Int.toNat_natCast]
   simp only [Option.bind_some]
   rw [w64_inc (by omega)]
   by_cases c0 : p.l.getD i 0 = -3
   ·rw [if_pos c0]
   ·rw [if_neg c0, if_neg (fun h => hb ⟨c0, .inl h⟩), if_neg (fun h => hb ⟨c0, .inr h⟩)])
  (by
   unfold q9_
   dsimp only
   rw [if_neg (by omega)]) (by omega)
def badS (t u : Int) (r : S4) : Bool := decide (r.1 < -1 ∨ r.1 ≥ t ∨ r.2.2.1 < 1 ∨ r.2.2.2 < -1000 ∨ r.2.2.2 > 1000 ∨ ((r.2.1.l.length : Nat) : Int) > 8) || oddW t u r.2.1
theorem sound_bad {n : Nat} {a c d t u k : Int} {P : WL rw_iL} {p : NL} (hp : p.l.length ≤ 100) (hn : 100 < n) : qf8_ n a p c d t u k P = some (badS t u (a, p, c, d)) := by
 unfold qf8_ qi1_ badS
 rw [oddW_ok hp hn, Option.bind_some]
 by_cases c1 : c < 1
 ·rw [if_pos c1, decide_eq_true (.inr (.inr (.inl c1)))]; rfl
 by_cases c2 : d < -1000
 ·rw [if_neg c1, if_pos c2, decide_eq_true (.inr (.inr (.inr (.inl c2))))]; rfl
 by_cases c3 : d > 1000
 ·rw [if_neg c1, if_neg c2, if_pos c3, decide_eq_true (.inr (.inr (.inr (.inr (.inl c3)))))]; rfl
 by_cases c4 : a < -1
 ·rw [if_neg c1, if_neg c2, if_neg c3, if_pos c4, decide_eq_true (.inl c4)]; rfl
 by_cases c5 : a ≥ t
 ·rw [if_neg c1, if_neg c2, if_neg c3, if_neg c4, if_pos c5, decide_eq_true (.inr (.inl c5))]; rfl
 by_cases c6 : ((p.l.length : Nat) : Int) > 8
 ·rw [if_neg c1, if_neg c2, if_neg c3, if_neg c4, if_neg c5, if_pos c6, decide_eq_true (.inr (.inr (.inr (.inr (.inr c6)))))]; rfl
 ·rw [if_neg c1, if_neg c2, if_neg c3, if_neg c4, if_neg c5, if_neg c6, decide_eq_false (fun h => by
   rcases h with h | h | h | h | h | h
   ·exact c4 h
   ·exact c5 h
   ·exact c1 h
   ·exact c2 h
   ·exact c3 h
   ·exact c6 h)]
  cases oddW t u p <;> rfl
section
variable {n : Nat} {t u k : Int} {x : WL rw_iLii} {P : WL rw_iL} (hx : x.l.length ≤ 100) (hr : ∀ i, i < x.l.length → (x.l.getD i d4).2.1.l.length ≤ 20) (hn : 100 < n)
include hx hr hn
theorem badS_ok : qbq_ n x t u k P = some ((List.range x.l.length).any fun i => badS t u (x.l.getD i d4)) := by
 unfold qbq_ qc5_
 have row : ∀ i, x.l.getD i (0, nl0, 0, 0) = x.l.getD i d4 := fun i => rfl
 rcases anyI (B := ql_ n t u k P x ((x.l.length : Nat) : Int)) (fun i => badS t u (x.l.getD i d4)) x.l.length
  (fun i hi hb => by
   unfold ql_
   dsimp only
   rw [if_pos (by omega), if_pos (by omega), Int.toNat_natCast]
   simp only [Option.bind_some, row]
   rw [sound_bad (Nat.le_trans (hr i hi) (by omega)) hn, Option.bind_some, if_pos hb])
  (fun i hi hb => by
   unfold ql_
   dsimp only
   rw [if_pos (by omega), if_pos (by omega), Int.toNat_natCast]
   simp only [Option.bind_some, row]
   rw [sound_bad (Nat.le_trans (hr i hi) (by omega)) hn, Option.bind_some, if_neg (by rw [show badS t u ((x.l.getD i d4).1, (x.l.getD i d4).2.1, (x.l.getD i d4).2.2.1, (x.l.getD i d4).2.2.2) = badS t u (x.l.getD i d4) from rfl, hb]; decide), w64_inc (by omega)])
  (by
   unfold ql_
   dsimp only
   rw [if_neg (by omega)]) (n := n) (by omega) with ⟨a, b⟩ | ⟨a, i, b⟩
 ·rw [show qbz_ n t u k P x ((x.l.length : Nat) : Int) 0 = _ from b, a]
  rfl
 ·rw [show qbz_ n t u k P x ((x.l.length : Nat) : Int) 0 = _ from b, a]
  simp only [Option.bind_some]
  rw [if_pos (by omega)]
theorem badS_ref : qd1_ n x t u k P 0 = some (if ((List.range x.l.length).any fun i => badS t u (x.l.getD i d4)) = true then .inl () else .inr ()) :=
 have row : ∀ i, x.l.getD i (0, nl0, 0, 0) = x.l.getD i d4 := fun i => rfl
 anyU (B := qba_ n x t u k P) (fun i => (i : Int)) (fun i => badS t u (x.l.getD i d4)) x.l.length
  (fun i hi hb => by
   unfold badS at hb
   unfold qba_
   dsimp only
   rw [if_pos (by omega), if_pos (by omega), Int.toNat_natCast]
   simp only [Option.bind_some, row]
   rw [oddW_ref (Nat.le_trans (hr i hi) (by omega)) hn]
   generalize x.l.getD i d4 = r at hb ⊢
   by_cases c1 : r.1 < -1
   ·rw [if_pos c1]
   by_cases c2 : r.1 ≥ t
   ·rw [if_neg c1, if_pos c2]
   by_cases c3 : r.2.2.1 < 1
   ·rw [if_neg c1, if_neg c2, if_pos c3]
   by_cases c4 : r.2.2.2 < -1000
   ·rw [if_neg c1, if_neg c2, if_neg c3, if_pos c4]
   by_cases c5 : r.2.2.2 > 1000
   ·rw [if_neg c1, if_neg c2, if_neg c3, if_neg c4, if_pos c5]
   by_cases c6 : ((r.2.1.l.length : Nat) : Int) > 8
   ·rw [if_neg c1, if_neg c2, if_neg c3, if_neg c4, if_neg c5, if_pos c6]
   rw [if_neg c1, if_neg c2, if_neg c3, if_neg c4, if_neg c5, if_neg c6]
   rw [decide_eq_false (fun h => by
    rcases h with h | h | h | h | h | h
    ·exact c1 h
    ·exact c2 h
    ·exact c3 h
    ·exact c4 h
    ·exact c5 h
    ·exact c6 h), Bool.false_or] at hb
   rw [if_pos hb])
  (fun i hi hb => by
   unfold badS at hb
   rw [Bool.or_eq_false_iff] at hb
   have h1 := of_decide_eq_false hb.1
   unfold qba_
   dsimp only
   rw [if_pos (by omega), if_pos (by omega), Int.toNat_natCast]
   simp only [Option.bind_some, row]
   rw [oddW_ref (Nat.le_trans (hr i hi) (by omega)) hn, hb.2, if_neg (fun h => h1 (.inl h)), if_neg (fun h => h1 (.inr (.inl h))), if_neg (fun h => h1 (.inr (.inr (.inl h)))), if_neg (fun h => h1 (.inr (.inr (.inr (.inl h))))), if_neg (fun h => h1 (.inr (.inr (.inr (.inr (.inl h)))))), if_neg (fun h => h1 (.inr (.inr (.inr (.inr (.inr h)))))), if_neg (by decide)]
   simp only []
   rw [w64_inc (by omega)])
  (by
   unfold qba_
   dsimp only
   rw [if_neg (by omega)]) (by omega)
theorem check_same (hP : P.l.length ≤ 100) (hPr : ∀ i, i < P.l.length → (P.l.getD i d2).2.l.length ≤ 100) : ∃ c, qg9_ n x t u k P = some c ∧ qdi_ n x t u k P = some c := by
 obtain ⟨c, h1, h2⟩ := gram_same (t := t) (u := u) (k := k) hP hPr hn
 unfold qg9_ qdi_
 rw [h1, h2, badS_ok hx hr hn, badS_ref hx hr hn]
 simp only [Option.bind_some]
 by_cases c0 : c = 0
 ·rw [if_pos c0, if_pos c0]
  by_cases cl : ((x.l.length : Nat) : Int) > 64
  ·rw [if_pos cl, if_pos cl]; exact ⟨_, rfl, rfl⟩
  ·rw [if_neg cl, if_neg cl]
   cases (List.range x.l.length).any fun i => badS t u (x.l.getD i d4) <;> exact ⟨_, rfl, rfl⟩
 ·rw [if_neg c0, if_neg c0]; exact ⟨_, rfl, rfl⟩
end

theorem ends_iff {p w : List Int} (h : p.length ≤ w.length) : ((List.range p.length).any fun i => decide (p.getD (p.length - 1 - i) 0 ≠ w.getD (w.length - 1 - i) 0)) = !endsL w p := by
 unfold endsL
 rw [Bool.eq_iff_iff, List.any_eq_true, Bool.not_eq_true', decide_eq_false_iff_not]
 constructor
 ·rintro ⟨i, hi, hb⟩ ⟨_, e⟩
  have hi := List.mem_range.1 hi
  apply of_decide_eq_true hb
  have : p.getD (p.length - 1 - i) 0 = (w.drop (w.length - p.length)).getD (p.length - 1 - i) 0 := by rw [e]
  rw [this, getD_drop]
  congr 1
  omega
 ·intro hne
  apply Classical.byContradiction
  intro hall
  refine hne ⟨h, ext_getD (d := 0) (by rw [List.length_drop]; omega) fun j hj => ?_⟩
  rw [getD_drop]
  have := fun hb => hall ⟨p.length - 1 - j, List.mem_range.2 (by omega), decide_eq_true hb⟩
  have e := Classical.byContradiction this
  rw [show p.length - 1 - (p.length - 1 - j) = j by omega, show w.length - 1 - (p.length - 1 - j) = w.length - p.length + j by omega] at e
  exact e.symm
theorem mref_ok {n : Nat} {w p : NL} {k a2 a3 a0 : Int} (hw : w.l.length ≤ 1000000) (hp : p.l.length < n) : qcb_ n a0 p a2 a3 k w = some (mat k w.l (a0, p, a2, a3)) := by
 unfold qcb_ mat
 by_cases c : a0 = k
 ·rw [if_pos c, decide_eq_true (show (a0, p, a2, a3).1 = k from c), Bool.true_and]
  by_cases cl : ((p.l.length : Nat) : Int) > ((w.l.length : Nat) : Int)
  ·rw [if_pos cl]
   unfold endsL
   rw [decide_eq_false (fun h => by have := h.1; have : p.l.length ≤ w.l.length := this; omega)]
  ·rw [if_neg cl]
   have q := anyU (B := qt_ n w a0 p a2 a3) (fun i => ((i + 1 : Nat) : Int)) (fun i => decide (p.l.getD (p.l.length - 1 - i) 0 ≠ w.l.getD (w.l.length - 1 - i) 0)) p.l.length
    (fun i hi hb => by
     have hb := of_decide_eq_true hb
     unfold qt_
     dsimp only
     have e1 : (((p.l.length : Nat) : Int) - ((i + 1 : Nat) : Int)) = ((p.l.length - 1 - i : Nat) : Int) := by omega
     have e2 : (((w.l.length : Nat) : Int) - ((i + 1 : Nat) : Int)) = ((w.l.length - 1 - i : Nat) : Int) := by omega
     rw [if_pos (by omega), e1, e2, qpl_ (by omega) (by omega), qpl_ (by omega) (by omega)]
     simp only [Option.bind_some]
     rw [if_pos (by omega), Int.toNat_natCast, if_pos (by omega), if_pos (by omega), Int.toNat_natCast, if_pos (by omega)]
     exact if_neg hb)
    (fun i hi hb => by
     have hb : p.l.getD (p.l.length - 1 - i) 0 = w.l.getD (w.l.length - 1 - i) 0 := Classical.byContradiction (of_decide_eq_false hb)
     unfold qt_
     dsimp only
     have e1 : (((p.l.length : Nat) : Int) - ((i + 1 : Nat) : Int)) = ((p.l.length - 1 - i : Nat) : Int) := by omega
     have e2 : (((w.l.length : Nat) : Int) - ((i + 1 : Nat) : Int)) = ((w.l.length - 1 - i : Nat) : Int) := by omega
     rw [if_pos (by omega), e1, e2, qpl_ (by omega) (by omega), qpl_ (by omega) (by omega)]
     simp only [Option.bind_some]
     rw [if_pos (by omega), Int.toNat_natCast, if_pos (by omega), if_pos (by omega), Int.toNat_natCast, if_pos (by omega), w64_inc (by omega)]
     exact if_pos hb)
    (by
     unfold qt_
     dsimp only
     rw [if_neg (by omega)]) hp
   rw [show qdb_ n w a0 p a2 a3 1 = _ from q, ends_iff (by omega)]
   show (match some (if (!endsL w.l p.l) = true then (Sum.inl () : Unit ⊕ Unit) else Sum.inr ()) with
    | none => none
    | some (.inl _) => some false
    | some (.inr _) => some true) = some (endsL w.l p.l)
   cases endsL w.l p.l <;> rfl
 ·rw [if_neg c, decide_eq_false (show ¬ (a0, p, a2, a3).1 = k from c), Bool.false_and]
theorem sref_ok {n : Nat} {L : WL rw_iLii} {k : Int} {w : NL} (hL : L.l.length ≤ 1000000) (hn : L.l.length < n) (hw : w.l.length ≤ 1000000) (hr : ∀ i, i < L.l.length → (L.l.getD i d4).2.1.l.length < n) : qb4_ n L k w = some (sty k w.l L.l) := by
 have row : ∀ i, L.l.getD i (0, nl0, 0, 0) = L.l.getD i d4 := fun i => rfl
 obtain ⟨r, q1, q2⟩ := hoare (B := qbm_ n L k w) (σ := Int) (fun s t => (s, t))
  (fun t s => (s = -1 ∧ (L.l.take t).foldl (stp k w.l) (0, 0, false) = (0, 0, false)) ∨ ∃ b : Nat, b < t ∧ b < L.l.length ∧ s = (b : Int) ∧ (L.l.take t).foldl (stp k w.l) (0, 0, false) = ((L.l.getD b d4).2.2.1, (L.l.getD b d4).2.2.2, true))
  (fun s => (s = -1 ∧ L.l.foldl (stp k w.l) (0, 0, false) = (0, 0, false)) ∨ ∃ b : Nat, b < L.l.length ∧ s = (b : Int) ∧ L.l.foldl (stp k w.l) (0, 0, false) = ((L.l.getD b d4).2.2.1, (L.l.getD b d4).2.2.2, true)) L.l.length
  (fun t s ht hI => by
   have hstep : (L.l.take (t + 1)).foldl (stp k w.l) (0, 0, false) = stp k w.l ((L.l.take t).foldl (stp k w.l) (0, 0, false)) (L.l.getD t d4) := by
    rw [List.take_add_one, List.getElem?_eq_getElem ht, List.foldl_append]
    simp [List.getD_eq_getElem?_getD, ht]
   unfold qbm_
   dsimp only
   rw [if_pos (by omega), if_pos (by omega), Int.toNat_natCast]
   simp only [Option.bind_some, row]
   rw [mref_ok hw (hr t ht), Option.bind_some, w64_inc (by omega)]
   have hm : mat k w.l ((L.l.getD t d4).1, (L.l.getD t d4).2.1, (L.l.getD t d4).2.2.1, (L.l.getD t d4).2.2.2) = mat k w.l (L.l.getD t d4) := rfl
   rw [hm]
   cases hc : mat k w.l (L.l.getD t d4) with
   | false =>
    rw [if_neg (by decide)]
    have e : (L.l.take (t + 1)).foldl (stp k w.l) (0, 0, false) = (L.l.take t).foldl (stp k w.l) (0, 0, false) := by
     rw [hstep]; unfold stp; rw [hc]; rfl
    refine .inl ⟨s, ?_, rfl⟩
    rcases hI with ⟨h1, h2⟩ | ⟨b, h1, h2, h3, h4⟩
    ·exact .inl ⟨h1, e.trans h2⟩
    ·exact .inr ⟨b, by omega, h2, h3, e.trans h4⟩
   | true =>
    rw [if_pos rfl]
    rcases hI with ⟨h1, h2⟩ | ⟨b, h1, h2, h3, h4⟩
    ·rw [if_pos (by omega)]
     refine .inl ⟨_, .inr ⟨t, by omega, ht, rfl, ?_⟩, rfl⟩
     rw [hstep, h2]
     unfold stp
     rw [if_pos hc, if_neg (fun h => by cases h.1)]
    ·rw [if_neg (by omega), if_pos (by omega), h3, Int.toNat_natCast]
     by_cases cp : (L.l.getD t d4).2.2.2 > (L.l.getD b d4).2.2.2
     ·rw [if_pos cp]
      refine .inl ⟨_, .inr ⟨t, by omega, ht, rfl, ?_⟩, rfl⟩
      rw [hstep, h4]
      unfold stp
      rw [if_pos hc, if_neg (fun h => by have := h.2; simp only [] at this; omega)]
     ·rw [if_neg cp]
      refine .inl ⟨_, .inr ⟨b, by omega, h2, rfl, ?_⟩, rfl⟩
      rw [hstep, h4]
      unfold stp
      rw [if_pos hc, if_pos ⟨rfl, by simp only []; omega⟩])
  (fun s hI => ⟨s, by
   rw [List.take_length] at hI
   rcases hI with h | ⟨b, _, h⟩
   ·exact .inl h
   ·exact .inr ⟨b, h⟩, by
   unfold qbm_
   dsimp only
   rw [if_neg (by omega)]⟩) n 0 (-1) (Nat.zero_le _) (.inl ⟨rfl, rfl⟩) (by omega)
 unfold qb4_ sty
 rw [show qff_ n L k w (-1, 0) = some r from q2, Option.bind_some]
 rcases q1 with ⟨h1, h2⟩ | ⟨b, h1, h2, h3⟩
 ·rw [if_pos (by omega), h2]
 ·rw [if_neg (by omega), if_pos (by omega), h2, Int.toNat_natCast, h3]
  rfl


def wayOf (p : List Int) : List Int := p.take (p.length - 1)
def r8 (x : WL rw_iiiiiiLu) (i : Nat) : P8 := x.l.getD i (0, 0, 0, 0, 0, 0, nl0, 0)
theorem quf_ {p : NL} (h : 0 ≤ p.l.length - 1 ∧ p.l.length - 1 ≤ p.l.length) : (nlSub p 0 (p.l.length - 1) h).l = wayOf p.l := by
 show (p.l.drop 0).take (p.l.length - 1 - 0) = _
 rw [List.drop_zero, Nat.sub_zero]; rfl
theorem way_len (p : List Int) : (wayOf p).length ≤ p.length := by unfold wayOf; rw [List.length_take]; omega
section
variable {n i : Nat} {L : WL rw_iLii} {x : WL rw_iiiiiiLu} {p : NL} (hL : L.l.length ≤ 1000000) (hn : L.l.length < n) (hr : ∀ i, i < L.l.length → (L.l.getD i d4).2.1.l.length < n) (hi : i < x.l.length) (h1 : 1 ≤ p.l.length) (h2 : p.l.length ≤ 1000000) (hpn : p.l.length < n)
include hL hn hi h1 h2
theorem leaf_ok' (hp : qge_ n x (i : Int) = some p) (hpn : p.l.length < n) :
  qes_ n L x (i : Int) = some (if (r8 x i).2.1 = 3 ∨ (r8 x i).2.1 = 5 then sty (r8 x i).1 (wayOf p.l) L.l else 0) := by
 unfold qes_
 have hs := fun h : 0 ≤ p.l.length - 1 ∧ p.l.length - 1 ≤ p.l.length => style_ok (n := n) (L := L) (k := (r8 x i).1) (w := nlSub p 0 (p.l.length - 1) h) hL hn (by rw [quf_ h]; have := way_len p.l; omega) (by rw [quf_ h]; have := way_len p.l; omega)
 have row : x.l.getD i (0, 0, 0, 0, 0, 0, nl0, 0) = r8 x i := rfl
 have e2 : ((p.l.length : Int) - 1).toNat = p.l.length - 1 := by omega
 rw [hp]
 simp only [Option.bind_some]
 rw [if_neg (by omega), if_pos (by omega), Int.toNat_natCast, row]
 by_cases c1 : (r8 x i).2.1 = 3
 ·rw [if_pos c1, if_pos (show (r8 x i).2.1 = 3 ∨ (r8 x i).2.1 = 5 from .inl c1), qpl_ (by omega) (by omega), if_pos (by omega), dif_pos (by omega)]
  simp only [e2]
  rw [hs (by omega), quf_ (by omega)]
  rfl
 ·by_cases c2 : (r8 x i).2.1 = 5
  ·rw [if_neg c1, if_pos c2, if_pos (show (r8 x i).2.1 = 3 ∨ (r8 x i).2.1 = 5 from .inr c2), qpl_ (by omega) (by omega), if_pos (by omega), dif_pos (by omega)]
   simp only [e2]
   rw [hs (by omega), quf_ (by omega)]
   rfl
  ·rw [if_neg c1, if_neg c2, if_neg (fun h => h.elim c1 c2)]
include hr
theorem leaf_ref (hc : qf_ n x = some 0) (hp : qbu_ n x (i : Int) = some p) :
  qbv_ n L x (i : Int) = some (if (r8 x i).2.1 = 3 ∨ (r8 x i).2.1 = 5 then sty (r8 x i).1 (wayOf p.l) L.l else 0) := by
 unfold qbv_
 have hs := fun h : 0 ≤ p.l.length - 1 ∧ p.l.length - 1 ≤ p.l.length => sref_ok (n := n) (L := L) (k := (r8 x i).1) (w := nlSub p 0 (p.l.length - 1) h) hL hn (by rw [quf_ h]; have := way_len p.l; omega) hr
 have row : x.l.getD i (0, 0, 0, 0, 0, 0, nl0, 0) = r8 x i := rfl
 have e2 : ((p.l.length : Int) - 1).toNat = p.l.length - 1 := by omega
 rw [hc, Option.bind_some, if_pos rfl, if_neg (by omega), if_neg (by omega), if_pos (by omega), Int.toNat_natCast, row, hp]
 simp only [Option.bind_some]
 by_cases c1 : (r8 x i).2.1 = 3
 ·rw [if_pos c1, if_pos (show (r8 x i).2.1 = 3 ∨ (r8 x i).2.1 = 5 from .inl c1), qpl_ (by omega) (by omega), if_pos (by omega), dif_pos (by omega)]
  simp only [e2]
  rw [hs (by omega), quf_ (by omega)]
  rfl
 ·by_cases c2 : (r8 x i).2.1 = 5
  ·rw [if_neg c1, if_pos c2, if_pos (show (r8 x i).2.1 = 3 ∨ (r8 x i).2.1 = 5 from .inr c2), qpl_ (by omega) (by omega), if_pos (by omega), dif_pos (by omega)]
   simp only [e2]
   rw [hs (by omega), quf_ (by omega)]
   rfl
  ·rw [if_neg c1, if_neg c2, if_neg (fun h => h.elim c1 c2)]
end
theorem leaf_none {n : Nat} {L : WL rw_iLii} {x : WL rw_iiiiiiLu} {i : Int} (h : qgk_ n x i = some false) : qes_ n L x i = some 0 := by
 unfold qes_ qge_
 rw [h, Option.bind_some, if_neg (by decide), Option.bind_some]
 rfl
theorem leaf_same {n : Nat} {L : WL rw_iLii} {x : WL rw_iiiiiiLu} {i : Int} (hL : L.l.length ≤ 1000000) (hn : L.l.length < n) (hr : ∀ i, i < L.l.length → (L.l.getD i d4).2.1.l.length < n) (hx : x.l.length ≤ 100) {K : Nat} (hK : ∀ j, (@kd _ ⟨x⟩ j).length ≤ K) (hn2 : K + 3000 < n) :
  ∃ c, qes_ n L x i = some c ∧ qbv_ n L x i = some c := by
 obtain ⟨c1, p1, p2⟩ := @prgCheck _ ⟨x⟩ n (by show x.l.length < n; omega) (by show x.l.length ≤ _; omega)
 obtain ⟨c2, r1, r2⟩ := refC (x := x) (n := n) (by omega) hK (by omega)
 by_cases hT : TreeOf x
 ·have e1 : qea_ n x = some 0 := chk hT (by omega)
  have e2 : qf_ n x = some 0 := refTrue hT (by omega)
  by_cases hin : 0 ≤ i ∧ i < ((x.l.length : Nat) : Int)
  ·obtain ⟨j, rfl⟩ : ∃ j : Nat, i = (j : Int) := ⟨i.toNat, by omega⟩
   have hj : j < x.l.length := by omega
   obtain ⟨M, hU, y, hy, hyl⟩ := @path_ok _ ⟨x⟩ n j hT (by show x.l.length < n; omega) hj
   obtain ⟨z, hz, hzl⟩ := @refPath _ ⟨x⟩ n x.l.length j M hT (fun j => @Tree.few _ ⟨x⟩ hT j) (by show x.l.length + x.l.length + 10 < n; omega) e2 hj hU
   have hM := @Up.len _ ⟨x⟩ hT _ _ hU
   have hMl := @que_ _ ⟨x⟩ M
   have l1 : y.l.length = M.length := by rw [hyl, hMl]
   have l2 : z.l.length = M.length := by rw [hzl, hMl]
   have hy : qge_ n x (j : Int) = some y := hy
   have hz : qbu_ n x (j : Int) = some z := hz
   refine ⟨_, leaf_ok' hL hn hj (by omega) (by omega) hy (by omega), ?_⟩
   rw [leaf_ref hL hn hr hj (by omega) (by omega) e2 hz, hyl, hzl]
  ·have hh : qgk_ n x i = some false := by
    unfold qgk_
    by_cases c : i ≥ 0
    ·rw [if_pos c, if_neg (by omega)]
    ·rw [if_neg c]
   refine ⟨0, leaf_none hh, ?_⟩
   unfold qbv_
   rw [e2, Option.bind_some, if_pos rfl]
   by_cases c : i < 0
   ·rw [if_pos c]
   ·rw [if_neg c, if_pos (by omega)]
 ·have hc1 : c1 ≠ 0 := fun h => hT (p2 h)
  have hc2 : c2 ≠ 0 := fun h => hT (r2 h)
  have p1 : qea_ n x = some c1 := p1
  have hh : qgk_ n x i = some false := by
   unfold qgk_
   rw [p1]
   by_cases c : i ≥ 0
   ·rw [if_pos c]
    by_cases c2 : i < ((x.l.length : Nat) : Int)
    ·rw [if_pos c2, Option.bind_some, if_neg hc1]
    ·rw [if_neg c2]
   ·rw [if_neg c]
  refine ⟨0, leaf_none hh, ?_⟩
  unfold qbv_
  rw [r1, Option.bind_some, if_neg hc2]
theorem loop5 {n : Nat} {L : WL rw_iLii} {x : WL rw_iiiiiiLu} {P : WL rw_iL} {k i t u m : Int} {w : NL} (hL : L.l.length ≤ 1000000) (hn : L.l.length < n) (hw : w.l.length ≤ 1000000) (hwn : w.l.length < n) (hr : ∀ i, i < L.l.length → (L.l.getD i d4).2.1.l.length < n) : qee_ n L k w x i t u m P 0 = some () := by
 have row : ∀ i, L.l.getD i (0, nl0, 0, 0) = L.l.getD i d4 := fun i => rfl
 obtain ⟨r, -, h⟩ := hoare (B := qv_ n L k w x i t u m P) (σ := Unit) (fun _ j => j) (fun _ _ => True) (fun _ => True) L.l.length
  (fun j _ hj _ => by
   unfold qv_ qcx_ qb7_
   dsimp only
   rw [if_pos (by omega), if_pos (by omega), Int.toNat_natCast]
   simp only [Option.bind_some, row]
   rw [mat_ok hw hwn, mref_ok hw (hr j hj)]
   simp only [Option.bind_some]
   rw [if_pos trivial, if_neg (by decide)]
   simp only [Option.bind_some]
   exact .inl ⟨(), trivial, by rw [w64_inc (by omega)]⟩)
  (fun _ _ => ⟨(), trivial, by
   unfold qv_
   dsimp only
   rw [if_neg (by omega)]⟩) n 0 () (Nat.zero_le _) trivial (by omega)
 exact h
theorem qug_ (g10 g11 g12 g2 : Int) (g3 : NL) (g5 : Int) : ∃ n, qdf_ n g10 g11 g12 g2 g3 g5 = some () := by
 obtain ⟨K, hK⟩ := @bound_kd _ ⟨wC⟩
 let n := K + wA.l.length + 5000
 refine ⟨n, ?_⟩
 have hn : K + 3000 < n := by show K + 3000 < K + wA.l.length + 5000; omega
 have hnA : wA.l.length < n := by show wA.l.length < K + wA.l.length + 5000; omega
 have no : (match qi_ n wA g2 g3 wC g5 g10 g11 g12 wB true () with
  | none => none
  | some (.inl _) => some ()
  | some (.inr _) => (qj_ n wA g2 g3 wC g5 g10 g11 g12 wB ()).bind fun _ => some ()) = some () := rfl
 have key : qb9_ n wA g2 g3 wC g5 g10 g11 g12 wB () = some () := by
  unfold qb9_ qeq_
  obtain ⟨b, hb, hbl⟩ := lightS (n := n) (x := wA) hnA
  rw [hb]
  simp only [Option.bind_some]
  cases b with
  | false => exact no
  | true =>
   obtain ⟨hx, hxr⟩ := hbl rfl
   rw [if_pos rfl]
   by_cases cw : ((g3.l.length : Nat) : Int) ≤ 40
   ·rw [if_pos cw]
    obtain ⟨b2, hb2, hl2⟩ := lightP (n := n) (mo := 100) (x := wC) (by omega) (by omega)
    have hb2 : qb0_ n wC 100 = some b2 := hb2
    rw [hb2]
    simp only [Option.bind_some]
    cases b2 with
    | false => exact no
    | true =>
     have hy := (hl2 rfl).1
     rw [if_pos rfl]
     obtain ⟨b3, hb3, hl3⟩ := lightG (n := n) (t := g10) (u := g11) (k := g12) (x := wB) (by omega)
     rw [hb3]
     simp only [Option.bind_some]
     cases b3 with
     | false => exact no
     | true =>
      obtain ⟨hP, hPr⟩ := hl3 rfl
      rw [if_pos rfl]
      show (qj_ n wA g2 g3 wC g5 g10 g11 g12 wB ()).bind _ = _
      have h4 : qj_ n wA g2 g3 wC g5 g10 g11 g12 wB () = some () := by
       have hr : ∀ i, i < wA.l.length → (wA.l.getD i d4).2.1.l.length < n := fun i hi => Nat.lt_of_le_of_lt (hxr i hi) (by omega)
       obtain ⟨c1, e1, e2⟩ := check_same (n := n) (t := g10) (u := g11) (k := g12) (x := wA) (P := wB) (by omega) hxr (by omega) hP hPr
       obtain ⟨c3, e5, e6⟩ := leaf_same (n := n) (L := wA) (x := wC) (i := g5) (by omega) hnA hr hy hK hn
       unfold qj_ qcz_
       rw [loop5 (by omega) hnA (by omega) (by omega) hr, e1, e2, style_ok (by omega) hnA (by omega) (by omega), sref_ok (by omega) hnA (by omega) hr, e5, e6]
       simp only [Option.bind_some, if_true]
      rw [h4]
      rfl
   ·rw [if_neg cw]
    exact no
 unfold qdf_ qhh_ qc0_
 rw [Option.bind_some, Option.bind_some, key]
 rfl

end Go.Proofs.Ytlfcfopohlhlfaa.sca26
