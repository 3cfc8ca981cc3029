/-
  The pure side. No condition.
-/
import Derived.Test.YtggbmhhikafdhaaTedPure
import Derived.IntWalk
set_option linter.unusedSimpArgs false
set_option linter.unusedVariables false
set_option linter.unusedSectionVars false
set_option linter.unnecessarySimpa false
namespace Go.Proofs.Ytggbmhhikafdhaa.ted16
open Go Go.Proofs.Ytggbmhhikafdhaa Ax
variable [Args]


/-! the check does not look at Met, nor where kids are kept -/
@[reducible] def withZ (L : List P8) (h : L.length ≤ 9223372036854775807) (hu : ∀ x ∈ L, 0 ≤ x.2.2.2.2.2.2.2 ∧ x.2.2.2.2.2.2.2 < 18446744073709551616) : Args := { toNest := inferInstance, A := L, bA := 0, dA := 0, cA := 0, hA := h, uA := hu }
/-- rows that are alike but for Met -/
structure Al (X M : List P8) : Prop where
 len : M.length = X.length
 row : ∀ i, i < X.length → (at8 M i).1 = (at8 X i).1 ∧ (at8 M i).2.1 = (at8 X i).2.1 ∧ (at8 M i).2.2.1 = (at8 X i).2.2.1 ∧ (at8 M i).2.2.2.1 = (at8 X i).2.2.2.1 ∧ (at8 M i).2.2.2.2.1 = (at8 X i).2.2.2.2.1 ∧ (at8 M i).2.2.2.2.2.1 = (at8 X i).2.2.2.2.2.1 ∧ kl (at8 M i) = kl (at8 X i)
theorem inB2 {X M : List P8} {hX : X.length ≤ 9223372036854775807} {hu} (h : Al X M) {n c : Nat} {x : Int} (st : OSt) : B_iOq2_1 n M M.length c x st = @B_iOq1_1 (withZ X hX hu) n x st := by
 obtain ⟨S, s, i⟩ := st
 have hl := h.len
 have hA : (@Args.A (withZ X hX hu)).length = X.length := rfl
 have row : ∀ j : Int, 0 ≤ j ∧ j < (M.length : Int) → (M.getD j.toNat (0, 0, 0, 0, 0, 0, nl0, 0)).2.2.1 = (X.getD j.toNat (0, 0, 0, 0, 0, 0, nl0, 0)).2.2.1 ∧ (M.getD j.toNat (0, 0, 0, 0, 0, 0, nl0, 0)).2.2.2.2.1 = (X.getD j.toNat (0, 0, 0, 0, 0, 0, nl0, 0)).2.2.2.2.1 ∧ (M.getD j.toNat (0, 0, 0, 0, 0, 0, nl0, 0)).2.2.2.2.2.2.1.l = (X.getD j.toNat (0, 0, 0, 0, 0, 0, nl0, 0)).2.2.2.2.2.2.1.l := fun j hj => by
  obtain ⟨-, -, q1, -, q2, -, q3⟩ := h.row j.toNat (by omega)
  exact ⟨q1, q2, q3⟩
 unfold B_iOq2_1 B_iOq1_1
 cases S with
 | nil =>
  dsimp only
  by_cases h1 : i < x
  ·rw [if_pos h1, if_pos h1]
   by_cases h2 : 0 ≤ i ∧ i < (M.length : Int)
   ·obtain ⟨r1, r2, r3⟩ := row i h2
    rw [if_pos h2, if_pos (by omega), if_pos (by rw [hA]; omega)]
    dsimp only [Option.bind_some]
    rw [r1, r3]
    rfl
   ·rw [if_neg h2, if_neg (by rw [hA]; omega)]
  ·rw [if_neg h1, if_neg h1]
 | cons a t =>
  dsimp only
  by_cases h1 : i < x
  ·rw [if_pos h1, if_pos h1]
   by_cases h2 : 0 ≤ i ∧ i < (M.length : Int)
   ·obtain ⟨r1, r2, r3⟩ := row i h2
    rw [if_pos h2, if_pos (by omega), if_pos (by rw [hA]; omega)]
    dsimp only [Option.bind_some]
    rw [r1, r2, r3]
    by_cases h3 : i > 0
    ·rw [if_pos h3, if_pos h3]
     by_cases h4 : ((s : Nat) : Int) = 0
     ·rw [if_pos h4, if_pos h4]
     ·rw [if_neg h4, if_neg h4]
      by_cases h5 : 0 ≤ w64 (((s : Nat) : Int) - 1) ∧ w64 (((s : Nat) : Int) - 1) < ((s : Nat) : Int)
      ·rw [if_pos h5, if_pos h5]
       by_cases h6 : (w64 (((s : Nat) : Int) - 1)).toNat < (a :: t).length
       ·rw [if_pos h6, if_pos h6]
        generalize (a :: t).getD (w64 (((s : Nat) : Int) - 1)).toNat (0, 0, 0) = y
        by_cases h7 : 0 ≤ y.1 ∧ y.1 < (M.length : Int)
        ·obtain ⟨u1, u2, u3⟩ := row y.1 h7
         rw [if_pos h7, if_pos (show y.1.toNat < M.length by omega), if_pos (show 0 ≤ y.1 ∧ y.1 < (((@Args.A (withZ X hX hu)).length : Nat) : Int) by rw [hA]; omega), u2, u3]
         rfl
        ·rw [if_neg h7, if_neg (show ¬ (0 ≤ y.1 ∧ y.1 < (((@Args.A (withZ X hX hu)).length : Nat) : Int)) by rw [hA]; omega)]
       ·rw [if_neg h6, if_neg h6]
      ·rw [if_neg h5, if_neg h5]
    ·rw [if_neg h3, if_neg h3]
     rfl
   ·rw [if_neg h2, if_neg (by rw [hA]; omega)]
  ·rw [if_neg h1, if_neg h1]
theorem sound_eq (n : Nat) (a0 b0 a1 a2 a3 a4 a5 : Int) (k k' : NL) (m m' : Int) (h : k.l = k'.l) : m_soq1 n a0 a1 a2 a3 a4 a5 k m = m_soq1 n b0 a1 a2 a3 a4 a5 k' m' := by
 unfold m_soq1
 rw [h]
theorem chB2 {X M : List P8} {hX : X.length ≤ 9223372036854775807} {hu} (h : Al X M) {n c : Nat} {x : Int} (i : Int) : B_tCq2_1 n M M.length c x i = @B_tCq1_1 (withZ X hX hu) n x i := by
 have hl := h.len
 have hA : (@Args.A (withZ X hX hu)).length = X.length := rfl
 unfold B_tCq2_1 B_tCq1_1
 dsimp only
 by_cases h1 : i < x
 ·rw [if_pos h1, if_pos h1]
  by_cases h2 : 0 ≤ i ∧ i < (M.length : Int)
  ·obtain ⟨q0, q1, q2, q3, q4, q5, q6⟩ := h.row i.toNat (by omega)
   have q1 : (M.getD i.toNat (0, 0, 0, 0, 0, 0, nl0, 0)).2.1 = (X.getD i.toNat (0, 0, 0, 0, 0, 0, nl0, 0)).2.1 := q1
   have q2 : (M.getD i.toNat (0, 0, 0, 0, 0, 0, nl0, 0)).2.2.1 = (X.getD i.toNat (0, 0, 0, 0, 0, 0, nl0, 0)).2.2.1 := q2
   have q3 : (M.getD i.toNat (0, 0, 0, 0, 0, 0, nl0, 0)).2.2.2.1 = (X.getD i.toNat (0, 0, 0, 0, 0, 0, nl0, 0)).2.2.2.1 := q3
   have q4 : (M.getD i.toNat (0, 0, 0, 0, 0, 0, nl0, 0)).2.2.2.2.1 = (X.getD i.toNat (0, 0, 0, 0, 0, 0, nl0, 0)).2.2.2.2.1 := q4
   have q5 : (M.getD i.toNat (0, 0, 0, 0, 0, 0, nl0, 0)).2.2.2.2.2.1 = (X.getD i.toNat (0, 0, 0, 0, 0, 0, nl0, 0)).2.2.2.2.2.1 := q5
   have q6 : (M.getD i.toNat (0, 0, 0, 0, 0, 0, nl0, 0)).2.2.2.2.2.2.1.l = (X.getD i.toNat (0, 0, 0, 0, 0, 0, nl0, 0)).2.2.2.2.2.2.1.l := q6
   rw [if_pos h2, if_pos (show i.toNat < M.length by omega), if_pos (show 0 ≤ i ∧ i < (((@Args.A (withZ X hX hu)).length : Nat) : Int) by rw [hA]; omega)]
   dsimp only [Option.bind_some]
   rw [q1, q2, q3, q4, q5, sound_eq n _ (X.getD i.toNat (0, 0, 0, 0, 0, 0, nl0, 0)).1 _ _ _ _ _ _ (X.getD i.toNat (0, 0, 0, 0, 0, 0, nl0, 0)).2.2.2.2.2.2.1 _ (X.getD i.toNat (0, 0, 0, 0, 0, 0, nl0, 0)).2.2.2.2.2.2.2 q6]
   rfl
  ·rw [if_neg h2, if_neg (show ¬ (0 ≤ i ∧ i < (((@Args.A (withZ X hX hu)).length : Nat) : Int)) by rw [hA]; omega)]
 ·rw [if_neg h1, if_neg h1]
theorem check2 {X M : List P8} {hX : X.length ≤ 9223372036854775807} {hu} (h : Al X M) {n c : Nat} : m_tCq2 n M M.length c = @m_tCq1 (withZ X hX hu) n := by
 have e1 : ∀ x, B_iOq2_1 n M M.length c x = @B_iOq1_1 (withZ X hX hu) n x := fun x => funext fun st => inB2 h st
 have e2 : ∀ x, B_tCq2_1 n M M.length c x = @B_tCq1_1 (withZ X hX hu) n x := fun x => funext fun i => chB2 h i
 have hl := h.len
 unfold m_tCq2 m_tCq1 m_iOq2 m_iOq1 m_iOq2_1 m_iOq1_1 m_tCq2_1 m_tCq1_1
 rw [e1, e2, hl]
 rfl


/-! where places go -/
def sS (e1 e2 e3 x : Int) : Int := if x < e1 then x else if x ≥ e1 + e2 then x - e2 + e3 else e1 + e3
def eE (e1 e2 e3 x : Int) : Int := if x ≤ e1 then x else if x ≥ e1 + e2 then x - e2 + e3 else e1
def mM (e1 e2 e3 o l : Int) : Bool := decide ((e2 > 0 ∧ e1 < l ∧ e1 + e2 > o) ∨ (e3 > 0 ∧ o < e1 ∧ e1 < l))
def sm (x : Int) : Prop := -4194304 ≤ x ∧ x ≤ 4194304
theorem cl {x : Int} (h : sm x) : minB (maxB x (-1099511627776)) 1099511627776 = x := by
 unfold sm at h
 unfold minB maxB
 rw [if_neg (show ¬ (-1099511627776 : Int) > x by omega), if_neg (by omega)]
theorem cl2 {x : Int} (h : sm x) : maxB (-1099511627776 : Int) (minB x (1099511627776 : Int)) = x := by
 unfold sm at h
 unfold minB maxB
 rw [if_neg (show ¬ (1099511627776 : Int) < x by omega), if_pos (by omega)]
theorem start_val {n : Nat} {x e1 e2 e3 : Int} (hx : sm x) (h1 : sm e1) (h2 : sm e2) (h3 : sm e3) : m_sStq1 n x e1 e2 e3 = some (sS e1 e2 e3 x) := by
 unfold m_sStq1 sS
 rw [show m_shiftnumberq1 n x = some () from rfl, show m_shifteditq1 n e1 e2 e3 = some () from rfl, cl hx, cl h1, cl h2, cl h3]
 dsimp only [Option.bind_some]
 unfold sm at *
 by_cases c1 : x < e1
 ·rw [if_pos c1, if_pos c1]
 ·rw [if_neg c1, if_neg c1, w64_sm (by omega) (by omega)]
  by_cases c2 : x ≥ e1 + e2
  ·rw [if_pos c2, if_pos c2, w64_sm (x := x - e2) (by omega) (by omega), w64_sm (by omega) (by omega)]
  ·rw [if_neg c2, if_neg c2, w64_sm (by omega) (by omega)]
theorem end_val {n : Nat} {x e1 e2 e3 : Int} (hx : sm x) (h1 : sm e1) (h2 : sm e2) (h3 : sm e3) : m_shiftEndq1 n x e1 e2 e3 = some (eE e1 e2 e3 x) := by
 unfold m_shiftEndq1 eE
 rw [show m_shiftnumberq1 n x = some () from rfl, show m_shifteditq1 n e1 e2 e3 = some () from rfl, cl hx, cl h1, cl h2, cl h3]
 dsimp only [Option.bind_some]
 unfold sm at *
 by_cases c1 : x ≤ e1
 ·rw [if_pos c1, if_pos c1]
 ·rw [if_neg c1, if_neg c1, w64_sm (by omega) (by omega)]
  by_cases c2 : x ≥ e1 + e2
  ·rw [if_pos c2, if_pos c2, w64_sm (x := x - e2) (by omega) (by omega), w64_sm (by omega) (by omega)]
  ·rw [if_neg c2, if_neg c2]
theorem len_val {n : Nat} {x e1 e2 e3 : Int} (hx : sm x) (h1 : sm e1) (h2 : sm e2) (h3 : sm e3) : m_shiftLenq1 n e1 e2 e3 x = some (x - e2 + e3) := by
 unfold m_shiftLenq1
 rw [show m_shiftnumberq1 n x = some () from rfl, show m_shifteditq1 n e1 e2 e3 = some () from rfl, cl hx, cl h2, cl h3]
 dsimp only [Option.bind_some]
 unfold sm at *
 rw [w64_sm (x := x - e2) (by omega) (by omega), w64_sm (by omega) (by omega)]
theorem meets_val {n : Nat} {o l e1 e2 e3 : Int} (ho : sm o) (hl : sm l) (h1 : sm e1) (h2 : sm e2) (h3 : sm e3) : m_sMeq1 n o l e1 e2 e3 = some (mM e1 e2 e3 o l) := by
 unfold m_sMeq1 mM
 rw [show m_shiftspanq1 n o l = some () from rfl, show m_shifteditq1 n e1 e2 e3 = some () from rfl, cl ho, cl hl, cl h1, cl h2, cl h3]
 dsimp only [Option.bind_some]
 unfold sm at *
 rw [w64_sm (by omega) (by omega)]
 by_cases c1 : e2 > 0
 ·rw [if_pos c1]
  by_cases c2 : e1 < l
  ·rw [if_pos c2]
   by_cases c3 : e1 + e2 > o
   ·rw [if_pos c3, decide_eq_true (by omega)]
    by_cases c4 : e3 > 0
    ·rw [if_pos c4]
     by_cases c5 : o < e1
     ·rw [if_pos c5]
     ·rw [if_neg c5]
    ·rw [if_neg c4]
   ·rw [if_neg c3]
    by_cases c4 : e3 > 0
    ·rw [if_pos c4]
     by_cases c5 : o < e1
     ·rw [if_pos c5, decide_eq_true (by omega)]
     ·rw [if_neg c5, decide_eq_false (by omega)]
    ·rw [if_neg c4, decide_eq_false (by omega)]
  ·rw [if_neg c2, decide_eq_false (by omega)]
   by_cases c4 : e3 > 0
   ·rw [if_pos c4]
    by_cases c5 : o < e1
    ·rw [if_pos c5]
    ·rw [if_neg c5]
   ·rw [if_neg c4]
 ·rw [if_neg c1]
  by_cases c4 : e3 > 0
  ·rw [if_pos c4]
   by_cases c5 : o < e1
   ·rw [if_pos c5]
    by_cases c6 : e1 < l
    ·rw [if_pos c6, decide_eq_true (by omega)]
    ·rw [if_neg c6, decide_eq_false (by omega)]
   ·rw [if_neg c5, decide_eq_false (by omega)]
  ·rw [if_neg c4, decide_eq_false (by omega)]
theorem meets_ref {n : Nat} {o l e1 e2 e3 : Int} (ho : sm o) (hl : sm l) (h1 : sm e1) (h2 : sm e2) (h3 : sm e3) : m_rMq1 n o l e1 e2 e3 = some (mM e1 e2 e3 o l) := by
 unfold m_rMq1 mM
 rw [show m_viewportref10spanq1 n o l = some () from rfl, show m_viewportref10editq1 n e1 e2 e3 = some () from rfl, cl2 ho, cl2 hl, cl2 h1, cl2 h2, cl2 h3]
 dsimp only [Option.bind_some]
 unfold sm at *
 rw [w64_sm (by omega) (by omega)]
 by_cases c1 : e2 > 0
 ·rw [if_pos c1]
  by_cases c2 : e1 < l
  ·rw [if_pos c2]
   by_cases c3 : e1 + e2 > o
   ·rw [if_pos c3, decide_eq_true (by omega)]
   ·rw [if_neg c3]
    by_cases c4 : e3 > 0
    ·rw [if_pos c4]
     by_cases c5 : o < e1
     ·rw [if_pos c5, decide_eq_true (by omega)]
     ·rw [if_neg c5, decide_eq_false (by omega)]
    ·rw [if_neg c4, decide_eq_false (by omega)]
  ·rw [if_neg c2, decide_eq_false (by omega)]
   by_cases c4 : e3 > 0
   ·rw [if_pos c4]
    by_cases c5 : o < e1
    ·rw [if_pos c5]
    ·rw [if_neg c5]
   ·rw [if_neg c4]
 ·rw [if_neg c1]
  by_cases c4 : e3 > 0
  ·rw [if_pos c4]
   by_cases c5 : o < e1
   ·rw [if_pos c5]
    by_cases c6 : e1 < l
    ·rw [if_pos c6, decide_eq_true (by omega)]
    ·rw [if_neg c6, decide_eq_false (by omega)]
   ·rw [if_neg c5, decide_eq_false (by omega)]
  ·rw [if_neg c4, decide_eq_false (by omega)]
theorem sS_mono {e1 e2 e3 x y : Int} (h2 : 0 ≤ e2) (h3 : 0 ≤ e3) (h : x ≤ y) : sS e1 e2 e3 x ≤ sS e1 e2 e3 y := by
 unfold sS
 repeat' split
 all_goals omega
theorem eE_le {e1 e2 e3 x y : Int} (h2 : 0 ≤ e2) (h3 : 0 ≤ e3) (h : x ≤ y) : eE e1 e2 e3 x ≤ sS e1 e2 e3 y := by
 unfold sS eE
 repeat' split
 all_goals omega
theorem sS_pos {e1 e2 e3 x : Int} (h1 : 0 ≤ e1) (h3 : 0 ≤ e3) (h : 0 ≤ x) : 0 ≤ sS e1 e2 e3 x := by
 unfold sS
 repeat' split
 all_goals omega
theorem maxI (a b : Int) : maxB a b = max a b := by
 unfold maxB
 by_cases h : b > a
 ·rw [if_pos h]; omega
 ·rw [if_neg h]; omega
theorem minI (a b : Int) : minB a b = min a b := by
 unfold minB
 by_cases h : b < a
 ·rw [if_pos h]; omega
 ·rw [if_neg h]; omega


/-! what an edit makes of one part -/
def ownF (k a : Int) : Int := if k = 1 then -1 else a
def aF (e1 e2 e3 k a : Int) : Int := if k = 1 then 0 else sS e1 e2 e3 a
def tF (e1 e2 e3 k a t : Int) : Int := if k = 1 then max (t - e2 + e3) 0 else max (eE e1 e2 e3 t) (sS e1 e2 e3 a)
theorem edited_val {n : Nat} {a1 a2 a3 a4 a5 e1 e2 e3 : Int} (k2 : sm a2) (k3 : sm a3) (k4 : sm a4) (k5 : sm a5) (h1 : sm e1) (h2 : sm e2) (h3 : sm e3) (p1 : 0 ≤ e1) (p2 : 0 ≤ e2) (p3 : 0 ≤ e3) (hr : a1 = 1 → a3 = a2) : ∃ i' lk : Int, (a3 = a2 → i' = aF e1 e2 e3 a1 a2) ∧ aF e1 e2 e3 a1 a2 ≤ i' ∧ i' ≤ tF e1 e2 e3 a1 a2 a4 ∧ aF e1 e2 e3 a1 a2 < lk ∧ -20000000 ≤ lk ∧ lk ≤ 20000000 ∧ ∀ (a0 : Int) (a6 : NL) (a7 a11 : Int), m_tdq1 n a0 a1 a2 a3 a4 a5 a6 a7 e1 e2 e3 a11 = some (aF e1 e2 e3 a1 a2, i', tF e1 e2 e3 a1 a2 a4, lk, if mM e1 e2 e3 (ownF a1 a2) a5 = true then bOr .u64 a7 a11 else a7) := by
 have s2 := start_val (n := n) k2 h1 h2 h3
 have s3 := start_val (n := n) k3 h1 h2 h3
 have t4 := end_val (n := n) k4 h1 h2 h3
 have t5 := end_val (n := n) k5 h1 h2 h3
 have l4 := len_val (n := n) k4 h1 h2 h3
 by_cases c1 : a1 = 1
 ·have c3 := hr c1
  have m := meets_val (n := n) (o := -1) (by unfold sm; omega) k5 h1 h2 h3
  refine ⟨0, 1, fun _ => by unfold aF; rw [if_pos c1], by unfold aF; rw [if_pos c1]; omega, by unfold tF; rw [if_pos c1]; omega, by unfold aF; rw [if_pos c1]; omega, by omega, by omega, fun a0 a6 a7 a11 => ?_⟩
  unfold m_tdq1 m_treeownq1 aF tF ownF
  rw [if_pos c1, if_pos c1, if_pos c1, if_pos c1, s2]
  try dsimp only [Option.bind_some]
  rw [t4]
  try dsimp only [Option.bind_some]
  rw [l4]
  try dsimp only [Option.bind_some]
  rw [if_pos c3, t5]
  try dsimp only [Option.bind_some]
  rw [if_pos c1]
  try dsimp only [Option.bind_some]
  rw [m]
  try dsimp only [Option.bind_some]
  rw [maxI]
  by_cases hm : mM e1 e2 e3 (-1) a5 = true
  ·rw [if_pos hm, if_pos hm]
  ·rw [if_neg hm, if_neg hm]
 ·have m := meets_val (n := n) (o := a2) k2 k5 h1 h2 h3
  have eA : aF e1 e2 e3 a1 a2 = sS e1 e2 e3 a2 := by unfold aF; rw [if_neg c1]
  have eT : tF e1 e2 e3 a1 a2 a4 = max (eE e1 e2 e3 a4) (sS e1 e2 e3 a2) := by unfold tF; rw [if_neg c1]
  have eO : ownF a1 a2 = a2 := by unfold ownF; rw [if_neg c1]
  rw [eA, eT, eO]
  have hb2 : -9000000 ≤ sS e1 e2 e3 a2 ∧ sS e1 e2 e3 a2 ≤ 9000000 := by
   unfold sm at *
   unfold sS
   repeat' split
   all_goals omega
  have hb5 : -9000000 ≤ eE e1 e2 e3 a5 ∧ eE e1 e2 e3 a5 ≤ 9000000 := by
   unfold sm at *
   unfold eE
   repeat' split
   all_goals omega
  have hw : w64 (sS e1 e2 e3 a2 + 1) = sS e1 e2 e3 a2 + 1 := w64_sm (by omega) (by omega)
  have hw2 : w64 (e1 + 1) = e1 + 1 := w64_sm (by unfold sm at h1; omega) (by unfold sm at h1; omega)
  by_cases c3 : a3 = a2
  ·refine ⟨sS e1 e2 e3 a2, if mM e1 e2 e3 a2 a5 = true then max (max (eE e1 e2 e3 a5) (sS e1 e2 e3 a2 + 1)) (e1 + 1) else max (eE e1 e2 e3 a5) (sS e1 e2 e3 a2 + 1), fun _ => rfl, Int.le_refl _, by omega, ?_, ?_, ?_, fun a0 a6 a7 a11 => ?_⟩
   ·split <;> omega
   ·unfold sm at *; split <;> omega
   ·unfold sm at *; split <;> omega
   ·unfold m_tdq1 m_treeownq1
    rw [if_neg c1, s2]
    dsimp only [Option.bind_some]
    rw [t4]
    dsimp only [Option.bind_some]
    rw [if_pos c3, t5]
    dsimp only [Option.bind_some]
    rw [if_neg c1]
    dsimp only [Option.bind_some]
    rw [m]
    dsimp only [Option.bind_some]
    rw [hw, hw2, maxI, maxI, maxI]
    by_cases hm : mM e1 e2 e3 a2 a5 = true
    ·rw [if_pos hm, if_pos hm, if_pos hm]
    ·rw [if_neg hm, if_neg hm, if_neg hm]
  ·refine ⟨min (max (sS e1 e2 e3 a3) (sS e1 e2 e3 a2)) (max (eE e1 e2 e3 a4) (sS e1 e2 e3 a2)), if mM e1 e2 e3 a2 a5 = true then max (max (eE e1 e2 e3 a5) (sS e1 e2 e3 a2 + 1)) (e1 + 1) else max (eE e1 e2 e3 a5) (sS e1 e2 e3 a2 + 1), fun h => absurd h c3, by omega, by omega, ?_, ?_, ?_, fun a0 a6 a7 a11 => ?_⟩
   ·split <;> omega
   ·unfold sm at *; split <;> omega
   ·unfold sm at *; split <;> omega
   ·unfold m_tdq1 m_treeownq1
    rw [if_neg c1, s2]
    dsimp only [Option.bind_some]
    rw [t4]
    dsimp only [Option.bind_some]
    rw [if_neg c3, s3]
    dsimp only [Option.bind_some]
    rw [t5]
    dsimp only [Option.bind_some]
    rw [if_neg c1]
    dsimp only [Option.bind_some]
    rw [m]
    dsimp only [Option.bind_some]
    rw [hw, hw2, maxI, maxI, maxI, maxI, minI]
    by_cases hm : mM e1 e2 e3 a2 a5 = true
    ·rw [if_pos hm, if_pos hm, if_pos hm]
    ·rw [if_neg hm, if_neg hm, if_neg hm]


/-! what an edit makes of a tree -/
theorem Ks.kidTo {i k next e : Nat} {a : Int} (h : Ks i k next a e) (hs : ∀ j, j < Args.A.length → atF j ≤ toF j) : ∀ q, k ≤ q → q < (kd i).length → ∀ c : Nat, (kd i).getD q 0 = (c : Int) → a ≤ atF c ∧ toF c ≤ toF i := by
 induction h with
 | done hk => exact fun q h1 h2 => by omega
 | @kid i k next e' e a hk hv hn ha h1 h2 ih1 ih2 =>
  intro q h3 h4 c hc
  by_cases e1 : q = k
  ·subst e1
   rw [hv] at hc
   obtain rfl : next = c := by omega
   exact ⟨ha, h2.mono hs⟩
  ·obtain ⟨g1, g2⟩ := ih2 q (by omega) h4 c hc
   have := hs next hn
   exact ⟨by omega, g2⟩
def knF (i : Nat) : Int := (pt i).2.1
def inF (i : Nat) : Int := (pt i).2.2.2.1
def lkF (i : Nat) : Int := (pt i).2.2.2.2.2.1
/-- a tree whose root is a text's, an edit that lies in it, all of it small -/
structure Ed (e1 e2 e3 b : Int) : Prop where
 tr : Tree
 few : Args.A.length ≤ 120
 k0 : knF 0 = 1
 a0 : atF 0 = 0
 bd : ∀ i, i < Args.A.length → sm (atF i) ∧ sm (inF i) ∧ sm (toF i) ∧ sm (lkF i)
 s1 : sm e1
 s2 : sm e2
 s3 : sm e3
 p1 : 0 ≤ e1
 p2 : 0 ≤ e2
 p3 : 0 ≤ e3
 le : e1 + e2 ≤ toF 0
 bb : bOr .u64 0 b = b
 b0 : b ≠ 0
variable {e1 e2 e3 b : Int}
theorem Ed.at_le (h : Ed e1 e2 e3 b) : ∀ j, j < Args.A.length → atF j ≤ toF j := fun j hj => (h.tr.sp j hj).at_
theorem Ed.kid (h : Ed e1 e2 e3 b) {i : Nat} (hi : i < Args.A.length) {c : Nat} (hc : (c : Int) ∈ kd i) : i < c ∧ c < Args.A.length ∧ atF i ≤ atF c ∧ toF c ≤ toF i := by
 obtain ⟨q, hq, e⟩ := mem_getD 0 hc
 obtain ⟨f, k1, k2, k3⟩ := h.tr.end hi
 obtain ⟨g1, g2⟩ := k1.kidTo h.at_le q (Nat.zero_le _) hq c e
 obtain ⟨d, d1, d2, d3⟩ := h.tr.kid hi hq
 exact ⟨by omega, by omega, g1, g2⟩
def mO (e1 e2 e3 b : Int) (j : Nat) : Int := if mM e1 e2 e3 (ownF (knF j) (atF j)) (lkF j) = true then b else 0
def aO (e1 e2 e3 : Int) (j : Nat) : Int := aF e1 e2 e3 (knF j) (atF j)
def tO (e1 e2 e3 : Int) (j : Nat) : Int := tF e1 e2 e3 (knF j) (atF j) (toF j)
def toL (L : List P8) (j : Nat) : Int := (at8 L j).2.2.2.2.1
theorem Ed.t0_le (h : Ed e1 e2 e3 b) {j : Nat} (hj : j < Args.A.length) {x : Int} (hx : toF j ≤ x) : tO e1 e2 e3 j ≤ sS e1 e2 e3 x := by
 unfold tO tF
 have h1 := h.p1
 have h2 := h.p2
 have h3 := h.p3
 have hle := h.le
 by_cases c : knF j = 1
 ·rw [if_pos c]
  have : j = 0 := by
   rcases Nat.eq_zero_or_pos j with h0 | h0
   ·exact h0
   ·exact absurd c (h.tr.root j h0 hj)
  subst this
  unfold sS
  rw [if_neg (by omega), if_pos (by omega)]
  omega
 ·rw [if_neg c]
  have q1 := eE_le (e1 := e1) h2 h3 hx
  have q2 := sS_mono (e1 := e1) h2 h3 (Int.le_trans (h.at_le j hj) hx)
  omega
/-- a part of the new tree -/
def Fin' (e1 e2 e3 b : Int) (L : List P8) (j : Nat) : Prop := ∃ (k : NL) (i' t' lk : Int), at8 L j = ((pt j).1, (pt j).2.1, aO e1 e2 e3 j, i', t', lk, k, mO e1 e2 e3 b j) ∧ k.l = kd j ∧ (inF j = atF j → i' = aO e1 e2 e3 j) ∧ aO e1 e2 e3 j ≤ i' ∧ i' ≤ t' ∧ aO e1 e2 e3 j < lk ∧ tO e1 e2 e3 j ≤ t' ∧ (∀ x, toF j ≤ x → t' ≤ sS e1 e2 e3 x) ∧ ∀ c : Nat, (c : Int) ∈ kd j → toL L c ≤ t'
theorem Fin'.keep (h : Ed e1 e2 e3 b) {L M : List P8} {i j : Nat} (hf : Fin' e1 e2 e3 b L j) (hj : i < j) (hjN : j < Args.A.length) (hM : ∀ q, i < q → at8 M q = at8 L q) : Fin' e1 e2 e3 b M j := by
 obtain ⟨k, i', t', lk, a1, a2, a3, a4, a5, a6, a7, a8, a9⟩ := hf
 refine ⟨k, i', t', lk, by rw [hM j hj, a1], a2, a3, a4, a5, a6, a7, a8, fun c hc => ?_⟩
 obtain ⟨g1, g2, g3, g4⟩ := h.kid hjN hc
 have := a9 c hc
 unfold toL at *
 rw [hM c (by omega)]
 exact this
/-- the parts from t on are the new tree's -/
structure Sto (e1 e2 e3 b : Int) (t : Nat) (L : List P8) : Prop where
 len : L.length = Args.A.length
 hi : ∀ j, t ≤ j → j < Args.A.length → Fin' e1 e2 e3 b L j
 lo : ∀ j, j < t → j < Args.A.length → ∃ k : NL, at8 L j = wk (pt j) k 0 ∧ k.l = kd j
/-- so many kids were looked at -/
structure Kid (e1 e2 e3 b : Int) (i q : Nat) (L : List P8) : Prop where
 len : L.length = Args.A.length
 hi : ∀ j, i < j → j < Args.A.length → Fin' e1 e2 e3 b L j
 lo : ∀ j, j < i → j < Args.A.length → ∃ k : NL, at8 L j = wk (pt j) k 0 ∧ k.l = kd j
 me : ∃ (k : NL) (i' t' lk : Int), at8 L i = ((pt i).1, (pt i).2.1, aO e1 e2 e3 i, i', t', lk, k, mO e1 e2 e3 b i) ∧ k.l = kd i ∧ (inF i = atF i → i' = aO e1 e2 e3 i) ∧ aO e1 e2 e3 i ≤ i' ∧ i' ≤ t' ∧ aO e1 e2 e3 i < lk ∧ tO e1 e2 e3 i ≤ t' ∧ (∀ x, toF i ≤ x → t' ≤ sS e1 e2 e3 x) ∧ ∀ u, u < q → ∀ c : Nat, (kd i).getD u 0 = (c : Int) → toL L c ≤ t'
theorem toL_fin (h : Ed e1 e2 e3 b) {L : List P8} {c : Nat} (hf : Fin' e1 e2 e3 b L c) {x : Int} (hx : toF c ≤ x) : toL L c ≤ sS e1 e2 e3 x := by
 obtain ⟨k, i', t', lk, a1, a2, a3, a4, a5, a6, a7, a8, a9⟩ := hf
 unfold toL
 rw [a1]
 exact a8 x hx
theorem kidsE {n i : Nat} {Z : List P8} {c1 c2 c3 : Nat} {x : NL} (h : Ed e1 e2 e3 b) (hi : i < Args.A.length) (hx : x.l = kd i) : ∀ (f q : Nat) (L : List P8), q ≤ (kd i).length → (kd i).length - q < f → Kid e1 e2 e3 b i q L → ∃ M, iterM (B_tEy_1 n e1 e2 e3 b Args.A.length c1 Z c2 c3 (i : Int) x ((kd i).length : Int)) f (L, (q : Int)) = some M ∧ Sto e1 e2 e3 b i M
 | 0, q, L, _, hm, _ => absurd hm (Nat.not_lt_zero _)
 | f + 1, q, L, hq, hf, hK => by
  have hkl := kd_le i
  have hl := hK.len
  have hfew := h.few
  rw [iterM_succ]
  obtain ⟨k, i', t', lk, a1, a2, a3, a4, a5, a6, a7, a8, a9⟩ := hK.me
  by_cases hlt : q < (kd i).length
  ·obtain ⟨c, g1, g2, g3⟩ := h.tr.kid hi hlt
   have hmem : (c : Int) ∈ kd i := by rw [← g1]; exact getD_mem hlt
   obtain ⟨-, -, g4, g5⟩ := h.kid hi hmem
   have hbody : B_tEy_1 n e1 e2 e3 b Args.A.length c1 Z c2 c3 (i : Int) x ((kd i).length : Int) (L, (q : Int)) = some (.inl (L.set i ((pt i).1, (pt i).2.1, aO e1 e2 e3 i, i', maxB t' (toL L c), lk, k, mO e1 e2 e3 b i), ((q + 1 : Nat) : Int))) := by
    unfold B_tEy_1
    dsimp only
    rw [hx, if_pos (by omega), if_pos (by omega), Int.toNat_natCast, if_pos hlt, g1]
    dsimp only [Option.bind_some]
    rw [if_pos (by omega), Int.toNat_natCast, if_pos (by omega), if_pos (by omega), Int.toNat_natCast, if_pos (by omega), w64_inc' (by omega)]
    show some (Sum.inl (L.set i ((at8 L i).1, (at8 L i).2.1, (at8 L i).2.2.1, (at8 L i).2.2.2.1, maxB (at8 L i).2.2.2.2.1 (toL L c), (at8 L i).2.2.2.2.2.1, (at8 L i).2.2.2.2.2.2.1, (at8 L i).2.2.2.2.2.2.2), _)) = _
    rw [a1]
   rw [hbody]
   have hset : ∀ j, i < j → at8 (L.set i ((pt i).1, (pt i).2.1, aO e1 e2 e3 i, i', maxB t' (toL L c), lk, k, mO e1 e2 e3 b i)) j = at8 L j := fun j hj => by
    rw [at_set (by omega), if_neg (by omega)]
   refine kidsE h hi hx f (q + 1) _ (by omega) (by omega) ⟨by rw [List.length_set, hl], fun j h1 h2 => (hK.hi j h1 h2).keep h h1 h2 hset, fun j h1 h2 => ?_, ⟨k, i', maxB t' (toL L c), lk, by rw [at_set (by omega), if_pos rfl], a2, a3, a4, by rw [maxI]; omega, a6, by rw [maxI]; omega, fun y hy => ?_, fun u hu d hd => ?_⟩⟩
   ·rw [at_set (by omega), if_neg (by omega)]
    exact hK.lo j h1 h2
   ·rw [maxI]
    have q1 := a8 y hy
    have q2 := toL_fin h (hK.hi c g2 g3) (x := y) (by omega)
    omega
   ·have hdm : (d : Int) ∈ kd i := by rw [← hd]; exact getD_mem (by omega)
    obtain ⟨z1, z2, z3, z4⟩ := h.kid hi hdm
    have : toL (L.set i ((pt i).1, (pt i).2.1, aO e1 e2 e3 i, i', maxB t' (toL L c), lk, k, mO e1 e2 e3 b i)) d = toL L d := by
     show (at8 _ d).2.2.2.2.1 = (at8 L d).2.2.2.2.1
     rw [hset d z1]
    rw [this, maxI]
    by_cases hu2 : u = q
    ·subst hu2
     rw [g1] at hd
     obtain rfl : c = d := by omega
     omega
    ·have := a9 u (by omega) d hd
     omega
  ·have hbody : B_tEy_1 n e1 e2 e3 b Args.A.length c1 Z c2 c3 (i : Int) x ((kd i).length : Int) (L, (q : Int)) = some (.inr L) := by
    unfold B_tEy_1
    dsimp only
    rw [if_neg (by omega)]
   rw [hbody]
   refine ⟨L, rfl, hl, fun j h1 h2 => ?_, hK.lo⟩
   by_cases e : j = i
   ·subst e
    refine ⟨k, i', t', lk, a1, a2, a3, a4, a5, a6, a7, a8, fun c hc => ?_⟩
    obtain ⟨u, hu, e⟩ := mem_getD 0 hc
    exact a9 u (by omega) c e
   ·exact hK.hi j (by omega) h2
theorem roundE {n i : Nat} {Z L : List P8} {c1 c2 c3 : Nat} {x : NL} {z1 z2 z3 z4 z5 z6 z7 : Int} (h : Ed e1 e2 e3 b) (hi : i < Args.A.length) (hx : x.l = kd i) (hn : (kd i).length < n) (hS : Sto e1 e2 e3 b (i + 1) L) : ∃ M, m_treeEdit_111010y1 n e1 e2 e3 b L Args.A.length c1 Z c2 c3 (i : Int) z1 z2 z3 z4 z5 z6 x z7 = some M ∧ Sto e1 e2 e3 b i M := by
 have hl := hS.len
 obtain ⟨k, r1, r2⟩ := hS.lo i (Nat.lt_succ_self i) hi
 obtain ⟨d1, d2, d3, d4⟩ := h.bd i hi
 have hsp := h.tr.sp i hi
 obtain ⟨i', lk, v1, v2, v3, v4, v5, v6, hv⟩ := edited_val (n := n) (a1 := knF i) (a2 := atF i) (a3 := inF i) (a4 := toF i) (a5 := lkF i) d1 d2 d3 d4 h.s1 h.s2 h.s3 h.p1 h.p2 h.p3 (fun hk => hsp.non (.inl hk))
 have hKid : Kid e1 e2 e3 b i 0 (L.set i ((pt i).1, (pt i).2.1, aO e1 e2 e3 i, i', tO e1 e2 e3 i, lk, k, mO e1 e2 e3 b i)) := by
  have hset : ∀ j, i < j → at8 (L.set i ((pt i).1, (pt i).2.1, aO e1 e2 e3 i, i', tO e1 e2 e3 i, lk, k, mO e1 e2 e3 b i)) j = at8 L j := fun j hj => by
   rw [at_set (by omega), if_neg (by omega)]
  refine ⟨by rw [List.length_set, hl], fun j h1 h2 => (hS.hi j h1 h2).keep h h1 h2 hset, fun j h1 h2 => ?_, ⟨k, i', tO e1 e2 e3 i, lk, by rw [at_set (by omega), if_pos rfl], r2, v1, v2, v3, v4, Int.le_refl _, fun y hy => h.t0_le hi hy, fun u hu => absurd hu (Nat.not_lt_zero _)⟩⟩
  rw [at_set (by omega), if_neg (by omega)]
  exact hS.lo j (by omega) h2
 obtain ⟨M, g1, g2⟩ := kidsE (n := n) (Z := Z) (c1 := c1) (c2 := c2) (c3 := c3) (x := x) h hi hx n 0 _ (Nat.zero_le _) (by omega) hKid
 refine ⟨M, ?_, g2⟩
 unfold m_treeEdit_111010y1
 rw [if_pos (by omega), Int.toNat_natCast, if_pos (by omega)]
 show ((some (at8 L i)).bind _) = _
 dsimp only [Option.bind_some]
 rw [r1]
 show ((m_tdq1 n (pt i).1 (knF i) (atF i) (inF i) (toF i) (lkF i) k 0 e1 e2 e3 b).bind _) = _
 rw [hv]
 dsimp only [Option.bind_some]
 have hm : (if mM e1 e2 e3 (ownF (knF i) (atF i)) (lkF i) = true then bOr .u64 0 b else 0) = mO e1 e2 e3 b i := by
  unfold mO
  rw [h.bb]
 rw [hm, hx]
 show ((iterM _ n (L.set i ((pt i).1, (pt i).2.1, aO e1 e2 e3 i, i', tO e1 e2 e3 i, lk, k, mO e1 e2 e3 b i), ((0 : Nat) : Int))).bind _) = _
 rw [g1]
 rfl
theorem backE {n : Nat} {Z : List P8} {c1 c3 : Nat} (h : Ed e1 e2 e3 b) (hZl : Z.length = Args.A.length) (hZ : ∀ i, i < Args.A.length → kl (at8 Z i) = kd i) (hn : ∀ i, (kd i).length < n) : ∀ (f t : Nat) (L : List P8), t ≤ Args.A.length → t < f → Sto e1 e2 e3 b t L → ∃ M, iterM (B_bK1q1_1 n e1 e2 e3 b Args.A.length c1 Z Args.A.length c3) f (L, (t : Int) - 1) = some M ∧ Sto e1 e2 e3 b 0 M
 | 0, t, L, _, hm, _ => absurd hm (Nat.not_lt_zero _)
 | f + 1, t, L, ht, hf, hS => by
  have hfew := h.few
  rw [iterM_succ]
  cases t with
  | zero =>
   have hbody : B_bK1q1_1 n e1 e2 e3 b Args.A.length c1 Z Args.A.length c3 (L, ((0 : Nat) : Int) - 1) = some (.inr L) := by
    unfold B_bK1q1_1
    dsimp only
    rw [if_neg (by omega)]
   rw [hbody]
   exact ⟨L, rfl, hS⟩
  | succ i =>
   have hi : i < Args.A.length := by omega
   obtain ⟨M, g1, g2⟩ := roundE (n := n) (Z := Z) (c1 := c1) (c2 := Args.A.length) (c3 := c3) (x := (at8 Z i).2.2.2.2.2.2.1) (z1 := (at8 Z i).1) (z2 := (at8 Z i).2.1) (z3 := (at8 Z i).2.2.1) (z4 := (at8 Z i).2.2.2.1) (z5 := (at8 Z i).2.2.2.2.1) (z6 := (at8 Z i).2.2.2.2.2.1) (z7 := (at8 Z i).2.2.2.2.2.2.2) h hi (hZ i hi) (hn i) hS
   have ei : ((i + 1 : Nat) : Int) - 1 = (i : Int) := by omega
   have ew : w64 ((i : Int) - 1) = (i : Int) - 1 := w64_sm (by omega) (by omega)
   have hbody : B_bK1q1_1 n e1 e2 e3 b Args.A.length c1 Z Args.A.length c3 (L, (i : Int)) = some (.inl (M, (i : Int) - 1)) := by
    unfold B_bK1q1_1
    dsimp only
    rw [if_pos (by omega), if_pos (by omega), Int.toNat_natCast, if_pos (by omega)]
    show ((some (at8 Z i)).bind _) = _
    dsimp only [Option.bind_some]
    rw [g1, ew]
    rfl
   rw [ei, hbody]
   exact backE h hZl hZ hn f i M (by omega) (by omega) g2


/-! what was edited may be -/
def z0 (L : List P8) : List P8 := L.map fun r => wk r r.2.2.2.2.2.2.1 0
theorem z0_al {L M : List P8} (hl : M.length = L.length) (h : ∀ i, i < L.length → (at8 M i).1 = (at8 L i).1 ∧ (at8 M i).2.1 = (at8 L i).2.1 ∧ (at8 M i).2.2.1 = (at8 L i).2.2.1 ∧ (at8 M i).2.2.2.1 = (at8 L i).2.2.2.1 ∧ (at8 M i).2.2.2.2.1 = (at8 L i).2.2.2.2.1 ∧ (at8 M i).2.2.2.2.2.1 = (at8 L i).2.2.2.2.2.1 ∧ kl (at8 M i) = kl (at8 L i)) : Al (z0 L) M := by
 have hz : (z0 L).length = L.length := by unfold z0; rw [List.length_map]
 refine ⟨by rw [hz, hl], fun i hi => ?_⟩
 rw [hz] at hi
 have : at8 (z0 L) i = wk (at8 L i) (at8 L i).2.2.2.2.2.2.1 0 := by
  unfold at8 z0
  simp [List.getD_eq_getElem?_getD, hi]
 rw [this]
 exact h i hi
theorem z0_u {L : List P8} : ∀ x ∈ z0 L, 0 ≤ x.2.2.2.2.2.2.2 ∧ x.2.2.2.2.2.2.2 < 18446744073709551616 := fun x hx => by
 unfold z0 at hx
 obtain ⟨r, -, rfl⟩ := List.mem_map.1 hx
 exact ⟨Int.le_refl _, (by decide : (0 : Int) < 18446744073709551616)⟩
theorem z0_at {L : List P8} {i : Nat} (hi : i < L.length) : at8 (z0 L) i = wk (at8 L i) (at8 L i).2.2.2.2.2.2.1 0 := by
 unfold at8 z0
 simp [List.getD_eq_getElem?_getD, hi]
variable {e1 e2 e3 b : Int}
theorem newF {M : List P8} {hX : (z0 M).length ≤ 9223372036854775807} (hM : Sto e1 e2 e3 b 0 M) {j : Nat} (hj : j < Args.A.length) : @kd (withZ (z0 M) hX z0_u) j = kd j ∧ @atF (withZ (z0 M) hX z0_u) j = aO e1 e2 e3 j ∧ @toF (withZ (z0 M) hX z0_u) j = toL M j := by
 obtain ⟨k, i', t', lk, a1, a2, -⟩ := hM.hi j (Nat.zero_le _) hj
 have e : @pt (withZ (z0 M) hX z0_u) j = wk (at8 M j) (at8 M j).2.2.2.2.2.2.1 0 := z0_at (by rw [hM.len]; exact hj)
 refine ⟨?_, ?_, ?_⟩
 ·unfold kd; rw [e, a1]; exact a2
 ·unfold atF; rw [e, a1]; rfl
 ·unfold toF toL; rw [e]; rfl
theorem kn_pos (h : Ed e1 e2 e3 b) {j : Nat} (h0 : 0 < j) (hj : j < Args.A.length) : knF j ≠ 1 := h.tr.root j h0 hj
theorem aO_pos (h : Ed e1 e2 e3 b) {j : Nat} (h0 : 0 < j) (hj : j < Args.A.length) : aO e1 e2 e3 j = sS e1 e2 e3 (atF j) := by
 unfold aO aF; rw [if_neg (kn_pos h h0 hj)]
theorem aO_0 (h : Ed e1 e2 e3 b) : aO e1 e2 e3 0 = 0 := by unfold aO aF; rw [if_pos h.k0]
theorem Ks.edit {M : List P8} {hX : (z0 M).length ≤ 9223372036854775807} (h : Ed e1 e2 e3 b) (hM : Sto e1 e2 e3 b 0 M) {i k next e : Nat} {a : Int} (hk : Ks i k next a e) : i < Args.A.length → ∀ a' : Int, (∀ x, a ≤ x → a' ≤ sS e1 e2 e3 x) → a' ≤ toL M i → @Ks (withZ (z0 M) hX z0_u) i k next a' e := by
 induction hk with
 | @done i k next a hk ha =>
  intro hi a' h1 h2
  obtain ⟨g1, g2, g3⟩ := newF (hX := hX) hM hi
  exact @Ks.done (withZ (z0 M) hX z0_u) _ _ _ _ (by rw [g1]; exact hk) (by rw [g3]; exact h2)
 | @kid i k next e' e a hk hv hn ha c1 c2 ih1 ih2 =>
  intro hi a' h1 h2
  obtain ⟨g1, g2, g3⟩ := newF (hX := hX) hM hi
  obtain ⟨f1, f2, f3⟩ := newF (hX := hX) hM hn
  have hmem : (next : Int) ∈ kd i := by rw [← hv]; exact getD_mem hk
  obtain ⟨d1, d2, d3, d4⟩ := h.kid hi hmem
  have hap := aO_pos h (show 0 < next by omega) hn
  obtain ⟨u, i', t', lk, a1, a2, a3, a4, a5, a6, a7, a8, a9⟩ := hM.hi next (Nat.zero_le _) hn
  obtain ⟨u', i'', t'', lk', b1, b2, b3, b4, b5, b6, b7, b8, b9⟩ := hM.hi i (Nat.zero_le _) hi
  have ht : toL M next = t' := by unfold toL; rw [a1]
  have ht2 : toL M i = t'' := by unfold toL; rw [b1]
  have q1 := ih1 hn (aO e1 e2 e3 next) (fun x hx => by rw [hap]; exact sS_mono h.p2 h.p3 hx) (by omega)
  have q2 := ih2 hi (toL M next) (fun x hx => by rw [ht]; exact a8 x hx) (by rw [ht2]; exact b9 next hmem)
  refine @Ks.kid (withZ (z0 M) hX z0_u) i k next e' e a' (by rw [g1]; exact hk) (by rw [g1]; exact hv) ?_ ?_ ?_ ?_
  ·show next < (z0 M).length
   unfold z0; rw [List.length_map, hM.len]; exact hn
  ·rw [f2, hap]; exact h1 _ ha
  ·rw [f2]; exact q1
  ·rw [f3]; exact q2
theorem newTree {M : List P8} {hX : (z0 M).length ≤ 9223372036854775807} (h : Ed e1 e2 e3 b) (hM : Sto e1 e2 e3 b 0 M) : @Tree (withZ (z0 M) hX z0_u) := by
 have hz : (z0 M).length = Args.A.length := by unfold z0; rw [List.length_map, hM.len]
 have hpos := h.tr.pos
 have hmax := h.tr.max
 have e0 : ∀ j, j < Args.A.length → @pt (withZ (z0 M) hX z0_u) j = wk (at8 M j) (at8 M j).2.2.2.2.2.2.1 0 := fun j hj => z0_at (by rw [hM.len]; exact hj)
 refine @Tree.mk (withZ (z0 M) hX z0_u) (by show 0 < (z0 M).length; omega) (by show (z0 M).length ≤ _; omega) (fun j hj => ?_) (fun j h0 hj => ?_) ?_
 ·have hj : j < Args.A.length := by have : j < (z0 M).length := hj; omega
  obtain ⟨g1, g2, g3⟩ := newF (hX := hX) hM hj
  obtain ⟨k, i', t', lk, a1, a2, a3, a4, a5, a6, a7, a8, a9⟩ := hM.hi j (Nat.zero_le _) hj
  have hs := h.tr.sp j hj
  unfold SPi at hs ⊢
  rw [g1, e0 j hj, a1]
  show SP (knF j) (aO e1 e2 e3 j) i' t' lk (kd j).length
  have hin : (knF j = 1 ∨ knF j = 2 ∨ knF j = 4) → i' = aO e1 e2 e3 j := fun hk => a3 (hs.non hk)
  refine ⟨hs.k1, hs.k6, ?_, by omega, a6, fun _ => ⟨a4, a5⟩, hin, fun hk => ?_, hs.leaf⟩
  ·rcases Nat.eq_zero_or_pos j with c | c
   ·subst c; rw [aO_0 h]; exact Int.le_refl _
   ·rw [aO_pos h c hj]; exact sS_pos h.p1 h.p3 hs.a0
  ·have hjp : 0 < j := by
    rcases Nat.eq_zero_or_pos j with c | c
    ·subst c
     have := h.k0
     have hk : knF 0 = 4 := hk
     omega
    ·exact c
   have q1 := a8 (toF j) (Int.le_refl _)
   have q2 := hs.mis hk
   have q3 := aO_pos h hjp hj
   have q2 : atF j = toF j := q2
   rw [← q2] at q1
   omega
 ·have hj : j < Args.A.length := by have : j < (z0 M).length := hj; omega
  obtain ⟨k, i', t', lk, a1, -⟩ := hM.hi j (Nat.zero_le _) hj
  rw [e0 j hj, a1]
  exact h.tr.root j h0 hj
 ·obtain ⟨g1, g2, g3⟩ := newF (hX := hX) hM hpos
  obtain ⟨k, i', t', lk, a1, a2, a3, a4, a5, a6, a7, a8, a9⟩ := hM.hi 0 (Nat.zero_le _) hpos
  have ht : toL M 0 = t' := by unfold toL; rw [a1]
  have := h.tr.ks.edit (hX := hX) h hM hpos (aO e1 e2 e3 0) (fun x hx => by
   rw [h.a0] at hx
   rw [aO_0 h]
   exact sS_pos h.p1 h.p3 hx) (by omega)
  rw [g2, show (@Args.A (withZ (z0 M) hX z0_u)).length = Args.A.length from hz]
  exact this
theorem newCheck {n c : Nat} {M : List P8} (h : Ed e1 e2 e3 b) (hM : Sto e1 e2 e3 b 0 M) (hn : Args.A.length < n) : m_tCq2 n M Args.A.length c = some 0 := by
 have hz : (z0 M).length = Args.A.length := by unfold z0; rw [List.length_map, hM.len]
 have hfew := h.few
 have hX : (z0 M).length ≤ 9223372036854775807 := by omega
 have aL : Al (z0 M) M := z0_al rfl fun i hi => ⟨rfl, rfl, rfl, rfl, rfl, rfl, rfl⟩
 have e := @check_ok (withZ (z0 M) hX z0_u) n (newTree h hM) (by show (z0 M).length < n; omega)
 rw [← check2 (c := c) aL, hM.len] at e
 exact e
/-- all bits are put out -/
def zB (L M : List P8) : Prop := M.length = L.length ∧ ∀ i, i < L.length → ∃ k : NL, at8 M i = wk (at8 L i) k 0 ∧ k.l = kl (at8 L i)
theorem zB.al {L M : List P8} (h : zB L M) : Al L M := ⟨h.1, fun i hi => by
 obtain ⟨k, e1, e2⟩ := h.2 i hi
 rw [e1]
 exact ⟨rfl, rfl, rfl, rfl, rfl, rfl, e2⟩⟩
theorem editE {n : Nat} {Z : List P8} (h : Ed e1 e2 e3 b) (hZ : zB Args.A Z) (hn : Args.A.length + 1 < n) (hk : ∀ i, (kd i).length ≤ Args.A.length) : ∃ M, m_treeEditq1 n Z Args.A.length Args.A.length e1 e2 e3 b = some M ∧ Sto e1 e2 e3 b 0 M := by
 have hfew := h.few
 have hpos := h.tr.pos
 have hl := hZ.1
 have hZk : ∀ i, i < Args.A.length → kl (at8 Z i) = kd i := fun i hi => by
  obtain ⟨k, r1, r2⟩ := hZ.2 i hi
  rw [r1]; exact r2
 have hc : m_tCq2 n Z Z.length Args.A.length = some 0 := by
  rw [check2 (X := Args.A) (hX := Args.hA) (hu := Args.uA) hZ.al]
  exact check_ok h.tr (by omega)
 rw [hl] at hc
 obtain ⟨X, x1, x2, x3⟩ := copy2 (n := n) (L := Z) (by omega) (by omega) (fun i hi => by
  rw [hZk i (by omega)]
  have := hk i
  omega) (by omega)
 rw [hl] at x1
 have hS : Sto e1 e2 e3 b Args.A.length X := by
  refine ⟨by omega, fun j h1 h2 => absurd h1 (by omega), fun j h1 h2 => ?_⟩
  obtain ⟨k, r1, r2⟩ := hZ.2 j h2
  obtain ⟨k', s1, s2⟩ := x3 j (by omega)
  refine ⟨k', ?_, by rw [s2, hZk j h2]⟩
  rw [s1, r1]; rfl
 obtain ⟨M, g1, g2⟩ := backE (n := n) (Z := Z) (c1 := Args.A.length) (c3 := Args.A.length) h hl hZk (fun i => by have := hk i; omega) n Args.A.length X (Nat.le_refl _) (by omega) hS
 refine ⟨M, ?_, g2⟩
 unfold m_treeEditq1 m_bK1q1 m_bK1q1_1
 rw [if_neg (by have := h.p1; omega), if_neg (by have := h.p2; omega), if_neg (by have := h.p3; omega), hc]
 dsimp only [Option.bind_some]
 rw [if_pos rfl, x1]
 dsimp only [Option.bind_some]
 rw [show m_bKq1 n Z Args.A.length Args.A.length = some () from rfl]
 dsimp only [Option.bind_some]
 rw [show w64 (((Args.A.length : Nat) : Int) - 1) = ((Args.A.length : Nat) : Int) - 1 from w64_sm (by omega) (by omega), Int.toNat_natCast, g1]
 rfl
/-! who is met is stale -/
theorem contT {n N : Nat} {x : NL} {S : List Bool} (hS : S.length = N) (hx : x.l.length ≤ 1000000) (hn : x.l.length < n) (hk : ∀ v ∈ x.l, 0 ≤ v ∧ v < (N : Int)) : ∃ c, m_cFq1 n x S N N = some c := by
 obtain ⟨r, q1, q2⟩ := hoare (B := B_xFq1_1 n S N N x (x.l.length : Int)) (σ := Unit) (fun _ j => j) (fun _ _ => True) (fun r => True) x.l.length
  (fun j _ hj _ => by
   obtain ⟨h1, h2⟩ := hk _ (getD_mem (d := 0) hj)
   have hB : B_xFq1_1 n S N N x (x.l.length : Int) (j : Int) = (if S.getD (x.l.getD j 0).toNat false = true then some (.inr (.inl (j : Int))) else some (.inl ((j + 1 : Nat) : Int))) := by
    unfold B_xFq1_1 m_treeStale1q1
    dsimp only
    rw [if_pos (by omega), if_pos (by omega), Int.toNat_natCast, if_pos hj]
    dsimp only [Option.bind_some]
    rw [if_pos ⟨h1, h2⟩, if_pos (by omega), w64_inc (by omega)]
    rfl
   rw [hB]
   by_cases c : S.getD (x.l.getD j 0).toNat false = true
   ·rw [if_pos c]; exact .inr ⟨_, trivial, rfl⟩
   ·rw [if_neg c]; exact .inl ⟨(), trivial, rfl⟩)
  (fun _ _ => by
   refine ⟨.inr (), trivial, ?_⟩
   unfold B_xFq1_1
   dsimp only
   rw [if_neg (by omega)])
  n 0 () (Nat.zero_le _) trivial (by omega)
 have q2 : m_xFq1_1 n S N N x (x.l.length : Int) 0 = some r := q2
 unfold m_cFq1 m_xFq1
 rw [q2]
 rcases r with r | r
 ·dsimp only [Option.bind_some]
  by_cases c : r ≥ 0
  ·rw [if_pos c]; exact ⟨_, rfl⟩
  ·rw [if_neg c]; exact ⟨_, rfl⟩
 ·dsimp only [Option.bind_some]
  exact ⟨_, rfl⟩
theorem staleE {n : Nat} {M : List P8} (h : Ed e1 e2 e3 b) (hM : Sto e1 e2 e3 b 0 M) (hn : Args.A.length + 1 < n) (hk : ∀ i, (kd i).length ≤ Args.A.length) : ∃ S, m_treeStaleq1 n M Args.A.length Args.A.length = some S ∧ S.length = Args.A.length ∧ ∀ j, j < Args.A.length → mO e1 e2 e3 b j ≠ 0 → S.getD j false = true := by
 have hfew := h.few
 have hl := hM.len
 have loop : ∀ (f t : Nat) (S : List Bool), t ≤ Args.A.length → t < f → S.length = Args.A.length → (∀ j, t ≤ j → j < Args.A.length → mO e1 e2 e3 b j ≠ 0 → S.getD j false = true) → ∃ R, iterM (B_bK1q2_1 n Args.A.length Args.A.length M Args.A.length Args.A.length) f (S, (t : Int) - 1) = some R ∧ R.length = Args.A.length ∧ ∀ j, j < Args.A.length → mO e1 e2 e3 b j ≠ 0 → R.getD j false = true := by
  intro f
  induction f with
  | zero => intro t S _ hm; exact absurd hm (Nat.not_lt_zero _)
  | succ f ih =>
   intro t S ht hf hSl hS
   rw [iterM_succ]
   cases t with
   | zero =>
    have hB : B_bK1q2_1 n Args.A.length Args.A.length M Args.A.length Args.A.length (S, ((0 : Nat) : Int) - 1) = some (.inr S) := by
     unfold B_bK1q2_1
     dsimp only
     rw [if_neg (by omega)]
    rw [hB]
    exact ⟨S, rfl, hSl, fun j hj => hS j (Nat.zero_le _) hj⟩
   | succ i =>
    have hi : i < Args.A.length := by omega
    obtain ⟨k, i', t', lk, a1, a2, -⟩ := hM.hi i (Nat.zero_le _) hi
    have ei : ((i + 1 : Nat) : Int) - 1 = (i : Int) := by omega
    have ew : w64 ((i : Int) - 1) = (i : Int) - 1 := w64_sm (by omega) (by omega)
    have hki := hk i
    obtain ⟨c, hc⟩ := contT (n := n) (N := Args.A.length) (x := k) hSl (by rw [a2]; omega) (by rw [a2]; omega) (fun v hv => by
     rw [a2] at hv
     obtain ⟨q, hq, rfl⟩ := mem_getD 0 hv
     obtain ⟨c, g1, g2, g3⟩ := h.tr.kid hi hq
     rw [g1]; omega)
    have hB : ∃ x : Bool, B_bK1q2_1 n Args.A.length Args.A.length M Args.A.length Args.A.length (S, (i : Int)) = some (.inl (S.set i x, (i : Int) - 1)) ∧ (mO e1 e2 e3 b i ≠ 0 → x = true) := by
     by_cases hm : mO e1 e2 e3 b i = 0
     ·refine ⟨c, ?_, fun h => absurd hm h⟩
      unfold B_bK1q2_1
      dsimp only
      rw [if_pos (by omega), if_pos (by omega), Int.toNat_natCast, if_pos (by omega)]
      show ((some (at8 M i)).bind _) = _
      dsimp only [Option.bind_some]
      rw [a1]
      unfold m_treeStale_111010y1
      dsimp only
      rw [if_pos hm, hc]
      dsimp only [Option.bind_some]
      rw [if_pos (by omega), Int.toNat_natCast, if_pos (by omega)]
      dsimp only [Option.bind_some]
      rw [ew]
     ·refine ⟨true, ?_, fun _ => rfl⟩
      unfold B_bK1q2_1
      dsimp only
      rw [if_pos (by omega), if_pos (by omega), Int.toNat_natCast, if_pos (by omega)]
      show ((some (at8 M i)).bind _) = _
      dsimp only [Option.bind_some]
      rw [a1]
      unfold m_treeStale_111010y1
      dsimp only
      rw [if_neg hm, if_pos (by omega), Int.toNat_natCast, if_pos (by omega)]
      dsimp only [Option.bind_some]
      rw [ew]
    obtain ⟨x, hB, hx⟩ := hB
    rw [ei, hB]
    refine ih i (S.set i x) (by omega) (by omega) (by rw [List.length_set, hSl]) (fun j h1 h2 h3 => ?_)
    rw [getD_set (by omega)]
    by_cases e : j = i
    ·rw [if_pos e]; subst e; exact hx h3
    ·rw [if_neg e]; exact hS j (by omega) h2 h3
 obtain ⟨R, r1, r2, r3⟩ := loop n Args.A.length (List.replicate Args.A.length false) (Nat.le_refl _) (by omega) List.length_replicate (fun j h1 h2 => absurd h1 (by omega))
 refine ⟨R, ?_, r2, r3⟩
 unfold m_treeStaleq1 m_bK1q2 m_bK1q2_1
 rw [newCheck h hM (by omega)]
 dsimp only [Option.bind_some]
 rw [if_pos rfl, if_pos (by omega), if_pos (by omega), Int.toNat_natCast, show w64 (((Args.A.length : Nat) : Int) - 1) = ((Args.A.length : Nat) : Int) - 1 from w64_sm (by omega) (by omega), r1]
 rfl


/-! TreeEdits -/
theorem Ks.count {i k next e : Nat} {a : Int} (h : Ks i k next a e) : (kd i).length + next ≤ e + k := by
 induction h with
 | done hk => omega
 | kid hk hv hn ha h1 h2 ih1 ih2 => have := h1.lt; omega
theorem kd_out {i : Nat} (h : Args.A.length ≤ i) : kd i = [] := by
 have : pt i = d8 := by unfold pt; rw [List.getD_eq_getElem?_getD, List.getElem?_eq_none h]; rfl
 unfold kd; rw [this]; rfl
theorem Tree.few (hT : Tree) (i : Nat) : (kd i).length ≤ Args.A.length := by
 rcases Nat.lt_or_ge i Args.A.length with h | h
 ·obtain ⟨e, h1, -, h3⟩ := hT.end h
  have := h1.count
  omega
 ·rw [kd_out h]; exact Nat.zero_le _
def one (f : Nat) : BitVec 64 := BitVec.twoPow 64 f
theorem one_get {f i : Nat} (hf : f < 64) : (one f).getLsbD i = decide (i = f) := by
 unfold one
 rw [BitVec.getLsbD_twoPow]
 by_cases h : f = i
 ·subst h; simp [hf]
 ·simp [h, Ne.symm h]
theorem u64w (m : BitVec 64) : IntKind.u64.wrap ((m.toNat : Nat) : Int) = ((m.toNat : Nat) : Int) := IntWalk.u64_in _ (by have := m.isLt; omega)
theorem ofI (m : BitVec 64) : BitVec.ofInt 64 ((m.toNat : Nat) : Int) = m := by
 rw [BitVec.ofInt_natCast, BitVec.ofNat_toNat, BitVec.setWidth_eq]
theorem bor (x y : BitVec 64) : bOr .u64 ((x.toNat : Nat) : Int) ((y.toNat : Nat) : Int) = (((x ||| y).toNat : Nat) : Int) := by
 unfold bOr
 rw [show IntKind.u64.bits = 64 from rfl, ofI, ofI, u64w]
theorem shl1 {f : Nat} (hf : f < 64) : shlV .u64 (1 : Int) (f : Int) = (((one f).toNat : Nat) : Int) := by
 unfold shlV one
 rw [show IntKind.u64.bits = 64 from rfl, Int.toNat_natCast, show min f 64 = f by omega, BitVec.toNat_twoPow]
 have h1 : 2 ^ f < 2 ^ 64 := Nat.pow_lt_pow_right (by omega) hf
 rw [Nat.mod_eq_of_lt h1, show (1 : Int) * 2 ^ f = ((2 ^ f : Nat) : Int) by simp]
 generalize 2 ^ f = q at h1 ⊢
 exact IntWalk.u64_in _ (by omega)
theorem bareL1 {n : Nat} {L X : List P8} (hX : X.length = L.length) (hr : ∀ i, i < L.length → ∃ k : NL, at8 X i = wk (at8 L i) k (mt (at8 L i)) ∧ k.l = kl (at8 L i)) (hL : L.length ≤ 1000000) (hn : L.length < n) : ∃ M, m_treeBareq1_1 n L.length (L.length : Int) (X, 0) = some M ∧ zB L M := by
 obtain ⟨r, q1, q2⟩ := hoare (B := B_treeBareq1_1 n L.length (L.length : Int)) (σ := List P8) (fun M i => (M, i))
  (fun i M => M.length = L.length ∧ ∀ j, j < L.length → ∃ (k : NL) (m : Int), at8 M j = wk (at8 L j) k m ∧ k.l = kl (at8 L j) ∧ (j < i → m = 0)) (fun M => zB L M) L.length
  (fun i M hi hI => by
   obtain ⟨hM, hI⟩ := hI
   obtain ⟨k, m, e1, e2, -⟩ := hI i hi
   refine .inl ⟨M.set i (wk (at8 L i) k 0), ⟨by rw [List.length_set, hM], fun j hj => ?_⟩, ?_⟩
   ·rw [at_set (by omega)]
    by_cases e : j = i
    ·rw [if_pos e, e]; exact ⟨k, 0, rfl, e2, fun _ => rfl⟩
    ·rw [if_neg e]
     obtain ⟨k', m', a1, a2, a3⟩ := hI j hj
     exact ⟨k', m', a1, a2, fun h => a3 (by omega)⟩
   ·unfold B_treeBareq1_1
    dsimp only
    rw [if_pos (by omega), if_pos (by omega), Int.toNat_natCast, if_pos (by omega)]
    show ((some (at8 M i)).bind _) = _
    dsimp only [Option.bind_some]
    rw [e1, w64_inc (by omega)]
    rfl)
  (fun M hI => by
   refine ⟨M, ⟨hI.1, fun j hj => ?_⟩, ?_⟩
   ·obtain ⟨k, m, a1, a2, a3⟩ := hI.2 j hj
    exact ⟨k, by rw [a1, a3 hj], a2⟩
   ·unfold B_treeBareq1_1
    dsimp only
    rw [if_neg (by omega)])
  n 0 X (Nat.zero_le _) ⟨hX, fun j hj => by
   obtain ⟨k, a1, a2⟩ := hr j hj
   exact ⟨k, _, a1, a2, fun h => absurd h (Nat.not_lt_zero _)⟩⟩ (by omega)
 exact ⟨r, q2, q1⟩
theorem bare1_ok {n : Nat} (hT : Tree) (hA : Args.A.length ≤ 1000000) (hn : Args.A.length < n) : ∃ M, m_treeBareq1 n = some (M, Args.A.length) ∧ zB Args.A M := by
 obtain ⟨X, c1, hX⟩ := copy_ok (n := n) hT.pos hA hT.few hn
 obtain ⟨M, g1, g2⟩ := bareL1 (n := n) (L := Args.A) hX.len (fun i hi => by
  obtain ⟨k, e1, e2⟩ := hX.row i hi
  exact ⟨k, e1, e2⟩) hA hn
 refine ⟨M, ?_, g2⟩
 unfold m_treeBareq1
 rw [check_ok hT hn]
 dsimp only [Option.bind_some]
 rw [if_pos rfl, c1]
 dsimp only [Option.bind_some]
 rw [g1]
 rfl
theorem pick_ok (n : Nat) (g : Int) : ∃ f : Nat, f < 64 ∧ m_viewportkitPickq1 n g 64 = some (f : Int) := by
 unfold m_viewportkitPickq1
 rw [if_neg (by decide), if_pos (by decide)]
 have h1 := Int.tmod_lt_of_pos g (show (0 : Int) < 64 by decide)
 have h2 : -64 < Int.tmod g 64 := by
  have := Int.lt_tmod_of_pos g (show (0 : Int) < 64 by decide)
  omega
 by_cases c : Int.tmod g 64 < 0
 ·rw [if_pos c, w64_sm (by omega) (by omega)]
  exact ⟨(Int.tmod g 64 + 64).toNat, by omega, by rw [Int.toNat_of_nonneg (by omega)]⟩
 ·rw [if_neg c]
  exact ⟨(Int.tmod g 64).toNat, by omega, by rw [Int.toNat_of_nonneg (by omega)]⟩
theorem light2 {n : Nat} (hn : 0 < n) : m_LPq2 n 120 = some true := by
 obtain ⟨m, rfl⟩ : ∃ m, n = m + 1 := ⟨n - 1, by omega⟩
 unfold m_LPq2 m_LPq2_1
 rw [iterM_succ]
 unfold B_LPq2_1
 dsimp only [Option.bind_some]
 rw [if_pos (by decide), if_pos (by decide)]
theorem lightB {n : Nat} (hn : 200 < n) : ∃ o, m_LPq1 n 120 = some o ∧ (o = true → Args.A.length ≤ 120 ∧ ∀ i, i < Args.A.length → -1048576 ≤ atF i ∧ atF i ≤ 1048576 ∧ -1048576 ≤ toF i ∧ toF i ≤ 1048576 ∧ -1048576 ≤ lkF i ∧ lkF i ≤ 1048576) := by
 obtain ⟨r, hr, h⟩ := whileI (B := B_LPq1_1 n 120) (fun s => ∃ i : Nat, s.2 = i ∧ i ≤ 121 ∧ ∀ j, j < i → j < Args.A.length → -1048576 ≤ atF j ∧ atF j ≤ 1048576 ∧ -1048576 ≤ toF j ∧ toF j ≤ 1048576 ∧ -1048576 ≤ lkF j ∧ lkF j ≤ 1048576) (fun s => 121 - s.2.toNat) (fun r => ∀ x, r = .inr x → Args.A.length ≤ 120 → ∀ j, j < Args.A.length → -1048576 ≤ atF j ∧ atF j ≤ 1048576 ∧ -1048576 ≤ toF j ∧ toF j ≤ 1048576 ∧ -1048576 ≤ lkF j ∧ lkF j ≤ 1048576)
  (fun s hI => by
   obtain ⟨x, q⟩ := s
   obtain ⟨i, rfl, hi, hj⟩ := hI
   unfold B_LPq1_1
   dsimp only
   by_cases c1 : (i : Int) < ((Args.A.length : Nat) : Int)
   ·rw [if_pos c1]
    by_cases c2 : (i : Int) ≤ 120
    ·rw [if_pos c2, if_pos (by omega), w64_inc (by omega), Int.toNat_natCast]
     simp only [Option.bind_some]
     by_cases d1 : atF i > 1048576
     ·rw [if_pos (show (Args.A.getD i (0, 0, 0, 0, 0, 0, nl0, 0)).2.2.1 > 1048576 from d1)]; exact .inr ⟨_, (fun x h => by cases h), rfl⟩
     rw [if_neg (show ¬ (Args.A.getD i (0, 0, 0, 0, 0, 0, nl0, 0)).2.2.1 > 1048576 from d1)]
     by_cases d2 : toF i > 1048576
     ·rw [if_pos (show (Args.A.getD i (0, 0, 0, 0, 0, 0, nl0, 0)).2.2.2.2.1 > 1048576 from d2)]; exact .inr ⟨_, (fun x h => by cases h), rfl⟩
     rw [if_neg (show ¬ (Args.A.getD i (0, 0, 0, 0, 0, 0, nl0, 0)).2.2.2.2.1 > 1048576 from d2)]
     by_cases d3 : lkF i > 1048576
     ·rw [if_pos (show (Args.A.getD i (0, 0, 0, 0, 0, 0, nl0, 0)).2.2.2.2.2.1 > 1048576 from d3)]; exact .inr ⟨_, (fun x h => by cases h), rfl⟩
     rw [if_neg (show ¬ (Args.A.getD i (0, 0, 0, 0, 0, 0, nl0, 0)).2.2.2.2.2.1 > 1048576 from d3)]
     by_cases d4 : atF i < -1048576
     ·rw [if_pos (show (Args.A.getD i (0, 0, 0, 0, 0, 0, nl0, 0)).2.2.1 < -1048576 from d4)]; exact .inr ⟨_, (fun x h => by cases h), rfl⟩
     rw [if_neg (show ¬ (Args.A.getD i (0, 0, 0, 0, 0, 0, nl0, 0)).2.2.1 < -1048576 from d4)]
     by_cases d5 : toF i < -1048576
     ·rw [if_pos (show (Args.A.getD i (0, 0, 0, 0, 0, 0, nl0, 0)).2.2.2.2.1 < -1048576 from d5)]; exact .inr ⟨_, (fun x h => by cases h), rfl⟩
     rw [if_neg (show ¬ (Args.A.getD i (0, 0, 0, 0, 0, 0, nl0, 0)).2.2.2.2.1 < -1048576 from d5)]
     by_cases d6 : lkF i < -1048576
     ·rw [if_pos (show (Args.A.getD i (0, 0, 0, 0, 0, 0, nl0, 0)).2.2.2.2.2.1 < -1048576 from d6)]; exact .inr ⟨_, (fun x h => by cases h), rfl⟩
     rw [if_neg (show ¬ (Args.A.getD i (0, 0, 0, 0, 0, 0, nl0, 0)).2.2.2.2.2.1 < -1048576 from d6)]
     refine .inl ⟨(_, ((i + 1 : Nat) : Int)), ⟨i + 1, rfl, by omega, fun j h1 h2 => ?_⟩, by dsimp only; omega, rfl⟩
     by_cases e : j = i
     ·subst e; omega
     ·exact hj j (by omega) h2
    ·rw [if_neg c2]; exact .inr ⟨_, (fun x _ hN j hjN => hj j (by omega) hjN), rfl⟩
   ·rw [if_neg c1]; exact .inr ⟨_, (fun x _ hN j hjN => hj j (by omega) hjN), rfl⟩) n (0, 0) ⟨0, rfl, by omega, fun j h => absurd h (Nat.not_lt_zero _)⟩ (by dsimp only; omega)
 unfold m_LPq1 m_LPq1_1
 rw [h]
 rcases r with r | r
 ·exact ⟨_, rfl, fun h => by cases h⟩
 ·dsimp only
  by_cases c1 : ((Args.A.length : Nat) : Int) ≤ 120
  ·rw [if_pos c1]
   by_cases c2 : r ≤ w64 (2 * 120)
   ·rw [if_pos c2]; exact ⟨_, rfl, fun _ => ⟨by omega, hr r rfl (by omega)⟩⟩
   ·rw [if_neg c2]; exact ⟨_, rfl, fun h => by cases h⟩
  ·rw [if_neg c1]; exact ⟨_, rfl, fun h => by cases h⟩
theorem lightE (n : Nat) (a b c : Int) : ∃ o, m_lEq1 n a b c = some o ∧ (o = true → (-1048576 ≤ a ∧ a ≤ 1048576) ∧ (-1048576 ≤ b ∧ b ≤ 1048576) ∧ (-1048576 ≤ c ∧ c ≤ 1048576)) := by
 unfold m_lEq1
 by_cases d1 : a ≤ 1048576
 ·rw [if_pos d1]
  by_cases d2 : b ≤ 1048576
  ·rw [if_pos d2]
   by_cases d3 : c ≤ 1048576
   ·rw [if_pos d3]
    by_cases d4 : a ≥ -1048576
    ·rw [if_pos d4]
     by_cases d5 : b ≥ -1048576
     ·rw [if_pos d5]
      by_cases d6 : c ≥ -1048576
      ·rw [if_pos d6]; exact ⟨true, rfl, fun _ => by omega⟩
      ·rw [if_neg d6]; exact ⟨false, rfl, fun h => by cases h⟩
     ·rw [if_neg d5]; exact ⟨false, rfl, fun h => by cases h⟩
    ·rw [if_neg d4]; exact ⟨false, rfl, fun h => by cases h⟩
   ·rw [if_neg d3]; exact ⟨false, rfl, fun h => by cases h⟩
  ·rw [if_neg d2]; exact ⟨false, rfl, fun h => by cases h⟩
 ·rw [if_neg d1]; exact ⟨false, rfl, fun h => by cases h⟩
theorem light_all {n : Nat} (a b c : Int) (hn : 200 < n) : ∃ r, m_liq1 n a b c = some r ∧ (r = true → (Args.A.length ≤ 120 ∧ ∀ i, i < Args.A.length → -1048576 ≤ atF i ∧ atF i ≤ 1048576 ∧ -1048576 ≤ toF i ∧ toF i ≤ 1048576 ∧ -1048576 ≤ lkF i ∧ lkF i ≤ 1048576) ∧ (-1048576 ≤ a ∧ a ≤ 1048576) ∧ (-1048576 ≤ b ∧ b ≤ 1048576) ∧ (-1048576 ≤ c ∧ c ≤ 1048576)) := by
 obtain ⟨b1, e1, h1⟩ := lightB (n := n) hn
 obtain ⟨b2, e2, h2⟩ := lightE n a b c
 unfold m_liq1
 rw [e1]
 dsimp only [Option.bind_some]
 cases b1 with
 | false => exact ⟨false, rfl, fun h => by cases h⟩
 | true =>
  rw [if_pos rfl, light2 (by omega)]
  dsimp only [Option.bind_some]
  rw [if_pos rfl, e2]
  exact ⟨b2, rfl, fun h => ⟨h1 rfl, h2 h⟩⟩
theorem num {e1 e2 e3 o t l t' : Int} (p1 : 0 ≤ e1) (p2 : 0 ≤ e2) (p3 : 0 ≤ e3) (h1 : o ≤ t) (h2 : o < l) (hm : ¬ mM e1 e2 e3 o l = true) (h3 : max (eE e1 e2 e3 t) (sS e1 e2 e3 o) ≤ t') (h4 : t' ≤ sS e1 e2 e3 t) : t' - t = sS e1 e2 e3 o - o ∨ (t = e1 ∧ o ≠ t) ∨ l ≤ t := by
 unfold mM at hm
 rw [decide_eq_true_iff] at hm
 have h5 := Int.le_trans (Int.le_max_left _ _) h3
 have h6 := Int.le_trans (Int.le_max_right _ _) h3
 clear h3
 unfold sS at *
 unfold eE at *
 by_cases c1 : o < e1
 ·rw [if_pos c1] at *
  by_cases c2 : t < e1
  ·rw [if_pos c2] at h4
   rw [if_pos (by omega)] at h5
   omega
  ·rw [if_neg c2] at h4
   by_cases c3 : t ≥ e1 + e2
   ·rw [if_pos c3] at h4
    by_cases c4 : t ≤ e1
    ·rw [if_pos c4] at h5; omega
    ·rw [if_neg c4, if_pos c3] at h5; omega
   ·rw [if_neg c3] at h4
    by_cases c4 : t ≤ e1
    ·rw [if_pos c4] at h5; omega
    ·rw [if_neg c4, if_neg c3] at h5; omega
 ·rw [if_neg c1] at *
  rw [if_neg (by omega)] at h4
  by_cases c3 : o ≥ e1 + e2
  ·rw [if_pos c3] at *
   rw [if_pos (by omega)] at h4
   by_cases c4 : t ≤ e1
   ·rw [if_pos c4] at h5; omega
   ·rw [if_neg c4, if_pos (by omega)] at h5; omega
  ·rw [if_neg c3] at *
   by_cases c5 : t ≥ e1 + e2
   ·rw [if_pos c5] at h4
    by_cases c4 : t ≤ e1
    ·rw [if_pos c4] at h5; omega
    ·rw [if_neg c4, if_pos c5] at h5; omega
   ·rw [if_neg c5] at h4
    by_cases c4 : t ≤ e1
    ·rw [if_pos c4] at h5; omega
    ·rw [if_neg c4, if_neg c5] at h5; omega
theorem sS_sm {e1 e2 e3 x : Int} (h1 : -1048576 ≤ e1 ∧ e1 ≤ 1048576) (h2 : -1048576 ≤ e2 ∧ e2 ≤ 1048576) (h3 : -1048576 ≤ e3 ∧ e3 ≤ 1048576) (h : -1048576 ≤ x ∧ x ≤ 1048576) : -9000000 ≤ sS e1 e2 e3 x ∧ sS e1 e2 e3 x ≤ 9000000 := by
 unfold sS
 repeat' split
 all_goals omega
variable {e1 e2 e3 b : Int}
theorem lawL {n : Nat} {M : List P8} {S : List Bool} (h : Ed e1 e2 e3 b) (g1 : -1048576 ≤ e1 ∧ e1 ≤ 1048576) (g2 : -1048576 ≤ e2 ∧ e2 ≤ 1048576) (g3 : -1048576 ≤ e3 ∧ e3 ≤ 1048576) (hb : ∀ i, i < Args.A.length → -1048576 ≤ atF i ∧ atF i ≤ 1048576 ∧ -1048576 ≤ toF i ∧ toF i ≤ 1048576 ∧ -1048576 ≤ lkF i ∧ lkF i ≤ 1048576) (hM : Sto e1 e2 e3 b 0 M) (hSl : S.length = Args.A.length) (hS : ∀ j, j < Args.A.length → mO e1 e2 e3 b j ≠ 0 → S.getD j false = true) (hn : Args.A.length < n) : m_V_1 n e1 e2 e3 b M Args.A.length S Args.A.length 0 = some () := by
 have hfew := h.few
 obtain ⟨r, q1, q2⟩ := hoare (B := B_V_1 n e1 e2 e3 b M Args.A.length S Args.A.length) (σ := Unit) (fun _ j => j) (fun _ _ => True) (fun r => r = ()) Args.A.length
  (fun i _ hi _ => by
   refine .inl ⟨(), trivial, ?_⟩
   have hl := hM.len
   obtain ⟨k, i', t', lk, a1, a2, a3, a4, a5, a6, a7, a8, a9⟩ := hM.hi i (Nat.zero_le _) hi
   obtain ⟨d1, d2, d3, d4⟩ := h.bd i hi
   obtain ⟨f1, f2, f3, f4, f5, f6⟩ := hb i hi
   have hm := meets_ref (n := n) (o := ownF (knF i) (atF i)) (l := lkF i) (by unfold ownF; split; (unfold sm; omega); exact d1) d4 h.s1 h.s2 h.s3
   have hB : B_V_1 n e1 e2 e3 b M Args.A.length S Args.A.length (i : Int) = (if mO e1 e2 e3 b i = b then
     (if mM e1 e2 e3 (ownF (knF i) (atF i)) (lkF i) = true then
      (if knF i = 1 then some (.inl ((i + 1 : Nat) : Int)) else
       (if S.getD i false = true then some (.inl ((i + 1 : Nat) : Int)) else
        (if w64 (t' - toF i) = w64 (aO e1 e2 e3 i - atF i) then some (.inl ((i + 1 : Nat) : Int)) else
         (if toF i = e1 then (if atF i = toF i then (if lkF i > toF i then none else some (.inl ((i + 1 : Nat) : Int))) else some (.inl ((i + 1 : Nat) : Int))) else (if lkF i > toF i then none else some (.inl ((i + 1 : Nat) : Int)))))))
     else none)
    else
     (if mM e1 e2 e3 (ownF (knF i) (atF i)) (lkF i) = true then none else
      (if mO e1 e2 e3 b i = 0 then
       (if knF i = 1 then some (.inl ((i + 1 : Nat) : Int)) else
        (if S.getD i false = true then some (.inl ((i + 1 : Nat) : Int)) else
         (if w64 (t' - toF i) = w64 (aO e1 e2 e3 i - atF i) then some (.inl ((i + 1 : Nat) : Int)) else
          (if toF i = e1 then (if atF i = toF i then (if lkF i > toF i then none else some (.inl ((i + 1 : Nat) : Int))) else some (.inl ((i + 1 : Nat) : Int))) else (if lkF i > toF i then none else some (.inl ((i + 1 : Nat) : Int)))))))
      else none)) : Option (Int ⊕ Unit)) := by
    unfold B_V_1
    dsimp only
    rw [if_pos (by omega), if_pos (by omega), Int.toNat_natCast, if_pos (by omega)]
    show ((some (at8 M i)).bind _) = _
    dsimp only [Option.bind_some]
    rw [a1]
    dsimp only
    have ow : m_viewportref16Ownq1 n (pt i).1 (pt i).2.1 (pt i).2.2.1 (pt i).2.2.2.1 (pt i).2.2.2.2.1 (pt i).2.2.2.2.2.1 (pt i).2.2.2.2.2.2.1 (pt i).2.2.2.2.2.2.2 = some (ownF (knF i) (atF i)) := by
     unfold m_viewportref16Ownq1 ownF
     by_cases c : (pt i).2.1 = 1
     ·rw [if_pos c, if_pos (show knF i = 1 from c)]
     ·rw [if_neg c, if_neg (show ¬ knF i = 1 from c)]; rfl
    have ow : m_viewportref16Ownq1 n (Args.A.getD i (0, 0, 0, 0, 0, 0, nl0, 0)).1 (Args.A.getD i (0, 0, 0, 0, 0, 0, nl0, 0)).2.1 (Args.A.getD i (0, 0, 0, 0, 0, 0, nl0, 0)).2.2.1 (Args.A.getD i (0, 0, 0, 0, 0, 0, nl0, 0)).2.2.2.1 (Args.A.getD i (0, 0, 0, 0, 0, 0, nl0, 0)).2.2.2.2.1 (Args.A.getD i (0, 0, 0, 0, 0, 0, nl0, 0)).2.2.2.2.2.1 (Args.A.getD i (0, 0, 0, 0, 0, 0, nl0, 0)).2.2.2.2.2.2.1 (Args.A.getD i (0, 0, 0, 0, 0, 0, nl0, 0)).2.2.2.2.2.2.2 = some (ownF (knF i) (atF i)) := ow
    have hm : m_rMq1 n (ownF (knF i) (atF i)) (Args.A.getD i (0, 0, 0, 0, 0, 0, nl0, 0)).2.2.2.2.2.1 e1 e2 e3 = some (mM e1 e2 e3 (ownF (knF i) (atF i)) (lkF i)) := hm
    rw [if_pos (show (0 : Int) ≤ (i : Int) ∧ (i : Int) < ((Args.A.length : Nat) : Int) by omega), ow]
    dsimp only [Option.bind_some]
    rw [hm]
    dsimp only [Option.bind_some]
    rw [if_pos (show i < S.length by omega), w64_inc (by omega)]
    have hii : (0 : Int) ≤ (i : Int) ∧ (i : Int) < ((Args.A.length : Nat) : Int) := by omega
    simp only [if_pos hii]
    rfl
   rw [hB]
   by_cases c : mM e1 e2 e3 (ownF (knF i) (atF i)) (lkF i) = true
   ·have hmo : mO e1 e2 e3 b i = b := by unfold mO; rw [if_pos c]
    rw [if_pos hmo, if_pos c, if_pos (hS i hi (by rw [hmo]; exact h.b0))]
    split <;> rfl
   ·have hmo : mO e1 e2 e3 b i = 0 := by unfold mO; rw [if_neg c]
    rw [if_neg (by rw [hmo]; exact fun e => h.b0 e.symm), if_neg c, if_pos hmo]
    by_cases kr : knF i = 1
    ·rw [if_pos kr]
    ·rw [if_neg kr]
     by_cases cs : S.getD i false = true
     ·rw [if_pos cs]
     ·rw [if_neg cs]
      have hi0 : 0 < i := by
       rcases Nat.eq_zero_or_pos i with z | z
       ·subst z; exact absurd h.k0 kr
       ·exact z
      have ha := aO_pos h hi0 hi
      have ho : ownF (knF i) (atF i) = atF i := by unfold ownF; rw [if_neg kr]
      rw [ho] at c
      have ht0 : tO e1 e2 e3 i = max (eE e1 e2 e3 (toF i)) (sS e1 e2 e3 (atF i)) := by unfold tO tF; rw [if_neg kr]
      rw [ht0] at a7
      have hsp := h.tr.sp i hi
      have hnum := num h.p1 h.p2 h.p3 (h.at_le i hi) (show atF i < lkF i from hsp.lk) c a7 (a8 _ (Int.le_refl _))
      have z1 := sS_sm g1 g2 g3 (x := atF i) ⟨f1, f2⟩
      have z2 := sS_sm g1 g2 g3 (x := toF i) ⟨f3, f4⟩
      have z3 := a8 _ (Int.le_refl (toF i))
      have z4 := Int.le_trans (Int.le_max_right _ _) a7
      rw [ha, w64_sm (by omega) (by omega), w64_sm (by omega) (by omega)]
      rcases hnum with y | ⟨y1, y2⟩ | y
      ·rw [if_pos y]
      ·by_cases cc : t' - toF i = sS e1 e2 e3 (atF i) - atF i
       ·rw [if_pos cc]
       ·rw [if_neg cc, if_pos y1, if_neg y2]
      ·by_cases cc : t' - toF i = sS e1 e2 e3 (atF i) - atF i
       ·rw [if_pos cc]
       ·rw [if_neg cc, if_neg (show ¬ lkF i > toF i by omega)]
        by_cases u : toF i = e1
        ·rw [if_pos u]
         by_cases u2 : atF i = toF i
         ·rw [if_pos u2]
         ·rw [if_neg u2]
        ·rw [if_neg u])
  (fun _ _ => by
   refine ⟨(), rfl, ?_⟩
   unfold B_V_1
   dsimp only
   rw [if_neg (by omega)])
  n 0 () (Nat.zero_le _) trivial (by omega)
 exact q2


/-! TreeEdits: the law -/
theorem treeEdits_true (g10 g11 g12 g2 : Int) : ∃ n, m_V n g10 g11 g12 g2 = some () := by
 refine ⟨3000 + Args.A.length, ?_⟩
 generalize hn : 3000 + Args.A.length = n
 unfold m_V m_viewportlaw16lives
 dsimp only [Option.bind_some]
 obtain ⟨o, e1, h1⟩ := light_all (n := n) g10 g11 g12 (by omega)
 rw [e1]
 dsimp only [Option.bind_some]
 cases o with
 | false => rw [if_neg (by decide)]
 | true =>
  obtain ⟨⟨hL, hbd⟩, l1, l2, l3⟩ := h1 rfl
  rw [if_pos rfl]
  obtain ⟨c, e2, h2⟩ := prgCheck (n := n) (by omega) (by omega)
  rw [e2]
  dsimp only [Option.bind_some]
  by_cases c0 : ¬ c = 0
  ·rw [if_neg c0]
  obtain rfl := Decidable.not_not.1 c0
  have hT := h2 rfl
  have hpos := hT.pos
  rw [if_pos rfl, if_neg (by omega), if_pos (by omega)]
  rw [show (0 : Int).toNat = 0 from rfl]
  by_cases r1 : knF 0 = 1
  ·rw [if_pos (show (Args.A.getD 0 (0, 0, 0, 0, 0, 0, nl0, 0)).2.1 = 1 from r1)]
   by_cases r2 : atF 0 = 0
   ·rw [if_pos (show (Args.A.getD 0 (0, 0, 0, 0, 0, 0, nl0, 0)).2.2.1 = 0 from r2)]
    by_cases r3 : lkF 0 = 1
    ·rw [if_pos (show (Args.A.getD 0 (0, 0, 0, 0, 0, 0, nl0, 0)).2.2.2.2.2.1 = 1 from r3)]
     by_cases d1 : g10 < 0
     ·rw [if_pos d1]
     by_cases d2 : g11 < 0
     ·rw [if_neg d1, if_pos d2]
     by_cases d3 : g12 < 0
     ·rw [if_neg d1, if_neg d2, if_pos d3]
     rw [if_neg d1, if_neg d2, if_neg d3, w64_sm (x := g10 + g11) (by omega) (by omega)]
     by_cases d4 : g10 + g11 > toF 0
     ·rw [if_pos (show g10 + g11 > (Args.A.getD 0 (0, 0, 0, 0, 0, 0, nl0, 0)).2.2.2.2.1 from d4)]
     rw [if_neg (show ¬ g10 + g11 > (Args.A.getD 0 (0, 0, 0, 0, 0, 0, nl0, 0)).2.2.2.2.1 from d4)]
     obtain ⟨f, hf, e3⟩ := pick_ok n g2
     have w1 : IntKind.u64.wrap (f : Int) = (f : Int) := IntWalk.u64_in _ (by omega)
     rw [e3]
     dsimp only [Option.bind_some]
     rw [w1, if_pos (by omega)]
     have hb := shl1 hf
     have hbb : bOr .u64 0 (shlV .u64 (1 : Int) (f : Int)) = shlV .u64 (1 : Int) (f : Int) := by
      rw [hb]
      have := bor 0#64 (one f)
      rw [show ((0#64).toNat : Int) = 0 from rfl] at this
      rw [this, BitVec.zero_or]
     have hb0 : shlV .u64 (1 : Int) (f : Int) ≠ 0 := by
      rw [hb]
      intro hz
      have hz : (one f).toNat = 0 := by omega
      have : one f = 0#64 := BitVec.eq_of_toNat_eq (by rw [hz]; rfl)
      have g := one_get (f := f) (i := f) hf
      rw [this] at g
      simp at g
     generalize shlV .u64 (1 : Int) (f : Int) = b at hbb hb0 ⊢
     have hE : Ed g10 g11 g12 b := by
      refine ⟨hT, hL, r1, r2, fun i hi => ?_, by unfold sm; omega, by unfold sm; omega, by unfold sm; omega, by omega, by omega, by omega, by omega, hbb, hb0⟩
      obtain ⟨b1, b2, b3, b4, b5, b6⟩ := hbd i hi
      have hs := hT.sp i hi
      have hin : atF i ≤ inF i ∧ inF i ≤ toF i := by
       have k1 := hs.k1
       have k6 := hs.k6
       by_cases q : (pt i).2.1 = 3 ∨ (pt i).2.1 = 5 ∨ (pt i).2.1 = 6
       ·exact hs.tok q
       ·have q1 := hs.non (by omega)
        have q2 : atF i ≤ toF i := hs.at_
        have q1 : inF i = atF i := q1
        omega
      unfold sm
      omega
     have hfew := hT.few
     obtain ⟨Z, f3, hZ⟩ := bare1_ok (n := n) hT (by omega) (by omega)
     have hZ : zB Args.A Z := hZ
     obtain ⟨M, f4, hM⟩ := editE (n := n) hE hZ (by omega) hfew
     obtain ⟨S, f5, hSl, hS⟩ := staleE (n := n) hE hM (by omega) hfew
     have hlaw := lawL (n := n) hE l1 l2 l3 hbd hM hSl hS (by omega)
     rw [f3]
     dsimp only [Option.bind_some]
     rw [f4]
     dsimp only [Option.bind_some]
     rw [Int.toNat_natCast, if_pos rfl, newCheck hE hM (by omega)]
     dsimp only [Option.bind_some]
     have hml := hM.len
     obtain ⟨k, i', t', lk, a1, a2, a3, a4, a5, a6, a7, a8, a9⟩ := hM.hi 0 (Nat.zero_le _) hpos
     have a1 : M.getD 0 (0, 0, 0, 0, 0, 0, nl0, 0) = _ := a1
     rw [if_pos rfl, if_pos (by omega), if_pos (by omega), a1]
     dsimp only
     rw [if_pos (aO_0 hE)]
     have hb0 := hbd 0 hpos
     have w2 : w64 (toF 0 - g11) = toF 0 - g11 := w64_sm (by omega) (by omega)
     have w3 : w64 (toF 0 - g11 + g12) = toF 0 - g11 + g12 := w64_sm (by omega) (by omega)
     have ht : t' = toF 0 - g11 + g12 := by
      have q1 := a8 (toF 0) (Int.le_refl _)
      have q2 := a7
      unfold tO tF at q2
      rw [if_pos r1] at q2
      unfold sS at q1
      rw [if_neg (by omega), if_pos (by omega)] at q1
      omega
     rw [show w64 (w64 ((Args.A.getD 0 (0, 0, 0, 0, 0, 0, nl0, 0)).2.2.2.2.1 - g11) + g12) = toF 0 - g11 + g12 from by
      show w64 (w64 (toF 0 - g11) + g12) = _
      rw [w2, w3], if_pos ht, f5]
     dsimp only [Option.bind_some]
     rw [if_pos (by rw [Int.toNat_natCast]), Int.toNat_natCast, hlaw]
     rfl
    ·rw [if_neg (show ¬ (Args.A.getD 0 (0, 0, 0, 0, 0, 0, nl0, 0)).2.2.2.2.2.1 = 1 from r3)]
   ·rw [if_neg (show ¬ (Args.A.getD 0 (0, 0, 0, 0, 0, 0, nl0, 0)).2.2.1 = 0 from r2)]
  ·rw [if_neg (show ¬ (Args.A.getD 0 (0, 0, 0, 0, 0, 0, nl0, 0)).2.1 = 1 from r1)]

end Go.Proofs.Ytggbmhhikafdhaa.ted16
