/-
  What functions do, told by pure functions. No condition.
-/
import Derived.Test.YtdoidamfhkbgdaaTptATold
set_option linter.unusedSimpArgs false
set_option linter.unusedVariables false
set_option linter.unusedSectionVars false
set_option linter.unnecessarySimpa false
set_option maxRecDepth 100000
noncomputable section
namespace Go.Proofs.Ytdoidamfhkbgdaa.tpt16
open Go Go.Proofs.Ytdoidamfhkbgdaa Ax
variable [Args]
def A_treeplaces1q1 (a0 : WL rw_iiiiiiLu) (a1 : Int) (a2 : WL rw_iiiiiiLu) (a3 : Int) : List Value := [(Value.func (.yield 0) #[] #[]), (pN 5 0), (pN 6 0)]
def H_treeplaces1q1 (a0 : WL rw_iiiiiiLu) (a1 : Int) (a2 : WL rw_iiiiiiLu) (a3 : Int) : AH := ⟨sB [(0, (some (rblk P 8 [false, true, false, true, true, true] .ready none [(2, (pN 2 0)), (3, (pN 3 0)), (5, (pN 4 0)), (13, (Value.func (.func 32) #[] #[(pN 5 0), (pN 6 0)]))] 1))), (1, (some (.marks true))), (2, (some (.cells (layT [(wlV a0)]) 22))), (3, (some (.cells (layT [(i6 a1)]) 3))), (4, (some (.cells (layT [(Value.slice none 0 0)]) 22))), (5, (some (.cells (layT [(wlV a2)]) 22))), (6, (some (.cells (layT [(i6 a3)]) 3)))], 7, 7⟩
def V_treeplaces1q1 (a0 : WL rw_iiiiiiLu) (a1 : Int) (a2 : WL rw_iiiiiiLu) (a3 : Int) (r : List R8) : Value := match r with
 | o0 => (Value.tuple #[])
def R_treeplaces1q1 (a0 : WL rw_iiiiiiLu) (a1 : Int) (a2 : WL rw_iiiiiiLu) (a3 : Int) (r : List R8) : AH := match r with
 | o0 => ⟨sB [(0, (some (rblk P 8 [false, true, false, true, true, true] .ready none [(2, (pN 2 0)), (3, (pN 3 0)), (5, (pN 4 0)), (13, (Value.func (.func 32) #[] #[(pN 5 0), (pN 6 0)]))] 1))), (1, (some (.marks true))), (2, (some (.cells (layT [(wlV a0)]) 22))), (3, (some (.cells (layT [(i6 a1)]) 3))), (4, (some (.cells (layT [(sN 7 0 (o0).length (Nat.add big 8))]) 22))), (5, (some (.cells (layT [(wlV a2)]) 22))), (6, (some (.cells (layT [(i6 a3)]) 3))), (7, (some (.cells (layT (rows rw_iiiiiiLu o0)) 39)))], 8, 0⟩
abbrev G_treeplaces1q1 (a0 : WL rw_iiiiiiLu) (a1 : Int) (a2 : WL rw_iiiiiiLu) (a3 : Int) (r : List R8) : Prop := Gv P (.func 32) (A_treeplaces1q1 a0 a1 a2 a3) (H_treeplaces1q1 a0 a1 a2 a3) (V_treeplaces1q1 a0 a1 a2 a3 r) (R_treeplaces1q1 a0 a1 a2 a3 r)
abbrev C_treeplaces1q1 (a0 : WL rw_iiiiiiLu) (a1 : Int) (a2 : WL rw_iiiiiiLu) (a3 : Int) (r : List R8) (ins outs : BL) : CallA := ⟨7, ins, V_treeplaces1q1 a0 a1 a2 a3 r, R_treeplaces1q1 a0 a1 a2 a3 r, outs⟩
def m_treeplaces1q1 (n : Nat) (a0 : WL rw_iiiiiiLu) (a1 : Int) (a2 : WL rw_iiiiiiLu) (a3 : Int) : Option (List R8) :=
 (m_treevisitq1 n a2 a3 a0 a1 a2 a3).bind fun c1_ =>
 some c1_
theorem m_treeplaces1q1_ok (n : Nat) (a0 : WL rw_iiiiiiLu) (a1 : Int) (a2 : WL rw_iiiiiiLu) (a3 : Int) (r : List R8) (h : m_treeplaces1q1 n a0 a1 a2 a3 = some r) : Gv P (.func 32) (A_treeplaces1q1 a0 a1 a2 a3) (H_treeplaces1q1 a0 a1 a2 a3) (V_treeplaces1q1 a0 a1 a2 a3 r) (R_treeplaces1q1 a0 a1 a2 a3 r) := by
 unfold m_treeplaces1q1 at h
 obtain ⟨c1_, hc1, h⟩ := oB h
 obtain rfl := oI h
 exact runF2 hm ⟨[], [(0, 0, false), (1, 1, false), (2, 2, false), (3, 3, false), (4, 4, false), (5, 5, false), (6, 6, false), (7, 7, true)], 8, 0, [], false, [], [], []⟩ (yy 3 (.call (C_treevisitq1 a2 a3 a0 a1 a2 a3 c1_ [(0, 0, false), (1, 1, false), (2, 2, false), (3, 3, false), (4, 4, false), (5, 5, false), (6, 6, false)] [(0, 0, false), (1, 1, false), (2, 2, false), (3, 3, false), (4, 4, false), (5, 5, false), (6, 6, false), (7, 7, true)])) <|
  ww (m_treevisitq1_ok n a2 a3 a0 a1 a2 a3 c1_ hc1) <|
  ww (rows_flat rwf_iiiiiiLu c1_ 39) <|
  ww (rows_flat rwf_iiiiiiLu c1_ 39) <|
  ee) (by kernel_rfl)

def A_treeSubq1 (a0 : WL rw_iiiiiiLu) (a1 : Int) : List Value := [(wlV a0), (i6 a1)]
def H_treeSubq1 (a0 : WL rw_iiiiiiLu) (a1 : Int) : AH := ⟨sB [], 0, 0⟩
def V_treeSubq1 (a0 : WL rw_iiiiiiLu) (a1 : Int) (r : WL rw_iiiiiiLu) : Value := match r with
 | o0 => (wlV o0)
def R_treeSubq1 (a0 : WL rw_iiiiiiLu) (a1 : Int) (r : WL rw_iiiiiiLu) : AH := match r with
 | o0 => ⟨sB [(0, (some (.marks false)))], 1, 0⟩
abbrev G_treeSubq1 (a0 : WL rw_iiiiiiLu) (a1 : Int) (r : WL rw_iiiiiiLu) : Prop := Gv P (.func 8) (A_treeSubq1 a0 a1) (H_treeSubq1 a0 a1) (V_treeSubq1 a0 a1 r) (R_treeSubq1 a0 a1 r)
abbrev C_treeSubq1 (a0 : WL rw_iiiiiiLu) (a1 : Int) (r : WL rw_iiiiiiLu) (ins outs : BL) : CallA := ⟨0, ins, V_treeSubq1 a0 a1 r, R_treeSubq1 a0 a1 r, outs⟩
def m_treeSubq1 (n : Nat) (a0 : WL rw_iiiiiiLu) (a1 : Int) : Option (WL rw_iiiiiiLu) :=
 (m_treehasq1 n a0 a1).bind fun c1_ =>
 if c1_ = true then
  (m_treeplacesq1 n a0 a1).bind fun _ =>
  (m_treeplaces1q1 n a0 a1 a0 a1).bind fun c4_ =>
  if hc5 : c4_.length ≤ 9223372036854775807 then
   some (frzR rwo_iiiiiiLu c4_ hc5)
  else none
 else
  none
theorem m_treeSubq1_ok (n : Nat) (a0 : WL rw_iiiiiiLu) (a1 : Int) (r : WL rw_iiiiiiLu) (h : m_treeSubq1 n a0 a1 = some r) : Gv P (.func 8) (A_treeSubq1 a0 a1) (H_treeSubq1 a0 a1) (V_treeSubq1 a0 a1 r) (R_treeSubq1 a0 a1 r) := by
 unfold m_treeSubq1 at h
 obtain ⟨c1_, hc1, h⟩ := oB h
 have k0 := fun {A L l} (k : PL A L l) => yy 8 (.call (C_treehasq1 a0 a1 c1_ [] [])) <|
  ww (m_treehasq1_ok n a0 a1 c1_ hc1) <|
  k
 by_cases hc2 : c1_ = true
 ·rw [if_pos hc2] at h
  obtain ⟨_, hc3, h⟩ := oB h
  obtain ⟨c4_, hc4, h⟩ := oB h
  obtain ⟨hc5, h⟩ := gdD h
  obtain rfl := oI h
  exact runF2 hm ⟨[4], [(0, 5, false)], 1, 0, [(7, Nat.add (2 * codL (rows rw_iiiiiiLu c4_) + 1) 64)], true, [], [], []⟩ (k0 <|
   yy 9 (vf) <|
   ww (p := (Value.bool (!c1_)) = (Value.bool false)) (vBn hc2) <|
   yy 17 (.call (C_treeplacesq1 a0 a1 () [] [(3, 0, false), (4, 1, false)])) <|
   ww (m_treeplacesq1_ok n a0 a1 () hc3) <|
   yy 19 (.rng (C_treeplaces1q1 a0 a1 a0 a1 c4_ [(0, 6, false), (1, 5, false), (2, 0, false), (3, 1, false), (4, 2, false), (5, 3, false), (6, 4, false)] [(6, 0, false), (5, 1, false), (0, 2, false), (1, 3, false), (2, 4, false), (3, 5, false), (4, 6, false), (7, 7, true)]) [2, 3, 5, 13]) <|
   ww (m_treeplaces1q1_ok n a0 a1 a0 a1 c4_ hc4) <|
   ww (rows_flat rwf_iiiiiiLu c4_ 39) <|
   ww (frz_okR wins_nest wins_odd rwo_iiiiiiLu c4_) <|
   ee) (by kernel_rfl)
 ·rw [if_neg hc2] at h
  cases h

def A_partsFitsq1 (a0 : Int) (a1 : Int) (a2 : Int) (a3 : Int) (a4 : Int) (a5 : Int) (a6 : NL) (a7 : Int) (a8 : Int) (a9 : Int) (a10 : Int) (a11 : Int) (a12 : Int) (a13 : Int) (a14 : NL) (a15 : Int) : List Value := [(Value.agg #[(i6 a0), (i6 a1), (i6 a2), (i6 a3), (i6 a4), (i6 a5), (nlV a6), (Value.int .u64 a7)]), (Value.agg #[(i6 a8), (i6 a9), (i6 a10), (i6 a11), (i6 a12), (i6 a13), (nlV a14), (Value.int .u64 a15)])]
def H_partsFitsq1 (a0 : Int) (a1 : Int) (a2 : Int) (a3 : Int) (a4 : Int) (a5 : Int) (a6 : NL) (a7 : Int) (a8 : Int) (a9 : Int) (a10 : Int) (a11 : Int) (a12 : Int) (a13 : Int) (a14 : NL) (a15 : Int) : AH := ⟨sB [], 0, 0⟩
def V_partsFitsq1 (a0 : Int) (a1 : Int) (a2 : Int) (a3 : Int) (a4 : Int) (a5 : Int) (a6 : NL) (a7 : Int) (a8 : Int) (a9 : Int) (a10 : Int) (a11 : Int) (a12 : Int) (a13 : Int) (a14 : NL) (a15 : Int) (r : Bool) : Value := match r with
 | o0 => (bO o0)
def R_partsFitsq1 (a0 : Int) (a1 : Int) (a2 : Int) (a3 : Int) (a4 : Int) (a5 : Int) (a6 : NL) (a7 : Int) (a8 : Int) (a9 : Int) (a10 : Int) (a11 : Int) (a12 : Int) (a13 : Int) (a14 : NL) (a15 : Int) (r : Bool) : AH := match r with
 | o0 => ⟨sB [], 0, 0⟩
abbrev G_partsFitsq1 (a0 : Int) (a1 : Int) (a2 : Int) (a3 : Int) (a4 : Int) (a5 : Int) (a6 : NL) (a7 : Int) (a8 : Int) (a9 : Int) (a10 : Int) (a11 : Int) (a12 : Int) (a13 : Int) (a14 : NL) (a15 : Int) (r : Bool) : Prop := Gv P (.func 24) (A_partsFitsq1 a0 a1 a2 a3 a4 a5 a6 a7 a8 a9 a10 a11 a12 a13 a14 a15) (H_partsFitsq1 a0 a1 a2 a3 a4 a5 a6 a7 a8 a9 a10 a11 a12 a13 a14 a15) (V_partsFitsq1 a0 a1 a2 a3 a4 a5 a6 a7 a8 a9 a10 a11 a12 a13 a14 a15 r) (R_partsFitsq1 a0 a1 a2 a3 a4 a5 a6 a7 a8 a9 a10 a11 a12 a13 a14 a15 r)
abbrev C_partsFitsq1 (a0 : Int) (a1 : Int) (a2 : Int) (a3 : Int) (a4 : Int) (a5 : Int) (a6 : NL) (a7 : Int) (a8 : Int) (a9 : Int) (a10 : Int) (a11 : Int) (a12 : Int) (a13 : Int) (a14 : NL) (a15 : Int) (r : Bool) (ins outs : BL) : CallA := ⟨0, ins, V_partsFitsq1 a0 a1 a2 a3 a4 a5 a6 a7 a8 a9 a10 a11 a12 a13 a14 a15 r, R_partsFitsq1 a0 a1 a2 a3 a4 a5 a6 a7 a8 a9 a10 a11 a12 a13 a14 a15 r, outs⟩
def m_partsFitsq1 (n : Nat) (a0 : Int) (a1 : Int) (a2 : Int) (a3 : Int) (a4 : Int) (a5 : Int) (a6 : NL) (a7 : Int) (a8 : Int) (a9 : Int) (a10 : Int) (a11 : Int) (a12 : Int) (a13 : Int) (a14 : NL) (a15 : Int) : Option (Bool) :=
 if a0 = a8 then
  if a1 = a9 then
   if a2 = a10 then
    if a4 = a12 then
     some true
    else
     some false
   else
    some false
  else
   some false
 else
  some false
theorem m_partsFitsq1_ok (n : Nat) (a0 : Int) (a1 : Int) (a2 : Int) (a3 : Int) (a4 : Int) (a5 : Int) (a6 : NL) (a7 : Int) (a8 : Int) (a9 : Int) (a10 : Int) (a11 : Int) (a12 : Int) (a13 : Int) (a14 : NL) (a15 : Int) (r : Bool) (h : m_partsFitsq1 n a0 a1 a2 a3 a4 a5 a6 a7 a8 a9 a10 a11 a12 a13 a14 a15 = some r) : Gv P (.func 24) (A_partsFitsq1 a0 a1 a2 a3 a4 a5 a6 a7 a8 a9 a10 a11 a12 a13 a14 a15) (H_partsFitsq1 a0 a1 a2 a3 a4 a5 a6 a7 a8 a9 a10 a11 a12 a13 a14 a15) (V_partsFitsq1 a0 a1 a2 a3 a4 a5 a6 a7 a8 a9 a10 a11 a12 a13 a14 a15 r) (R_partsFitsq1 a0 a1 a2 a3 a4 a5 a6 a7 a8 a9 a10 a11 a12 a13 a14 a15 r) := by
 unfold m_partsFitsq1 at h
 by_cases hc1 : a0 = a8
 ·rw [if_pos hc1] at h
  have k0 := fun {A L l} (k : PL A L l) => zz 9 (xeT hc1) <|
   k
  by_cases hc2 : a1 = a9
  ·rw [if_pos hc2] at h
   have k1 := fun {A L l} (k : PL A L l) => zz 15 (xeT hc2) <|
    k
   by_cases hc3 : a2 = a10
   ·rw [if_pos hc3] at h
    have k2 := fun {A L l} (k : PL A L l) => zz 22 (xeT hc3) <|
     k
    by_cases hc4 : a4 = a12
    ·rw [if_pos hc4] at h
     obtain rfl := oI h
     exact runF2 hm ⟨[4], [], 0, 0, [], false, [], [], []⟩ (k0 <|
      k1 <|
      k2 <|
      zz 29 (xeT hc4) <|
      ee) (by kernel_rfl)
    ·rw [if_neg hc4] at h
     obtain rfl := oI h
     exact runF2 hm ⟨[4], [], 0, 0, [], false, [], [], []⟩ (k0 <|
      k1 <|
      k2 <|
      zz 29 (xeF hc4) <|
      ee) (by kernel_rfl)
   ·rw [if_neg hc3] at h
    obtain rfl := oI h
    exact runF2 hm ⟨[4], [], 0, 0, [], false, [], [], []⟩ (k0 <|
     k1 <|
     zz 22 (xeF hc3) <|
     ee) (by kernel_rfl)
  ·rw [if_neg hc2] at h
   obtain rfl := oI h
   exact runF2 hm ⟨[4], [], 0, 0, [], false, [], [], []⟩ (k0 <|
    zz 15 (xeF hc2) <|
    ee) (by kernel_rfl)
 ·rw [if_neg hc1] at h
  obtain rfl := oI h
  exact runF2 hm ⟨[4], [], 0, 0, [], false, [], [], []⟩ (zz 9 (xeF hc1) <|
   ee) (by kernel_rfl)

def A_partsEndq1 (a0 : WL rw_iiiiiiLu) (a1 : Int) : List Value := [(wlV a0), (i6 a1)]
def H_partsEndq1 (a0 : WL rw_iiiiiiLu) (a1 : Int) : AH := ⟨sB [], 0, 0⟩
def V_partsEndq1 (a0 : WL rw_iiiiiiLu) (a1 : Int) (r : Int) : Value := match r with
 | o0 => (i6 o0)
def R_partsEndq1 (a0 : WL rw_iiiiiiLu) (a1 : Int) (r : Int) : AH := match r with
 | o0 => ⟨sB [], 0, 0⟩
abbrev G_partsEndq1 (a0 : WL rw_iiiiiiLu) (a1 : Int) (r : Int) : Prop := Gv P (.func 25) (A_partsEndq1 a0 a1) (H_partsEndq1 a0 a1) (V_partsEndq1 a0 a1 r) (R_partsEndq1 a0 a1 r)
abbrev C_partsEndq1 (a0 : WL rw_iiiiiiLu) (a1 : Int) (r : Int) (ins outs : BL) : CallA := ⟨0, ins, V_partsEndq1 a0 a1 r, R_partsEndq1 a0 a1 r, outs⟩
def S_partsEndq1_1 (x1_0 : WL rw_iiiiiiLu) (st : Int) : XSt := match st with
 | x1_1 => (sT 28 [(0, (wlV x1_0)), (1, (i6 x1_1))], [], ⟨sB [], 0, 0⟩)
def X_partsEndq1_1 (x1_0 : WL rw_iiiiiiLu) (r : Int) : Ex × XSt := match r with
 | z1_0 => (.exit 0, (sT 28 [(1, (i6 z1_0))], [], ⟨sB [], 0, 0⟩))
abbrev Q_partsEndq1_1 (rnd : Option Nat) (x1_0 : WL rw_iiiiiiLu) (st : Int) (c : Ex × XSt) : Prop := CG P rnd (fnN P 25) 0 (codeOf P 25 [false, false, false, true]) (S_partsEndq1_1 x1_0 st) c
abbrev U_partsEndq1_1 (rd : Option Nat) (x1_0 : WL rw_iiiiiiLu) (st : Int) (r : Int) : Prop := CG P rd (fnN P 25) 0 (codeOf P 25 [false, false, true]) (S_partsEndq1_1 x1_0 st) (X_partsEndq1_1 x1_0 r)
def B_partsEndq1_1 (n : Nat) (x1_0 : WL rw_iiiiiiLu) (st : Int) : Option ((Int) ⊕ (Int)) := match st with
 | x1_1 =>
  if 0 ≤ x1_1 ∧ x1_1 < (((x1_0).l.length : Nat) : Int) then
   ((some (((x1_0).l).getD (x1_1).toNat (0, 0, 0, 0, 0, 0, nl0, 0)))).bind fun y1_2_ =>
   if ((((y1_2_.2.2.2.2.2.2.1)).l.length : Nat) : Int) > (0 : Int) then
    ((some (w64 (((((y1_2_.2.2.2.2.2.2.1)).l.length : Nat) : Int) - (1 : Int))))).bind fun y1_4_ =>
    if 0 ≤ y1_4_ ∧ y1_4_ < ((((y1_2_.2.2.2.2.2.2.1)).l.length : Nat) : Int) then
     if (y1_4_).toNat < (((y1_2_.2.2.2.2.2.2.1)).l).length then
      ((some ((((y1_2_.2.2.2.2.2.2.1)).l).getD (y1_4_).toNat 0))).bind fun y1_7_ =>
      some (.inl y1_7_)
     else none
    else none
   else
    some (.inr x1_1)
  else none
def m_partsEndq1_1 (n : Nat) (x1_0 : WL rw_iiiiiiLu) (st : Int) : Option (Int) := iterM (B_partsEndq1_1 n x1_0) n st
theorem b_partsEndq1_1 (n : Nat) {rnd : Option Nat} (x1_0 : WL rw_iiiiiiLu) (x1_1 : Int) (o : (Int) ⊕ (Int)) (h : B_partsEndq1_1 n x1_0 x1_1 = some o) : CG P rnd (fnN P 25) 0 (codeOf P 25 [false, false, false, true]) (S_partsEndq1_1 x1_0 x1_1) (Sum.elim (fun s => (.normal, S_partsEndq1_1 x1_0 s)) (fun r => X_partsEndq1_1 x1_0 r) o) := by
 unfold B_partsEndq1_1 at h
 dsimp only at h
 obtain ⟨hy1_1, h⟩ := gd h
 obtain ⟨y1_2_, hy1_2, h⟩ := oB h
 have k0 := fun {A L l} (k : PL A L l) => zz 4 (xk1 (x1_0).num (x1_0).off (x1_0).cap hy1_1) <|
  zz 5 (fk10 (x1_0).num (Nat.add (x1_0).off ((x1_1).toNat * 8))) <|
  zz 6 (lk11 hy1_2 (toNatLt hy1_1)) <|
  k
 by_cases hy1_3 : ((((y1_2_.2.2.2.2.2.2.1)).l.length : Nat) : Int) > (0 : Int)
 ·rw [if_pos hy1_3] at h
  obtain ⟨y1_4_, hy1_4, h⟩ := oB h
  obtain ⟨hy1_5, h⟩ := gd h
  obtain ⟨hy1_6, h⟩ := gd h
  obtain ⟨y1_7_, hy1_7, h⟩ := oB h
  obtain rfl := oI h
  exact runC2 hm ⟨[0, 1], [], 0, 0, [], false, [], [], []⟩ (k0 <|
   zz 8 (xdT hy1_3) <|
   zz 13 (xk1 (x1_0).num (x1_0).off (x1_0).cap hy1_1) <|
   zz 14 (fk10 (x1_0).num (Nat.add (x1_0).off ((x1_1).toNat * 8))) <|
   zz 15 (lk11 hy1_2 (toNatLt hy1_1)) <|
   zz 18 (xk1 (x1_0).num (x1_0).off (x1_0).cap hy1_1) <|
   zz 19 (fk10 (x1_0).num (Nat.add (x1_0).off ((x1_1).toNat * 8))) <|
   zz 20 (lk11 hy1_2 (toNatLt hy1_1)) <|
   zz 22 (xnm hy1_4) <|
   zz 23 (xk6 (Nat.add ((y1_2_.2.2.2.2.2.2.1)).num 64) ((y1_2_.2.2.2.2.2.2.1)).off ((y1_2_.2.2.2.2.2.2.1)).cap hy1_5) <|
   zz 24 (nk7 hy1_7 hy1_6) <|
   ee) (by kernel_rfl)
 ·rw [if_neg hy1_3] at h
  obtain rfl := oI h
  exact runC2 hm ⟨[1], [], 0, 0, [], false, [], [], []⟩ (k0 <|
   zz 8 (xdF hy1_3) <|
   ee) (by kernel_rfl)
theorem m_partsEndq1_1_ok (n : Nat) {rnd : Option Nat} (x1_0 : WL rw_iiiiiiLu) (st : Int) (r : Int) (h : m_partsEndq1_1 n x1_0 st = some r) : CG P rnd (fnN P 25) 0 (codeOf P 25 [false, false, true]) (S_partsEndq1_1 x1_0 st) (X_partsEndq1_1 x1_0 r) :=
 CG.iter (b := codeOf P 25 [false, false, false, true]) (by kernel_rfl) (body := B_partsEndq1_1 n x1_0) (S := S_partsEndq1_1 x1_0) (X := X_partsEndq1_1 x1_0)
  (fun s s' h => b_partsEndq1_1 n x1_0 s (.inl s') h)
  (fun s r h => b_partsEndq1_1 n x1_0 s (.inr r) h)
  (fun r => by intro hx; cases hx) h
def m_partsEndq1 (n : Nat) (a0 : WL rw_iiiiiiLu) (a1 : Int) : Option (Int) :=
 (m_partsEndq1_1 n a0 a1).bind fun c1_ =>
 some (w64 (c1_ + (1 : Int)))
theorem m_partsEndq1_ok (n : Nat) (a0 : WL rw_iiiiiiLu) (a1 : Int) (r : Int) (h : m_partsEndq1 n a0 a1 = some r) : Gv P (.func 25) (A_partsEndq1 a0 a1) (H_partsEndq1 a0 a1) (V_partsEndq1 a0 a1 r) (R_partsEndq1 a0 a1 r) := by
 unfold m_partsEndq1 at h
 obtain ⟨c1_, hc1, h⟩ := oB h
 obtain rfl := oI h
 exact runF2 hm ⟨[4], [], 0, 0, [], false, [], [], []⟩ (ww (p := U_partsEndq1_1 none a0 a1 c1_) (m_partsEndq1_1_ok n a0 a1 c1_ hc1) <|
  ll 4 ⟨⟨[0, 1], [], 0, 0, [], false, [], [], []⟩, (X_partsEndq1_1 a0 c1_).1, (X_partsEndq1_1 a0 c1_).2⟩ <|
  ee) (by kernel_rfl)

def A_treePut1q1 (a0 : Int) (a1 : Int) (a2 : Int) : List Value := [(i6 a0), (pN 0 0), (pN 1 0)]
def H_treePut1q1 (a0 : Int) (a1 : Int) (a2 : Int) : AH := ⟨sB [(0, (some (.cells (layT [(i6 a1)]) 3))), (1, (some (.cells (layT [(i6 a2)]) 3)))], 2, 2⟩
def V_treePut1q1 (a0 : Int) (a1 : Int) (a2 : Int) (r : Int) : Value := match r with
 | o0 => (i6 o0)
def R_treePut1q1 (a0 : Int) (a1 : Int) (a2 : Int) (r : Int) : AH := match r with
 | o0 => ⟨sB [], 2, 2⟩
abbrev G_treePut1q1 (a0 : Int) (a1 : Int) (a2 : Int) (r : Int) : Prop := Gv P (.func 26) (A_treePut1q1 a0 a1 a2) (H_treePut1q1 a0 a1 a2) (V_treePut1q1 a0 a1 a2 r) (R_treePut1q1 a0 a1 a2 r)
abbrev C_treePut1q1 (a0 : Int) (a1 : Int) (a2 : Int) (r : Int) (ins outs : BL) : CallA := ⟨2, ins, V_treePut1q1 a0 a1 a2 r, R_treePut1q1 a0 a1 a2 r, outs⟩
def m_treePut1q1 (n : Nat) (a0 : Int) (a1 : Int) (a2 : Int) : Option (Int) :=
 if a0 ≥ a1 then
  some (w64 (a0 + a2))
 else
  some a0
theorem m_treePut1q1_ok (n : Nat) (a0 : Int) (a1 : Int) (a2 : Int) (r : Int) (h : m_treePut1q1 n a0 a1 a2 = some r) : Gv P (.func 26) (A_treePut1q1 a0 a1 a2) (H_treePut1q1 a0 a1 a2) (V_treePut1q1 a0 a1 a2 r) (R_treePut1q1 a0 a1 a2 r) := by
 unfold m_treePut1q1 at h
 by_cases hc1 : a0 ≥ a1
 ·rw [if_pos hc1] at h
  obtain rfl := oI h
  exact runF2 hm ⟨[4], [], 2, 2, [], false, [], [], []⟩ (zz 6 (xdT hc1) <|
   ee) (by kernel_rfl)
 ·rw [if_neg hc1] at h
  obtain rfl := oI h
  exact runF2 hm ⟨[4], [], 2, 2, [], false, [], [], []⟩ (zz 6 (xdF hc1) <|
   ee) (by kernel_rfl)

def A_treePut1q2 (a0 : Int) (a1 : List Int) (a2 : List Int) : List Value := [(i6 a0), (pN 0 0), (pN 1 0)]
def H_treePut1q2 (a0 : Int) (a1 : List Int) (a2 : List Int) : AH := ⟨sB [(0, (some (.cells (layT (iv a1)) 3))), (1, (some (.cells (layT (iv a2)) 3)))], 2, 2⟩
def V_treePut1q2 (a0 : Int) (a1 : List Int) (a2 : List Int) (r : Int) : Value := match r with
 | o0 => (i6 o0)
def R_treePut1q2 (a0 : Int) (a1 : List Int) (a2 : List Int) (r : Int) : AH := match r with
 | o0 => ⟨sB [], 2, 2⟩
abbrev G_treePut1q2 (a0 : Int) (a1 : List Int) (a2 : List Int) (r : Int) : Prop := Gv P (.func 26) (A_treePut1q2 a0 a1 a2) (H_treePut1q2 a0 a1 a2) (V_treePut1q2 a0 a1 a2 r) (R_treePut1q2 a0 a1 a2 r)
abbrev C_treePut1q2 (a0 : Int) (a1 : List Int) (a2 : List Int) (r : Int) (ins outs : BL) : CallA := ⟨2, ins, V_treePut1q2 a0 a1 a2 r, R_treePut1q2 a0 a1 a2 r, outs⟩
def m_treePut1q2 (n : Nat) (a0 : Int) (a1 : List Int) (a2 : List Int) : Option (Int) :=
 if 0 < (a1).length then
  ((some ((a1).getD 0 0))).bind fun c2_ =>
  if a0 ≥ c2_ then
   if 0 < (a2).length then
    ((some ((a2).getD 0 0))).bind fun c5_ =>
    some (w64 (a0 + c5_))
   else none
  else
   some a0
 else none
theorem m_treePut1q2_ok (n : Nat) (a0 : Int) (a1 : List Int) (a2 : List Int) (r : Int) (h : m_treePut1q2 n a0 a1 a2 = some r) : Gv P (.func 26) (A_treePut1q2 a0 a1 a2) (H_treePut1q2 a0 a1 a2) (V_treePut1q2 a0 a1 a2 r) (R_treePut1q2 a0 a1 a2 r) := by
 unfold m_treePut1q2 at h
 obtain ⟨hc1, h⟩ := gd h
 obtain ⟨c2_, hc2, h⟩ := oB h
 have k0 := fun {A L l} (k : PL A L l) => zz 5 (xivN hc2 (hc1)) <|
  k
 by_cases hc3 : a0 ≥ c2_
 ·rw [if_pos hc3] at h
  obtain ⟨hc4, h⟩ := gd h
  obtain ⟨c5_, hc5, h⟩ := oB h
  obtain rfl := oI h
  exact runF2 hm ⟨[4], [], 2, 2, [], false, [], [], []⟩ (k0 <|
   zz 6 (xdT hc3) <|
   zz 10 (xivN hc5 (hc4)) <|
   ee) (by kernel_rfl)
 ·rw [if_neg hc3] at h
  obtain rfl := oI h
  exact runF2 hm ⟨[4], [], 2, 2, [], false, [], [], []⟩ (k0 <|
   zz 6 (xdF hc3) <|
   ee) (by kernel_rfl)

def A_treeeachintintq2 (a0 : NL) (a1 : Int) (a2 : Int) : List Value := [(nlV a0), (Value.func (.func 26) #[] #[(pN 0 0), (pN 1 0)])]
def H_treeeachintintq2 (a0 : NL) (a1 : Int) (a2 : Int) : AH := ⟨sB [(0, (some (.cells (layT [(i6 a1)]) 3))), (1, (some (.cells (layT [(i6 a2)]) 3)))], 2, 2⟩
def V_treeeachintintq2 (a0 : NL) (a1 : Int) (a2 : Int) (r : NL) : Value := match r with
 | o0 => (nlV o0)
def R_treeeachintintq2 (a0 : NL) (a1 : Int) (a2 : Int) (r : NL) : AH := match r with
 | o0 => ⟨sB [], 2, 2⟩
abbrev G_treeeachintintq2 (a0 : NL) (a1 : Int) (a2 : Int) (r : NL) : Prop := Gv P (.func 34) (A_treeeachintintq2 a0 a1 a2) (H_treeeachintintq2 a0 a1 a2) (V_treeeachintintq2 a0 a1 a2 r) (R_treeeachintintq2 a0 a1 a2 r)
abbrev C_treeeachintintq2 (a0 : NL) (a1 : Int) (a2 : Int) (r : NL) (ins outs : BL) : CallA := ⟨2, ins, V_treeeachintintq2 a0 a1 a2 r, R_treeeachintintq2 a0 a1 a2 r, outs⟩
def S_treeeachintintq2_1 (x1_0 : List Int) (x1_1 : List Int) (x1_3 : Nat) (x1_4 : NL) (x1_5 : Int) (st : List Int × Int) : XSt := match st with
 | (x1_2, x1_6) => (sT 29 [(1, (Value.func (.func 26) #[] #[(pN 0 0), (pN 1 0)])), (5, (sN 2 0 x1_3 x1_3)), (14, (nlV x1_4)), (15, (i6 x1_5)), (16, (i6 x1_6))], [], ⟨sB [(0, (some (.cells (layT (iv x1_0)) 3))), (1, (some (.cells (layT (iv x1_1)) 3))), (2, (some (.cells (layT (iv x1_2)) 3)))], 3, 2⟩)
def X_treeeachintintq2_1 (x1_0 : List Int) (x1_1 : List Int) (x1_3 : Nat) (x1_4 : NL) (x1_5 : Int) (r : List Int) : Ex × XSt := match r with
 | z1_0 => (.exit 0, (sT 29 [(5, (sN 2 0 x1_3 x1_3))], [], ⟨sB [(0, (some (.cells (layT (iv x1_0)) 3))), (1, (some (.cells (layT (iv x1_1)) 3))), (2, (some (.cells (layT (iv z1_0)) 3)))], 3, 2⟩))
abbrev Q_treeeachintintq2_1 (rnd : Option Nat) (x1_0 : List Int) (x1_1 : List Int) (x1_3 : Nat) (x1_4 : NL) (x1_5 : Int) (st : List Int × Int) (c : Ex × XSt) : Prop := CG P rnd (fnN P 34) 2 (codeOf P 34 [false, false, true, false, true, true, true]) (S_treeeachintintq2_1 x1_0 x1_1 x1_3 x1_4 x1_5 st) c
abbrev U_treeeachintintq2_1 (rd : Option Nat) (x1_0 : List Int) (x1_1 : List Int) (x1_3 : Nat) (x1_4 : NL) (x1_5 : Int) (st : List Int × Int) (r : List Int) : Prop := CG P rd (fnN P 34) 2 (codeOf P 34 [false, true, false, true, true, true]) (S_treeeachintintq2_1 x1_0 x1_1 x1_3 x1_4 x1_5 st) (X_treeeachintintq2_1 x1_0 x1_1 x1_3 x1_4 x1_5 r)
def B_treeeachintintq2_1 (n : Nat) (x1_0 : List Int) (x1_1 : List Int) (x1_3 : Nat) (x1_4 : NL) (x1_5 : Int) (st : List Int × Int) : Option ((List Int × Int) ⊕ (List Int)) := match st with
 | (x1_2, x1_6) =>
  if x1_6 < x1_5 then
   if 0 ≤ x1_6 ∧ x1_6 < (((x1_4).l.length : Nat) : Int) then
    if (x1_6).toNat < ((x1_4).l).length then
     ((some (((x1_4).l).getD (x1_6).toNat 0))).bind fun y1_4_ =>
     (m_treePut1q2 n y1_4_ x1_0 x1_1).bind fun y1_5_ =>
     if 0 ≤ x1_6 ∧ x1_6 < ((x1_3 : Nat) : Int) then
      if (x1_6).toNat < (x1_2).length then
       some (.inl (((x1_2).set (x1_6).toNat y1_5_), (w64 (x1_6 + (1 : Int)))))
      else none
     else none
    else none
   else none
  else
   some (.inr x1_2)
def m_treeeachintintq2_1 (n : Nat) (x1_0 : List Int) (x1_1 : List Int) (x1_3 : Nat) (x1_4 : NL) (x1_5 : Int) (st : List Int × Int) : Option (List Int) := iterM (B_treeeachintintq2_1 n x1_0 x1_1 x1_3 x1_4 x1_5) n st
theorem b_treeeachintintq2_1 (n : Nat) {rnd : Option Nat} (x1_0 : List Int) (x1_1 : List Int) (x1_3 : Nat) (x1_4 : NL) (x1_5 : Int) (st : List Int × Int) (o : (List Int × Int) ⊕ (List Int)) (h : B_treeeachintintq2_1 n x1_0 x1_1 x1_3 x1_4 x1_5 st = some o) : CG P rnd (fnN P 34) 2 (codeOf P 34 [false, false, true, false, true, true, true]) (S_treeeachintintq2_1 x1_0 x1_1 x1_3 x1_4 x1_5 st) (Sum.elim (fun s => (.normal, S_treeeachintintq2_1 x1_0 x1_1 x1_3 x1_4 x1_5 s)) (fun r => X_treeeachintintq2_1 x1_0 x1_1 x1_3 x1_4 x1_5 r) o) := by
 obtain ⟨x1_2, x1_6⟩ := st
 unfold B_treeeachintintq2_1 at h
 dsimp only at h
 by_cases hy1_1 : x1_6 < x1_5
 ·rw [if_pos hy1_1] at h
  obtain ⟨hy1_2, h⟩ := gd h
  obtain ⟨hy1_3, h⟩ := gd h
  obtain ⟨y1_4_, hy1_4, h⟩ := oB h
  obtain ⟨y1_5_, hy1_5, h⟩ := oB h
  obtain ⟨hy1_6, h⟩ := gd h
  obtain ⟨hy1_7, h⟩ := gd h
  obtain rfl := oI h
  exact runC2 hm ⟨[1, 5, 14, 15, 16], [(0, 0, true), (1, 1, true), (2, 2, true)], 3, 2, [], false, [], [], []⟩ (zz 1 (xdT hy1_1) <|
   zz 8 (xk6 (Nat.add (x1_4).num 64) (x1_4).off (x1_4).cap hy1_2) <|
   zz 9 (nk7 hy1_4 hy1_3) <|
   yy 16 (.call (C_treePut1q2 y1_4_ x1_0 x1_1 y1_5_ [(0, 0, true), (1, 1, true)] [])) <|
   ww (m_treePut1q2_ok n y1_4_ x1_0 x1_1 y1_5_ hy1_5) <|
   ww (iv_flat x1_0 3) <|
   ww (iv_flat x1_1 3) <|
   zz 17 (xk9 2 x1_3 hy1_6) <|
   yy 18 (.sto (layT (iv ((x1_2).set (x1_6).toNat y1_5_)))) <|
   ww (p := ∃ old, rdT (layT (iv x1_2)) 1 (x1_6).toNat = some old) (Exists.elim (iv_st (x1_2) ((x1_6).toNat) (y1_5_) hy1_7) fun o h => ⟨o, h.1⟩) <|
   ww (p := layL [(i6 y1_5_)] (x1_6).toNat (layT (iv x1_2)) = layT (iv ((x1_2).set (x1_6).toNat y1_5_))) (Exists.elim (iv_st (x1_2) ((x1_6).toNat) (y1_5_) hy1_7) fun o h => h.2) <|
   ww (iv_flat x1_0 3) <|
   ww (iv_flat x1_1 3) <|
   ww (iv_flat ((x1_2).set (x1_6).toNat y1_5_) 3) <|
   ee) (by kernel_rfl)
 ·rw [if_neg hy1_1] at h
  obtain rfl := oI h
  exact runC2 hm ⟨[5], [(0, 0, true), (1, 1, true), (2, 2, true)], 3, 2, [], false, [], [], []⟩ (zz 1 (xdF hy1_1) <|
   ww (iv_flat x1_0 3) <|
   ww (iv_flat x1_1 3) <|
   ww (iv_flat x1_2 3) <|
   ee) (by kernel_rfl)
theorem m_treeeachintintq2_1_ok (n : Nat) {rnd : Option Nat} (x1_0 : List Int) (x1_1 : List Int) (x1_3 : Nat) (x1_4 : NL) (x1_5 : Int) (st : List Int × Int) (r : List Int) (h : m_treeeachintintq2_1 n x1_0 x1_1 x1_3 x1_4 x1_5 st = some r) : CG P rnd (fnN P 34) 2 (codeOf P 34 [false, true, false, true, true, true]) (S_treeeachintintq2_1 x1_0 x1_1 x1_3 x1_4 x1_5 st) (X_treeeachintintq2_1 x1_0 x1_1 x1_3 x1_4 x1_5 r) :=
 CG.iter (b := codeOf P 34 [false, false, true, false, true, true, true]) (by kernel_rfl) (body := B_treeeachintintq2_1 n x1_0 x1_1 x1_3 x1_4 x1_5) (S := S_treeeachintintq2_1 x1_0 x1_1 x1_3 x1_4 x1_5) (X := X_treeeachintintq2_1 x1_0 x1_1 x1_3 x1_4 x1_5)
  (fun s s' h => b_treeeachintintq2_1 n x1_0 x1_1 x1_3 x1_4 x1_5 s (.inl s') h)
  (fun s r h => b_treeeachintintq2_1 n x1_0 x1_1 x1_3 x1_4 x1_5 s (.inr r) h)
  (fun r => by intro hx; cases hx) h
def m_treeeachintintq2 (n : Nat) (a0 : NL) (a1 : Int) (a2 : Int) : Option (NL) :=
 if (((a0).l.length : Nat) : Int) = (0 : Int) then
  some nl0
 else
  if 0 ≤ (((a0).l.length : Nat) : Int) then
   if ((((a0).l.length : Nat) : Int)).toNat * 8 ≤ 140737488355328 then
    (m_treeeachintintq2_1 n [a1] [a2] (((((a0).l.length : Nat) : Int)).toNat) a0 (((a0).l.length : Nat) : Int) ((List.replicate ((((a0).l.length : Nat) : Int)).toNat (0 : Int)), 0)).bind fun c4_ =>
    if (((((a0).l.length : Nat) : Int)).toNat) = c4_.length then
     if hc6 : c4_.length ≤ 140737488355328 then
      some (frzL c4_ hc6)
     else none
    else none
   else none
  else none
theorem m_treeeachintintq2_ok (n : Nat) (a0 : NL) (a1 : Int) (a2 : Int) (r : NL) (h : m_treeeachintintq2 n a0 a1 a2 = some r) : Gv P (.func 34) (A_treeeachintintq2 a0 a1 a2) (H_treeeachintintq2 a0 a1 a2) (V_treeeachintintq2 a0 a1 a2 r) (R_treeeachintintq2 a0 a1 a2 r) := by
 unfold m_treeeachintintq2 at h
 by_cases hc1 : (((a0).l.length : Nat) : Int) = (0 : Int)
 ·rw [if_pos hc1] at h
  obtain rfl := oI h
  exact runF2 hm ⟨[4], [], 2, 2, [], true, [], [], [4]⟩ (zz 6 (xeT hc1) <|
   ee) (by kernel_rfl)
 ·rw [if_neg hc1] at h
  obtain ⟨hc2, h⟩ := gd h
  obtain ⟨hc3, h⟩ := gd h
  obtain ⟨c4_, hc4, h⟩ := oB h
  obtain ⟨hc5, h⟩ := gd h
  obtain ⟨hc6, h⟩ := gdD h
  obtain rfl := oI h
  have k0_ : Gv P (.func 34) (A_treeeachintintq2 a0 a1 a2) (H_treeeachintintq2 a0 a1 a2) (Value.slice (some ⟨Nat.add (2 * cod c4_ + 1) 64, 0, some 1⟩) (((((a0).l.length : Nat) : Int)).toNat) (Nat.add big (((((a0).l.length : Nat) : Int)).toNat))) (R_treeeachintintq2 a0 a1 a2 (frzL c4_ hc6)) := runF2 hm ⟨[4], [], 2, 2, [(2, Nat.add (2 * cod c4_ + 1) 64)], true, [], [], []⟩ (zz 6 (xeF hc1) <|
  yy 11 (.mk ((((a0).l.length : Nat) : Int)).toNat (iv (List.replicate ((((a0).l.length : Nat) : Int)).toNat (0 : Int)))) <|
  ww (p := natOf (i6 (((a0).l.length : Nat) : Int)) = some ((((a0).l.length : Nat) : Int)).toNat) (natOf_toNat hc2) <|
  ww (p := natOf (i6 (((a0).l.length : Nat) : Int)) = some ((((a0).l.length : Nat) : Int)).toNat) (natOf_toNat hc2) <|
  ww (p := fits ((((a0).l.length : Nat) : Int)).toNat 8 = true) (fits_ok hc3 (by omega)) <|
  ww (p := isZ8 [(i6 (0 : Int))] = false) (rfl) <|
  ww (p := reps [(i6 (0 : Int))] ((((a0).l.length : Nat) : Int)).toNat = (iv (List.replicate ((((a0).l.length : Nat) : Int)).toNat (0 : Int)))) (reps_iv _) <|
  ww (p := U_treeeachintintq2_1 none [a1] [a2] (((((a0).l.length : Nat) : Int)).toNat) a0 (((a0).l.length : Nat) : Int) ((List.replicate ((((a0).l.length : Nat) : Int)).toNat (0 : Int)), 0) c4_) (m_treeeachintintq2_1_ok n [a1] [a2] (((((a0).l.length : Nat) : Int)).toNat) a0 (((a0).l.length : Nat) : Int) ((List.replicate ((((a0).l.length : Nat) : Int)).toNat (0 : Int)), 0) c4_ hc4) <|
  ww (iv_flat (List.replicate ((((a0).l.length : Nat) : Int)).toNat (0 : Int)) 3) <|
  ll 19 ⟨⟨[1, 5, 14, 15, 16], [(0, 0, false), (1, 1, false), (2, 2, true)], 3, 2, [], false, [], [], []⟩, (X_treeeachintintq2_1 [a1] [a2] (((((a0).l.length : Nat) : Int)).toNat) a0 (((a0).l.length : Nat) : Int) c4_).1, (X_treeeachintintq2_1 [a1] [a2] (((((a0).l.length : Nat) : Int)).toNat) a0 (((a0).l.length : Nat) : Int) c4_).2⟩ <|
  ww (frz_ok wins_nest wins_odd c4_) <|
  ee) (by kernel_rfl)
  have k1_ := gvLen (fn := fun m_ => (Value.slice (some ⟨Nat.add (2 * cod c4_ + 1) 64, 0, some 1⟩) m_ (Nat.add big m_))) hc5 k0_
  exact k1_

def A_treemovedq2 (a0 : Int) (a1 : Int) (a2 : Int) (a3 : Int) (a4 : Int) (a5 : Int) (a6 : NL) (a7 : Int) (a8 : Int) (a9 : Int) : List Value := [(Value.agg #[(i6 a0), (i6 a1), (i6 a2), (i6 a3), (i6 a4), (i6 a5), (nlV a6), (Value.int .u64 a7)]), (Value.func (.func 26) #[] #[(pN 0 0), (pN 1 0)])]
def H_treemovedq2 (a0 : Int) (a1 : Int) (a2 : Int) (a3 : Int) (a4 : Int) (a5 : Int) (a6 : NL) (a7 : Int) (a8 : Int) (a9 : Int) : AH := ⟨sB [(0, (some (.cells (layT [(i6 a8)]) 3))), (1, (some (.cells (layT [(i6 a9)]) 3)))], 2, 2⟩
def V_treemovedq2 (a0 : Int) (a1 : Int) (a2 : Int) (a3 : Int) (a4 : Int) (a5 : Int) (a6 : NL) (a7 : Int) (a8 : Int) (a9 : Int) (r : NL) : Value := match r with
 | o0 => (Value.agg #[(i6 a0), (i6 a1), (i6 a2), (i6 a3), (i6 a4), (i6 a5), (nlV o0), (Value.int .u64 a7)])
def R_treemovedq2 (a0 : Int) (a1 : Int) (a2 : Int) (a3 : Int) (a4 : Int) (a5 : Int) (a6 : NL) (a7 : Int) (a8 : Int) (a9 : Int) (r : NL) : AH := match r with
 | o0 => ⟨sB [(2, (some (.cells (layT [(i6 a0), (i6 a1), (i6 a2), (i6 a3), (i6 a4), (i6 a5), (nlV o0), (Value.int .u64 a7)]) 39)))], 3, 2⟩
abbrev G_treemovedq2 (a0 : Int) (a1 : Int) (a2 : Int) (a3 : Int) (a4 : Int) (a5 : Int) (a6 : NL) (a7 : Int) (a8 : Int) (a9 : Int) (r : NL) : Prop := Gv P (.func 22) (A_treemovedq2 a0 a1 a2 a3 a4 a5 a6 a7 a8 a9) (H_treemovedq2 a0 a1 a2 a3 a4 a5 a6 a7 a8 a9) (V_treemovedq2 a0 a1 a2 a3 a4 a5 a6 a7 a8 a9 r) (R_treemovedq2 a0 a1 a2 a3 a4 a5 a6 a7 a8 a9 r)
abbrev C_treemovedq2 (a0 : Int) (a1 : Int) (a2 : Int) (a3 : Int) (a4 : Int) (a5 : Int) (a6 : NL) (a7 : Int) (a8 : Int) (a9 : Int) (r : NL) (ins outs : BL) : CallA := ⟨2, ins, V_treemovedq2 a0 a1 a2 a3 a4 a5 a6 a7 a8 a9 r, R_treemovedq2 a0 a1 a2 a3 a4 a5 a6 a7 a8 a9 r, outs⟩
def m_treemovedq2 (n : Nat) (a0 : Int) (a1 : Int) (a2 : Int) (a3 : Int) (a4 : Int) (a5 : Int) (a6 : NL) (a7 : Int) (a8 : Int) (a9 : Int) : Option (NL) :=
 (m_treeeachintintq2 n a6 a8 a9).bind fun c1_ =>
 some c1_
theorem m_treemovedq2_ok (n : Nat) (a0 : Int) (a1 : Int) (a2 : Int) (a3 : Int) (a4 : Int) (a5 : Int) (a6 : NL) (a7 : Int) (a8 : Int) (a9 : Int) (r : NL) (h : m_treemovedq2 n a0 a1 a2 a3 a4 a5 a6 a7 a8 a9 = some r) : Gv P (.func 22) (A_treemovedq2 a0 a1 a2 a3 a4 a5 a6 a7 a8 a9) (H_treemovedq2 a0 a1 a2 a3 a4 a5 a6 a7 a8 a9) (V_treemovedq2 a0 a1 a2 a3 a4 a5 a6 a7 a8 a9 r) (R_treemovedq2 a0 a1 a2 a3 a4 a5 a6 a7 a8 a9 r) := by
 unfold m_treemovedq2 at h
 obtain ⟨c1_, hc1, h⟩ := oB h
 obtain rfl := oI h
 exact runF2 hm ⟨[4], [(2, 3, false)], 3, 2, [], false, [], [], []⟩ (yy 7 (.call (C_treeeachintintq2 a6 a8 a9 c1_ [(0, 0, false), (1, 1, false)] [])) <|
  ww (m_treeeachintintq2_ok n a6 a8 a9 c1_ hc1) <|
  ee) (by kernel_rfl)

def A_treePut2q1 (a0 : Int) (a1 : Int) : List Value := [(i6 a0), (pN 0 0)]
def H_treePut2q1 (a0 : Int) (a1 : Int) : AH := ⟨sB [(0, (some (.cells (layT [(i6 a1)]) 3)))], 1, 1⟩
def V_treePut2q1 (a0 : Int) (a1 : Int) (r : Unit) : Value := match r with
 | _ => (i6 (w64 (a0 + a1)))
def R_treePut2q1 (a0 : Int) (a1 : Int) (r : Unit) : AH := match r with
 | _ => ⟨sB [], 1, 1⟩
abbrev G_treePut2q1 (a0 : Int) (a1 : Int) (r : Unit) : Prop := Gv P (.func 27) (A_treePut2q1 a0 a1) (H_treePut2q1 a0 a1) (V_treePut2q1 a0 a1 r) (R_treePut2q1 a0 a1 r)
abbrev C_treePut2q1 (a0 : Int) (a1 : Int) (r : Unit) (ins outs : BL) : CallA := ⟨1, ins, V_treePut2q1 a0 a1 r, R_treePut2q1 a0 a1 r, outs⟩
def m_treePut2q1 (n : Nat) (a0 : Int) (a1 : Int) : Option (Unit) :=
 some ()
theorem m_treePut2q1_ok (n : Nat) (a0 : Int) (a1 : Int) (r : Unit) (h : m_treePut2q1 n a0 a1 = some r) : Gv P (.func 27) (A_treePut2q1 a0 a1) (H_treePut2q1 a0 a1) (V_treePut2q1 a0 a1 r) (R_treePut2q1 a0 a1 r) := by
 unfold m_treePut2q1 at h
 obtain rfl := oI h
 exact runF2 hm ⟨[3], [], 1, 1, [], false, [], [], []⟩ (ee) (by kernel_rfl)

def A_treePut2q2 (a0 : Int) (a1 : List Int) : List Value := [(i6 a0), (pN 0 0)]
def H_treePut2q2 (a0 : Int) (a1 : List Int) : AH := ⟨sB [(0, (some (.cells (layT (iv a1)) 3)))], 1, 1⟩
def V_treePut2q2 (a0 : Int) (a1 : List Int) (r : Int) : Value := match r with
 | o0 => (i6 o0)
def R_treePut2q2 (a0 : Int) (a1 : List Int) (r : Int) : AH := match r with
 | o0 => ⟨sB [], 1, 1⟩
abbrev G_treePut2q2 (a0 : Int) (a1 : List Int) (r : Int) : Prop := Gv P (.func 27) (A_treePut2q2 a0 a1) (H_treePut2q2 a0 a1) (V_treePut2q2 a0 a1 r) (R_treePut2q2 a0 a1 r)
abbrev C_treePut2q2 (a0 : Int) (a1 : List Int) (r : Int) (ins outs : BL) : CallA := ⟨1, ins, V_treePut2q2 a0 a1 r, R_treePut2q2 a0 a1 r, outs⟩
def m_treePut2q2 (n : Nat) (a0 : Int) (a1 : List Int) : Option (Int) :=
 if 0 < (a1).length then
  ((some ((a1).getD 0 0))).bind fun c2_ =>
  some (w64 (a0 + c2_))
 else none
theorem m_treePut2q2_ok (n : Nat) (a0 : Int) (a1 : List Int) (r : Int) (h : m_treePut2q2 n a0 a1 = some r) : Gv P (.func 27) (A_treePut2q2 a0 a1) (H_treePut2q2 a0 a1) (V_treePut2q2 a0 a1 r) (R_treePut2q2 a0 a1 r) := by
 unfold m_treePut2q2 at h
 obtain ⟨hc1, h⟩ := gd h
 obtain ⟨c2_, hc2, h⟩ := oB h
 obtain rfl := oI h
 exact runF2 hm ⟨[3], [], 1, 1, [], false, [], [], []⟩ (zz 4 (xivN hc2 (hc1)) <|
  ee) (by kernel_rfl)

def A_treeeachintintq3 (a0 : NL) (a1 : Int) : List Value := [(nlV a0), (Value.func (.func 27) #[] #[(pN 0 0)])]
def H_treeeachintintq3 (a0 : NL) (a1 : Int) : AH := ⟨sB [(0, (some (.cells (layT [(i6 a1)]) 3)))], 1, 1⟩
def V_treeeachintintq3 (a0 : NL) (a1 : Int) (r : NL) : Value := match r with
 | o0 => (nlV o0)
def R_treeeachintintq3 (a0 : NL) (a1 : Int) (r : NL) : AH := match r with
 | o0 => ⟨sB [], 1, 1⟩
abbrev G_treeeachintintq3 (a0 : NL) (a1 : Int) (r : NL) : Prop := Gv P (.func 34) (A_treeeachintintq3 a0 a1) (H_treeeachintintq3 a0 a1) (V_treeeachintintq3 a0 a1 r) (R_treeeachintintq3 a0 a1 r)
abbrev C_treeeachintintq3 (a0 : NL) (a1 : Int) (r : NL) (ins outs : BL) : CallA := ⟨1, ins, V_treeeachintintq3 a0 a1 r, R_treeeachintintq3 a0 a1 r, outs⟩
def S_treeeachintintq3_1 (x1_0 : List Int) (x1_2 : Nat) (x1_3 : NL) (x1_4 : Int) (st : List Int × Int) : XSt := match st with
 | (x1_1, x1_5) => (sT 29 [(1, (Value.func (.func 27) #[] #[(pN 0 0)])), (5, (sN 1 0 x1_2 x1_2)), (14, (nlV x1_3)), (15, (i6 x1_4)), (16, (i6 x1_5))], [], ⟨sB [(0, (some (.cells (layT (iv x1_0)) 3))), (1, (some (.cells (layT (iv x1_1)) 3)))], 2, 1⟩)
def X_treeeachintintq3_1 (x1_0 : List Int) (x1_2 : Nat) (x1_3 : NL) (x1_4 : Int) (r : List Int) : Ex × XSt := match r with
 | z1_0 => (.exit 0, (sT 29 [(5, (sN 1 0 x1_2 x1_2))], [], ⟨sB [(0, (some (.cells (layT (iv x1_0)) 3))), (1, (some (.cells (layT (iv z1_0)) 3)))], 2, 1⟩))
abbrev Q_treeeachintintq3_1 (rnd : Option Nat) (x1_0 : List Int) (x1_2 : Nat) (x1_3 : NL) (x1_4 : Int) (st : List Int × Int) (c : Ex × XSt) : Prop := CG P rnd (fnN P 34) 1 (codeOf P 34 [false, false, true, false, true, true, true]) (S_treeeachintintq3_1 x1_0 x1_2 x1_3 x1_4 st) c
abbrev U_treeeachintintq3_1 (rd : Option Nat) (x1_0 : List Int) (x1_2 : Nat) (x1_3 : NL) (x1_4 : Int) (st : List Int × Int) (r : List Int) : Prop := CG P rd (fnN P 34) 1 (codeOf P 34 [false, true, false, true, true, true]) (S_treeeachintintq3_1 x1_0 x1_2 x1_3 x1_4 st) (X_treeeachintintq3_1 x1_0 x1_2 x1_3 x1_4 r)
def B_treeeachintintq3_1 (n : Nat) (x1_0 : List Int) (x1_2 : Nat) (x1_3 : NL) (x1_4 : Int) (st : List Int × Int) : Option ((List Int × Int) ⊕ (List Int)) := match st with
 | (x1_1, x1_5) =>
  if x1_5 < x1_4 then
   if 0 ≤ x1_5 ∧ x1_5 < (((x1_3).l.length : Nat) : Int) then
    if (x1_5).toNat < ((x1_3).l).length then
     ((some (((x1_3).l).getD (x1_5).toNat 0))).bind fun y1_4_ =>
     (m_treePut2q2 n y1_4_ x1_0).bind fun y1_5_ =>
     if 0 ≤ x1_5 ∧ x1_5 < ((x1_2 : Nat) : Int) then
      if (x1_5).toNat < (x1_1).length then
       some (.inl (((x1_1).set (x1_5).toNat y1_5_), (w64 (x1_5 + (1 : Int)))))
      else none
     else none
    else none
   else none
  else
   some (.inr x1_1)
def m_treeeachintintq3_1 (n : Nat) (x1_0 : List Int) (x1_2 : Nat) (x1_3 : NL) (x1_4 : Int) (st : List Int × Int) : Option (List Int) := iterM (B_treeeachintintq3_1 n x1_0 x1_2 x1_3 x1_4) n st
theorem b_treeeachintintq3_1 (n : Nat) {rnd : Option Nat} (x1_0 : List Int) (x1_2 : Nat) (x1_3 : NL) (x1_4 : Int) (st : List Int × Int) (o : (List Int × Int) ⊕ (List Int)) (h : B_treeeachintintq3_1 n x1_0 x1_2 x1_3 x1_4 st = some o) : CG P rnd (fnN P 34) 1 (codeOf P 34 [false, false, true, false, true, true, true]) (S_treeeachintintq3_1 x1_0 x1_2 x1_3 x1_4 st) (Sum.elim (fun s => (.normal, S_treeeachintintq3_1 x1_0 x1_2 x1_3 x1_4 s)) (fun r => X_treeeachintintq3_1 x1_0 x1_2 x1_3 x1_4 r) o) := by
 obtain ⟨x1_1, x1_5⟩ := st
 unfold B_treeeachintintq3_1 at h
 dsimp only at h
 by_cases hy1_1 : x1_5 < x1_4
 ·rw [if_pos hy1_1] at h
  obtain ⟨hy1_2, h⟩ := gd h
  obtain ⟨hy1_3, h⟩ := gd h
  obtain ⟨y1_4_, hy1_4, h⟩ := oB h
  obtain ⟨y1_5_, hy1_5, h⟩ := oB h
  obtain ⟨hy1_6, h⟩ := gd h
  obtain ⟨hy1_7, h⟩ := gd h
  obtain rfl := oI h
  exact runC2 hm ⟨[1, 5, 14, 15, 16], [(0, 0, true), (1, 1, true)], 2, 1, [], false, [], [], []⟩ (zz 1 (xdT hy1_1) <|
   zz 8 (xk6 (Nat.add (x1_3).num 64) (x1_3).off (x1_3).cap hy1_2) <|
   zz 9 (nk7 hy1_4 hy1_3) <|
   yy 16 (.call (C_treePut2q2 y1_4_ x1_0 y1_5_ [(0, 0, true)] [])) <|
   ww (m_treePut2q2_ok n y1_4_ x1_0 y1_5_ hy1_5) <|
   ww (iv_flat x1_0 3) <|
   zz 17 (xk9 1 x1_2 hy1_6) <|
   yy 18 (.sto (layT (iv ((x1_1).set (x1_5).toNat y1_5_)))) <|
   ww (p := ∃ old, rdT (layT (iv x1_1)) 1 (x1_5).toNat = some old) (Exists.elim (iv_st (x1_1) ((x1_5).toNat) (y1_5_) hy1_7) fun o h => ⟨o, h.1⟩) <|
   ww (p := layL [(i6 y1_5_)] (x1_5).toNat (layT (iv x1_1)) = layT (iv ((x1_1).set (x1_5).toNat y1_5_))) (Exists.elim (iv_st (x1_1) ((x1_5).toNat) (y1_5_) hy1_7) fun o h => h.2) <|
   ww (iv_flat x1_0 3) <|
   ww (iv_flat ((x1_1).set (x1_5).toNat y1_5_) 3) <|
   ee) (by kernel_rfl)
 ·rw [if_neg hy1_1] at h
  obtain rfl := oI h
  exact runC2 hm ⟨[5], [(0, 0, true), (1, 1, true)], 2, 1, [], false, [], [], []⟩ (zz 1 (xdF hy1_1) <|
   ww (iv_flat x1_0 3) <|
   ww (iv_flat x1_1 3) <|
   ee) (by kernel_rfl)
theorem m_treeeachintintq3_1_ok (n : Nat) {rnd : Option Nat} (x1_0 : List Int) (x1_2 : Nat) (x1_3 : NL) (x1_4 : Int) (st : List Int × Int) (r : List Int) (h : m_treeeachintintq3_1 n x1_0 x1_2 x1_3 x1_4 st = some r) : CG P rnd (fnN P 34) 1 (codeOf P 34 [false, true, false, true, true, true]) (S_treeeachintintq3_1 x1_0 x1_2 x1_3 x1_4 st) (X_treeeachintintq3_1 x1_0 x1_2 x1_3 x1_4 r) :=
 CG.iter (b := codeOf P 34 [false, false, true, false, true, true, true]) (by kernel_rfl) (body := B_treeeachintintq3_1 n x1_0 x1_2 x1_3 x1_4) (S := S_treeeachintintq3_1 x1_0 x1_2 x1_3 x1_4) (X := X_treeeachintintq3_1 x1_0 x1_2 x1_3 x1_4)
  (fun s s' h => b_treeeachintintq3_1 n x1_0 x1_2 x1_3 x1_4 s (.inl s') h)
  (fun s r h => b_treeeachintintq3_1 n x1_0 x1_2 x1_3 x1_4 s (.inr r) h)
  (fun r => by intro hx; cases hx) h
def m_treeeachintintq3 (n : Nat) (a0 : NL) (a1 : Int) : Option (NL) :=
 if (((a0).l.length : Nat) : Int) = (0 : Int) then
  some nl0
 else
  if 0 ≤ (((a0).l.length : Nat) : Int) then
   if ((((a0).l.length : Nat) : Int)).toNat * 8 ≤ 140737488355328 then
    (m_treeeachintintq3_1 n [a1] (((((a0).l.length : Nat) : Int)).toNat) a0 (((a0).l.length : Nat) : Int) ((List.replicate ((((a0).l.length : Nat) : Int)).toNat (0 : Int)), 0)).bind fun c4_ =>
    if (((((a0).l.length : Nat) : Int)).toNat) = c4_.length then
     if hc6 : c4_.length ≤ 140737488355328 then
      some (frzL c4_ hc6)
     else none
    else none
   else none
  else none
theorem m_treeeachintintq3_ok (n : Nat) (a0 : NL) (a1 : Int) (r : NL) (h : m_treeeachintintq3 n a0 a1 = some r) : Gv P (.func 34) (A_treeeachintintq3 a0 a1) (H_treeeachintintq3 a0 a1) (V_treeeachintintq3 a0 a1 r) (R_treeeachintintq3 a0 a1 r) := by
 unfold m_treeeachintintq3 at h
 by_cases hc1 : (((a0).l.length : Nat) : Int) = (0 : Int)
 ·rw [if_pos hc1] at h
  obtain rfl := oI h
  exact runF2 hm ⟨[4], [], 1, 1, [], true, [], [], [4]⟩ (zz 6 (xeT hc1) <|
   ee) (by kernel_rfl)
 ·rw [if_neg hc1] at h
  obtain ⟨hc2, h⟩ := gd h
  obtain ⟨hc3, h⟩ := gd h
  obtain ⟨c4_, hc4, h⟩ := oB h
  obtain ⟨hc5, h⟩ := gd h
  obtain ⟨hc6, h⟩ := gdD h
  obtain rfl := oI h
  have k0_ : Gv P (.func 34) (A_treeeachintintq3 a0 a1) (H_treeeachintintq3 a0 a1) (Value.slice (some ⟨Nat.add (2 * cod c4_ + 1) 64, 0, some 1⟩) (((((a0).l.length : Nat) : Int)).toNat) (Nat.add big (((((a0).l.length : Nat) : Int)).toNat))) (R_treeeachintintq3 a0 a1 (frzL c4_ hc6)) := runF2 hm ⟨[4], [], 1, 1, [(1, Nat.add (2 * cod c4_ + 1) 64)], true, [], [], []⟩ (zz 6 (xeF hc1) <|
  yy 11 (.mk ((((a0).l.length : Nat) : Int)).toNat (iv (List.replicate ((((a0).l.length : Nat) : Int)).toNat (0 : Int)))) <|
  ww (p := natOf (i6 (((a0).l.length : Nat) : Int)) = some ((((a0).l.length : Nat) : Int)).toNat) (natOf_toNat hc2) <|
  ww (p := natOf (i6 (((a0).l.length : Nat) : Int)) = some ((((a0).l.length : Nat) : Int)).toNat) (natOf_toNat hc2) <|
  ww (p := fits ((((a0).l.length : Nat) : Int)).toNat 8 = true) (fits_ok hc3 (by omega)) <|
  ww (p := isZ8 [(i6 (0 : Int))] = false) (rfl) <|
  ww (p := reps [(i6 (0 : Int))] ((((a0).l.length : Nat) : Int)).toNat = (iv (List.replicate ((((a0).l.length : Nat) : Int)).toNat (0 : Int)))) (reps_iv _) <|
  ww (p := U_treeeachintintq3_1 none [a1] (((((a0).l.length : Nat) : Int)).toNat) a0 (((a0).l.length : Nat) : Int) ((List.replicate ((((a0).l.length : Nat) : Int)).toNat (0 : Int)), 0) c4_) (m_treeeachintintq3_1_ok n [a1] (((((a0).l.length : Nat) : Int)).toNat) a0 (((a0).l.length : Nat) : Int) ((List.replicate ((((a0).l.length : Nat) : Int)).toNat (0 : Int)), 0) c4_ hc4) <|
  ww (iv_flat (List.replicate ((((a0).l.length : Nat) : Int)).toNat (0 : Int)) 3) <|
  ll 19 ⟨⟨[1, 5, 14, 15, 16], [(0, 0, false), (1, 1, true)], 2, 1, [], false, [], [], []⟩, (X_treeeachintintq3_1 [a1] (((((a0).l.length : Nat) : Int)).toNat) a0 (((a0).l.length : Nat) : Int) c4_).1, (X_treeeachintintq3_1 [a1] (((((a0).l.length : Nat) : Int)).toNat) a0 (((a0).l.length : Nat) : Int) c4_).2⟩ <|
  ww (frz_ok wins_nest wins_odd c4_) <|
  ee) (by kernel_rfl)
  have k1_ := gvLen (fn := fun m_ => (Value.slice (some ⟨Nat.add (2 * cod c4_ + 1) 64, 0, some 1⟩) m_ (Nat.add big m_))) hc5 k0_
  exact k1_

def A_treemovedq3 (a0 : Int) (a1 : Int) (a2 : Int) (a3 : Int) (a4 : Int) (a5 : Int) (a6 : NL) (a7 : Int) (a8 : Int) : List Value := [(Value.agg #[(i6 a0), (i6 a1), (i6 a2), (i6 a3), (i6 a4), (i6 a5), (nlV a6), (Value.int .u64 a7)]), (Value.func (.func 27) #[] #[(pN 0 0)])]
def H_treemovedq3 (a0 : Int) (a1 : Int) (a2 : Int) (a3 : Int) (a4 : Int) (a5 : Int) (a6 : NL) (a7 : Int) (a8 : Int) : AH := ⟨sB [(0, (some (.cells (layT [(i6 a8)]) 3)))], 1, 1⟩
def V_treemovedq3 (a0 : Int) (a1 : Int) (a2 : Int) (a3 : Int) (a4 : Int) (a5 : Int) (a6 : NL) (a7 : Int) (a8 : Int) (r : NL) : Value := match r with
 | o0 => (Value.agg #[(i6 a0), (i6 a1), (i6 a2), (i6 a3), (i6 a4), (i6 a5), (nlV o0), (Value.int .u64 a7)])
def R_treemovedq3 (a0 : Int) (a1 : Int) (a2 : Int) (a3 : Int) (a4 : Int) (a5 : Int) (a6 : NL) (a7 : Int) (a8 : Int) (r : NL) : AH := match r with
 | o0 => ⟨sB [(1, (some (.cells (layT [(i6 a0), (i6 a1), (i6 a2), (i6 a3), (i6 a4), (i6 a5), (nlV o0), (Value.int .u64 a7)]) 39)))], 2, 1⟩
abbrev G_treemovedq3 (a0 : Int) (a1 : Int) (a2 : Int) (a3 : Int) (a4 : Int) (a5 : Int) (a6 : NL) (a7 : Int) (a8 : Int) (r : NL) : Prop := Gv P (.func 22) (A_treemovedq3 a0 a1 a2 a3 a4 a5 a6 a7 a8) (H_treemovedq3 a0 a1 a2 a3 a4 a5 a6 a7 a8) (V_treemovedq3 a0 a1 a2 a3 a4 a5 a6 a7 a8 r) (R_treemovedq3 a0 a1 a2 a3 a4 a5 a6 a7 a8 r)
abbrev C_treemovedq3 (a0 : Int) (a1 : Int) (a2 : Int) (a3 : Int) (a4 : Int) (a5 : Int) (a6 : NL) (a7 : Int) (a8 : Int) (r : NL) (ins outs : BL) : CallA := ⟨1, ins, V_treemovedq3 a0 a1 a2 a3 a4 a5 a6 a7 a8 r, R_treemovedq3 a0 a1 a2 a3 a4 a5 a6 a7 a8 r, outs⟩
def m_treemovedq3 (n : Nat) (a0 : Int) (a1 : Int) (a2 : Int) (a3 : Int) (a4 : Int) (a5 : Int) (a6 : NL) (a7 : Int) (a8 : Int) : Option (NL) :=
 (m_treeeachintintq3 n a6 a8).bind fun c1_ =>
 some c1_
theorem m_treemovedq3_ok (n : Nat) (a0 : Int) (a1 : Int) (a2 : Int) (a3 : Int) (a4 : Int) (a5 : Int) (a6 : NL) (a7 : Int) (a8 : Int) (r : NL) (h : m_treemovedq3 n a0 a1 a2 a3 a4 a5 a6 a7 a8 = some r) : Gv P (.func 22) (A_treemovedq3 a0 a1 a2 a3 a4 a5 a6 a7 a8) (H_treemovedq3 a0 a1 a2 a3 a4 a5 a6 a7 a8) (V_treemovedq3 a0 a1 a2 a3 a4 a5 a6 a7 a8 r) (R_treemovedq3 a0 a1 a2 a3 a4 a5 a6 a7 a8 r) := by
 unfold m_treemovedq3 at h
 obtain ⟨c1_, hc1, h⟩ := oB h
 obtain rfl := oI h
 exact runF2 hm ⟨[4], [(1, 2, false)], 2, 1, [], false, [], [], []⟩ (yy 7 (.call (C_treeeachintintq3 a6 a8 c1_ [(0, 0, false)] [])) <|
  ww (m_treeeachintintq3_ok n a6 a8 c1_ hc1) <|
  ee) (by kernel_rfl)

def A_treePutq1 (a0 : WL rw_iiiiiiLu) (a1 : Int) (a2 : WL rw_iiiiiiLu) : List Value := [(wlV a0), (i6 a1), (wlV a2)]
def H_treePutq1 (a0 : WL rw_iiiiiiLu) (a1 : Int) (a2 : WL rw_iiiiiiLu) : AH := ⟨sB [], 0, 0⟩
def V_treePutq1 (a0 : WL rw_iiiiiiLu) (a1 : Int) (a2 : WL rw_iiiiiiLu) (r : WL rw_iiiiiiLu × Int) : Value := match r with
 | (o0, o1) => (Value.tuple #[(wlV o0), (i6 o1)])
def R_treePutq1 (a0 : WL rw_iiiiiiLu) (a1 : Int) (a2 : WL rw_iiiiiiLu) (r : WL rw_iiiiiiLu × Int) : AH := match r with
 | (o0, o1) => ⟨sB [], 0, 0⟩
abbrev G_treePutq1 (a0 : WL rw_iiiiiiLu) (a1 : Int) (a2 : WL rw_iiiiiiLu) (r : WL rw_iiiiiiLu × Int) : Prop := Gv P (.func 9) (A_treePutq1 a0 a1 a2) (H_treePutq1 a0 a1 a2) (V_treePutq1 a0 a1 a2 r) (R_treePutq1 a0 a1 a2 r)
abbrev C_treePutq1 (a0 : WL rw_iiiiiiLu) (a1 : Int) (a2 : WL rw_iiiiiiLu) (r : WL rw_iiiiiiLu × Int) (ins outs : BL) : CallA := ⟨0, ins, V_treePutq1 a0 a1 a2 r, R_treePutq1 a0 a1 a2 r, outs⟩
def S_treePutq1_3 (x3_0 : Int) (x3_1 : Int) (x3_3 : WL rw_iiiiiiLu) (x3_4 : Int) (st : List R8 × Int) : XSt := match st with
 | (x3_2, x3_5) => (sT 115 [(12, (Value.func (.func 26) #[] #[(pN 0 0), (pN 1 0)])), (14, (sN 2 0 (x3_2).length (Nat.add big 8))), (101, (wlV x3_3)), (102, (i6 x3_4)), (103, (i6 x3_5))], [], ⟨sB [(0, (some (.cells (layT [(i6 x3_0)]) 3))), (1, (some (.cells (layT [(i6 x3_1)]) 3))), (2, (some (.cells (layT (rows rw_iiiiiiLu x3_2)) 39)))], 3, 0⟩)
def X_treePutq1_3 (x3_0 : Int) (x3_1 : Int) (x3_3 : WL rw_iiiiiiLu) (x3_4 : Int) (r : List R8) : Ex × XSt := match r with
 | z3_0 => (.exit 4, (sT 115 [(14, (sN 0 0 (z3_0).length (Nat.add big 8)))], [], ⟨sB [(0, (some (.cells (layT (rows rw_iiiiiiLu z3_0)) 39)))], 1, 0⟩))
abbrev Q_treePutq1_3 (rnd : Option Nat) (x3_0 : Int) (x3_1 : Int) (x3_3 : WL rw_iiiiiiLu) (x3_4 : Int) (st : List R8 × Int) (c : Ex × XSt) : Prop := CG P rnd (fnN P 9) 0 (codeOf P 9 [false, false, true, false, true, true, true, true, true, true, true, true, true, true, true, true]) (S_treePutq1_3 x3_0 x3_1 x3_3 x3_4 st) c
abbrev U_treePutq1_3 (rd : Option Nat) (x3_0 : Int) (x3_1 : Int) (x3_3 : WL rw_iiiiiiLu) (x3_4 : Int) (st : List R8 × Int) (r : List R8) : Prop := CG P rd (fnN P 9) 0 (codeOf P 9 [false, true, false, true, true, true, true, true, true, true, true, true, true, true, true]) (S_treePutq1_3 x3_0 x3_1 x3_3 x3_4 st) (X_treePutq1_3 x3_0 x3_1 x3_3 x3_4 r)
def B_treePutq1_3 (n : Nat) (x3_0 : Int) (x3_1 : Int) (x3_3 : WL rw_iiiiiiLu) (x3_4 : Int) (st : List R8 × Int) : Option ((List R8 × Int) ⊕ (List R8)) := match st with
 | (x3_2, x3_5) =>
  if x3_5 < x3_4 then
   if 0 ≤ x3_5 ∧ x3_5 < (((x3_3).l.length : Nat) : Int) then
    ((some (((x3_3).l).getD (x3_5).toNat (0, 0, 0, 0, 0, 0, nl0, 0)))).bind fun y3_3_ =>
    (m_treemovedq2 n (y3_3_.1) (y3_3_.2.1) (y3_3_.2.2.1) (y3_3_.2.2.2.1) (y3_3_.2.2.2.2.1) (y3_3_.2.2.2.2.2.1) (y3_3_.2.2.2.2.2.2.1) (y3_3_.2.2.2.2.2.2.2) x3_0 x3_1).bind fun y3_4_ =>
    if ((x3_2).length + 1) * 80 ≤ 140737488355328 then
     some (.inl ((x3_2 ++ [((y3_3_.1), (y3_3_.2.1), (y3_3_.2.2.1), (y3_3_.2.2.2.1), (y3_3_.2.2.2.2.1), (y3_3_.2.2.2.2.2.1), y3_4_, (y3_3_.2.2.2.2.2.2.2))]), (w64 (x3_5 + (1 : Int)))))
    else none
   else none
  else
   some (.inr x3_2)
def m_treePutq1_3 (n : Nat) (x3_0 : Int) (x3_1 : Int) (x3_3 : WL rw_iiiiiiLu) (x3_4 : Int) (st : List R8 × Int) : Option (List R8) := iterM (B_treePutq1_3 n x3_0 x3_1 x3_3 x3_4) n st
theorem b_treePutq1_3 (n : Nat) {rnd : Option Nat} (x3_0 : Int) (x3_1 : Int) (x3_3 : WL rw_iiiiiiLu) (x3_4 : Int) (st : List R8 × Int) (o : (List R8 × Int) ⊕ (List R8)) (h : B_treePutq1_3 n x3_0 x3_1 x3_3 x3_4 st = some o) : CG P rnd (fnN P 9) 0 (codeOf P 9 [false, false, true, false, true, true, true, true, true, true, true, true, true, true, true, true]) (S_treePutq1_3 x3_0 x3_1 x3_3 x3_4 st) (Sum.elim (fun s => (.normal, S_treePutq1_3 x3_0 x3_1 x3_3 x3_4 s)) (fun r => X_treePutq1_3 x3_0 x3_1 x3_3 x3_4 r) o) := by
 obtain ⟨x3_2, x3_5⟩ := st
 unfold B_treePutq1_3 at h
 dsimp only at h
 by_cases hy3_1 : x3_5 < x3_4
 ·rw [if_pos hy3_1] at h
  obtain ⟨hy3_2, h⟩ := gd h
  obtain ⟨y3_3_, hy3_3, h⟩ := oB h
  obtain ⟨y3_4_, hy3_4, h⟩ := oB h
  obtain ⟨hy3_5, h⟩ := gd h
  obtain rfl := oI h
  exact runC2 hm ⟨[12, 14, 101, 102, 103], [(0, 0, false), (1, 1, false), (2, 6, true)], 3, 0, [], false, [], [], []⟩ (zz 1 (xdT hy3_1) <|
   zz 7 (xk1 (x3_3).num (x3_3).off (x3_3).cap hy3_2) <|
   zz 8 (lk2 hy3_3 (toNatLt hy3_2)) <|
   yy 14 (.call (C_treemovedq2 (y3_3_.1) (y3_3_.2.1) (y3_3_.2.2.1) (y3_3_.2.2.2.1) (y3_3_.2.2.2.2.1) (y3_3_.2.2.2.2.2.1) (y3_3_.2.2.2.2.2.2.1) (y3_3_.2.2.2.2.2.2.2) x3_0 x3_1 y3_4_ [(0, 0, false), (1, 1, false)] [(4, 2, false)])) <|
   ww (m_treemovedq2_ok n (y3_3_.1) (y3_3_.2.1) (y3_3_.2.2.1) (y3_3_.2.2.2.1) (y3_3_.2.2.2.2.1) (y3_3_.2.2.2.2.2.1) (y3_3_.2.2.2.2.2.2.1) (y3_3_.2.2.2.2.2.2.2) x3_0 x3_1 y3_4_ hy3_4) <|
   yy 16 (.app ⟨none, rows rw_iiiiiiLu x3_2, (rows rw_iiiiiiLu (x3_2 ++ [((y3_3_.1), (y3_3_.2.1), (y3_3_.2.2.1), (y3_3_.2.2.2.1), (y3_3_.2.2.2.2.1), (y3_3_.2.2.2.2.2.1), y3_4_, (y3_3_.2.2.2.2.2.2.2))])), ((x3_2 ++ [((y3_3_.1), (y3_3_.2.1), (y3_3_.2.2.1), (y3_3_.2.2.2.1), (y3_3_.2.2.2.2.1), (y3_3_.2.2.2.2.2.1), y3_4_, (y3_3_.2.2.2.2.2.2.2))])).length, false⟩) <|
   ww (p := 0 < 1) ((by decide)) <|
   ww (p := rdT (layT (rows rw_iiiiiiLu x3_2)) (Nat.mul (x3_2).length 8) 0 = some (rows rw_iiiiiiLu x3_2)) (rows_rd rwf_iiiiiiLu _ _ rfl) <|
   ww (p := fits (Nat.add (x3_2).length 1) 80 = true) (fits_ok hy3_5 (by have := hy3_5; show (_ : Nat) + _ ≤ _; omega)) <|
   ww (p := allCells [(i6 (y3_3_.1)), (i6 (y3_3_.2.1)), (i6 (y3_3_.2.2.1)), (i6 (y3_3_.2.2.2.1)), (i6 (y3_3_.2.2.2.2.1)), (i6 (y3_3_.2.2.2.2.2.1)), (nlV y3_4_), (Value.int .u64 (y3_3_.2.2.2.2.2.2.2))] = true) (rfl) <|
   ww (p := allCells (rows rw_iiiiiiLu x3_2) = true) (rows_cells rwf_iiiiiiLu _) <|
   ww (p := rows rw_iiiiiiLu x3_2 ++ [(i6 (y3_3_.1)), (i6 (y3_3_.2.1)), (i6 (y3_3_.2.2.1)), (i6 (y3_3_.2.2.2.1)), (i6 (y3_3_.2.2.2.2.1)), (i6 (y3_3_.2.2.2.2.2.1)), (nlV y3_4_), (Value.int .u64 (y3_3_.2.2.2.2.2.2.2))] = (rows rw_iiiiiiLu (x3_2 ++ [((y3_3_.1), (y3_3_.2.1), (y3_3_.2.2.1), (y3_3_.2.2.2.1), (y3_3_.2.2.2.2.1), (y3_3_.2.2.2.2.2.1), y3_4_, (y3_3_.2.2.2.2.2.2.2))]))) (rows_app rw_iiiiiiLu x3_2 [((y3_3_.1), (y3_3_.2.1), (y3_3_.2.2.1), (y3_3_.2.2.2.1), (y3_3_.2.2.2.2.1), (y3_3_.2.2.2.2.2.1), y3_4_, (y3_3_.2.2.2.2.2.2.2))]) <|
   ww (p := Nat.add (x3_2).length 1 = ((x3_2 ++ [((y3_3_.1), (y3_3_.2.1), (y3_3_.2.2.1), (y3_3_.2.2.2.1), (y3_3_.2.2.2.2.1), (y3_3_.2.2.2.2.2.1), y3_4_, (y3_3_.2.2.2.2.2.2.2))])).length) (by simp) <|
   ww (rows_flat rwf_iiiiiiLu (x3_2 ++ [((y3_3_.1), (y3_3_.2.1), (y3_3_.2.2.1), (y3_3_.2.2.2.1), (y3_3_.2.2.2.2.1), (y3_3_.2.2.2.2.2.1), y3_4_, (y3_3_.2.2.2.2.2.2.2))]) 39) <|
   ee) (by kernel_rfl)
 ·rw [if_neg hy3_1] at h
  obtain rfl := oI h
  exact runC2 hm ⟨[14], [(0, 2, true)], 1, 0, [], false, [], [], []⟩ (zz 1 (xdF hy3_1) <|
   ww (rows_flat rwf_iiiiiiLu x3_2 39) <|
   ee) (by kernel_rfl)
theorem m_treePutq1_3_ok (n : Nat) {rnd : Option Nat} (x3_0 : Int) (x3_1 : Int) (x3_3 : WL rw_iiiiiiLu) (x3_4 : Int) (st : List R8 × Int) (r : List R8) (h : m_treePutq1_3 n x3_0 x3_1 x3_3 x3_4 st = some r) : CG P rnd (fnN P 9) 0 (codeOf P 9 [false, true, false, true, true, true, true, true, true, true, true, true, true, true, true]) (S_treePutq1_3 x3_0 x3_1 x3_3 x3_4 st) (X_treePutq1_3 x3_0 x3_1 x3_3 x3_4 r) :=
 CG.iter (b := codeOf P 9 [false, false, true, false, true, true, true, true, true, true, true, true, true, true, true, true]) (by kernel_rfl) (body := B_treePutq1_3 n x3_0 x3_1 x3_3 x3_4) (S := S_treePutq1_3 x3_0 x3_1 x3_3 x3_4) (X := X_treePutq1_3 x3_0 x3_1 x3_3 x3_4)
  (fun s s' h => b_treePutq1_3 n x3_0 x3_1 x3_3 x3_4 s (.inl s') h)
  (fun s r h => b_treePutq1_3 n x3_0 x3_1 x3_3 x3_4 s (.inr r) h)
  (fun r => by intro hx; cases hx) h
def S_treePutq1_2 (x2_0 : WL rw_iiiiiiLu) (x2_1 : Int) (x2_2 : Int) (x2_3 : Int) (x2_5 : WL rw_iiiiiiLu) (x2_6 : Int) (st : List R8 × Int) : XSt := match st with
 | (x2_4, x2_7) => (sT 115 [(0, (wlV x2_0)), (10, (pN 0 0)), (12, (Value.func (.func 26) #[] #[(pN 0 0), (pN 1 0)])), (13, (Value.func (.func 27) #[] #[(pN 2 0)])), (14, (sN 3 0 (x2_4).length (Nat.add big 8))), (86, (wlV x2_5)), (87, (i6 x2_6)), (88, (i6 x2_7))], [], ⟨sB [(0, (some (.cells (layT [(i6 x2_1)]) 3))), (1, (some (.cells (layT [(i6 x2_2)]) 3))), (2, (some (.cells (layT [(i6 x2_3)]) 3))), (3, (some (.cells (layT (rows rw_iiiiiiLu x2_4)) 39)))], 4, 0⟩)
def X_treePutq1_2 (x2_0 : WL rw_iiiiiiLu) (x2_1 : Int) (x2_2 : Int) (x2_3 : Int) (x2_5 : WL rw_iiiiiiLu) (x2_6 : Int) (r : List R8) : Ex × XSt := match r with
 | z2_0 => (.exit 2, (sT 115 [(0, (wlV x2_0)), (10, (pN 0 0)), (12, (Value.func (.func 26) #[] #[(pN 0 0), (pN 1 0)])), (14, (sN 2 0 (z2_0).length (Nat.add big 8)))], [], ⟨sB [(0, (some (.cells (layT [(i6 x2_1)]) 3))), (1, (some (.cells (layT [(i6 x2_2)]) 3))), (2, (some (.cells (layT (rows rw_iiiiiiLu z2_0)) 39)))], 3, 0⟩))
abbrev Q_treePutq1_2 (rnd : Option Nat) (x2_0 : WL rw_iiiiiiLu) (x2_1 : Int) (x2_2 : Int) (x2_3 : Int) (x2_5 : WL rw_iiiiiiLu) (x2_6 : Int) (st : List R8 × Int) (c : Ex × XSt) : Prop := CG P rnd (fnN P 9) 0 (codeOf P 9 [false, false, true, false, true, true, true, true, true, true, true, true, true, true, true]) (S_treePutq1_2 x2_0 x2_1 x2_2 x2_3 x2_5 x2_6 st) c
abbrev U_treePutq1_2 (rd : Option Nat) (x2_0 : WL rw_iiiiiiLu) (x2_1 : Int) (x2_2 : Int) (x2_3 : Int) (x2_5 : WL rw_iiiiiiLu) (x2_6 : Int) (st : List R8 × Int) (r : List R8) : Prop := CG P rd (fnN P 9) 0 (codeOf P 9 [false, true, false, true, true, true, true, true, true, true, true, true, true, true]) (S_treePutq1_2 x2_0 x2_1 x2_2 x2_3 x2_5 x2_6 st) (X_treePutq1_2 x2_0 x2_1 x2_2 x2_3 x2_5 x2_6 r)
def B_treePutq1_2 (n : Nat) (x2_0 : WL rw_iiiiiiLu) (x2_1 : Int) (x2_2 : Int) (x2_3 : Int) (x2_5 : WL rw_iiiiiiLu) (x2_6 : Int) (st : List R8 × Int) : Option ((List R8 × Int) ⊕ (List R8)) := match st with
 | (x2_4, x2_7) =>
  if x2_7 < x2_6 then
   if 0 ≤ x2_7 ∧ x2_7 < (((x2_5).l.length : Nat) : Int) then
    ((some (((x2_5).l).getD (x2_7).toNat (0, 0, 0, 0, 0, 0, nl0, 0)))).bind fun y2_3_ =>
    (m_treemovedq3 n (y2_3_.1) (y2_3_.2.1) (y2_3_.2.2.1) (y2_3_.2.2.2.1) (y2_3_.2.2.2.2.1) (y2_3_.2.2.2.2.2.1) (y2_3_.2.2.2.2.2.2.1) (y2_3_.2.2.2.2.2.2.2) x2_3).bind fun y2_4_ =>
    if ((x2_4).length + 1) * 80 ≤ 140737488355328 then
     some (.inl ((x2_4 ++ [((y2_3_.1), (y2_3_.2.1), (y2_3_.2.2.1), (y2_3_.2.2.2.1), (y2_3_.2.2.2.2.1), (y2_3_.2.2.2.2.2.1), y2_4_, (y2_3_.2.2.2.2.2.2.2))]), (w64 (x2_7 + (1 : Int)))))
    else none
   else none
  else
   some (.inr x2_4)
def m_treePutq1_2 (n : Nat) (x2_0 : WL rw_iiiiiiLu) (x2_1 : Int) (x2_2 : Int) (x2_3 : Int) (x2_5 : WL rw_iiiiiiLu) (x2_6 : Int) (st : List R8 × Int) : Option (List R8) := iterM (B_treePutq1_2 n x2_0 x2_1 x2_2 x2_3 x2_5 x2_6) n st
theorem b_treePutq1_2 (n : Nat) {rnd : Option Nat} (x2_0 : WL rw_iiiiiiLu) (x2_1 : Int) (x2_2 : Int) (x2_3 : Int) (x2_5 : WL rw_iiiiiiLu) (x2_6 : Int) (st : List R8 × Int) (o : (List R8 × Int) ⊕ (List R8)) (h : B_treePutq1_2 n x2_0 x2_1 x2_2 x2_3 x2_5 x2_6 st = some o) : CG P rnd (fnN P 9) 0 (codeOf P 9 [false, false, true, false, true, true, true, true, true, true, true, true, true, true, true]) (S_treePutq1_2 x2_0 x2_1 x2_2 x2_3 x2_5 x2_6 st) (Sum.elim (fun s => (.normal, S_treePutq1_2 x2_0 x2_1 x2_2 x2_3 x2_5 x2_6 s)) (fun r => X_treePutq1_2 x2_0 x2_1 x2_2 x2_3 x2_5 x2_6 r) o) := by
 obtain ⟨x2_4, x2_7⟩ := st
 unfold B_treePutq1_2 at h
 dsimp only at h
 by_cases hy2_1 : x2_7 < x2_6
 ·rw [if_pos hy2_1] at h
  obtain ⟨hy2_2, h⟩ := gd h
  obtain ⟨y2_3_, hy2_3, h⟩ := oB h
  obtain ⟨y2_4_, hy2_4, h⟩ := oB h
  obtain ⟨hy2_5, h⟩ := gd h
  obtain rfl := oI h
  exact runC2 hm ⟨[0, 10, 12, 13, 14, 86, 87, 88], [(0, 0, false), (1, 1, false), (2, 2, false), (3, 7, true)], 4, 0, [], false, [], [], []⟩ (zz 1 (xdT hy2_1) <|
   zz 7 (xk1 (x2_5).num (x2_5).off (x2_5).cap hy2_2) <|
   zz 8 (lk2 hy2_3 (toNatLt hy2_2)) <|
   yy 14 (.call (C_treemovedq3 (y2_3_.1) (y2_3_.2.1) (y2_3_.2.2.1) (y2_3_.2.2.2.1) (y2_3_.2.2.2.2.1) (y2_3_.2.2.2.2.2.1) (y2_3_.2.2.2.2.2.2.1) (y2_3_.2.2.2.2.2.2.2) x2_3 y2_4_ [(0, 2, false)] [(5, 1, false)])) <|
   ww (m_treemovedq3_ok n (y2_3_.1) (y2_3_.2.1) (y2_3_.2.2.1) (y2_3_.2.2.2.1) (y2_3_.2.2.2.2.1) (y2_3_.2.2.2.2.2.1) (y2_3_.2.2.2.2.2.2.1) (y2_3_.2.2.2.2.2.2.2) x2_3 y2_4_ hy2_4) <|
   yy 16 (.app ⟨none, rows rw_iiiiiiLu x2_4, (rows rw_iiiiiiLu (x2_4 ++ [((y2_3_.1), (y2_3_.2.1), (y2_3_.2.2.1), (y2_3_.2.2.2.1), (y2_3_.2.2.2.2.1), (y2_3_.2.2.2.2.2.1), y2_4_, (y2_3_.2.2.2.2.2.2.2))])), ((x2_4 ++ [((y2_3_.1), (y2_3_.2.1), (y2_3_.2.2.1), (y2_3_.2.2.2.1), (y2_3_.2.2.2.2.1), (y2_3_.2.2.2.2.2.1), y2_4_, (y2_3_.2.2.2.2.2.2.2))])).length, false⟩) <|
   ww (p := 0 < 1) ((by decide)) <|
   ww (p := rdT (layT (rows rw_iiiiiiLu x2_4)) (Nat.mul (x2_4).length 8) 0 = some (rows rw_iiiiiiLu x2_4)) (rows_rd rwf_iiiiiiLu _ _ rfl) <|
   ww (p := fits (Nat.add (x2_4).length 1) 80 = true) (fits_ok hy2_5 (by have := hy2_5; show (_ : Nat) + _ ≤ _; omega)) <|
   ww (p := allCells [(i6 (y2_3_.1)), (i6 (y2_3_.2.1)), (i6 (y2_3_.2.2.1)), (i6 (y2_3_.2.2.2.1)), (i6 (y2_3_.2.2.2.2.1)), (i6 (y2_3_.2.2.2.2.2.1)), (nlV y2_4_), (Value.int .u64 (y2_3_.2.2.2.2.2.2.2))] = true) (rfl) <|
   ww (p := allCells (rows rw_iiiiiiLu x2_4) = true) (rows_cells rwf_iiiiiiLu _) <|
   ww (p := rows rw_iiiiiiLu x2_4 ++ [(i6 (y2_3_.1)), (i6 (y2_3_.2.1)), (i6 (y2_3_.2.2.1)), (i6 (y2_3_.2.2.2.1)), (i6 (y2_3_.2.2.2.2.1)), (i6 (y2_3_.2.2.2.2.2.1)), (nlV y2_4_), (Value.int .u64 (y2_3_.2.2.2.2.2.2.2))] = (rows rw_iiiiiiLu (x2_4 ++ [((y2_3_.1), (y2_3_.2.1), (y2_3_.2.2.1), (y2_3_.2.2.2.1), (y2_3_.2.2.2.2.1), (y2_3_.2.2.2.2.2.1), y2_4_, (y2_3_.2.2.2.2.2.2.2))]))) (rows_app rw_iiiiiiLu x2_4 [((y2_3_.1), (y2_3_.2.1), (y2_3_.2.2.1), (y2_3_.2.2.2.1), (y2_3_.2.2.2.2.1), (y2_3_.2.2.2.2.2.1), y2_4_, (y2_3_.2.2.2.2.2.2.2))]) <|
   ww (p := Nat.add (x2_4).length 1 = ((x2_4 ++ [((y2_3_.1), (y2_3_.2.1), (y2_3_.2.2.1), (y2_3_.2.2.2.1), (y2_3_.2.2.2.2.1), (y2_3_.2.2.2.2.2.1), y2_4_, (y2_3_.2.2.2.2.2.2.2))])).length) (by simp) <|
   ww (rows_flat rwf_iiiiiiLu (x2_4 ++ [((y2_3_.1), (y2_3_.2.1), (y2_3_.2.2.1), (y2_3_.2.2.2.1), (y2_3_.2.2.2.2.1), (y2_3_.2.2.2.2.2.1), y2_4_, (y2_3_.2.2.2.2.2.2.2))]) 39) <|
   ee) (by kernel_rfl)
 ·rw [if_neg hy2_1] at h
  obtain rfl := oI h
  exact runC2 hm ⟨[0, 10, 12, 14], [(0, 0, false), (1, 1, false), (2, 3, true)], 3, 0, [], false, [], [], []⟩ (zz 1 (xdF hy2_1) <|
   ww (rows_flat rwf_iiiiiiLu x2_4 39) <|
   ee) (by kernel_rfl)
theorem m_treePutq1_2_ok (n : Nat) {rnd : Option Nat} (x2_0 : WL rw_iiiiiiLu) (x2_1 : Int) (x2_2 : Int) (x2_3 : Int) (x2_5 : WL rw_iiiiiiLu) (x2_6 : Int) (st : List R8 × Int) (r : List R8) (h : m_treePutq1_2 n x2_0 x2_1 x2_2 x2_3 x2_5 x2_6 st = some r) : CG P rnd (fnN P 9) 0 (codeOf P 9 [false, true, false, true, true, true, true, true, true, true, true, true, true, true]) (S_treePutq1_2 x2_0 x2_1 x2_2 x2_3 x2_5 x2_6 st) (X_treePutq1_2 x2_0 x2_1 x2_2 x2_3 x2_5 x2_6 r) :=
 CG.iter (b := codeOf P 9 [false, false, true, false, true, true, true, true, true, true, true, true, true, true, true]) (by kernel_rfl) (body := B_treePutq1_2 n x2_0 x2_1 x2_2 x2_3 x2_5 x2_6) (S := S_treePutq1_2 x2_0 x2_1 x2_2 x2_3 x2_5 x2_6) (X := X_treePutq1_2 x2_0 x2_1 x2_2 x2_3 x2_5 x2_6)
  (fun s s' h => b_treePutq1_2 n x2_0 x2_1 x2_2 x2_3 x2_5 x2_6 s (.inl s') h)
  (fun s r h => b_treePutq1_2 n x2_0 x2_1 x2_2 x2_3 x2_5 x2_6 s (.inr r) h)
  (fun r => by intro hx; cases hx) h
def S_treePutq1_1 (x1_0 : WL rw_iiiiiiLu) (x1_1 : WL rw_iiiiiiLu) (x1_2 : Int) (x1_3 : Int) (x1_4 : Int) (x1_6 : WL rw_iiiiiiLu) (x1_7 : Int) (st : List R8 × Int) : XSt := match st with
 | (x1_5, x1_8) => (sT 115 [(0, (wlV x1_0)), (2, (wlV x1_1)), (10, (pN 0 0)), (12, (Value.func (.func 26) #[] #[(pN 0 0), (pN 1 0)])), (13, (Value.func (.func 27) #[] #[(pN 2 0)])), (14, (sN 3 0 (x1_5).length (Nat.add big 8))), (73, (wlV x1_6)), (74, (i6 x1_7)), (75, (i6 x1_8))], [], ⟨sB [(0, (some (.cells (layT [(i6 x1_2)]) 3))), (1, (some (.cells (layT [(i6 x1_3)]) 3))), (2, (some (.cells (layT [(i6 x1_4)]) 3))), (3, (some (.cells (layT (rows rw_iiiiiiLu x1_5)) 39)))], 4, 0⟩)
def X_treePutq1_1 (x1_0 : WL rw_iiiiiiLu) (x1_1 : WL rw_iiiiiiLu) (x1_2 : Int) (x1_3 : Int) (x1_4 : Int) (x1_6 : WL rw_iiiiiiLu) (x1_7 : Int) (r : List R8) : Ex × XSt := match r with
 | z1_0 => (.exit 0, (sT 115 [(0, (wlV x1_0)), (2, (wlV x1_1)), (10, (pN 0 0)), (12, (Value.func (.func 26) #[] #[(pN 0 0), (pN 1 0)])), (13, (Value.func (.func 27) #[] #[(pN 2 0)])), (14, (sN 3 0 (z1_0).length (Nat.add big 8)))], [], ⟨sB [(0, (some (.cells (layT [(i6 x1_2)]) 3))), (1, (some (.cells (layT [(i6 x1_3)]) 3))), (2, (some (.cells (layT [(i6 x1_4)]) 3))), (3, (some (.cells (layT (rows rw_iiiiiiLu z1_0)) 39)))], 4, 0⟩))
abbrev Q_treePutq1_1 (rnd : Option Nat) (x1_0 : WL rw_iiiiiiLu) (x1_1 : WL rw_iiiiiiLu) (x1_2 : Int) (x1_3 : Int) (x1_4 : Int) (x1_6 : WL rw_iiiiiiLu) (x1_7 : Int) (st : List R8 × Int) (c : Ex × XSt) : Prop := CG P rnd (fnN P 9) 0 (codeOf P 9 [false, false, true, false, true, true, true, true, true, true, true, true, true, true]) (S_treePutq1_1 x1_0 x1_1 x1_2 x1_3 x1_4 x1_6 x1_7 st) c
abbrev U_treePutq1_1 (rd : Option Nat) (x1_0 : WL rw_iiiiiiLu) (x1_1 : WL rw_iiiiiiLu) (x1_2 : Int) (x1_3 : Int) (x1_4 : Int) (x1_6 : WL rw_iiiiiiLu) (x1_7 : Int) (st : List R8 × Int) (r : List R8) : Prop := CG P rd (fnN P 9) 0 (codeOf P 9 [false, true, false, true, true, true, true, true, true, true, true, true, true]) (S_treePutq1_1 x1_0 x1_1 x1_2 x1_3 x1_4 x1_6 x1_7 st) (X_treePutq1_1 x1_0 x1_1 x1_2 x1_3 x1_4 x1_6 x1_7 r)
def B_treePutq1_1 (n : Nat) (x1_0 : WL rw_iiiiiiLu) (x1_1 : WL rw_iiiiiiLu) (x1_2 : Int) (x1_3 : Int) (x1_4 : Int) (x1_6 : WL rw_iiiiiiLu) (x1_7 : Int) (st : List R8 × Int) : Option ((List R8 × Int) ⊕ (List R8)) := match st with
 | (x1_5, x1_8) =>
  if x1_8 < x1_7 then
   if 0 ≤ x1_8 ∧ x1_8 < (((x1_6).l.length : Nat) : Int) then
    ((some (((x1_6).l).getD (x1_8).toNat (0, 0, 0, 0, 0, 0, nl0, 0)))).bind fun y1_3_ =>
    (m_treemovedq2 n (y1_3_.1) (y1_3_.2.1) (y1_3_.2.2.1) (y1_3_.2.2.2.1) (y1_3_.2.2.2.2.1) (y1_3_.2.2.2.2.2.1) (y1_3_.2.2.2.2.2.2.1) (y1_3_.2.2.2.2.2.2.2) x1_2 x1_3).bind fun y1_4_ =>
    if ((x1_5).length + 1) * 80 ≤ 140737488355328 then
     some (.inl ((x1_5 ++ [((y1_3_.1), (y1_3_.2.1), (y1_3_.2.2.1), (y1_3_.2.2.2.1), (y1_3_.2.2.2.2.1), (y1_3_.2.2.2.2.2.1), y1_4_, (y1_3_.2.2.2.2.2.2.2))]), (w64 (x1_8 + (1 : Int)))))
    else none
   else none
  else
   some (.inr x1_5)
def m_treePutq1_1 (n : Nat) (x1_0 : WL rw_iiiiiiLu) (x1_1 : WL rw_iiiiiiLu) (x1_2 : Int) (x1_3 : Int) (x1_4 : Int) (x1_6 : WL rw_iiiiiiLu) (x1_7 : Int) (st : List R8 × Int) : Option (List R8) := iterM (B_treePutq1_1 n x1_0 x1_1 x1_2 x1_3 x1_4 x1_6 x1_7) n st
theorem b_treePutq1_1 (n : Nat) {rnd : Option Nat} (x1_0 : WL rw_iiiiiiLu) (x1_1 : WL rw_iiiiiiLu) (x1_2 : Int) (x1_3 : Int) (x1_4 : Int) (x1_6 : WL rw_iiiiiiLu) (x1_7 : Int) (st : List R8 × Int) (o : (List R8 × Int) ⊕ (List R8)) (h : B_treePutq1_1 n x1_0 x1_1 x1_2 x1_3 x1_4 x1_6 x1_7 st = some o) : CG P rnd (fnN P 9) 0 (codeOf P 9 [false, false, true, false, true, true, true, true, true, true, true, true, true, true]) (S_treePutq1_1 x1_0 x1_1 x1_2 x1_3 x1_4 x1_6 x1_7 st) (Sum.elim (fun s => (.normal, S_treePutq1_1 x1_0 x1_1 x1_2 x1_3 x1_4 x1_6 x1_7 s)) (fun r => X_treePutq1_1 x1_0 x1_1 x1_2 x1_3 x1_4 x1_6 x1_7 r) o) := by
 obtain ⟨x1_5, x1_8⟩ := st
 unfold B_treePutq1_1 at h
 dsimp only at h
 by_cases hy1_1 : x1_8 < x1_7
 ·rw [if_pos hy1_1] at h
  obtain ⟨hy1_2, h⟩ := gd h
  obtain ⟨y1_3_, hy1_3, h⟩ := oB h
  obtain ⟨y1_4_, hy1_4, h⟩ := oB h
  obtain ⟨hy1_5, h⟩ := gd h
  obtain rfl := oI h
  exact runC2 hm ⟨[0, 2, 10, 12, 13, 14, 73, 74, 75], [(0, 0, false), (1, 1, false), (2, 2, false), (3, 7, true)], 4, 0, [], false, [], [], []⟩ (zz 1 (xdT hy1_1) <|
   zz 7 (xk1 (x1_6).num (x1_6).off (x1_6).cap hy1_2) <|
   zz 8 (lk2 hy1_3 (toNatLt hy1_2)) <|
   yy 14 (.call (C_treemovedq2 (y1_3_.1) (y1_3_.2.1) (y1_3_.2.2.1) (y1_3_.2.2.2.1) (y1_3_.2.2.2.2.1) (y1_3_.2.2.2.2.2.1) (y1_3_.2.2.2.2.2.2.1) (y1_3_.2.2.2.2.2.2.2) x1_2 x1_3 y1_4_ [(0, 0, false), (1, 1, false)] [(5, 2, false)])) <|
   ww (m_treemovedq2_ok n (y1_3_.1) (y1_3_.2.1) (y1_3_.2.2.1) (y1_3_.2.2.2.1) (y1_3_.2.2.2.2.1) (y1_3_.2.2.2.2.2.1) (y1_3_.2.2.2.2.2.2.1) (y1_3_.2.2.2.2.2.2.2) x1_2 x1_3 y1_4_ hy1_4) <|
   yy 16 (.app ⟨none, rows rw_iiiiiiLu x1_5, (rows rw_iiiiiiLu (x1_5 ++ [((y1_3_.1), (y1_3_.2.1), (y1_3_.2.2.1), (y1_3_.2.2.2.1), (y1_3_.2.2.2.2.1), (y1_3_.2.2.2.2.2.1), y1_4_, (y1_3_.2.2.2.2.2.2.2))])), ((x1_5 ++ [((y1_3_.1), (y1_3_.2.1), (y1_3_.2.2.1), (y1_3_.2.2.2.1), (y1_3_.2.2.2.2.1), (y1_3_.2.2.2.2.2.1), y1_4_, (y1_3_.2.2.2.2.2.2.2))])).length, false⟩) <|
   ww (p := 0 < 1) ((by decide)) <|
   ww (p := rdT (layT (rows rw_iiiiiiLu x1_5)) (Nat.mul (x1_5).length 8) 0 = some (rows rw_iiiiiiLu x1_5)) (rows_rd rwf_iiiiiiLu _ _ rfl) <|
   ww (p := fits (Nat.add (x1_5).length 1) 80 = true) (fits_ok hy1_5 (by have := hy1_5; show (_ : Nat) + _ ≤ _; omega)) <|
   ww (p := allCells [(i6 (y1_3_.1)), (i6 (y1_3_.2.1)), (i6 (y1_3_.2.2.1)), (i6 (y1_3_.2.2.2.1)), (i6 (y1_3_.2.2.2.2.1)), (i6 (y1_3_.2.2.2.2.2.1)), (nlV y1_4_), (Value.int .u64 (y1_3_.2.2.2.2.2.2.2))] = true) (rfl) <|
   ww (p := allCells (rows rw_iiiiiiLu x1_5) = true) (rows_cells rwf_iiiiiiLu _) <|
   ww (p := rows rw_iiiiiiLu x1_5 ++ [(i6 (y1_3_.1)), (i6 (y1_3_.2.1)), (i6 (y1_3_.2.2.1)), (i6 (y1_3_.2.2.2.1)), (i6 (y1_3_.2.2.2.2.1)), (i6 (y1_3_.2.2.2.2.2.1)), (nlV y1_4_), (Value.int .u64 (y1_3_.2.2.2.2.2.2.2))] = (rows rw_iiiiiiLu (x1_5 ++ [((y1_3_.1), (y1_3_.2.1), (y1_3_.2.2.1), (y1_3_.2.2.2.1), (y1_3_.2.2.2.2.1), (y1_3_.2.2.2.2.2.1), y1_4_, (y1_3_.2.2.2.2.2.2.2))]))) (rows_app rw_iiiiiiLu x1_5 [((y1_3_.1), (y1_3_.2.1), (y1_3_.2.2.1), (y1_3_.2.2.2.1), (y1_3_.2.2.2.2.1), (y1_3_.2.2.2.2.2.1), y1_4_, (y1_3_.2.2.2.2.2.2.2))]) <|
   ww (p := Nat.add (x1_5).length 1 = ((x1_5 ++ [((y1_3_.1), (y1_3_.2.1), (y1_3_.2.2.1), (y1_3_.2.2.2.1), (y1_3_.2.2.2.2.1), (y1_3_.2.2.2.2.2.1), y1_4_, (y1_3_.2.2.2.2.2.2.2))])).length) (by simp) <|
   ww (rows_flat rwf_iiiiiiLu (x1_5 ++ [((y1_3_.1), (y1_3_.2.1), (y1_3_.2.2.1), (y1_3_.2.2.2.1), (y1_3_.2.2.2.2.1), (y1_3_.2.2.2.2.2.1), y1_4_, (y1_3_.2.2.2.2.2.2.2))]) 39) <|
   ee) (by kernel_rfl)
 ·rw [if_neg hy1_1] at h
  obtain rfl := oI h
  exact runC2 hm ⟨[0, 2, 10, 12, 13, 14], [(0, 0, false), (1, 1, false), (2, 2, false), (3, 3, true)], 4, 0, [], false, [], [], []⟩ (zz 1 (xdF hy1_1) <|
   ww (rows_flat rwf_iiiiiiLu x1_5 39) <|
   ee) (by kernel_rfl)
theorem m_treePutq1_1_ok (n : Nat) {rnd : Option Nat} (x1_0 : WL rw_iiiiiiLu) (x1_1 : WL rw_iiiiiiLu) (x1_2 : Int) (x1_3 : Int) (x1_4 : Int) (x1_6 : WL rw_iiiiiiLu) (x1_7 : Int) (st : List R8 × Int) (r : List R8) (h : m_treePutq1_1 n x1_0 x1_1 x1_2 x1_3 x1_4 x1_6 x1_7 st = some r) : CG P rnd (fnN P 9) 0 (codeOf P 9 [false, true, false, true, true, true, true, true, true, true, true, true, true]) (S_treePutq1_1 x1_0 x1_1 x1_2 x1_3 x1_4 x1_6 x1_7 st) (X_treePutq1_1 x1_0 x1_1 x1_2 x1_3 x1_4 x1_6 x1_7 r) :=
 CG.iter (b := codeOf P 9 [false, false, true, false, true, true, true, true, true, true, true, true, true, true]) (by kernel_rfl) (body := B_treePutq1_1 n x1_0 x1_1 x1_2 x1_3 x1_4 x1_6 x1_7) (S := S_treePutq1_1 x1_0 x1_1 x1_2 x1_3 x1_4 x1_6 x1_7) (X := X_treePutq1_1 x1_0 x1_1 x1_2 x1_3 x1_4 x1_6 x1_7)
  (fun s s' h => b_treePutq1_1 n x1_0 x1_1 x1_2 x1_3 x1_4 x1_6 x1_7 s (.inl s') h)
  (fun s r h => b_treePutq1_1 n x1_0 x1_1 x1_2 x1_3 x1_4 x1_6 x1_7 s (.inr r) h)
  (fun r => by intro hx; cases hx) h
def m_treePutq1 (n : Nat) (a0 : WL rw_iiiiiiLu) (a1 : Int) (a2 : WL rw_iiiiiiLu) : Option (WL rw_iiiiiiLu × Int) :=
 (m_treeCheckq1 n a0).bind fun c1_ =>
 if c1_ = (0 : Int) then
  (m_treeCheckq1 n a2).bind fun c3_ =>
  if c3_ = (0 : Int) then
   if a1 < (0 : Int) then
    some ((wl0 : WL rw_iiiiiiLu), 2)
   else
    if a1 ≥ (((a0).l.length : Nat) : Int) then
     some ((wl0 : WL rw_iiiiiiLu), 2)
    else
     if 0 ≤ a1 ∧ a1 < (((a0).l.length : Nat) : Int) then
      ((some (((a0).l).getD (a1).toNat (0, 0, 0, 0, 0, 0, nl0, 0)))).bind fun c8_ =>
      if 0 ≤ (0 : Int) ∧ (0 : Int) < (((a2).l.length : Nat) : Int) then
       ((some (((a2).l).getD ((0 : Int)).toNat (0, 0, 0, 0, 0, 0, nl0, 0)))).bind fun c10_ =>
       (m_partsFitsq1 n (c8_.1) (c8_.2.1) (c8_.2.2.1) (c8_.2.2.2.1) (c8_.2.2.2.2.1) (c8_.2.2.2.2.2.1) (c8_.2.2.2.2.2.2.1) (c8_.2.2.2.2.2.2.2) (c10_.1) (c10_.2.1) (c10_.2.2.1) (c10_.2.2.2.1) (c10_.2.2.2.2.1) (c10_.2.2.2.2.2.1) (c10_.2.2.2.2.2.2.1) (c10_.2.2.2.2.2.2.2)).bind fun c11_ =>
       if c11_ = true then
        (m_partsEndq1 n a0 a1).bind fun c13_ =>
        ((some (w64 ((((a2).l.length : Nat) : Int) - (w64 (c13_ - a1)))))).bind fun c14_ =>
        ((some (w64 ((((a0).l.length : Nat) : Int) + c14_)))).bind fun c15_ =>
        if c15_ > (524288 : Int) then
         some ((wl0 : WL rw_iiiiiiLu), 3)
        else
         if 0 ≤ c15_ then
          if (c15_).toNat * 80 ≤ 140737488355328 then
           if 0 ≤ a1 then
            if hc20 : 0 ≤ (a1).toNat ∧ (a1).toNat ≤ (a0).l.length then
             (m_treePutq1_1 n a0 a2 c13_ c14_ a1 (wlSub rwf_iiiiiiLu a0 0 (a1).toNat hc20) ((((wlSub rwf_iiiiiiLu a0 0 (a1).toNat hc20)).l.length : Nat) : Int) ([], 0)).bind fun c21_ =>
             (m_treePutq1_2 n a0 c13_ c14_ a1 a2 (((a2).l.length : Nat) : Int) (c21_, 0)).bind fun c22_ =>
             if 0 ≤ c13_ then
              if hc24 : (c13_).toNat ≤ (a0).l.length ∧ (a0).l.length ≤ (a0).l.length then
               (m_treePutq1_3 n c13_ c14_ (wlSub rwf_iiiiiiLu a0 (c13_).toNat (a0).l.length hc24) ((((wlSub rwf_iiiiiiLu a0 (c13_).toNat (a0).l.length hc24)).l.length : Nat) : Int) (c22_, 0)).bind fun c25_ =>
               if hc26 : c25_.length ≤ 9223372036854775807 then
                some ((frzR rwo_iiiiiiLu c25_ hc26), 0)
               else none
              else none
             else none
            else none
           else none
          else none
         else none
       else
        some ((wl0 : WL rw_iiiiiiLu), 2)
      else none
     else none
  else
   some ((wl0 : WL rw_iiiiiiLu), c3_)
 else
  some ((wl0 : WL rw_iiiiiiLu), c1_)
theorem m_treePutq1_ok (n : Nat) (a0 : WL rw_iiiiiiLu) (a1 : Int) (a2 : WL rw_iiiiiiLu) (r : WL rw_iiiiiiLu × Int) (h : m_treePutq1 n a0 a1 a2 = some r) : Gv P (.func 9) (A_treePutq1 a0 a1 a2) (H_treePutq1 a0 a1 a2) (V_treePutq1 a0 a1 a2 r) (R_treePutq1 a0 a1 a2 r) := by
 unfold m_treePutq1 at h
 obtain ⟨c1_, hc1, h⟩ := oB h
 have k0 := fun {A L l} (k : PL A L l) => yy 7 (.call (C_treeCheckq1 a0 c1_ [] [])) <|
  ww (m_treeCheckq1_ok n a0 c1_ hc1) <|
  k
 by_cases hc2 : c1_ = (0 : Int)
 ·rw [if_pos hc2] at h
  obtain ⟨c3_, hc3, h⟩ := oB h
  have k2 := fun {A L l} (k : PL A L l) => zz 11 (xnF hc2) <|
   yy 16 (.call (C_treeCheckq1 a2 c3_ [] [])) <|
   ww (m_treeCheckq1_ok n a2 c3_ hc3) <|
   k
  by_cases hc4 : c3_ = (0 : Int)
  ·rw [if_pos hc4] at h
   have k5 := fun {A L l} (k : PL A L l) => zz 20 (xnF hc4) <|
    k
   by_cases hc5 : a1 < (0 : Int)
   ·rw [if_pos hc5] at h
    obtain rfl := oI h
    exact runF2 hm ⟨[6, 7], [], 0, 0, [], true, [], [], [6]⟩ (k0 <|
     k2 <|
     k5 <|
     zz 25 (xdT hc5) <|
     ee) (by kernel_rfl)
   ·rw [if_neg hc5] at h
    have k6 := fun {A L l} (k : PL A L l) => zz 25 (xdF hc5) <|
     k
    by_cases hc6 : a1 ≥ (((a0).l.length : Nat) : Int)
    ·rw [if_pos hc6] at h
     obtain rfl := oI h
     exact runF2 hm ⟨[6, 7], [], 0, 0, [], true, [], [], [6]⟩ (k0 <|
      k2 <|
      k5 <|
      k6 <|
      zz 30 (xdT hc6) <|
      ee) (by kernel_rfl)
    ·rw [if_neg hc6] at h
     obtain ⟨hc7, h⟩ := gd h
     obtain ⟨c8_, hc8, h⟩ := oB h
     obtain ⟨hc9, h⟩ := gd h
     obtain ⟨c10_, hc10, h⟩ := oB h
     obtain ⟨c11_, hc11, h⟩ := oB h
     have k7 := fun {A L l} (k : PL A L l) => zz 30 (xdF hc6) <|
      zz 35 (xk1 (a0).num (a0).off (a0).cap hc7) <|
      zz 36 (lk2 hc8 (toNatLt hc7)) <|
      zz 38 (xk1 (a2).num (a2).off (a2).cap hc9) <|
      zz 39 (lk2 hc10 (toNatLt hc9)) <|
      yy 40 (.call (C_partsFitsq1 (c8_.1) (c8_.2.1) (c8_.2.2.1) (c8_.2.2.2.1) (c8_.2.2.2.2.1) (c8_.2.2.2.2.2.1) (c8_.2.2.2.2.2.2.1) (c8_.2.2.2.2.2.2.2) (c10_.1) (c10_.2.1) (c10_.2.2.1) (c10_.2.2.2.1) (c10_.2.2.2.2.1) (c10_.2.2.2.2.2.1) (c10_.2.2.2.2.2.2.1) (c10_.2.2.2.2.2.2.2) c11_ [] [])) <|
      ww (m_partsFitsq1_ok n (c8_.1) (c8_.2.1) (c8_.2.2.1) (c8_.2.2.2.1) (c8_.2.2.2.2.1) (c8_.2.2.2.2.2.1) (c8_.2.2.2.2.2.2.1) (c8_.2.2.2.2.2.2.2) (c10_.1) (c10_.2.1) (c10_.2.2.1) (c10_.2.2.2.1) (c10_.2.2.2.2.1) (c10_.2.2.2.2.2.1) (c10_.2.2.2.2.2.2.1) (c10_.2.2.2.2.2.2.2) c11_ hc11) <|
      k
     by_cases hc12 : c11_ = true
     ·rw [if_pos hc12] at h
      obtain ⟨c13_, hc13, h⟩ := oB h
      obtain ⟨c14_, hc14, h⟩ := oB h
      obtain ⟨c15_, hc15, h⟩ := oB h
      have k14 := fun {A L l} (k : PL A L l) => yy 41 (vf) <|
       ww (p := (Value.bool (!c11_)) = (Value.bool false)) (vBn hc12) <|
       yy 47 (.call (C_partsEndq1 a0 a1 c13_ [] [])) <|
       ww (m_partsEndq1_ok n a0 a1 c13_ hc13) <|
       zz 56 (xnm hc14) <|
       zz 64 (xnm hc15) <|
       k
      by_cases hc16 : c15_ > (524288 : Int)
      ·rw [if_pos hc16] at h
       obtain rfl := oI h
       exact runF2 hm ⟨[6, 7], [], 0, 0, [], true, [], [], [6]⟩ (k0 <|
        k2 <|
        k5 <|
        k6 <|
        k7 <|
        k14 <|
        zz 65 (xdT hc16) <|
        ee) (by kernel_rfl)
      ·rw [if_neg hc16] at h
       obtain ⟨hc17, h⟩ := gd h
       obtain ⟨hc18, h⟩ := gd h
       obtain ⟨hc19, h⟩ := gd h
       obtain ⟨hc20, h⟩ := gdD h
       replace h := oB h
       obtain ⟨c21_, hc21, h⟩ := h
       replace h := oB h
       obtain ⟨c22_, hc22, h⟩ := h
       replace h := gd h
       obtain ⟨hc23, h⟩ := h
       replace h := gdD h
       obtain ⟨hc24, h⟩ := h
       replace h := oB h
       obtain ⟨c25_, hc25, h⟩ := h
       replace h := gdD h
       obtain ⟨hc26, h⟩ := h
       obtain rfl := oI h
       exact runF2 hm ⟨[6, 7], [], 0, 0, [(0, Nat.add (2 * codL (rows rw_iiiiiiLu c25_) + 1) 64)], true, [], [], []⟩ (k0 <|
        k2 <|
        k5 <|
        k6 <|
        k7 <|
        k14 <|
        zz 65 (xdF hc16) <|
        zz 77 (xnm hc15) <|
        yy 78 (.mk (c15_).toNat []) <|
        ww (p := natOf (i6 c15_) = some (c15_).toNat) (natOf_toNat hc17) <|
        ww (p := fits (c15_).toNat 80 = true) (fits_ok hc18 (by omega)) <|
        yy 84 (.pur (wlV (wlSub rwf_iiiiiiLu a0 0 (a1).toNat hc20))) <|
        ww (p := opSlice P 22 (wlV a0) none (some (i6 a1)) none Ax.h0 = some ((wlV (wlSub rwf_iiiiiiLu a0 0 (a1).toNat hc20)), Ax.h0)) (slWL (e := 39) rwf_iiiiiiLu a0 (by kernel_rfl) (by kernel_rfl) rfl (bnd_int hc19) hc20) <|
        ww (p := U_treePutq1_1 none a0 a2 c13_ c14_ a1 (wlSub rwf_iiiiiiLu a0 0 (a1).toNat hc20) ((((wlSub rwf_iiiiiiLu a0 0 (a1).toNat hc20)).l.length : Nat) : Int) ([], 0) c21_) (m_treePutq1_1_ok n a0 a2 c13_ c14_ a1 (wlSub rwf_iiiiiiLu a0 0 (a1).toNat hc20) ((((wlSub rwf_iiiiiiLu a0 0 (a1).toNat hc20)).l.length : Nat) : Int) ([], 0) c21_ hc21) <|
        ll 88 ⟨⟨[0, 2, 10, 12, 13, 14, 73, 74, 75], [(0, 1, false), (1, 2, false), (2, 0, false), (3, 3, false)], 4, 0, [], false, [], [], []⟩, (X_treePutq1_1 a0 a2 c13_ c14_ a1 (wlSub rwf_iiiiiiLu a0 0 (a1).toNat hc20) ((((wlSub rwf_iiiiiiLu a0 0 (a1).toNat hc20)).l.length : Nat) : Int) c21_).1, (X_treePutq1_1 a0 a2 c13_ c14_ a1 (wlSub rwf_iiiiiiLu a0 0 (a1).toNat hc20) ((((wlSub rwf_iiiiiiLu a0 0 (a1).toNat hc20)).l.length : Nat) : Int) c21_).2⟩ <|
        ww (p := U_treePutq1_2 none a0 c13_ c14_ a1 a2 (((a2).l.length : Nat) : Int) (c21_, 0) c22_) (m_treePutq1_2_ok n a0 c13_ c14_ a1 a2 (((a2).l.length : Nat) : Int) (c21_, 0) c22_ hc22) <|
        ww (rows_flat rwf_iiiiiiLu c21_ 39) <|
        ll 95 ⟨⟨[0, 10, 12, 13, 14, 86, 87, 88], [(0, 0, false), (1, 1, false), (2, 2, false), (3, 3, true)], 4, 0, [], false, [], [], []⟩, (X_treePutq1_2 a0 c13_ c14_ a1 a2 (((a2).l.length : Nat) : Int) c22_).1, (X_treePutq1_2 a0 c13_ c14_ a1 a2 (((a2).l.length : Nat) : Int) c22_).2⟩ <|
        yy 100 (.pur (wlV (wlSub rwf_iiiiiiLu a0 (c13_).toNat (a0).l.length hc24))) <|
        ww (p := opSlice P 22 (wlV a0) (some (i6 c13_)) none none Ax.h0 = some ((wlV (wlSub rwf_iiiiiiLu a0 (c13_).toNat (a0).l.length hc24)), Ax.h0)) (slWL (e := 39) rwf_iiiiiiLu a0 (by kernel_rfl) (by kernel_rfl) (bnd_int hc23) rfl hc24) <|
        ww (p := U_treePutq1_3 none c13_ c14_ (wlSub rwf_iiiiiiLu a0 (c13_).toNat (a0).l.length hc24) ((((wlSub rwf_iiiiiiLu a0 (c13_).toNat (a0).l.length hc24)).l.length : Nat) : Int) (c22_, 0) c25_) (m_treePutq1_3_ok n c13_ c14_ (wlSub rwf_iiiiiiLu a0 (c13_).toNat (a0).l.length hc24) ((((wlSub rwf_iiiiiiLu a0 (c13_).toNat (a0).l.length hc24)).l.length : Nat) : Int) (c22_, 0) c25_ hc25) <|
        ww (rows_flat rwf_iiiiiiLu c22_ 39) <|
        ll 104 ⟨⟨[12, 14, 101, 102, 103], [(0, 0, false), (1, 1, false), (2, 2, true)], 3, 0, [], false, [], [], []⟩, (X_treePutq1_3 c13_ c14_ (wlSub rwf_iiiiiiLu a0 (c13_).toNat (a0).l.length hc24) ((((wlSub rwf_iiiiiiLu a0 (c13_).toNat (a0).l.length hc24)).l.length : Nat) : Int) c25_).1, (X_treePutq1_3 c13_ c14_ (wlSub rwf_iiiiiiLu a0 (c13_).toNat (a0).l.length hc24) ((((wlSub rwf_iiiiiiLu a0 (c13_).toNat (a0).l.length hc24)).l.length : Nat) : Int) c25_).2⟩ <|
        ww (frz_okR wins_nest wins_odd rwo_iiiiiiLu c25_) <|
        ee) (by kernel_rfl)
     ·rw [if_neg hc12] at h
      obtain rfl := oI h
      exact runF2 hm ⟨[6, 7], [], 0, 0, [], true, [], [], [6]⟩ (k0 <|
       k2 <|
       k5 <|
       k6 <|
       k7 <|
       yy 41 (vt) <|
       ww (p := (Value.bool (!c11_)) = (Value.bool true)) (vBn (Bool.eq_false_iff.2 hc12)) <|
       ee) (by kernel_rfl)
  ·rw [if_neg hc4] at h
   obtain rfl := oI h
   exact runF2 hm ⟨[6, 7], [], 0, 0, [], true, [], [], [6]⟩ (k0 <|
    k2 <|
    zz 20 (xnT hc4) <|
    ee) (by kernel_rfl)
 ·rw [if_neg hc2] at h
  obtain rfl := oI h
  exact runF2 hm ⟨[6, 7], [], 0, 0, [], true, [], [], [6]⟩ (k0 <|
   zz 11 (xnT hc2) <|
   ee) (by kernel_rfl)

def A_treeEndq1 (a0 : WL rw_iiiiiiLu) (a1 : Int) : List Value := [(wlV a0), (i6 a1)]
def H_treeEndq1 (a0 : WL rw_iiiiiiLu) (a1 : Int) : AH := ⟨sB [], 0, 0⟩
def V_treeEndq1 (a0 : WL rw_iiiiiiLu) (a1 : Int) (r : Int) : Value := match r with
 | o0 => (i6 o0)
def R_treeEndq1 (a0 : WL rw_iiiiiiLu) (a1 : Int) (r : Int) : AH := match r with
 | o0 => ⟨sB [], 0, 0⟩
abbrev G_treeEndq1 (a0 : WL rw_iiiiiiLu) (a1 : Int) (r : Int) : Prop := Gv P (.func 10) (A_treeEndq1 a0 a1) (H_treeEndq1 a0 a1) (V_treeEndq1 a0 a1 r) (R_treeEndq1 a0 a1 r)
abbrev C_treeEndq1 (a0 : WL rw_iiiiiiLu) (a1 : Int) (r : Int) (ins outs : BL) : CallA := ⟨0, ins, V_treeEndq1 a0 a1 r, R_treeEndq1 a0 a1 r, outs⟩
def m_treeEndq1 (n : Nat) (a0 : WL rw_iiiiiiLu) (a1 : Int) : Option (Int) :=
 (m_treehasq1 n a0 a1).bind fun c1_ =>
 if c1_ = true then
  (m_partsEndq1 n a0 a1).bind fun c3_ =>
  some c3_
 else
  some 0
theorem m_treeEndq1_ok (n : Nat) (a0 : WL rw_iiiiiiLu) (a1 : Int) (r : Int) (h : m_treeEndq1 n a0 a1 = some r) : Gv P (.func 10) (A_treeEndq1 a0 a1) (H_treeEndq1 a0 a1) (V_treeEndq1 a0 a1 r) (R_treeEndq1 a0 a1 r) := by
 unfold m_treeEndq1 at h
 obtain ⟨c1_, hc1, h⟩ := oB h
 have k0 := fun {A L l} (k : PL A L l) => yy 6 (.call (C_treehasq1 a0 a1 c1_ [] [])) <|
  ww (m_treehasq1_ok n a0 a1 c1_ hc1) <|
  k
 by_cases hc2 : c1_ = true
 ·rw [if_pos hc2] at h
  obtain ⟨c3_, hc3, h⟩ := oB h
  obtain rfl := oI h
  exact runF2 hm ⟨[4], [], 0, 0, [], false, [], [], []⟩ (k0 <|
   yy 7 (vf) <|
   ww (p := (Value.bool (!c1_)) = (Value.bool false)) (vBn hc2) <|
   yy 12 (.call (C_partsEndq1 a0 a1 c3_ [] [])) <|
   ww (m_partsEndq1_ok n a0 a1 c3_ hc3) <|
   ee) (by kernel_rfl)
 ·rw [if_neg hc2] at h
  obtain rfl := oI h
  exact runF2 hm ⟨[4], [], 0, 0, [], false, [], [], []⟩ (k0 <|
   yy 7 (vt) <|
   ww (p := (Value.bool (!c1_)) = (Value.bool true)) (vBn (Bool.eq_false_iff.2 hc2)) <|
   ee) (by kernel_rfl)

def A_slicesEqualintintq1 (a0 : NL) (a1 : NL) : List Value := [(nlV a0), (nlV a1)]
def H_slicesEqualintintq1 (a0 : NL) (a1 : NL) : AH := ⟨sB [], 0, 0⟩
def V_slicesEqualintintq1 (a0 : NL) (a1 : NL) (r : Bool) : Value := match r with
 | o0 => (bO o0)
def R_slicesEqualintintq1 (a0 : NL) (a1 : NL) (r : Bool) : AH := match r with
 | o0 => ⟨sB [], 0, 0⟩
abbrev G_slicesEqualintintq1 (a0 : NL) (a1 : NL) (r : Bool) : Prop := Gv P (.func 37) (A_slicesEqualintintq1 a0 a1) (H_slicesEqualintintq1 a0 a1) (V_slicesEqualintintq1 a0 a1 r) (R_slicesEqualintintq1 a0 a1 r)
abbrev C_slicesEqualintintq1 (a0 : NL) (a1 : NL) (r : Bool) (ins outs : BL) : CallA := ⟨0, ins, V_slicesEqualintintq1 a0 a1 r, R_slicesEqualintintq1 a0 a1 r, outs⟩
def S_slicesEqualintintq1_1 (x1_0 : NL) (x1_1 : NL) (x1_2 : Int) (st : Int) : XSt := match st with
 | x1_3 => (sT 26 [(0, (nlV x1_0)), (1, (nlV x1_1)), (12, (i6 x1_2)), (13, (i6 x1_3))], [], ⟨sB [], 0, 0⟩)
def X_slicesEqualintintq1_1 (x1_0 : NL) (x1_1 : NL) (x1_2 : Int) (r : (Unit) ⊕ (Unit)) : Ex × XSt := match r with
 | .inl _ => (.ret, (sT 26 [(4, (bO false))], [], ⟨sB [], 0, 0⟩))
 | .inr _ => (.exit 0, (sT 26 [], [], ⟨sB [], 0, 0⟩))
abbrev Q_slicesEqualintintq1_1 (rnd : Option Nat) (x1_0 : NL) (x1_1 : NL) (x1_2 : Int) (st : Int) (c : Ex × XSt) : Prop := CG P rnd (fnN P 37) 0 (codeOf P 37 [false, false, true, false, true, true]) (S_slicesEqualintintq1_1 x1_0 x1_1 x1_2 st) c
abbrev U_slicesEqualintintq1_1 (rd : Option Nat) (x1_0 : NL) (x1_1 : NL) (x1_2 : Int) (st : Int) (r : (Unit) ⊕ (Unit)) : Prop := CG P rd (fnN P 37) 0 (codeOf P 37 [false, true, false, true, true]) (S_slicesEqualintintq1_1 x1_0 x1_1 x1_2 st) (X_slicesEqualintintq1_1 x1_0 x1_1 x1_2 r)
def B_slicesEqualintintq1_1 (n : Nat) (x1_0 : NL) (x1_1 : NL) (x1_2 : Int) (st : Int) : Option ((Int) ⊕ ((Unit) ⊕ (Unit))) := match st with
 | x1_3 =>
  if x1_3 < x1_2 then
   if 0 ≤ x1_3 ∧ x1_3 < (((x1_0).l.length : Nat) : Int) then
    if (x1_3).toNat < ((x1_0).l).length then
     ((some (((x1_0).l).getD (x1_3).toNat 0))).bind fun y1_4_ =>
     if 0 ≤ x1_3 ∧ x1_3 < (((x1_1).l.length : Nat) : Int) then
      if (x1_3).toNat < ((x1_1).l).length then
       ((some (((x1_1).l).getD (x1_3).toNat 0))).bind fun y1_7_ =>
       if y1_4_ = y1_7_ then
        some (.inl (w64 (x1_3 + (1 : Int))))
       else
        some (.inr (.inl ()))
      else none
     else none
    else none
   else none
  else
   some (.inr (.inr ()))
def m_slicesEqualintintq1_1 (n : Nat) (x1_0 : NL) (x1_1 : NL) (x1_2 : Int) (st : Int) : Option ((Unit) ⊕ (Unit)) := iterM (B_slicesEqualintintq1_1 n x1_0 x1_1 x1_2) n st
theorem b_slicesEqualintintq1_1 (n : Nat) {rnd : Option Nat} (x1_0 : NL) (x1_1 : NL) (x1_2 : Int) (x1_3 : Int) (o : (Int) ⊕ ((Unit) ⊕ (Unit))) (h : B_slicesEqualintintq1_1 n x1_0 x1_1 x1_2 x1_3 = some o) : CG P rnd (fnN P 37) 0 (codeOf P 37 [false, false, true, false, true, true]) (S_slicesEqualintintq1_1 x1_0 x1_1 x1_2 x1_3) (Sum.elim (fun s => (.normal, S_slicesEqualintintq1_1 x1_0 x1_1 x1_2 s)) (fun r => X_slicesEqualintintq1_1 x1_0 x1_1 x1_2 r) o) := by
 unfold B_slicesEqualintintq1_1 at h
 dsimp only at h
 by_cases hy1_1 : x1_3 < x1_2
 ·rw [if_pos hy1_1] at h
  obtain ⟨hy1_2, h⟩ := gd h
  obtain ⟨hy1_3, h⟩ := gd h
  obtain ⟨y1_4_, hy1_4, h⟩ := oB h
  obtain ⟨hy1_5, h⟩ := gd h
  obtain ⟨hy1_6, h⟩ := gd h
  obtain ⟨y1_7_, hy1_7, h⟩ := oB h
  have k0 := fun {A L l} (k : PL A L l) => zz 1 (xdT hy1_1) <|
   zz 12 (xk6 (Nat.add (x1_0).num 64) (x1_0).off (x1_0).cap hy1_2) <|
   zz 13 (nk7 hy1_4 hy1_3) <|
   zz 16 (xk6 (Nat.add (x1_1).num 64) (x1_1).off (x1_1).cap hy1_5) <|
   zz 17 (nk7 hy1_7 hy1_6) <|
   k
  by_cases hy1_8 : y1_4_ = y1_7_
  ·rw [if_pos hy1_8] at h
   obtain rfl := oI h
   exact runC2 hm ⟨[0, 1, 12, 13], [], 0, 0, [], false, [], [], []⟩ (k0 <|
    zz 18 (xnF hy1_8) <|
    ee) (by kernel_rfl)
  ·rw [if_neg hy1_8] at h
   obtain rfl := oI h
   exact runC2 hm ⟨[4], [], 0, 0, [], false, [], [], []⟩ (k0 <|
    zz 18 (xnT hy1_8) <|
    ee) (by kernel_rfl)
 ·rw [if_neg hy1_1] at h
  obtain rfl := oI h
  exact runC2 hm ⟨[], [], 0, 0, [], false, [], [], []⟩ (zz 1 (xdF hy1_1) <|
   ee) (by kernel_rfl)
theorem m_slicesEqualintintq1_1_ok (n : Nat) {rnd : Option Nat} (x1_0 : NL) (x1_1 : NL) (x1_2 : Int) (st : Int) (r : (Unit) ⊕ (Unit)) (h : m_slicesEqualintintq1_1 n x1_0 x1_1 x1_2 st = some r) : CG P rnd (fnN P 37) 0 (codeOf P 37 [false, true, false, true, true]) (S_slicesEqualintintq1_1 x1_0 x1_1 x1_2 st) (X_slicesEqualintintq1_1 x1_0 x1_1 x1_2 r) :=
 CG.iter (b := codeOf P 37 [false, false, true, false, true, true]) (by kernel_rfl) (body := B_slicesEqualintintq1_1 n x1_0 x1_1 x1_2) (S := S_slicesEqualintintq1_1 x1_0 x1_1 x1_2) (X := X_slicesEqualintintq1_1 x1_0 x1_1 x1_2)
  (fun s s' h => b_slicesEqualintintq1_1 n x1_0 x1_1 x1_2 s (.inl s') h)
  (fun s r h => b_slicesEqualintintq1_1 n x1_0 x1_1 x1_2 s (.inr r) h)
  (fun r => by intro hx; rcases r with _ | _ <;> cases hx) h
def m_slicesEqualintintq1 (n : Nat) (a0 : NL) (a1 : NL) : Option (Bool) :=
 if (((a0).l.length : Nat) : Int) = (((a1).l.length : Nat) : Int) then
  match m_slicesEqualintintq1_1 n a0 a1 (((a0).l.length : Nat) : Int) 0 with
  | none => none
  | some (.inl _) =>
   some false
  | some (.inr _) =>
   some true
 else
  some false
theorem m_slicesEqualintintq1_ok (n : Nat) (a0 : NL) (a1 : NL) (r : Bool) (h : m_slicesEqualintintq1 n a0 a1 = some r) : Gv P (.func 37) (A_slicesEqualintintq1 a0 a1) (H_slicesEqualintintq1 a0 a1) (V_slicesEqualintintq1 a0 a1 r) (R_slicesEqualintintq1 a0 a1 r) := by
 unfold m_slicesEqualintintq1 at h
 by_cases hc1 : (((a0).l.length : Nat) : Int) = (((a1).l.length : Nat) : Int)
 ·rw [if_pos hc1] at h
  have k0 := fun {A L l} (k : PL A L l) => zz 8 (xnF hc1) <|
   k
  rcases hc2 : m_slicesEqualintintq1_1 n a0 a1 (((a0).l.length : Nat) : Int) 0 with _ | (⟨⟩ | ⟨⟩)
  ·rw [hc2] at h; cases h
  ·rw [hc2] at h
   dsimp only at h
   obtain rfl := oI h
   exact runF2 hm ⟨[4], [], 0, 0, [], false, [], [], []⟩ (k0 <|
    ww (p := U_slicesEqualintintq1_1 none a0 a1 (((a0).l.length : Nat) : Int) 0 (.inl ())) (m_slicesEqualintintq1_1_ok n a0 a1 (((a0).l.length : Nat) : Int) 0 (.inl ()) hc2) <|
    ll 16 ⟨⟨[0, 1, 12, 13], [], 0, 0, [], false, [], [], []⟩, (X_slicesEqualintintq1_1 a0 a1 (((a0).l.length : Nat) : Int) (.inl ())).1, (X_slicesEqualintintq1_1 a0 a1 (((a0).l.length : Nat) : Int) (.inl ())).2⟩ <|
    ee) (by kernel_rfl)
  ·rw [hc2] at h
   dsimp only at h
   obtain rfl := oI h
   exact runF2 hm ⟨[4], [], 0, 0, [], false, [], [], []⟩ (k0 <|
    ww (p := U_slicesEqualintintq1_1 none a0 a1 (((a0).l.length : Nat) : Int) 0 (.inr ())) (m_slicesEqualintintq1_1_ok n a0 a1 (((a0).l.length : Nat) : Int) 0 (.inr ()) hc2) <|
    ll 16 ⟨⟨[0, 1, 12, 13], [], 0, 0, [], false, [], [], []⟩, (X_slicesEqualintintq1_1 a0 a1 (((a0).l.length : Nat) : Int) (.inr ())).1, (X_slicesEqualintintq1_1 a0 a1 (((a0).l.length : Nat) : Int) (.inr ())).2⟩ <|
    ee) (by kernel_rfl)
 ·rw [if_neg hc1] at h
  obtain rfl := oI h
  exact runF2 hm ⟨[4], [], 0, 0, [], false, [], [], []⟩ (zz 8 (xnT hc1) <|
   ee) (by kernel_rfl)

def A_partsSame1q1 (a0 : Int) (a1 : Int) (a2 : Int) (a3 : Int) (a4 : Int) (a5 : Int) (a6 : NL) (a7 : Int) (a8 : Int) (a9 : Int) (a10 : Int) (a11 : Int) (a12 : Int) (a13 : Int) (a14 : NL) (a15 : Int) : List Value := [(Value.agg #[(i6 a0), (i6 a1), (i6 a2), (i6 a3), (i6 a4), (i6 a5), (nlV a6), (Value.int .u64 a7)]), (Value.agg #[(i6 a8), (i6 a9), (i6 a10), (i6 a11), (i6 a12), (i6 a13), (nlV a14), (Value.int .u64 a15)])]
def H_partsSame1q1 (a0 : Int) (a1 : Int) (a2 : Int) (a3 : Int) (a4 : Int) (a5 : Int) (a6 : NL) (a7 : Int) (a8 : Int) (a9 : Int) (a10 : Int) (a11 : Int) (a12 : Int) (a13 : Int) (a14 : NL) (a15 : Int) : AH := ⟨sB [], 0, 0⟩
def V_partsSame1q1 (a0 : Int) (a1 : Int) (a2 : Int) (a3 : Int) (a4 : Int) (a5 : Int) (a6 : NL) (a7 : Int) (a8 : Int) (a9 : Int) (a10 : Int) (a11 : Int) (a12 : Int) (a13 : Int) (a14 : NL) (a15 : Int) (r : Bool) : Value := match r with
 | o0 => (bO o0)
def R_partsSame1q1 (a0 : Int) (a1 : Int) (a2 : Int) (a3 : Int) (a4 : Int) (a5 : Int) (a6 : NL) (a7 : Int) (a8 : Int) (a9 : Int) (a10 : Int) (a11 : Int) (a12 : Int) (a13 : Int) (a14 : NL) (a15 : Int) (r : Bool) : AH := match r with
 | o0 => ⟨sB [], 0, 0⟩
abbrev G_partsSame1q1 (a0 : Int) (a1 : Int) (a2 : Int) (a3 : Int) (a4 : Int) (a5 : Int) (a6 : NL) (a7 : Int) (a8 : Int) (a9 : Int) (a10 : Int) (a11 : Int) (a12 : Int) (a13 : Int) (a14 : NL) (a15 : Int) (r : Bool) : Prop := Gv P (.func 36) (A_partsSame1q1 a0 a1 a2 a3 a4 a5 a6 a7 a8 a9 a10 a11 a12 a13 a14 a15) (H_partsSame1q1 a0 a1 a2 a3 a4 a5 a6 a7 a8 a9 a10 a11 a12 a13 a14 a15) (V_partsSame1q1 a0 a1 a2 a3 a4 a5 a6 a7 a8 a9 a10 a11 a12 a13 a14 a15 r) (R_partsSame1q1 a0 a1 a2 a3 a4 a5 a6 a7 a8 a9 a10 a11 a12 a13 a14 a15 r)
abbrev C_partsSame1q1 (a0 : Int) (a1 : Int) (a2 : Int) (a3 : Int) (a4 : Int) (a5 : Int) (a6 : NL) (a7 : Int) (a8 : Int) (a9 : Int) (a10 : Int) (a11 : Int) (a12 : Int) (a13 : Int) (a14 : NL) (a15 : Int) (r : Bool) (ins outs : BL) : CallA := ⟨0, ins, V_partsSame1q1 a0 a1 a2 a3 a4 a5 a6 a7 a8 a9 a10 a11 a12 a13 a14 a15 r, R_partsSame1q1 a0 a1 a2 a3 a4 a5 a6 a7 a8 a9 a10 a11 a12 a13 a14 a15 r, outs⟩
def m_partsSame1q1 (n : Nat) (a0 : Int) (a1 : Int) (a2 : Int) (a3 : Int) (a4 : Int) (a5 : Int) (a6 : NL) (a7 : Int) (a8 : Int) (a9 : Int) (a10 : Int) (a11 : Int) (a12 : Int) (a13 : Int) (a14 : NL) (a15 : Int) : Option (Bool) :=
 (m_partsFitsq1 n a0 a1 a2 a3 a4 a5 a6 a7 a8 a9 a10 a11 a12 a13 a14 a15).bind fun c1_ =>
 if c1_ = true then
  if a3 = a11 then
   if a5 = a13 then
    if a7 = a15 then
     (m_slicesEqualintintq1 n a6 a14).bind fun c6_ =>
     some c6_
    else
     some false
   else
    some false
  else
   some false
 else
  some false
theorem m_partsSame1q1_ok (n : Nat) (a0 : Int) (a1 : Int) (a2 : Int) (a3 : Int) (a4 : Int) (a5 : Int) (a6 : NL) (a7 : Int) (a8 : Int) (a9 : Int) (a10 : Int) (a11 : Int) (a12 : Int) (a13 : Int) (a14 : NL) (a15 : Int) (r : Bool) (h : m_partsSame1q1 n a0 a1 a2 a3 a4 a5 a6 a7 a8 a9 a10 a11 a12 a13 a14 a15 = some r) : Gv P (.func 36) (A_partsSame1q1 a0 a1 a2 a3 a4 a5 a6 a7 a8 a9 a10 a11 a12 a13 a14 a15) (H_partsSame1q1 a0 a1 a2 a3 a4 a5 a6 a7 a8 a9 a10 a11 a12 a13 a14 a15) (V_partsSame1q1 a0 a1 a2 a3 a4 a5 a6 a7 a8 a9 a10 a11 a12 a13 a14 a15 r) (R_partsSame1q1 a0 a1 a2 a3 a4 a5 a6 a7 a8 a9 a10 a11 a12 a13 a14 a15 r) := by
 unfold m_partsSame1q1 at h
 obtain ⟨c1_, hc1, h⟩ := oB h
 have k0 := fun {A L l} (k : PL A L l) => yy 7 (.call (C_partsFitsq1 a0 a1 a2 a3 a4 a5 a6 a7 a8 a9 a10 a11 a12 a13 a14 a15 c1_ [] [])) <|
  ww (m_partsFitsq1_ok n a0 a1 a2 a3 a4 a5 a6 a7 a8 a9 a10 a11 a12 a13 a14 a15 c1_ hc1) <|
  k
 by_cases hc2 : c1_ = true
 ·rw [if_pos hc2] at h
  have k2 := fun {A L l} (k : PL A L l) => zz 8 (xbT hc2) <|
   k
  by_cases hc3 : a3 = a11
  ·rw [if_pos hc3] at h
   have k3 := fun {A L l} (k : PL A L l) => zz 13 (xeT hc3) <|
    k
   by_cases hc4 : a5 = a13
   ·rw [if_pos hc4] at h
    have k4 := fun {A L l} (k : PL A L l) => zz 20 (xeT hc4) <|
     k
    by_cases hc5 : a7 = a15
    ·rw [if_pos hc5] at h
     obtain ⟨c6_, hc6, h⟩ := oB h
     obtain rfl := oI h
     exact runF2 hm ⟨[4], [], 0, 0, [], false, [], [], []⟩ (k0 <|
      k2 <|
      k3 <|
      k4 <|
      zz 27 (xeT hc5) <|
      yy 34 (.call (C_slicesEqualintintq1 a6 a14 c6_ [] [])) <|
      ww (m_slicesEqualintintq1_ok n a6 a14 c6_ hc6) <|
      ee) (by kernel_rfl)
    ·rw [if_neg hc5] at h
     obtain rfl := oI h
     exact runF2 hm ⟨[4], [], 0, 0, [], false, [], [], []⟩ (k0 <|
      k2 <|
      k3 <|
      k4 <|
      zz 27 (xeF hc5) <|
      ee) (by kernel_rfl)
   ·rw [if_neg hc4] at h
    obtain rfl := oI h
    exact runF2 hm ⟨[4], [], 0, 0, [], false, [], [], []⟩ (k0 <|
     k2 <|
     k3 <|
     zz 20 (xeF hc4) <|
     ee) (by kernel_rfl)
  ·rw [if_neg hc3] at h
   obtain rfl := oI h
   exact runF2 hm ⟨[4], [], 0, 0, [], false, [], [], []⟩ (k0 <|
    k2 <|
    zz 13 (xeF hc3) <|
    ee) (by kernel_rfl)
 ·rw [if_neg hc2] at h
  obtain rfl := oI h
  exact runF2 hm ⟨[4], [], 0, 0, [], false, [], [], []⟩ (k0 <|
   zz 8 (xbF hc2) <|
   ee) (by kernel_rfl)

def A_slicesEqualFuncapiPartq1 (a0 : WL rw_iiiiiiLu) (a1 : WL rw_iiiiiiLu) : List Value := [(wlV a0), (wlV a1), (Value.func (.func 36) #[] #[])]
def H_slicesEqualFuncapiPartq1 (a0 : WL rw_iiiiiiLu) (a1 : WL rw_iiiiiiLu) : AH := ⟨sB [], 0, 0⟩
def V_slicesEqualFuncapiPartq1 (a0 : WL rw_iiiiiiLu) (a1 : WL rw_iiiiiiLu) (r : Bool) : Value := match r with
 | o0 => (bO o0)
def R_slicesEqualFuncapiPartq1 (a0 : WL rw_iiiiiiLu) (a1 : WL rw_iiiiiiLu) (r : Bool) : AH := match r with
 | o0 => ⟨sB [], 0, 0⟩
abbrev G_slicesEqualFuncapiPartq1 (a0 : WL rw_iiiiiiLu) (a1 : WL rw_iiiiiiLu) (r : Bool) : Prop := Gv P (.func 35) (A_slicesEqualFuncapiPartq1 a0 a1) (H_slicesEqualFuncapiPartq1 a0 a1) (V_slicesEqualFuncapiPartq1 a0 a1 r) (R_slicesEqualFuncapiPartq1 a0 a1 r)
abbrev C_slicesEqualFuncapiPartq1 (a0 : WL rw_iiiiiiLu) (a1 : WL rw_iiiiiiLu) (r : Bool) (ins outs : BL) : CallA := ⟨0, ins, V_slicesEqualFuncapiPartq1 a0 a1 r, R_slicesEqualFuncapiPartq1 a0 a1 r, outs⟩
def S_slicesEqualFuncapiPartq1_1 (x1_0 : WL rw_iiiiiiLu) (x1_1 : WL rw_iiiiiiLu) (x1_2 : Int) (st : Int) : XSt := match st with
 | x1_3 => (sT 32 [(1, (wlV x1_0)), (2, (Value.func (.func 36) #[] #[])), (15, (wlV x1_1)), (16, (i6 x1_2)), (17, (i6 x1_3))], [], ⟨sB [], 0, 0⟩)
def X_slicesEqualFuncapiPartq1_1 (x1_0 : WL rw_iiiiiiLu) (x1_1 : WL rw_iiiiiiLu) (x1_2 : Int) (r : (Unit) ⊕ (Unit)) : Ex × XSt := match r with
 | .inl _ => (.ret, (sT 32 [(6, (bO false))], [], ⟨sB [], 0, 0⟩))
 | .inr _ => (.exit 0, (sT 32 [], [], ⟨sB [], 0, 0⟩))
abbrev Q_slicesEqualFuncapiPartq1_1 (rnd : Option Nat) (x1_0 : WL rw_iiiiiiLu) (x1_1 : WL rw_iiiiiiLu) (x1_2 : Int) (st : Int) (c : Ex × XSt) : Prop := CG P rnd (fnN P 35) 0 (codeOf P 35 [false, false, true, false, true, true]) (S_slicesEqualFuncapiPartq1_1 x1_0 x1_1 x1_2 st) c
abbrev U_slicesEqualFuncapiPartq1_1 (rd : Option Nat) (x1_0 : WL rw_iiiiiiLu) (x1_1 : WL rw_iiiiiiLu) (x1_2 : Int) (st : Int) (r : (Unit) ⊕ (Unit)) : Prop := CG P rd (fnN P 35) 0 (codeOf P 35 [false, true, false, true, true]) (S_slicesEqualFuncapiPartq1_1 x1_0 x1_1 x1_2 st) (X_slicesEqualFuncapiPartq1_1 x1_0 x1_1 x1_2 r)
def B_slicesEqualFuncapiPartq1_1 (n : Nat) (x1_0 : WL rw_iiiiiiLu) (x1_1 : WL rw_iiiiiiLu) (x1_2 : Int) (st : Int) : Option ((Int) ⊕ ((Unit) ⊕ (Unit))) := match st with
 | x1_3 =>
  if x1_3 < x1_2 then
   if 0 ≤ x1_3 ∧ x1_3 < (((x1_1).l.length : Nat) : Int) then
    ((some (((x1_1).l).getD (x1_3).toNat (0, 0, 0, 0, 0, 0, nl0, 0)))).bind fun y1_3_ =>
    if 0 ≤ x1_3 ∧ x1_3 < (((x1_0).l.length : Nat) : Int) then
     ((some (((x1_0).l).getD (x1_3).toNat (0, 0, 0, 0, 0, 0, nl0, 0)))).bind fun y1_5_ =>
     (m_partsSame1q1 n (y1_3_.1) (y1_3_.2.1) (y1_3_.2.2.1) (y1_3_.2.2.2.1) (y1_3_.2.2.2.2.1) (y1_3_.2.2.2.2.2.1) (y1_3_.2.2.2.2.2.2.1) (y1_3_.2.2.2.2.2.2.2) (y1_5_.1) (y1_5_.2.1) (y1_5_.2.2.1) (y1_5_.2.2.2.1) (y1_5_.2.2.2.2.1) (y1_5_.2.2.2.2.2.1) (y1_5_.2.2.2.2.2.2.1) (y1_5_.2.2.2.2.2.2.2)).bind fun y1_6_ =>
     if y1_6_ = true then
      some (.inl (w64 (x1_3 + (1 : Int))))
     else
      some (.inr (.inl ()))
    else none
   else none
  else
   some (.inr (.inr ()))
def m_slicesEqualFuncapiPartq1_1 (n : Nat) (x1_0 : WL rw_iiiiiiLu) (x1_1 : WL rw_iiiiiiLu) (x1_2 : Int) (st : Int) : Option ((Unit) ⊕ (Unit)) := iterM (B_slicesEqualFuncapiPartq1_1 n x1_0 x1_1 x1_2) n st
theorem b_slicesEqualFuncapiPartq1_1 (n : Nat) {rnd : Option Nat} (x1_0 : WL rw_iiiiiiLu) (x1_1 : WL rw_iiiiiiLu) (x1_2 : Int) (x1_3 : Int) (o : (Int) ⊕ ((Unit) ⊕ (Unit))) (h : B_slicesEqualFuncapiPartq1_1 n x1_0 x1_1 x1_2 x1_3 = some o) : CG P rnd (fnN P 35) 0 (codeOf P 35 [false, false, true, false, true, true]) (S_slicesEqualFuncapiPartq1_1 x1_0 x1_1 x1_2 x1_3) (Sum.elim (fun s => (.normal, S_slicesEqualFuncapiPartq1_1 x1_0 x1_1 x1_2 s)) (fun r => X_slicesEqualFuncapiPartq1_1 x1_0 x1_1 x1_2 r) o) := by
 unfold B_slicesEqualFuncapiPartq1_1 at h
 dsimp only at h
 by_cases hy1_1 : x1_3 < x1_2
 ·rw [if_pos hy1_1] at h
  obtain ⟨hy1_2, h⟩ := gd h
  obtain ⟨y1_3_, hy1_3, h⟩ := oB h
  obtain ⟨hy1_4, h⟩ := gd h
  obtain ⟨y1_5_, hy1_5, h⟩ := oB h
  obtain ⟨y1_6_, hy1_6, h⟩ := oB h
  have k0 := fun {A L l} (k : PL A L l) => zz 1 (xdT hy1_1) <|
   zz 8 (xk1 (x1_1).num (x1_1).off (x1_1).cap hy1_2) <|
   zz 9 (lk2 hy1_3 (toNatLt hy1_2)) <|
   zz 16 (xk1 (x1_0).num (x1_0).off (x1_0).cap hy1_4) <|
   zz 17 (lk2 hy1_5 (toNatLt hy1_4)) <|
   yy 24 (.call (C_partsSame1q1 (y1_3_.1) (y1_3_.2.1) (y1_3_.2.2.1) (y1_3_.2.2.2.1) (y1_3_.2.2.2.2.1) (y1_3_.2.2.2.2.2.1) (y1_3_.2.2.2.2.2.2.1) (y1_3_.2.2.2.2.2.2.2) (y1_5_.1) (y1_5_.2.1) (y1_5_.2.2.1) (y1_5_.2.2.2.1) (y1_5_.2.2.2.2.1) (y1_5_.2.2.2.2.2.1) (y1_5_.2.2.2.2.2.2.1) (y1_5_.2.2.2.2.2.2.2) y1_6_ [] [])) <|
   ww (m_partsSame1q1_ok n (y1_3_.1) (y1_3_.2.1) (y1_3_.2.2.1) (y1_3_.2.2.2.1) (y1_3_.2.2.2.2.1) (y1_3_.2.2.2.2.2.1) (y1_3_.2.2.2.2.2.2.1) (y1_3_.2.2.2.2.2.2.2) (y1_5_.1) (y1_5_.2.1) (y1_5_.2.2.1) (y1_5_.2.2.2.1) (y1_5_.2.2.2.2.1) (y1_5_.2.2.2.2.2.1) (y1_5_.2.2.2.2.2.2.1) (y1_5_.2.2.2.2.2.2.2) y1_6_ hy1_6) <|
   k
  by_cases hy1_7 : y1_6_ = true
  ·rw [if_pos hy1_7] at h
   obtain rfl := oI h
   exact runC2 hm ⟨[1, 2, 15, 16, 17], [], 0, 0, [], false, [], [], []⟩ (k0 <|
    yy 25 (vf) <|
    ww (p := (Value.bool (!y1_6_)) = (Value.bool false)) (vBn hy1_7) <|
    ee) (by kernel_rfl)
  ·rw [if_neg hy1_7] at h
   obtain rfl := oI h
   exact runC2 hm ⟨[6], [], 0, 0, [], false, [], [], []⟩ (k0 <|
    yy 25 (vt) <|
    ww (p := (Value.bool (!y1_6_)) = (Value.bool true)) (vBn (Bool.eq_false_iff.2 hy1_7)) <|
    ee) (by kernel_rfl)
 ·rw [if_neg hy1_1] at h
  obtain rfl := oI h
  exact runC2 hm ⟨[], [], 0, 0, [], false, [], [], []⟩ (zz 1 (xdF hy1_1) <|
   ee) (by kernel_rfl)
theorem m_slicesEqualFuncapiPartq1_1_ok (n : Nat) {rnd : Option Nat} (x1_0 : WL rw_iiiiiiLu) (x1_1 : WL rw_iiiiiiLu) (x1_2 : Int) (st : Int) (r : (Unit) ⊕ (Unit)) (h : m_slicesEqualFuncapiPartq1_1 n x1_0 x1_1 x1_2 st = some r) : CG P rnd (fnN P 35) 0 (codeOf P 35 [false, true, false, true, true]) (S_slicesEqualFuncapiPartq1_1 x1_0 x1_1 x1_2 st) (X_slicesEqualFuncapiPartq1_1 x1_0 x1_1 x1_2 r) :=
 CG.iter (b := codeOf P 35 [false, false, true, false, true, true]) (by kernel_rfl) (body := B_slicesEqualFuncapiPartq1_1 n x1_0 x1_1 x1_2) (S := S_slicesEqualFuncapiPartq1_1 x1_0 x1_1 x1_2) (X := X_slicesEqualFuncapiPartq1_1 x1_0 x1_1 x1_2)
  (fun s s' h => b_slicesEqualFuncapiPartq1_1 n x1_0 x1_1 x1_2 s (.inl s') h)
  (fun s r h => b_slicesEqualFuncapiPartq1_1 n x1_0 x1_1 x1_2 s (.inr r) h)
  (fun r => by intro hx; rcases r with _ | _ <;> cases hx) h
def m_slicesEqualFuncapiPartq1 (n : Nat) (a0 : WL rw_iiiiiiLu) (a1 : WL rw_iiiiiiLu) : Option (Bool) :=
 if (((a0).l.length : Nat) : Int) = (((a1).l.length : Nat) : Int) then
  match m_slicesEqualFuncapiPartq1_1 n a1 a0 (((a0).l.length : Nat) : Int) 0 with
  | none => none
  | some (.inl _) =>
   some false
  | some (.inr _) =>
   some true
 else
  some false
theorem m_slicesEqualFuncapiPartq1_ok (n : Nat) (a0 : WL rw_iiiiiiLu) (a1 : WL rw_iiiiiiLu) (r : Bool) (h : m_slicesEqualFuncapiPartq1 n a0 a1 = some r) : Gv P (.func 35) (A_slicesEqualFuncapiPartq1 a0 a1) (H_slicesEqualFuncapiPartq1 a0 a1) (V_slicesEqualFuncapiPartq1 a0 a1 r) (R_slicesEqualFuncapiPartq1 a0 a1 r) := by
 unfold m_slicesEqualFuncapiPartq1 at h
 by_cases hc1 : (((a0).l.length : Nat) : Int) = (((a1).l.length : Nat) : Int)
 ·rw [if_pos hc1] at h
  have k0 := fun {A L l} (k : PL A L l) => zz 8 (xnF hc1) <|
   k
  rcases hc2 : m_slicesEqualFuncapiPartq1_1 n a1 a0 (((a0).l.length : Nat) : Int) 0 with _ | (⟨⟩ | ⟨⟩)
  ·rw [hc2] at h; cases h
  ·rw [hc2] at h
   dsimp only at h
   obtain rfl := oI h
   exact runF2 hm ⟨[6], [], 0, 0, [], false, [], [], []⟩ (k0 <|
    ww (p := U_slicesEqualFuncapiPartq1_1 none a1 a0 (((a0).l.length : Nat) : Int) 0 (.inl ())) (m_slicesEqualFuncapiPartq1_1_ok n a1 a0 (((a0).l.length : Nat) : Int) 0 (.inl ()) hc2) <|
    ll 16 ⟨⟨[1, 2, 15, 16, 17], [], 0, 0, [], false, [], [], []⟩, (X_slicesEqualFuncapiPartq1_1 a1 a0 (((a0).l.length : Nat) : Int) (.inl ())).1, (X_slicesEqualFuncapiPartq1_1 a1 a0 (((a0).l.length : Nat) : Int) (.inl ())).2⟩ <|
    ee) (by kernel_rfl)
  ·rw [hc2] at h
   dsimp only at h
   obtain rfl := oI h
   exact runF2 hm ⟨[6], [], 0, 0, [], false, [], [], []⟩ (k0 <|
    ww (p := U_slicesEqualFuncapiPartq1_1 none a1 a0 (((a0).l.length : Nat) : Int) 0 (.inr ())) (m_slicesEqualFuncapiPartq1_1_ok n a1 a0 (((a0).l.length : Nat) : Int) 0 (.inr ()) hc2) <|
    ll 16 ⟨⟨[1, 2, 15, 16, 17], [], 0, 0, [], false, [], [], []⟩, (X_slicesEqualFuncapiPartq1_1 a1 a0 (((a0).l.length : Nat) : Int) (.inr ())).1, (X_slicesEqualFuncapiPartq1_1 a1 a0 (((a0).l.length : Nat) : Int) (.inr ())).2⟩ <|
    ee) (by kernel_rfl)
 ·rw [if_neg hc1] at h
  obtain rfl := oI h
  exact runF2 hm ⟨[6], [], 0, 0, [], false, [], [], []⟩ (zz 8 (xnT hc1) <|
   ee) (by kernel_rfl)

def A_partsSameq1 (a0 : WL rw_iiiiiiLu) (a1 : WL rw_iiiiiiLu) : List Value := [(wlV a0), (wlV a1)]
def H_partsSameq1 (a0 : WL rw_iiiiiiLu) (a1 : WL rw_iiiiiiLu) : AH := ⟨sB [], 0, 0⟩
def V_partsSameq1 (a0 : WL rw_iiiiiiLu) (a1 : WL rw_iiiiiiLu) (r : Bool) : Value := match r with
 | o0 => (bO o0)
def R_partsSameq1 (a0 : WL rw_iiiiiiLu) (a1 : WL rw_iiiiiiLu) (r : Bool) : AH := match r with
 | o0 => ⟨sB [], 0, 0⟩
abbrev G_partsSameq1 (a0 : WL rw_iiiiiiLu) (a1 : WL rw_iiiiiiLu) (r : Bool) : Prop := Gv P (.func 28) (A_partsSameq1 a0 a1) (H_partsSameq1 a0 a1) (V_partsSameq1 a0 a1 r) (R_partsSameq1 a0 a1 r)
abbrev C_partsSameq1 (a0 : WL rw_iiiiiiLu) (a1 : WL rw_iiiiiiLu) (r : Bool) (ins outs : BL) : CallA := ⟨0, ins, V_partsSameq1 a0 a1 r, R_partsSameq1 a0 a1 r, outs⟩
def m_partsSameq1 (n : Nat) (a0 : WL rw_iiiiiiLu) (a1 : WL rw_iiiiiiLu) : Option (Bool) :=
 (m_slicesEqualFuncapiPartq1 n a0 a1).bind fun c1_ =>
 some c1_
theorem m_partsSameq1_ok (n : Nat) (a0 : WL rw_iiiiiiLu) (a1 : WL rw_iiiiiiLu) (r : Bool) (h : m_partsSameq1 n a0 a1 = some r) : Gv P (.func 28) (A_partsSameq1 a0 a1) (H_partsSameq1 a0 a1) (V_partsSameq1 a0 a1 r) (R_partsSameq1 a0 a1 r) := by
 unfold m_partsSameq1 at h
 obtain ⟨c1_, hc1, h⟩ := oB h
 obtain rfl := oI h
 exact runF2 hm ⟨[4], [], 0, 0, [], false, [], [], []⟩ (yy 5 (.call (C_slicesEqualFuncapiPartq1 a0 a1 c1_ [] [])) <|
  ww (m_slicesEqualFuncapiPartq1_ok n a0 a1 c1_ hc1) <|
  ee) (by kernel_rfl)

def A_treeSameq1 (a0 : WL rw_iiiiiiLu) (a1 : WL rw_iiiiiiLu) : List Value := [(wlV a0), (wlV a1)]
def H_treeSameq1 (a0 : WL rw_iiiiiiLu) (a1 : WL rw_iiiiiiLu) : AH := ⟨sB [], 0, 0⟩
def V_treeSameq1 (a0 : WL rw_iiiiiiLu) (a1 : WL rw_iiiiiiLu) (r : Bool) : Value := match r with
 | o0 => (bO o0)
def R_treeSameq1 (a0 : WL rw_iiiiiiLu) (a1 : WL rw_iiiiiiLu) (r : Bool) : AH := match r with
 | o0 => ⟨sB [], 0, 0⟩
abbrev G_treeSameq1 (a0 : WL rw_iiiiiiLu) (a1 : WL rw_iiiiiiLu) (r : Bool) : Prop := Gv P (.func 11) (A_treeSameq1 a0 a1) (H_treeSameq1 a0 a1) (V_treeSameq1 a0 a1 r) (R_treeSameq1 a0 a1 r)
abbrev C_treeSameq1 (a0 : WL rw_iiiiiiLu) (a1 : WL rw_iiiiiiLu) (r : Bool) (ins outs : BL) : CallA := ⟨0, ins, V_treeSameq1 a0 a1 r, R_treeSameq1 a0 a1 r, outs⟩
def m_treeSameq1 (n : Nat) (a0 : WL rw_iiiiiiLu) (a1 : WL rw_iiiiiiLu) : Option (Bool) :=
 (m_partsSameq1 n a0 a1).bind fun c1_ =>
 some c1_
theorem m_treeSameq1_ok (n : Nat) (a0 : WL rw_iiiiiiLu) (a1 : WL rw_iiiiiiLu) (r : Bool) (h : m_treeSameq1 n a0 a1 = some r) : Gv P (.func 11) (A_treeSameq1 a0 a1) (H_treeSameq1 a0 a1) (V_treeSameq1 a0 a1 r) (R_treeSameq1 a0 a1 r) := by
 unfold m_treeSameq1 at h
 obtain ⟨c1_, hc1, h⟩ := oB h
 obtain rfl := oI h
 exact runF2 hm ⟨[4], [], 0, 0, [], false, [], [], []⟩ (yy 5 (.call (C_partsSameq1 a0 a1 c1_ [] [])) <|
  ww (m_partsSameq1_ok n a0 a1 c1_ hc1) <|
  ee) (by kernel_rfl)

def A_viewportkitOwnapiPartq1 (a0 : WL rw_iiiiiiLu) : List Value := [(wlV a0)]
def H_viewportkitOwnapiPartq1 (a0 : WL rw_iiiiiiLu) : AH := ⟨sB [], 0, 0⟩
def V_viewportkitOwnapiPartq1 (a0 : WL rw_iiiiiiLu) (r : (List R8) ⊕ (Unit)) : Value := match r with
 | .inl o0 => (sN 0 0 (o0).length (Nat.add big 8))
 | .inr _ => (sN 0 0 0 0)
def R_viewportkitOwnapiPartq1 (a0 : WL rw_iiiiiiLu) (r : (List R8) ⊕ (Unit)) : AH := match r with
 | .inl o0 => ⟨sB [(0, (some (.cells (layT (rows rw_iiiiiiLu o0)) 39)))], 1, 0⟩
 | .inr _ => ⟨sB [(0, (some (.cells (layT []) 39)))], 1, 0⟩
abbrev G_viewportkitOwnapiPartq1 (a0 : WL rw_iiiiiiLu) (r : (List R8) ⊕ (Unit)) : Prop := Gv P (.func 29) (A_viewportkitOwnapiPartq1 a0) (H_viewportkitOwnapiPartq1 a0) (V_viewportkitOwnapiPartq1 a0 r) (R_viewportkitOwnapiPartq1 a0 r)
abbrev C_viewportkitOwnapiPartq1 (a0 : WL rw_iiiiiiLu) (r : (List R8) ⊕ (Unit)) (ins outs : BL) : CallA := ⟨0, ins, V_viewportkitOwnapiPartq1 a0 r, R_viewportkitOwnapiPartq1 a0 r, outs⟩
def m_viewportkitOwnapiPartq1 (n : Nat) (a0 : WL rw_iiiiiiLu) : Option ((List R8) ⊕ (Unit)) :=
 if 0 < (a0).l.length then
  if (0 + (a0).l.length) * 80 ≤ 140737488355328 then
   if 0 < 0 + (a0).l.length then
    some (.inl (([] : List R8) ++ (a0).l))
   else none
  else none
 else
  some (.inr ())
theorem m_viewportkitOwnapiPartq1_ok (n : Nat) (a0 : WL rw_iiiiiiLu) (r : (List R8) ⊕ (Unit)) (h : m_viewportkitOwnapiPartq1 n a0 = some r) : Gv P (.func 29) (A_viewportkitOwnapiPartq1 a0) (H_viewportkitOwnapiPartq1 a0) (V_viewportkitOwnapiPartq1 a0 r) (R_viewportkitOwnapiPartq1 a0 r) := by
 unfold m_viewportkitOwnapiPartq1 at h
 by_cases hc1 : 0 < (a0).l.length
 ·rw [if_pos hc1] at h
  obtain ⟨hc2, h⟩ := gd h
  obtain ⟨hc3, h⟩ := gd h
  obtain rfl := oI h
  exact runF2 hm ⟨[2], [(0, 1, true)], 1, 0, [], false, [], [], []⟩ (ww (p := (a0).l.length = (a0).l.length) (rfl) <|
   ww (p := ((a0).l.length = 0 ∧ (rows rw_iiiiiiLu (a0).l) = []) ∨ ∃ y, Tabs.win (a0).num = some y ∧ rdL y.2.2 (Nat.mul (a0).l.length 8) (a0).off = some (rows rw_iiiiiiLu (a0).l)) (srcR rwf_iiiiiiLu a0) <|
   yy 5 (.app ⟨some ((a0).l.length, (rows rw_iiiiiiLu (a0).l)), ([] : List Value), (rows rw_iiiiiiLu (([] : List R8) ++ (a0).l)), ((([] : List R8) ++ (a0).l)).length, true⟩) <|
   ww (p := 0 < (a0).l.length) (hc1) <|
   ww (p := 0 < big) ((by decide)) <|
   ww (p := 0 < Nat.add 0 (a0).l.length) (hc3) <|
   ww (p := rdT (layT ([] : List Value)) (Nat.mul 0 8) 0 = some (([] : List Value))) (rfl) <|
   ww (p := fits (Nat.add 0 (a0).l.length) 80 = true) (fits_ok hc2 (by have := hc2; show (_ : Nat) + _ ≤ _; omega)) <|
   ww (p := ([] : List Value) ++ (rows rw_iiiiiiLu (a0).l) = (rows rw_iiiiiiLu (([] : List R8) ++ (a0).l))) (rows_app rw_iiiiiiLu ([] : List R8) (a0).l) <|
   ww (p := Nat.add 0 (a0).l.length = ((([] : List R8) ++ (a0).l)).length) (by simp <;> (try simp only [List.length_cons] at *) <;> omega) <|
   ww (rows_flat rwf_iiiiiiLu (([] : List R8) ++ (a0).l) 39) <|
   ee) (by kernel_rfl)
 ·rw [if_neg hc1] at h
  obtain rfl := oI h
  exact runF2 hm ⟨[2], [(0, 0, false)], 1, 0, [], false, [], [], []⟩ (yy 5 (.app0) <|
   ww (p := 0 = (a0).l.length) ((by have := hc1; omega)) <|
   ww (p := ((a0).l.length = 0 ∧ ([] : List Value) = []) ∨ ∃ y, Tabs.win (a0).num = some y ∧ rdL y.2.2 (Nat.mul (a0).l.length 8) (a0).off = some ([] : List Value)) (.inl ⟨(by have := hc1; omega), rfl⟩) <|
   ww (p := ∀ H : AH, appTop H 8 39 80 (0, []) (sN 0 0 0 0) = some ((sN 0 0 0 0), H)) (fun _ => rfl) <|
   ee) (by kernel_rfl)

def A_viewportkitOwnintq1 (a0 : NL) : List Value := [(nlV a0)]
def H_viewportkitOwnintq1 (a0 : NL) : AH := ⟨sB [], 0, 0⟩
def V_viewportkitOwnintq1 (a0 : NL) (r : NL) : Value := match r with
 | o0 => (nlV o0)
def R_viewportkitOwnintq1 (a0 : NL) (r : NL) : AH := match r with
 | o0 => ⟨sB [], 0, 0⟩
abbrev G_viewportkitOwnintq1 (a0 : NL) (r : NL) : Prop := Gv P (.func 30) (A_viewportkitOwnintq1 a0) (H_viewportkitOwnintq1 a0) (V_viewportkitOwnintq1 a0 r) (R_viewportkitOwnintq1 a0 r)
abbrev C_viewportkitOwnintq1 (a0 : NL) (r : NL) (ins outs : BL) : CallA := ⟨0, ins, V_viewportkitOwnintq1 a0 r, R_viewportkitOwnintq1 a0 r, outs⟩
def m_viewportkitOwnintq1 (n : Nat) (a0 : NL) : Option (NL) :=
 if 0 < (a0).l.length then
  if (0 + (a0).l.length) * 8 ≤ 140737488355328 then
   if 0 < 0 + (a0).l.length then
    if hc4 : (([] : List Int) ++ (a0).l).length ≤ 140737488355328 then
     some (frzL (([] : List Int) ++ (a0).l) hc4)
    else none
   else none
  else none
 else
  if hc2 : [].length ≤ 140737488355328 then
   some (frzL [] hc2)
  else none
theorem m_viewportkitOwnintq1_ok (n : Nat) (a0 : NL) (r : NL) (h : m_viewportkitOwnintq1 n a0 = some r) : Gv P (.func 30) (A_viewportkitOwnintq1 a0) (H_viewportkitOwnintq1 a0) (V_viewportkitOwnintq1 a0 r) (R_viewportkitOwnintq1 a0 r) := by
 unfold m_viewportkitOwnintq1 at h
 by_cases hc1 : 0 < (a0).l.length
 ·rw [if_pos hc1] at h
  obtain ⟨hc2, h⟩ := gd h
  obtain ⟨hc3, h⟩ := gd h
  obtain ⟨hc4, h⟩ := gdD h
  obtain rfl := oI h
  exact runF2 hm ⟨[2], [], 0, 0, [(1, Nat.add (2 * cod (([] : List Int) ++ (a0).l) + 1) 64)], true, [], [], []⟩ (ww (p := (a0).l.length = (a0).l.length) (rfl) <|
   ww (p := ((a0).l.length = 0 ∧ (iv (a0).l) = []) ∨ ∃ y, Tabs.win (Nat.add (a0).num 64) = some y ∧ rdL y.2.2 (Nat.mul (a0).l.length 1) (a0).off = some (iv (a0).l)) (srcN a0) <|
   yy 5 (.app ⟨some ((a0).l.length, (iv (a0).l)), ([] : List Value), (iv (([] : List Int) ++ (a0).l)), ((([] : List Int) ++ (a0).l)).length, true⟩) <|
   ww (p := 0 < (a0).l.length) (hc1) <|
   ww (p := 0 < big) ((by decide)) <|
   ww (p := 0 < Nat.add 0 (a0).l.length) (hc3) <|
   ww (p := rdT (layT ([] : List Value)) (Nat.mul 0 1) 0 = some (([] : List Value))) (rfl) <|
   ww (p := fits (Nat.add 0 (a0).l.length) 8 = true) (fits_ok hc2 (by have := hc2; show (_ : Nat) + _ ≤ _; omega)) <|
   ww (p := ([] : List Value) ++ (iv (a0).l) = (iv (([] : List Int) ++ (a0).l))) (by simp [iv]) <|
   ww (p := Nat.add 0 (a0).l.length = ((([] : List Int) ++ (a0).l)).length) (by simp <;> (try simp only [List.length_cons] at *) <;> omega) <|
   ww (frz_ok wins_nest wins_odd (([] : List Int) ++ (a0).l)) <|
   ee) (by kernel_rfl)
 ·rw [if_neg hc1] at h
  obtain ⟨hc2, h⟩ := gdD h
  obtain rfl := oI h
  exact runF2 hm ⟨[2], [], 0, 0, [(0, Nat.add (2 * cod [] + 1) 64)], true, [], [], []⟩ (yy 5 (.app0) <|
   ww (p := 0 = (a0).l.length) ((by have := hc1; omega)) <|
   ww (p := ((a0).l.length = 0 ∧ ([] : List Value) = []) ∨ ∃ y, Tabs.win (Nat.add (a0).num 64) = some y ∧ rdL y.2.2 (Nat.mul (a0).l.length 1) (a0).off = some ([] : List Value)) (.inl ⟨(by have := hc1; omega), rfl⟩) <|
   ww (p := ∀ H : AH, appTop H 1 3 8 (0, []) (sN 0 0 0 0) = some ((sN 0 0 0 0), H)) (fun _ => rfl) <|
   ww (frz_ok wins_nest wins_odd []) <|
   ee) (by kernel_rfl)

def A_viewportkitOwnPartsq1 (a0 : WL rw_iiiiiiLu) : List Value := [(wlV a0)]
def H_viewportkitOwnPartsq1 (a0 : WL rw_iiiiiiLu) : AH := ⟨sB [], 0, 0⟩
def V_viewportkitOwnPartsq1 (a0 : WL rw_iiiiiiLu) (r : List R8 × Nat) : Value := match r with
 | (o0, o1) => (slEQ o0 0 o1 8)
def R_viewportkitOwnPartsq1 (a0 : WL rw_iiiiiiLu) (r : List R8 × Nat) : AH := match r with
 | (o0, o1) => ⟨sB [(0, (some (.cells (layT (rows rw_iiiiiiLu o0)) 39)))], 1, 0⟩
abbrev G_viewportkitOwnPartsq1 (a0 : WL rw_iiiiiiLu) (r : List R8 × Nat) : Prop := Gv P (.func 12) (A_viewportkitOwnPartsq1 a0) (H_viewportkitOwnPartsq1 a0) (V_viewportkitOwnPartsq1 a0 r) (R_viewportkitOwnPartsq1 a0 r)
abbrev C_viewportkitOwnPartsq1 (a0 : WL rw_iiiiiiLu) (r : List R8 × Nat) (ins outs : BL) : CallA := ⟨0, ins, V_viewportkitOwnPartsq1 a0 r, R_viewportkitOwnPartsq1 a0 r, outs⟩
def S_viewportkitOwnPartsq1_1 (x1_1 : Nat) (st : List R8 × Int) : XSt := match st with
 | (x1_0, x1_2) => (sT 24 [(3, (slEQ x1_0 0 x1_1 8)), (4, (i6 x1_2))], [], ⟨sB [(0, (some (.cells (layT (rows rw_iiiiiiLu x1_0)) 39)))], 1, 0⟩)
def X_viewportkitOwnPartsq1_1 (x1_1 : Nat) (r : List R8 × Nat) : Ex × XSt := match r with
 | (z1_0, z1_1) => (.exit 0, (sT 24 [(3, (slEQ z1_0 0 z1_1 8))], [], ⟨sB [(0, (some (.cells (layT (rows rw_iiiiiiLu z1_0)) 39)))], 1, 0⟩))
abbrev Q_viewportkitOwnPartsq1_1 (rnd : Option Nat) (x1_1 : Nat) (st : List R8 × Int) (c : Ex × XSt) : Prop := CG P rnd (fnN P 12) 0 (codeOf P 12 [false, false, true, false, true, true]) (S_viewportkitOwnPartsq1_1 x1_1 st) c
abbrev U_viewportkitOwnPartsq1_1 (rd : Option Nat) (x1_1 : Nat) (st : List R8 × Int) (r : List R8 × Nat) : Prop := CG P rd (fnN P 12) 0 (codeOf P 12 [false, true, false, true, true]) (S_viewportkitOwnPartsq1_1 x1_1 st) (X_viewportkitOwnPartsq1_1 x1_1 r)
def B_viewportkitOwnPartsq1_1 (n : Nat) (x1_1 : Nat) (st : List R8 × Int) : Option ((List R8 × Int) ⊕ (List R8 × Nat)) := match st with
 | (x1_0, x1_2) =>
  match x1_0 with
  | [] =>
   if x1_2 < (0 : Int) then
    none
   else
    some (.inr (([] : List R8), 0))
  | x1_0a :: x1_0t =>
   if x1_2 < ((x1_1 : Nat) : Int) then
    if 0 ≤ x1_2 ∧ x1_2 < ((x1_1 : Nat) : Int) then
     if (x1_2).toNat < ((x1_0a :: x1_0t)).length then
      ((some (((x1_0a :: x1_0t)).getD (x1_2).toNat (0, 0, 0, 0, 0, 0, nl0, 0)))).bind fun y1_4_ =>
      (m_viewportkitOwnintq1 n (y1_4_.2.2.2.2.2.2.1)).bind fun y1_5_ =>
      some (.inl ((((x1_0a :: x1_0t)).set (x1_2).toNat ((y1_4_.1), (y1_4_.2.1), (y1_4_.2.2.1), (y1_4_.2.2.2.1), (y1_4_.2.2.2.2.1), (y1_4_.2.2.2.2.2.1), y1_5_, (y1_4_.2.2.2.2.2.2.2))), (w64 (x1_2 + (1 : Int)))))
     else none
    else none
   else
    some (.inr ((x1_0a :: x1_0t), x1_1))
def m_viewportkitOwnPartsq1_1 (n : Nat) (x1_1 : Nat) (st : List R8 × Int) : Option (List R8 × Nat) := iterM (B_viewportkitOwnPartsq1_1 n x1_1) n st
theorem b_viewportkitOwnPartsq1_1 (n : Nat) {rnd : Option Nat} (x1_1 : Nat) (st : List R8 × Int) (o : (List R8 × Int) ⊕ (List R8 × Nat)) (h : B_viewportkitOwnPartsq1_1 n x1_1 st = some o) : CG P rnd (fnN P 12) 0 (codeOf P 12 [false, false, true, false, true, true]) (S_viewportkitOwnPartsq1_1 x1_1 st) (Sum.elim (fun s => (.normal, S_viewportkitOwnPartsq1_1 x1_1 s)) (fun r => X_viewportkitOwnPartsq1_1 x1_1 r) o) := by
 obtain ⟨x1_0, x1_2⟩ := st
 unfold B_viewportkitOwnPartsq1_1 at h
 dsimp only at h
 cases x1_0 with
 | nil =>
  dsimp only at h
  by_cases hy1_1 : x1_2 < (0 : Int)
  ·rw [if_pos hy1_1] at h
   cases h
  ·rw [if_neg hy1_1] at h
   obtain rfl := oI h
   exact runC2 hm ⟨[3], [(0, 0, false)], 1, 0, [], false, [], [], []⟩ (zz 5 (xdF hy1_1) <|
    ee) (by kernel_rfl)
 | cons x1_0a x1_0t =>
  dsimp only at h
  by_cases hy1_1 : x1_2 < ((x1_1 : Nat) : Int)
  ·rw [if_pos hy1_1] at h
   obtain ⟨hy1_2, h⟩ := gd h
   obtain ⟨hy1_3, h⟩ := gd h
   obtain ⟨y1_4_, hy1_4, h⟩ := oB h
   obtain ⟨y1_5_, hy1_5, h⟩ := oB h
   obtain rfl := oI h
   obtain ⟨za, zt, hz⟩ : ∃ a t, (((x1_0a :: x1_0t)).set (x1_2).toNat ((y1_4_.1), (y1_4_.2.1), (y1_4_.2.2.1), (y1_4_.2.2.2.1), (y1_4_.2.2.2.2.1), (y1_4_.2.2.2.2.2.1), y1_5_, (y1_4_.2.2.2.2.2.2.2))) = a :: t := set_cons
   rw [hz]
   exact runC2 hm ⟨[3, 4], [(0, 0, true)], 1, 0, [], false, [], [], []⟩ (zz 5 (xdT hy1_1) <|
    zz 13 (xk12 0 U8 hy1_2) <|
    zz 15 (ok13 hy1_4 (hy1_3)) <|
    yy 16 (.call (C_viewportkitOwnintq1 (y1_4_.2.2.2.2.2.2.1) y1_5_ [] [])) <|
    ww (m_viewportkitOwnintq1_ok n (y1_4_.2.2.2.2.2.2.1) y1_5_ hy1_5) <|
    zz 17 (xk12 0 U8 hy1_2) <|
    yy 19 (.sto (layT (rows rw_iiiiiiLu (za :: zt)))) <|
    ww (p := ∃ old, rdT (layT (rows rw_iiiiiiLu (x1_0a :: x1_0t))) 1 (Nat.add ((x1_2).toNat * 8) 6) = some old) (Exists.elim (rows_stN rwf_iiiiiiLu (0, 0, 0, 0, 0, 0, nl0, 0) (hr := hy1_4) (i := (x1_2).toNat) (j := 6) (l := [(nlV y1_5_)]) ((y1_4_.1), (y1_4_.2.1), (y1_4_.2.2.1), (y1_4_.2.2.2.1), (y1_4_.2.2.2.2.1), (y1_4_.2.2.2.2.2.1), y1_5_, (y1_4_.2.2.2.2.2.2.2)) (Nat.add ((x1_2).toNat * 8) 6) rfl (hy1_3) (Nat.le_of_ble_eq_true rfl) rfl) fun o h => ⟨o, h.1⟩) <|
    ww (p := layL [(nlV y1_5_)] (Nat.add ((x1_2).toNat * 8) 6) (layT (rows rw_iiiiiiLu (x1_0a :: x1_0t))) = layT (rows rw_iiiiiiLu (za :: zt))) (by rw [← hz]; exact (Exists.elim (rows_stN rwf_iiiiiiLu (0, 0, 0, 0, 0, 0, nl0, 0) (hr := hy1_4) (i := (x1_2).toNat) (j := 6) (l := [(nlV y1_5_)]) ((y1_4_.1), (y1_4_.2.1), (y1_4_.2.2.1), (y1_4_.2.2.2.1), (y1_4_.2.2.2.2.1), (y1_4_.2.2.2.2.2.1), y1_5_, (y1_4_.2.2.2.2.2.2.2)) (Nat.add ((x1_2).toNat * 8) 6) rfl (hy1_3) (Nat.le_of_ble_eq_true rfl) rfl) fun o h => h.2)) <|
    ww (rows_flat rwf_iiiiiiLu (za :: zt) 39) <|
    ee) (by kernel_rfl)
  ·rw [if_neg hy1_1] at h
   obtain rfl := oI h
   exact runC2 hm ⟨[3], [(0, 0, true)], 1, 0, [], false, [], [], []⟩ (zz 5 (xdF hy1_1) <|
    ww (rows_flat rwf_iiiiiiLu (x1_0a :: x1_0t) 39) <|
    ee) (by kernel_rfl)
theorem m_viewportkitOwnPartsq1_1_ok (n : Nat) {rnd : Option Nat} (x1_1 : Nat) (st : List R8 × Int) (r : List R8 × Nat) (h : m_viewportkitOwnPartsq1_1 n x1_1 st = some r) : CG P rnd (fnN P 12) 0 (codeOf P 12 [false, true, false, true, true]) (S_viewportkitOwnPartsq1_1 x1_1 st) (X_viewportkitOwnPartsq1_1 x1_1 r) :=
 CG.iter (b := codeOf P 12 [false, false, true, false, true, true]) (by kernel_rfl) (body := B_viewportkitOwnPartsq1_1 n x1_1) (S := S_viewportkitOwnPartsq1_1 x1_1) (X := X_viewportkitOwnPartsq1_1 x1_1)
  (fun s s' h => b_viewportkitOwnPartsq1_1 n x1_1 s (.inl s') h)
  (fun s r h => b_viewportkitOwnPartsq1_1 n x1_1 s (.inr r) h)
  (fun r => by intro hx; cases hx) h
def m_viewportkitOwnPartsq1 (n : Nat) (a0 : WL rw_iiiiiiLu) : Option (List R8 × Nat) :=
 match m_viewportkitOwnapiPartq1 n a0 with
 | none => none
 | some (.inl c1_) =>
  match c1_ with
  | [] =>
   none
  | c1_a :: c1_t =>
   (m_viewportkitOwnPartsq1_1 n (((c1_a :: c1_t)).length) ((c1_a :: c1_t), 0)).bind fun t => match t with
   | (c2_0, c2_1) =>
    match c2_0 with
    | [] =>
     some (([] : List R8), 0)
    | c2_0a :: c2_0t =>
     some ((c2_0a :: c2_0t), c2_1)
 | some (.inr _) =>
  (m_viewportkitOwnPartsq1_1 n 0 (([] : List R8), 0)).bind fun t => match t with
  | (c2_0, c2_1) =>
   match c2_0 with
   | [] =>
    some (([] : List R8), 0)
   | c2_0a :: c2_0t =>
    some ((c2_0a :: c2_0t), c2_1)
theorem m_viewportkitOwnPartsq1_ok (n : Nat) (a0 : WL rw_iiiiiiLu) (r : List R8 × Nat) (h : m_viewportkitOwnPartsq1 n a0 = some r) : Gv P (.func 12) (A_viewportkitOwnPartsq1 a0) (H_viewportkitOwnPartsq1 a0) (V_viewportkitOwnPartsq1 a0 r) (R_viewportkitOwnPartsq1 a0 r) := by
 unfold m_viewportkitOwnPartsq1 at h
 rcases hc1 : m_viewportkitOwnapiPartq1 n a0 with _ | (c1_ | ⟨⟩)
 ·rw [hc1] at h; cases h
 ·rw [hc1] at h
  dsimp only at h
  cases c1_ with
  | nil =>
   dsimp only at h
   cases h
  | cons c1_a c1_t =>
   dsimp only at h
   obtain ⟨⟨c2_0, c2_1⟩, hc2, h⟩ := oB h
   dsimp only at h
   have k0 := fun {A L l} (k : PL A L l) => yy 4 (.call (C_viewportkitOwnapiPartq1 a0 (.inl (c1_a :: c1_t)) [] [(0, 0, true)])) <|
    ww (m_viewportkitOwnapiPartq1_ok n a0 (.inl (c1_a :: c1_t)) hc1) <|
    ww (rows_flat rwf_iiiiiiLu (c1_a :: c1_t) 39) <|
    k
   cases c2_0 with
   | nil =>
    dsimp only at h
    obtain rfl := oI h
    exact runF2 hm ⟨[2], [(0, 0, true)], 1, 0, [], false, [], [], []⟩ (k0 <|
     ww (p := U_viewportkitOwnPartsq1_1 none (((c1_a :: c1_t)).length) ((c1_a :: c1_t), 0) (([] : List R8), c2_1)) (m_viewportkitOwnPartsq1_1_ok n (((c1_a :: c1_t)).length) ((c1_a :: c1_t), 0) (([] : List R8), c2_1) hc2) <|
     ww (rows_flat rwf_iiiiiiLu (c1_a :: c1_t) 39) <|
     ll 10 ⟨⟨[3, 4], [(0, 0, true)], 1, 0, [], false, [], [], []⟩, (X_viewportkitOwnPartsq1_1 (((c1_a :: c1_t)).length) (([] : List R8), c2_1)).1, (X_viewportkitOwnPartsq1_1 (((c1_a :: c1_t)).length) (([] : List R8), c2_1)).2⟩ <|
     ww (rows_flat rwf_iiiiiiLu ([] : List R8) 39) <|
     ee) (by kernel_rfl)
   | cons c2_0a c2_0t =>
    dsimp only at h
    obtain rfl := oI h
    exact runF2 hm ⟨[2], [(0, 0, true)], 1, 0, [], false, [], [], []⟩ (k0 <|
     ww (p := U_viewportkitOwnPartsq1_1 none (((c1_a :: c1_t)).length) ((c1_a :: c1_t), 0) ((c2_0a :: c2_0t), c2_1)) (m_viewportkitOwnPartsq1_1_ok n (((c1_a :: c1_t)).length) ((c1_a :: c1_t), 0) ((c2_0a :: c2_0t), c2_1) hc2) <|
     ww (rows_flat rwf_iiiiiiLu (c1_a :: c1_t) 39) <|
     ll 10 ⟨⟨[3, 4], [(0, 0, true)], 1, 0, [], false, [], [], []⟩, (X_viewportkitOwnPartsq1_1 (((c1_a :: c1_t)).length) ((c2_0a :: c2_0t), c2_1)).1, (X_viewportkitOwnPartsq1_1 (((c1_a :: c1_t)).length) ((c2_0a :: c2_0t), c2_1)).2⟩ <|
     ww (rows_flat rwf_iiiiiiLu (c2_0a :: c2_0t) 39) <|
     ee) (by kernel_rfl)
 ·rw [hc1] at h
  dsimp only at h
  obtain ⟨⟨c2_0, c2_1⟩, hc2, h⟩ := oB h
  dsimp only at h
  have k0 := fun {A L l} (k : PL A L l) => yy 4 (.call (C_viewportkitOwnapiPartq1 a0 (.inr ()) [] [(0, 0, false)])) <|
   ww (m_viewportkitOwnapiPartq1_ok n a0 (.inr ()) hc1) <|
   k
  cases c2_0 with
  | nil =>
   dsimp only at h
   obtain rfl := oI h
   exact runF2 hm ⟨[2], [(0, 0, true)], 1, 0, [], false, [], [], []⟩ (k0 <|
    ww (p := U_viewportkitOwnPartsq1_1 none 0 (([] : List R8), 0) (([] : List R8), c2_1)) (m_viewportkitOwnPartsq1_1_ok n 0 (([] : List R8), 0) (([] : List R8), c2_1) hc2) <|
    ll 10 ⟨⟨[3, 4], [(0, 0, false)], 1, 0, [], false, [], [], []⟩, (X_viewportkitOwnPartsq1_1 0 (([] : List R8), c2_1)).1, (X_viewportkitOwnPartsq1_1 0 (([] : List R8), c2_1)).2⟩ <|
    ww (rows_flat rwf_iiiiiiLu ([] : List R8) 39) <|
    ee) (by kernel_rfl)
  | cons c2_0a c2_0t =>
   dsimp only at h
   obtain rfl := oI h
   exact runF2 hm ⟨[2], [(0, 0, true)], 1, 0, [], false, [], [], []⟩ (k0 <|
    ww (p := U_viewportkitOwnPartsq1_1 none 0 (([] : List R8), 0) ((c2_0a :: c2_0t), c2_1)) (m_viewportkitOwnPartsq1_1_ok n 0 (([] : List R8), 0) ((c2_0a :: c2_0t), c2_1) hc2) <|
    ll 10 ⟨⟨[3, 4], [(0, 0, false)], 1, 0, [], false, [], [], []⟩, (X_viewportkitOwnPartsq1_1 0 ((c2_0a :: c2_0t), c2_1)).1, (X_viewportkitOwnPartsq1_1 0 ((c2_0a :: c2_0t), c2_1)).2⟩ <|
    ww (rows_flat rwf_iiiiiiLu (c2_0a :: c2_0t) 39) <|
    ee) (by kernel_rfl)

def A_viewportlaw16TreePuts (g1 : Int) (g2 : Int) : List Value := [(wlV wA), (i6 g1), (Value.int .u64 g2)]
def H_viewportlaw16TreePuts (g1 : Int) (g2 : Int) : AH := ⟨sB [], 0, 0⟩
def V_viewportlaw16TreePuts (g1 : Int) (g2 : Int) (r : Bool) : Value := match r with
 | o0 => (bO o0)
def R_viewportlaw16TreePuts (g1 : Int) (g2 : Int) (r : Bool) : AH := match r with
 | o0 => ⟨sB [], 0, 0⟩
abbrev G_viewportlaw16TreePuts (g1 : Int) (g2 : Int) (r : Bool) : Prop := Gv P (.func 3) (A_viewportlaw16TreePuts g1 g2) (H_viewportlaw16TreePuts g1 g2) (V_viewportlaw16TreePuts g1 g2 r) (R_viewportlaw16TreePuts g1 g2 r)
abbrev C_viewportlaw16TreePuts (g1 : Int) (g2 : Int) (r : Bool) (ins outs : BL) : CallA := ⟨0, ins, V_viewportlaw16TreePuts g1 g2 r, R_viewportlaw16TreePuts g1 g2 r, outs⟩
def S_viewportlaw16TreePutst1 (x1_0 : WL rw_iiiiiiLu) (x1_1 : Int) (x1_2 : WL rw_iiiiiiLu) (x1_3 : WL rw_iiiiiiLu) (st : Unit) : XSt := (sT 120 [(0, (wlV x1_0)), (1, (i6 x1_1)), (7, (wlV x1_2)), (10, (wlV x1_3))], [], ⟨sB [], 0, 0⟩)
def X_viewportlaw16TreePutst1 (x1_0 : WL rw_iiiiiiLu) (x1_1 : Int) (x1_2 : WL rw_iiiiiiLu) (x1_3 : WL rw_iiiiiiLu) (r : Bool) : Ex × XSt := match r with
 | z1_0 => (.ret, (sT 120 [(6, (bO z1_0))], [], ⟨sB [], 0, 0⟩))
abbrev U_viewportlaw16TreePutst1 (rd : Option Nat) (x1_0 : WL rw_iiiiiiLu) (x1_1 : Int) (x1_2 : WL rw_iiiiiiLu) (x1_3 : WL rw_iiiiiiLu) (st : Unit) (r : Bool) : Prop := CG P rd (fnN P 3) 0 (codeOf P 3 [true, true, true, true, true, true, true, true, true]) (S_viewportlaw16TreePutst1 x1_0 x1_1 x1_2 x1_3 st) (X_viewportlaw16TreePutst1 x1_0 x1_1 x1_2 x1_3 r)
def m_viewportlaw16TreePutst1 (n : Nat) (x1_0 : WL rw_iiiiiiLu) (x1_1 : Int) (x1_2 : WL rw_iiiiiiLu) (x1_3 : WL rw_iiiiiiLu) (st : Unit) : Option (Bool) :=
 (m_treePutq1 n x1_0 x1_1 x1_3).bind fun t => match t with
 | (y1_1_0, y1_1_1) =>
  if y1_1_1 = (0 : Int) then
   ((some (w64 ((((x1_0).l.length : Nat) : Int) - (((x1_2).l.length : Nat) : Int))))).bind fun y1_3_ =>
   if (((y1_1_0).l.length : Nat) : Int) = (w64 (y1_3_ + (1 : Int))) then
    (m_treeCheckq1 n y1_1_0).bind fun y1_5_ =>
    if y1_5_ = (0 : Int) then
     (m_treeSubq1 n y1_1_0 x1_1).bind fun y1_7_ =>
     (m_treeSameq1 n y1_7_ x1_3).bind fun y1_8_ =>
     if y1_8_ = true then
      (m_treePutq1 n y1_1_0 x1_1 x1_2).bind fun t => match t with
      | (y1_10_0, y1_10_1) =>
       if y1_10_1 = (0 : Int) then
        (m_treeSameq1 n y1_10_0 x1_0).bind fun y1_12_ =>
        some y1_12_
       else
        none
     else
      none
    else
     none
   else
    none
  else
   none
theorem m_viewportlaw16TreePutst1_ok (n : Nat) {rnd : Option Nat} (x1_0 : WL rw_iiiiiiLu) (x1_1 : Int) (x1_2 : WL rw_iiiiiiLu) (x1_3 : WL rw_iiiiiiLu) (st : Unit) (r : Bool) (h : m_viewportlaw16TreePutst1 n x1_0 x1_1 x1_2 x1_3 st = some r) : CG P rnd (fnN P 3) 0 (codeOf P 3 [true, true, true, true, true, true, true, true, true]) (S_viewportlaw16TreePutst1 x1_0 x1_1 x1_2 x1_3 st) (X_viewportlaw16TreePutst1 x1_0 x1_1 x1_2 x1_3 r) := by
 unfold m_viewportlaw16TreePutst1 at h
 obtain ⟨⟨y1_1_0, y1_1_1⟩, hy1_1, h⟩ := oB h
 dsimp only at h
 have k0 := fun {A L l} (k : PL A L l) => yy 4 (.call (C_treePutq1 x1_0 x1_1 x1_3 (y1_1_0, y1_1_1) [] [])) <|
  ww (m_treePutq1_ok n x1_0 x1_1 x1_3 (y1_1_0, y1_1_1) hy1_1) <|
  k
 by_cases hy1_2 : y1_1_1 = (0 : Int)
 ·rw [if_pos hy1_2] at h
  obtain ⟨y1_3_, hy1_3, h⟩ := oB h
  have k2 := fun {A L l} (k : PL A L l) => zz 13 (xnF hy1_2) <|
   zz 21 (xnm hy1_3) <|
   k
  by_cases hy1_4 : (((y1_1_0).l.length : Nat) : Int) = (w64 (y1_3_ + (1 : Int)))
  ·rw [if_pos hy1_4] at h
   obtain ⟨y1_5_, hy1_5, h⟩ := oB h
   have k4 := fun {A L l} (k : PL A L l) => zz 23 (xnF hy1_4) <|
    yy 27 (.call (C_treeCheckq1 y1_1_0 y1_5_ [] [])) <|
    ww (m_treeCheckq1_ok n y1_1_0 y1_5_ hy1_5) <|
    k
   by_cases hy1_6 : y1_5_ = (0 : Int)
   ·rw [if_pos hy1_6] at h
    obtain ⟨y1_7_, hy1_7, h⟩ := oB h
    obtain ⟨y1_8_, hy1_8, h⟩ := oB h
    have k7 := fun {A L l} (k : PL A L l) => zz 28 (xnF hy1_6) <|
     yy 33 (.call (C_treeSubq1 y1_1_0 x1_1 y1_7_ [] [])) <|
     ww (m_treeSubq1_ok n y1_1_0 x1_1 y1_7_ hy1_7) <|
     yy 35 (.call (C_treeSameq1 y1_7_ x1_3 y1_8_ [] [])) <|
     ww (m_treeSameq1_ok n y1_7_ x1_3 y1_8_ hy1_8) <|
     k
    by_cases hy1_9 : y1_8_ = true
    ·rw [if_pos hy1_9] at h
     obtain ⟨⟨y1_10_0, y1_10_1⟩, hy1_10, h⟩ := oB h
     dsimp only at h
     have k12 := fun {A L l} (k : PL A L l) => yy 36 (vf) <|
      ww (p := (Value.bool (!y1_8_)) = (Value.bool false)) (vBn hy1_9) <|
      yy 43 (.call (C_treePutq1 y1_1_0 x1_1 x1_2 (y1_10_0, y1_10_1) [] [])) <|
      ww (m_treePutq1_ok n y1_1_0 x1_1 x1_2 (y1_10_0, y1_10_1) hy1_10) <|
      k
     by_cases hy1_11 : y1_10_1 = (0 : Int)
     ·rw [if_pos hy1_11] at h
      obtain ⟨y1_12_, hy1_12, h⟩ := oB h
      obtain rfl := oI h
      exact runC2 hm ⟨[6], [], 0, 0, [], false, [], [], []⟩ (k0 <|
       k2 <|
       k4 <|
       k7 <|
       k12 <|
       zz 51 (xeT hy1_11) <|
       yy 55 (.call (C_treeSameq1 y1_10_0 x1_0 y1_12_ [] [])) <|
       ww (m_treeSameq1_ok n y1_10_0 x1_0 y1_12_ hy1_12) <|
       ee) (by kernel_rfl)
     ·rw [if_neg hy1_11] at h
      cases h
    ·rw [if_neg hy1_9] at h
     cases h
   ·rw [if_neg hy1_6] at h
    cases h
  ·rw [if_neg hy1_4] at h
   cases h
 ·rw [if_neg hy1_2] at h
  cases h
def m_viewportlaw16TreePuts (n : Nat) (g1 : Int) (g2 : Int) : Option (Bool) :=
 (m_viewportlaw16lives n).bind fun _ =>
 (m_viewportlaw16lightq1 n wA 0 0 0).bind fun c2_ =>
 if c2_ = true then
  (m_treeCheckq1 n wA).bind fun c4_ =>
  if c4_ = (0 : Int) then
   (m_viewportkitPickq1 n g1 (((wA).l.length : Nat) : Int)).bind fun c6_ =>
   (m_treeSubq1 n wA c6_).bind fun c7_ =>
   (m_treePutq1 n wA c6_ c7_).bind fun t => match t with
   | (c8_0, c8_1) =>
    if (((c7_).l.length : Nat) : Int) = (0 : Int) then
     none
    else
     (m_treeEndq1 n wA c6_).bind fun c10_ =>
     if (((c7_).l.length : Nat) : Int) = (w64 (c10_ - c6_)) then
      if c8_1 = (0 : Int) then
       (m_treeSameq1 n c8_0 wA).bind fun c13_ =>
       if c13_ = true then
        if hc15 : 0 ≤ 1 ∧ 1 ≤ (c7_).l.length then
         (m_viewportkitOwnPartsq1 n (wlSub rwf_iiiiiiLu c7_ 0 1 hc15)).bind fun t => match t with
         | (c16_0, c16_1) =>
          match c16_0 with
          | [] =>
           none
          | c16_0a :: c16_0t =>
           if 0 ≤ (0 : Int) ∧ (0 : Int) < ((c16_1 : Nat) : Int) then
            if ((0 : Int)).toNat < ((c16_0a :: c16_0t)).length then
             ((some (((c16_0a :: c16_0t)).getD ((0 : Int)).toNat (0, 0, 0, 0, 0, 0, nl0, 0)))).bind fun c19_ =>
             if c16_1 = (((c16_0a :: c16_0t)).set ((0 : Int)).toNat ((c19_.1), (c19_.2.1), (c19_.2.2.1), (c19_.2.2.2.1), (c19_.2.2.2.2.1), (c19_.2.2.2.2.2.1), nl0, g2)).length then
              if hc21 : (((c16_0a :: c16_0t)).set ((0 : Int)).toNat ((c19_.1), (c19_.2.1), (c19_.2.2.1), (c19_.2.2.2.1), (c19_.2.2.2.2.1), (c19_.2.2.2.2.2.1), nl0, g2)).length ≤ 9223372036854775807 then
               (m_viewportlaw16TreePutst1 n wA c6_ c7_ (frzR rwo_iiiiiiLu (((c16_0a :: c16_0t)).set ((0 : Int)).toNat ((c19_.1), (c19_.2.1), (c19_.2.2.1), (c19_.2.2.2.1), (c19_.2.2.2.2.1), (c19_.2.2.2.2.2.1), nl0, g2)) hc21) ()).bind fun c22_ =>
               some c22_
              else none
             else none
            else none
           else none
        else none
       else
        none
      else
       none
     else
      none
  else
   some true
 else
  some true
theorem m_viewportlaw16TreePuts_ok (n : Nat) (g1 : Int) (g2 : Int) (r : Bool) (h : m_viewportlaw16TreePuts n g1 g2 = some r) : Gv P (.func 3) (A_viewportlaw16TreePuts g1 g2) (H_viewportlaw16TreePuts g1 g2) (V_viewportlaw16TreePuts g1 g2 r) (R_viewportlaw16TreePuts g1 g2 r) := by
 unfold m_viewportlaw16TreePuts at h
 obtain ⟨_, hc1, h⟩ := oB h
 obtain ⟨c2_, hc2, h⟩ := oB h
 have k0 := fun {A L l} (k : PL A L l) => yy 4 (.call ⟨0, [], (Value.bool true), Ax.h0, []⟩) <|
  ww (m_viewportlaw16lives_ok n  () hc1) <|
  yy 11 (.call (C_viewportlaw16lightq1 wA 0 0 0 c2_ [] [])) <|
  ww (m_viewportlaw16lightq1_ok n wA 0 0 0 c2_ hc2) <|
  k
 by_cases hc3 : c2_ = true
 ·rw [if_pos hc3] at h
  obtain ⟨c4_, hc4, h⟩ := oB h
  have k4 := fun {A L l} (k : PL A L l) => yy 12 (vf) <|
   ww (p := (Value.bool (!c2_)) = (Value.bool false)) (vBn hc3) <|
   yy 15 (.call (C_treeCheckq1 wA c4_ [] [])) <|
   ww (m_treeCheckq1_ok n wA c4_ hc4) <|
   k
  by_cases hc5 : c4_ = (0 : Int)
  ·rw [if_pos hc5] at h
   obtain ⟨c6_, hc6, h⟩ := oB h
   obtain ⟨c7_, hc7, h⟩ := oB h
   obtain ⟨⟨c8_0, c8_1⟩, hc8, h⟩ := oB h
   dsimp only at h
   have k8 := fun {A L l} (k : PL A L l) => zz 16 (xnF hc5) <|
    yy 23 (.call (C_viewportkitPickq1 g1 (((wA).l.length : Nat) : Int) c6_ [] [])) <|
    ww (m_viewportkitPickq1_ok n g1 (((wA).l.length : Nat) : Int) c6_ hc6) <|
    yy 28 (.call (C_treeSubq1 wA c6_ c7_ [] [])) <|
    ww (m_treeSubq1_ok n wA c6_ c7_ hc7) <|
    yy 34 (.call (C_treePutq1 wA c6_ c7_ (c8_0, c8_1) [] [])) <|
    ww (m_treePutq1_ok n wA c6_ c7_ (c8_0, c8_1) hc8) <|
    k
   by_cases hc9 : (((c7_).l.length : Nat) : Int) = (0 : Int)
   ·rw [if_pos hc9] at h
    cases h
   ·rw [if_neg hc9] at h
    obtain ⟨c10_, hc10, h⟩ := oB h
    have k15 := fun {A L l} (k : PL A L l) => zz 44 (xeF hc9) <|
     yy 50 (.call (C_treeEndq1 wA c6_ c10_ [] [])) <|
     ww (m_treeEndq1_ok n wA c6_ c10_ hc10) <|
     k
    by_cases hc11 : (((c7_).l.length : Nat) : Int) = (w64 (c10_ - c6_))
    ·rw [if_pos hc11] at h
     have k18 := fun {A L l} (k : PL A L l) => zz 53 (xnF hc11) <|
      k
     by_cases hc12 : c8_1 = (0 : Int)
     ·rw [if_pos hc12] at h
      obtain ⟨c13_, hc13, h⟩ := oB h
      have k19 := fun {A L l} (k : PL A L l) => zz 57 (xnF hc12) <|
       yy 62 (.call (C_treeSameq1 c8_0 wA c13_ [] [])) <|
       ww (m_treeSameq1_ok n c8_0 wA c13_ hc13) <|
       k
      by_cases hc14 : c13_ = true
      ·rw [if_pos hc14] at h
       obtain ⟨hc15, h⟩ := gdD h
       replace h := oB h
       obtain ⟨⟨c16_0, c16_1⟩, hc16, h⟩ := h
       dsimp only at h
       have k22 := fun {A L l} (k : PL A L l) => yy 63 (vf) <|
        ww (p := (Value.bool (!c13_)) = (Value.bool false)) (vBn hc14) <|
        yy 68 (.pur (wlV (wlSub rwf_iiiiiiLu c7_ 0 1 hc15))) <|
        ww (p := opSlice P 22 (wlV c7_) none (some (i6 (1 : Int))) none Ax.h0 = some ((wlV (wlSub rwf_iiiiiiLu c7_ 0 1 hc15)), Ax.h0)) (slWL (e := 39) rwf_iiiiiiLu c7_ (by kernel_rfl) (by kernel_rfl) rfl rfl hc15) <|
        k
       cases c16_0 with
       | nil =>
        dsimp only at h
        cases h
       | cons c16_0a c16_0t =>
        dsimp only at h
        replace h := gd h
        obtain ⟨hc17, h⟩ := h
        replace h := gd h
        obtain ⟨hc18, h⟩ := h
        replace h := oB h
        obtain ⟨c19_, hc19, h⟩ := h
        have k26 := fun {A L l} (k : PL A L l) => yy 69 (.call (C_viewportkitOwnPartsq1 (wlSub rwf_iiiiiiLu c7_ 0 1 hc15) ((c16_0a :: c16_0t), c16_1) [] [(1, 0, true)])) <|
         ww (m_viewportkitOwnPartsq1_ok n (wlSub rwf_iiiiiiLu c7_ 0 1 hc15) ((c16_0a :: c16_0t), c16_1) hc16) <|
         ww (rows_flat rwf_iiiiiiLu (c16_0a :: c16_0t) 39) <|
         zz 75 (xk12 1 U8 hc17) <|
         yy 77 (.sto (layT (rows rw_iiiiiiLu (((c16_0a :: c16_0t)).set ((0 : Int)).toNat ((c19_.1), (c19_.2.1), (c19_.2.2.1), (c19_.2.2.2.1), (c19_.2.2.2.2.1), (c19_.2.2.2.2.2.1), (c19_.2.2.2.2.2.2.1), g2))))) <|
         ww (p := ∃ old, rdT (layT (rows rw_iiiiiiLu (c16_0a :: c16_0t))) 1 (Nat.add (((0 : Int)).toNat * 8) 7) = some old) (Exists.elim (rows_stN rwf_iiiiiiLu (0, 0, 0, 0, 0, 0, nl0, 0) (hr := hc19) (i := ((0 : Int)).toNat) (j := 7) (l := [(Value.int .u64 g2)]) ((c19_.1), (c19_.2.1), (c19_.2.2.1), (c19_.2.2.2.1), (c19_.2.2.2.2.1), (c19_.2.2.2.2.2.1), (c19_.2.2.2.2.2.2.1), g2) (Nat.add (((0 : Int)).toNat * 8) 7) rfl (hc18) (Nat.le_of_ble_eq_true rfl) rfl) fun o h => ⟨o, h.1⟩) <|
         ww (p := layL [(Value.int .u64 g2)] (Nat.add (((0 : Int)).toNat * 8) 7) (layT (rows rw_iiiiiiLu (c16_0a :: c16_0t))) = layT (rows rw_iiiiiiLu (((c16_0a :: c16_0t)).set ((0 : Int)).toNat ((c19_.1), (c19_.2.1), (c19_.2.2.1), (c19_.2.2.2.1), (c19_.2.2.2.2.1), (c19_.2.2.2.2.2.1), (c19_.2.2.2.2.2.2.1), g2)))) (Exists.elim (rows_stN rwf_iiiiiiLu (0, 0, 0, 0, 0, 0, nl0, 0) (hr := hc19) (i := ((0 : Int)).toNat) (j := 7) (l := [(Value.int .u64 g2)]) ((c19_.1), (c19_.2.1), (c19_.2.2.1), (c19_.2.2.2.1), (c19_.2.2.2.2.1), (c19_.2.2.2.2.2.1), (c19_.2.2.2.2.2.2.1), g2) (Nat.add (((0 : Int)).toNat * 8) 7) rfl (hc18) (Nat.le_of_ble_eq_true rfl) rfl) fun o h => h.2) <|
         zz 78 (xk12 1 U8 hc17) <|
         yy 80 (.sto (layL [Value.slice none 0 0] (Nat.add (((0 : Int)).toNat * 8) 6) (layT (rows rw_iiiiiiLu (((c16_0a :: c16_0t)).set ((0 : Int)).toNat ((c19_.1), (c19_.2.1), (c19_.2.2.1), (c19_.2.2.2.1), (c19_.2.2.2.2.1), (c19_.2.2.2.2.2.1), (c19_.2.2.2.2.2.2.1), g2)))))) <|
         ww (p := ∃ old, rdT (layT (rows rw_iiiiiiLu (((c16_0a :: c16_0t)).set ((0 : Int)).toNat ((c19_.1), (c19_.2.1), (c19_.2.2.1), (c19_.2.2.2.1), (c19_.2.2.2.2.1), (c19_.2.2.2.2.2.1), (c19_.2.2.2.2.2.2.1), g2)))) 1 (Nat.add (((0 : Int)).toNat * 8) 6) = some old) (⟨_, rows_rdpS rwf_iiiiiiLu (i := ((0 : Int)).toNat) (j := 6) ((c19_.1), (c19_.2.1), (c19_.2.2.1), (c19_.2.2.2.1), (c19_.2.2.2.2.1), (c19_.2.2.2.2.2.1), (c19_.2.2.2.2.2.2.1), g2) (Nat.add (((0 : Int)).toNat * 8) 6) rfl (hc18) (by decide) rfl⟩) <|
         ww (p := layL [Value.slice none 0 0] (Nat.add (((0 : Int)).toNat * 8) 6) (layT (rows rw_iiiiiiLu (((c16_0a :: c16_0t)).set ((0 : Int)).toNat ((c19_.1), (c19_.2.1), (c19_.2.2.1), (c19_.2.2.2.1), (c19_.2.2.2.2.1), (c19_.2.2.2.2.2.1), (c19_.2.2.2.2.2.2.1), g2)))) = layL [Value.slice none 0 0] (Nat.add (((0 : Int)).toNat * 8) 6) (layT (rows rw_iiiiiiLu (((c16_0a :: c16_0t)).set ((0 : Int)).toNat ((c19_.1), (c19_.2.1), (c19_.2.2.1), (c19_.2.2.2.1), (c19_.2.2.2.2.1), (c19_.2.2.2.2.2.1), (c19_.2.2.2.2.2.2.1), g2))))) (rfl) <|
         k
        replace h := gd h
        obtain ⟨hc20, h⟩ := h
        subst hc20
        replace h := gdD h
        obtain ⟨hc21, h⟩ := h
        replace h := oB h
        obtain ⟨c22_, hc22, h⟩ := h
        obtain rfl := oI h
        exact runF2 hm ⟨[6], [], 0, 0, [], false, [], [], []⟩ (k0 <|
         k4 <|
         k8 <|
         k15 <|
         k18 <|
         k19 <|
         k22 <|
         k26 <|
         ww (p := U_viewportlaw16TreePutst1 none wA c6_ c7_ (frzR rwo_iiiiiiLu (((c16_0a :: c16_0t)).set ((0 : Int)).toNat ((c19_.1), (c19_.2.1), (c19_.2.2.1), (c19_.2.2.2.1), (c19_.2.2.2.2.1), (c19_.2.2.2.2.2.1), nl0, g2)) hc21) () c22_) (m_viewportlaw16TreePutst1_ok n wA c6_ c7_ (frzR rwo_iiiiiiLu (((c16_0a :: c16_0t)).set ((0 : Int)).toNat ((c19_.1), (c19_.2.1), (c19_.2.2.1), (c19_.2.2.2.1), (c19_.2.2.2.2.1), (c19_.2.2.2.2.2.1), nl0, g2)) hc21) () c22_ hc22) <|
         ww (frz_okN wins_nest wins_odd rwo_iiiiiiLu (((c16_0a :: c16_0t)).set ((0 : Int)).toNat ((c19_.1), (c19_.2.1), (c19_.2.2.1), (c19_.2.2.2.1), (c19_.2.2.2.2.1), (c19_.2.2.2.2.2.1), nl0, g2)) (Exists.elim (rows_stS rwf_iiiiiiLu (i := ((0 : Int)).toNat) (j := 6) (l := [nlV nl0]) ((c19_.1), (c19_.2.1), (c19_.2.2.1), (c19_.2.2.2.1), (c19_.2.2.2.2.1), (c19_.2.2.2.2.2.1), (c19_.2.2.2.2.2.2.1), g2) ((c19_.1), (c19_.2.1), (c19_.2.2.1), (c19_.2.2.2.1), (c19_.2.2.2.2.1), (c19_.2.2.2.2.2.1), nl0, g2) (Nat.add (((0 : Int)).toNat * 8) 6) rfl (hc18) (Nat.le_of_ble_eq_true rfl) rfl) fun o h => h.2)) <|
         ll 81 ⟨⟨[0, 1, 7, 10], [], 0, 0, [(1, Nat.add (2 * codL (rows rw_iiiiiiLu (((c16_0a :: c16_0t)).set ((0 : Int)).toNat ((c19_.1), (c19_.2.1), (c19_.2.2.1), (c19_.2.2.2.1), (c19_.2.2.2.2.1), (c19_.2.2.2.2.2.1), nl0, g2))) + 1) 64)], true, [], [], []⟩, (X_viewportlaw16TreePutst1 wA c6_ c7_ (frzR rwo_iiiiiiLu (((c16_0a :: c16_0t)).set ((0 : Int)).toNat ((c19_.1), (c19_.2.1), (c19_.2.2.1), (c19_.2.2.2.1), (c19_.2.2.2.2.1), (c19_.2.2.2.2.2.1), nl0, g2)) hc21) c22_).1, (X_viewportlaw16TreePutst1 wA c6_ c7_ (frzR rwo_iiiiiiLu (((c16_0a :: c16_0t)).set ((0 : Int)).toNat ((c19_.1), (c19_.2.1), (c19_.2.2.1), (c19_.2.2.2.1), (c19_.2.2.2.2.1), (c19_.2.2.2.2.2.1), nl0, g2)) hc21) c22_).2⟩ <|
         ee) (by kernel_rfl)
      ·rw [if_neg hc14] at h
       cases h
     ·rw [if_neg hc12] at h
      cases h
    ·rw [if_neg hc11] at h
     cases h
  ·rw [if_neg hc5] at h
   obtain rfl := oI h
   exact runF2 hm ⟨[6], [], 0, 0, [], false, [], [], []⟩ (k0 <|
    k4 <|
    zz 16 (xnT hc5) <|
    ee) (by kernel_rfl)
 ·rw [if_neg hc3] at h
  obtain rfl := oI h
  exact runF2 hm ⟨[6], [], 0, 0, [], false, [], [], []⟩ (k0 <|
   yy 12 (vt) <|
   ww (p := (Value.bool (!c2_)) = (Value.bool true)) (vBn (Bool.eq_false_iff.2 hc3)) <|
   ee) (by kernel_rfl)

end Go.Proofs.Ytdoidamfhkbgdaa.tpt16
