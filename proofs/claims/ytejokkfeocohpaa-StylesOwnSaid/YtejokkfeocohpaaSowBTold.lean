/-
  What functions do, told by pure functions. No condition.
-/
import Derived.Test.YtejokkfeocohpaaSowATold
set_option linter.unusedSimpArgs false
set_option linter.unusedVariables false
set_option linter.unusedSectionVars false
set_option linter.unnecessarySimpa false
set_option maxRecDepth 100000
noncomputable section
namespace Go.Proofs.Ytejokkfeocohpaa.sow26
open Go Go.Proofs.Ytejokkfeocohpaa Ax
variable [Args]
def A_slicesValuesapiStyleq1 (a0 : List (Int × NL × Int × Int)) : List Value := [(sN 0 0 (a0).length (Nat.add big 4))]
def H_slicesValuesapiStyleq1 (a0 : List (Int × NL × Int × Int)) : AH := ⟨sB [(0, (some (.cells (layT (rows rw_iLii a0)) 36)))], 1, 1⟩
def V_slicesValuesapiStyleq1 (a0 : List (Int × NL × Int × Int)) (r : Unit) : Value := match r with
 | _ => (Value.func (.func 26) #[] #[(pN 1 0)])
def R_slicesValuesapiStyleq1 (a0 : List (Int × NL × Int × Int)) (r : Unit) : AH := match r with
 | _ => ⟨sB [(0, (some (.cells (layT (rows rw_iLii a0)) 36))), (1, (some (.cells (layT [(sN 0 0 (a0).length (Nat.add big 4))]) 22)))], 2, 1⟩
abbrev G_slicesValuesapiStyleq1 (a0 : List (Int × NL × Int × Int)) (r : Unit) : Prop := Gv P (.func 20) (A_slicesValuesapiStyleq1 a0) (H_slicesValuesapiStyleq1 a0) (V_slicesValuesapiStyleq1 a0 r) (R_slicesValuesapiStyleq1 a0 r)
abbrev C_slicesValuesapiStyleq1 (a0 : List (Int × NL × Int × Int)) (r : Unit) (ins outs : BL) : CallA := ⟨1, ins, V_slicesValuesapiStyleq1 a0 r, R_slicesValuesapiStyleq1 a0 r, outs⟩
def m_slicesValuesapiStyleq1 (n : Nat) (a0 : List (Int × NL × Int × Int)) : Option (Unit) :=
 some ()
theorem m_slicesValuesapiStyleq1_ok (n : Nat) (a0 : List (Int × NL × Int × Int)) (r : Unit) (h : m_slicesValuesapiStyleq1 n a0 = some r) : Gv P (.func 20) (A_slicesValuesapiStyleq1 a0) (H_slicesValuesapiStyleq1 a0) (V_slicesValuesapiStyleq1 a0 r) (R_slicesValuesapiStyleq1 a0 r) := by
 unfold m_slicesValuesapiStyleq1 at h
 obtain rfl := oI h
 exact runF2 hm ⟨[2], [(0, 0, true), (1, 1, false)], 2, 1, [], false, [], [], []⟩ (ww (rows_flat rwf_iLii a0 36) <|
  ee) (by kernel_rfl)

def A_slicesEqualintintq1 (a0 : NL) (a1 : NL) : List Value := [(nlV a0), (nlV a1)]
def H_slicesEqualintintq1 (a0 : NL) (a1 : NL) : AH := ⟨sB [], 0, 0⟩
def V_slicesEqualintintq1 (a0 : NL) (a1 : NL) (r : Bool) : Value := match r with
 | o0 => (bO o0)
def R_slicesEqualintintq1 (a0 : NL) (a1 : NL) (r : Bool) : AH := match r with
 | o0 => ⟨sB [], 0, 0⟩
abbrev G_slicesEqualintintq1 (a0 : NL) (a1 : NL) (r : Bool) : Prop := Gv P (.func 31) (A_slicesEqualintintq1 a0 a1) (H_slicesEqualintintq1 a0 a1) (V_slicesEqualintintq1 a0 a1 r) (R_slicesEqualintintq1 a0 a1 r)
abbrev C_slicesEqualintintq1 (a0 : NL) (a1 : NL) (r : Bool) (ins outs : BL) : CallA := ⟨0, ins, V_slicesEqualintintq1 a0 a1 r, R_slicesEqualintintq1 a0 a1 r, outs⟩
def S_slicesEqualintintq1_1 (x1_0 : NL) (x1_1 : NL) (x1_2 : Int) (st : Int) : XSt := match st with
 | x1_3 => (sT 26 [(0, (nlV x1_0)), (1, (nlV x1_1)), (12, (i6 x1_2)), (13, (i6 x1_3))], [], ⟨sB [], 0, 0⟩)
def X_slicesEqualintintq1_1 (x1_0 : NL) (x1_1 : NL) (x1_2 : Int) (r : (Unit) ⊕ (Unit)) : Ex × XSt := match r with
 | .inl _ => (.ret, (sT 26 [(4, (bO false))], [], ⟨sB [], 0, 0⟩))
 | .inr _ => (.exit 0, (sT 26 [], [], ⟨sB [], 0, 0⟩))
abbrev Q_slicesEqualintintq1_1 (rnd : Option Nat) (x1_0 : NL) (x1_1 : NL) (x1_2 : Int) (st : Int) (c : Ex × XSt) : Prop := CG P rnd (fnN P 31) 0 (codeOf P 31 [false, false, true, false, true, true]) (S_slicesEqualintintq1_1 x1_0 x1_1 x1_2 st) c
abbrev U_slicesEqualintintq1_1 (rd : Option Nat) (x1_0 : NL) (x1_1 : NL) (x1_2 : Int) (st : Int) (r : (Unit) ⊕ (Unit)) : Prop := CG P rd (fnN P 31) 0 (codeOf P 31 [false, true, false, true, true]) (S_slicesEqualintintq1_1 x1_0 x1_1 x1_2 st) (X_slicesEqualintintq1_1 x1_0 x1_1 x1_2 r)
def B_slicesEqualintintq1_1 (n : Nat) (x1_0 : NL) (x1_1 : NL) (x1_2 : Int) (st : Int) : Option ((Int) ⊕ ((Unit) ⊕ (Unit))) := match st with
 | x1_3 =>
  if x1_3 < x1_2 then
   if 0 ≤ x1_3 ∧ x1_3 < (((x1_0).l.length : Nat) : Int) then
    if (x1_3).toNat < ((x1_0).l).length then
     ((some (((x1_0).l).getD (x1_3).toNat 0))).bind fun y1_4_ =>
     if 0 ≤ x1_3 ∧ x1_3 < (((x1_1).l.length : Nat) : Int) then
      if (x1_3).toNat < ((x1_1).l).length then
       ((some (((x1_1).l).getD (x1_3).toNat 0))).bind fun y1_7_ =>
       if y1_4_ = y1_7_ then
        some (.inl (w64 (x1_3 + (1 : Int))))
       else
        some (.inr (.inl ()))
      else none
     else none
    else none
   else none
  else
   some (.inr (.inr ()))
def m_slicesEqualintintq1_1 (n : Nat) (x1_0 : NL) (x1_1 : NL) (x1_2 : Int) (st : Int) : Option ((Unit) ⊕ (Unit)) := iterM (B_slicesEqualintintq1_1 n x1_0 x1_1 x1_2) n st
theorem b_slicesEqualintintq1_1 (n : Nat) {rnd : Option Nat} (x1_0 : NL) (x1_1 : NL) (x1_2 : Int) (x1_3 : Int) (o : (Int) ⊕ ((Unit) ⊕ (Unit))) (h : B_slicesEqualintintq1_1 n x1_0 x1_1 x1_2 x1_3 = some o) : CG P rnd (fnN P 31) 0 (codeOf P 31 [false, false, true, false, true, true]) (S_slicesEqualintintq1_1 x1_0 x1_1 x1_2 x1_3) (Sum.elim (fun s => (.normal, S_slicesEqualintintq1_1 x1_0 x1_1 x1_2 s)) (fun r => X_slicesEqualintintq1_1 x1_0 x1_1 x1_2 r) o) := by
 unfold B_slicesEqualintintq1_1 at h
 dsimp only at h
 by_cases hy1_1 : x1_3 < x1_2
 ·rw [if_pos hy1_1] at h
  obtain ⟨hy1_2, h⟩ := gd h
  obtain ⟨hy1_3, h⟩ := gd h
  obtain ⟨y1_4_, hy1_4, h⟩ := oB h
  obtain ⟨hy1_5, h⟩ := gd h
  obtain ⟨hy1_6, h⟩ := gd h
  obtain ⟨y1_7_, hy1_7, h⟩ := oB h
  have k0 := fun {A L l} (k : PL A L l) => zz 1 (xdT hy1_1) <|
   zz 12 (xk12 (Nat.add (x1_0).num 64) (x1_0).off (x1_0).cap hy1_2) <|
   zz 13 (nk13 hy1_4 hy1_3) <|
   zz 16 (xk12 (Nat.add (x1_1).num 64) (x1_1).off (x1_1).cap hy1_5) <|
   zz 17 (nk13 hy1_7 hy1_6) <|
   k
  by_cases hy1_8 : y1_4_ = y1_7_
  ·rw [if_pos hy1_8] at h
   obtain rfl := oI h
   exact runC2 hm ⟨[0, 1, 12, 13], [], 0, 0, [], false, [], [], []⟩ (k0 <|
    zz 18 (xnF hy1_8) <|
    ee) (by kernel_rfl)
  ·rw [if_neg hy1_8] at h
   obtain rfl := oI h
   exact runC2 hm ⟨[4], [], 0, 0, [], false, [], [], []⟩ (k0 <|
    zz 18 (xnT hy1_8) <|
    ee) (by kernel_rfl)
 ·rw [if_neg hy1_1] at h
  obtain rfl := oI h
  exact runC2 hm ⟨[], [], 0, 0, [], false, [], [], []⟩ (zz 1 (xdF hy1_1) <|
   ee) (by kernel_rfl)
theorem m_slicesEqualintintq1_1_ok (n : Nat) {rnd : Option Nat} (x1_0 : NL) (x1_1 : NL) (x1_2 : Int) (st : Int) (r : (Unit) ⊕ (Unit)) (h : m_slicesEqualintintq1_1 n x1_0 x1_1 x1_2 st = some r) : CG P rnd (fnN P 31) 0 (codeOf P 31 [false, true, false, true, true]) (S_slicesEqualintintq1_1 x1_0 x1_1 x1_2 st) (X_slicesEqualintintq1_1 x1_0 x1_1 x1_2 r) :=
 CG.iter (b := codeOf P 31 [false, false, true, false, true, true]) (by kernel_rfl) (body := B_slicesEqualintintq1_1 n x1_0 x1_1 x1_2) (S := S_slicesEqualintintq1_1 x1_0 x1_1 x1_2) (X := X_slicesEqualintintq1_1 x1_0 x1_1 x1_2)
  (fun s s' h => b_slicesEqualintintq1_1 n x1_0 x1_1 x1_2 s (.inl s') h)
  (fun s r h => b_slicesEqualintintq1_1 n x1_0 x1_1 x1_2 s (.inr r) h)
  (fun r => by intro hx; rcases r with _ | _ <;> cases hx) h
def m_slicesEqualintintq1 (n : Nat) (a0 : NL) (a1 : NL) : Option (Bool) :=
 if (((a0).l.length : Nat) : Int) = (((a1).l.length : Nat) : Int) then
  match m_slicesEqualintintq1_1 n a0 a1 (((a0).l.length : Nat) : Int) 0 with
  | none => none
  | some (.inl _) =>
   some false
  | some (.inr _) =>
   some true
 else
  some false
theorem m_slicesEqualintintq1_ok (n : Nat) (a0 : NL) (a1 : NL) (r : Bool) (h : m_slicesEqualintintq1 n a0 a1 = some r) : Gv P (.func 31) (A_slicesEqualintintq1 a0 a1) (H_slicesEqualintintq1 a0 a1) (V_slicesEqualintintq1 a0 a1 r) (R_slicesEqualintintq1 a0 a1 r) := by
 unfold m_slicesEqualintintq1 at h
 by_cases hc1 : (((a0).l.length : Nat) : Int) = (((a1).l.length : Nat) : Int)
 ·rw [if_pos hc1] at h
  have k0 := fun {A L l} (k : PL A L l) => zz 8 (xnF hc1) <|
   k
  rcases hc2 : m_slicesEqualintintq1_1 n a0 a1 (((a0).l.length : Nat) : Int) 0 with _ | (⟨⟩ | ⟨⟩)
  ·rw [hc2] at h; cases h
  ·rw [hc2] at h
   dsimp only at h
   obtain rfl := oI h
   exact runF2 hm ⟨[4], [], 0, 0, [], false, [], [], []⟩ (k0 <|
    ww (p := U_slicesEqualintintq1_1 none a0 a1 (((a0).l.length : Nat) : Int) 0 (.inl ())) (m_slicesEqualintintq1_1_ok n a0 a1 (((a0).l.length : Nat) : Int) 0 (.inl ()) hc2) <|
    ll 16 ⟨⟨[0, 1, 12, 13], [], 0, 0, [], false, [], [], []⟩, (X_slicesEqualintintq1_1 a0 a1 (((a0).l.length : Nat) : Int) (.inl ())).1, (X_slicesEqualintintq1_1 a0 a1 (((a0).l.length : Nat) : Int) (.inl ())).2⟩ <|
    ee) (by kernel_rfl)
  ·rw [hc2] at h
   dsimp only at h
   obtain rfl := oI h
   exact runF2 hm ⟨[4], [], 0, 0, [], false, [], [], []⟩ (k0 <|
    ww (p := U_slicesEqualintintq1_1 none a0 a1 (((a0).l.length : Nat) : Int) 0 (.inr ())) (m_slicesEqualintintq1_1_ok n a0 a1 (((a0).l.length : Nat) : Int) 0 (.inr ()) hc2) <|
    ll 16 ⟨⟨[0, 1, 12, 13], [], 0, 0, [], false, [], [], []⟩, (X_slicesEqualintintq1_1 a0 a1 (((a0).l.length : Nat) : Int) (.inr ())).1, (X_slicesEqualintintq1_1 a0 a1 (((a0).l.length : Nat) : Int) (.inr ())).2⟩ <|
    ee) (by kernel_rfl)
 ·rw [if_neg hc1] at h
  obtain rfl := oI h
  exact runF2 hm ⟨[4], [], 0, 0, [], false, [], [], []⟩ (zz 8 (xnT hc1) <|
   ee) (by kernel_rfl)

def A_stylesendsWithintq1 (a0 : NL) (a1 : NL) : List Value := [(nlV a0), (nlV a1)]
def H_stylesendsWithintq1 (a0 : NL) (a1 : NL) : AH := ⟨sB [], 0, 0⟩
def V_stylesendsWithintq1 (a0 : NL) (a1 : NL) (r : Bool) : Value := match r with
 | o0 => (bO o0)
def R_stylesendsWithintq1 (a0 : NL) (a1 : NL) (r : Bool) : AH := match r with
 | o0 => ⟨sB [], 0, 0⟩
abbrev G_stylesendsWithintq1 (a0 : NL) (a1 : NL) (r : Bool) : Prop := Gv P (.func 27) (A_stylesendsWithintq1 a0 a1) (H_stylesendsWithintq1 a0 a1) (V_stylesendsWithintq1 a0 a1 r) (R_stylesendsWithintq1 a0 a1 r)
abbrev C_stylesendsWithintq1 (a0 : NL) (a1 : NL) (r : Bool) (ins outs : BL) : CallA := ⟨0, ins, V_stylesendsWithintq1 a0 a1 r, R_stylesendsWithintq1 a0 a1 r, outs⟩
def m_stylesendsWithintq1 (n : Nat) (a0 : NL) (a1 : NL) : Option (Bool) :=
 if (((a1).l.length : Nat) : Int) ≤ (((a0).l.length : Nat) : Int) then
  ((some (w64 ((((a0).l.length : Nat) : Int) - (((a1).l.length : Nat) : Int))))).bind fun c2_ =>
  if 0 ≤ c2_ then
   if hc4 : (c2_).toNat ≤ (a0).l.length ∧ (a0).l.length ≤ (a0).l.length then
    (m_slicesEqualintintq1 n (nlSub a0 (c2_).toNat (a0).l.length hc4) a1).bind fun c5_ =>
    some c5_
   else none
  else none
 else
  some false
theorem m_stylesendsWithintq1_ok (n : Nat) (a0 : NL) (a1 : NL) (r : Bool) (h : m_stylesendsWithintq1 n a0 a1 = some r) : Gv P (.func 27) (A_stylesendsWithintq1 a0 a1) (H_stylesendsWithintq1 a0 a1) (V_stylesendsWithintq1 a0 a1 r) (R_stylesendsWithintq1 a0 a1 r) := by
 unfold m_stylesendsWithintq1 at h
 by_cases hc1 : (((a1).l.length : Nat) : Int) ≤ (((a0).l.length : Nat) : Int)
 ·rw [if_pos hc1] at h
  obtain ⟨c2_, hc2, h⟩ := oB h
  obtain ⟨hc3, h⟩ := gd h
  obtain ⟨hc4, h⟩ := gdD h
  replace h := oB h
  obtain ⟨c5_, hc5, h⟩ := h
  obtain rfl := oI h
  exact runF2 hm ⟨[4], [], 0, 0, [], false, [], [], []⟩ (zz 7 (xdT hc1) <|
   zz 14 (xnm hc2) <|
   yy 15 (.pur (nlV (nlSub a0 (c2_).toNat (a0).l.length hc4))) <|
   ww (p := opSlice P 29 (nlV a0) (some (i6 c2_)) none none Ax.h0 = some ((nlV (nlSub a0 (c2_).toNat (a0).l.length hc4)), Ax.h0)) (slNL (e := 3) a0 (by kernel_rfl) (by kernel_rfl) (bnd_int hc3) rfl hc4) <|
   yy 17 (.call (C_slicesEqualintintq1 (nlSub a0 (c2_).toNat (a0).l.length hc4) a1 c5_ [] [])) <|
   ww (m_slicesEqualintintq1_ok n (nlSub a0 (c2_).toNat (a0).l.length hc4) a1 c5_ hc5) <|
   ee) (by kernel_rfl)
 ·rw [if_neg hc1] at h
  obtain rfl := oI h
  exact runF2 hm ⟨[4], [], 0, 0, [], false, [], [], []⟩ (zz 7 (xdF hc1) <|
   ee) (by kernel_rfl)

def A_stylesMatchesq1 (a0 : Int) (a1 : NL) (a2 : Int) (a3 : Int) (a4 : Int) (a5 : NL) : List Value := [(Value.agg #[(i6 a0), (nlV a1), (i6 a2), (i6 a3)]), (i6 a4), (nlV a5)]
def H_stylesMatchesq1 (a0 : Int) (a1 : NL) (a2 : Int) (a3 : Int) (a4 : Int) (a5 : NL) : AH := ⟨sB [], 0, 0⟩
def V_stylesMatchesq1 (a0 : Int) (a1 : NL) (a2 : Int) (a3 : Int) (a4 : Int) (a5 : NL) (r : Bool) : Value := match r with
 | o0 => (bO o0)
def R_stylesMatchesq1 (a0 : Int) (a1 : NL) (a2 : Int) (a3 : Int) (a4 : Int) (a5 : NL) (r : Bool) : AH := match r with
 | o0 => ⟨sB [], 0, 0⟩
abbrev G_stylesMatchesq1 (a0 : Int) (a1 : NL) (a2 : Int) (a3 : Int) (a4 : Int) (a5 : NL) (r : Bool) : Prop := Gv P (.func 22) (A_stylesMatchesq1 a0 a1 a2 a3 a4 a5) (H_stylesMatchesq1 a0 a1 a2 a3 a4 a5) (V_stylesMatchesq1 a0 a1 a2 a3 a4 a5 r) (R_stylesMatchesq1 a0 a1 a2 a3 a4 a5 r)
abbrev C_stylesMatchesq1 (a0 : Int) (a1 : NL) (a2 : Int) (a3 : Int) (a4 : Int) (a5 : NL) (r : Bool) (ins outs : BL) : CallA := ⟨0, ins, V_stylesMatchesq1 a0 a1 a2 a3 a4 a5 r, R_stylesMatchesq1 a0 a1 a2 a3 a4 a5 r, outs⟩
def m_stylesMatchesq1 (n : Nat) (a0 : Int) (a1 : NL) (a2 : Int) (a3 : Int) (a4 : Int) (a5 : NL) : Option (Bool) :=
 if a0 = a4 then
  (m_stylesendsWithintq1 n a5 a1).bind fun c2_ =>
  some c2_
 else
  some false
theorem m_stylesMatchesq1_ok (n : Nat) (a0 : Int) (a1 : NL) (a2 : Int) (a3 : Int) (a4 : Int) (a5 : NL) (r : Bool) (h : m_stylesMatchesq1 n a0 a1 a2 a3 a4 a5 = some r) : Gv P (.func 22) (A_stylesMatchesq1 a0 a1 a2 a3 a4 a5) (H_stylesMatchesq1 a0 a1 a2 a3 a4 a5) (V_stylesMatchesq1 a0 a1 a2 a3 a4 a5 r) (R_stylesMatchesq1 a0 a1 a2 a3 a4 a5 r) := by
 unfold m_stylesMatchesq1 at h
 by_cases hc1 : a0 = a4
 ·rw [if_pos hc1] at h
  obtain ⟨c2_, hc2, h⟩ := oB h
  obtain rfl := oI h
  exact runF2 hm ⟨[6], [], 0, 0, [], false, [], [], []⟩ (zz 7 (xeT hc1) <|
   yy 12 (.call (C_stylesendsWithintq1 a5 a1 c2_ [] [])) <|
   ww (m_stylesendsWithintq1_ok n a5 a1 c2_ hc2) <|
   ee) (by kernel_rfl)
 ·rw [if_neg hc1] at h
  obtain rfl := oI h
  exact runF2 hm ⟨[6], [], 0, 0, [], false, [], [], []⟩ (zz 7 (xeF hc1) <|
   ee) (by kernel_rfl)

def A_stylesStyle1q1 (a0 : Int) (a1 : Int) (a2 : Int) (a3 : Bool) (a4 : Int) (a5 : NL) (a6 : Int) (a7 : Int) (a8 : Int) (a9 : NL) : List Value := [(Value.agg #[(i6 a0), (Value.slice none 0 0), (i6 a1), (i6 a2), (bO a3)]), (Value.agg #[(i6 a4), (nlV a5), (i6 a6), (i6 a7)]), (pN 0 0), (pN 1 0)]
def H_stylesStyle1q1 (a0 : Int) (a1 : Int) (a2 : Int) (a3 : Bool) (a4 : Int) (a5 : NL) (a6 : Int) (a7 : Int) (a8 : Int) (a9 : NL) : AH := ⟨sB [(0, (some (.cells (layT [(i6 a8)]) 3))), (1, (some (.cells (layT [(nlV a9)]) 29)))], 2, 2⟩
def V_stylesStyle1q1 (a0 : Int) (a1 : Int) (a2 : Int) (a3 : Bool) (a4 : Int) (a5 : NL) (a6 : Int) (a7 : Int) (a8 : Int) (a9 : NL) (r : Int × NL × Int × Int × Bool) : Value := match r with
 | (o0, o1, o2, o3, o4) => (Value.agg #[(i6 o0), (nlV o1), (i6 o2), (i6 o3), (bO o4)])
def R_stylesStyle1q1 (a0 : Int) (a1 : Int) (a2 : Int) (a3 : Bool) (a4 : Int) (a5 : NL) (a6 : Int) (a7 : Int) (a8 : Int) (a9 : NL) (r : Int × NL × Int × Int × Bool) : AH := match r with
 | (o0, o1, o2, o3, o4) => ⟨sB [(2, (some (.cells (layT [(i6 o0), (nlV o1), (i6 o2), (i6 o3), (bO o4)]) 46)))], 3, 2⟩
abbrev G_stylesStyle1q1 (a0 : Int) (a1 : Int) (a2 : Int) (a3 : Bool) (a4 : Int) (a5 : NL) (a6 : Int) (a7 : Int) (a8 : Int) (a9 : NL) (r : Int × NL × Int × Int × Bool) : Prop := Gv P (.func 21) (A_stylesStyle1q1 a0 a1 a2 a3 a4 a5 a6 a7 a8 a9) (H_stylesStyle1q1 a0 a1 a2 a3 a4 a5 a6 a7 a8 a9) (V_stylesStyle1q1 a0 a1 a2 a3 a4 a5 a6 a7 a8 a9 r) (R_stylesStyle1q1 a0 a1 a2 a3 a4 a5 a6 a7 a8 a9 r)
abbrev C_stylesStyle1q1 (a0 : Int) (a1 : Int) (a2 : Int) (a3 : Bool) (a4 : Int) (a5 : NL) (a6 : Int) (a7 : Int) (a8 : Int) (a9 : NL) (r : Int × NL × Int × Int × Bool) (ins outs : BL) : CallA := ⟨2, ins, V_stylesStyle1q1 a0 a1 a2 a3 a4 a5 a6 a7 a8 a9 r, R_stylesStyle1q1 a0 a1 a2 a3 a4 a5 a6 a7 a8 a9 r, outs⟩
def m_stylesStyle1q1 (n : Nat) (a0 : Int) (a1 : Int) (a2 : Int) (a3 : Bool) (a4 : Int) (a5 : NL) (a6 : Int) (a7 : Int) (a8 : Int) (a9 : NL) : Option (Int × NL × Int × Int × Bool) :=
 (m_stylesMatchesq1 n a4 a5 a6 a7 a8 a9).bind fun c1_ =>
 if c1_ = true then
  if a3 = true then
   if a7 ≤ a2 then
    some (a0, nl0, a1, a2, a3)
   else
    some (a4, a5, a6, a7, true)
  else
   some (a4, a5, a6, a7, true)
 else
  some (a0, nl0, a1, a2, a3)
theorem m_stylesStyle1q1_ok (n : Nat) (a0 : Int) (a1 : Int) (a2 : Int) (a3 : Bool) (a4 : Int) (a5 : NL) (a6 : Int) (a7 : Int) (a8 : Int) (a9 : NL) (r : Int × NL × Int × Int × Bool) (h : m_stylesStyle1q1 n a0 a1 a2 a3 a4 a5 a6 a7 a8 a9 = some r) : Gv P (.func 21) (A_stylesStyle1q1 a0 a1 a2 a3 a4 a5 a6 a7 a8 a9) (H_stylesStyle1q1 a0 a1 a2 a3 a4 a5 a6 a7 a8 a9) (V_stylesStyle1q1 a0 a1 a2 a3 a4 a5 a6 a7 a8 a9 r) (R_stylesStyle1q1 a0 a1 a2 a3 a4 a5 a6 a7 a8 a9 r) := by
 unfold m_stylesStyle1q1 at h
 obtain ⟨c1_, hc1, h⟩ := oB h
 have k0 := fun {A L l} (k : PL A L l) => yy 9 (.call (C_stylesMatchesq1 a4 a5 a6 a7 a8 a9 c1_ [] [])) <|
  ww (m_stylesMatchesq1_ok n a4 a5 a6 a7 a8 a9 c1_ hc1) <|
  k
 by_cases hc2 : c1_ = true
 ·rw [if_pos hc2] at h
  have k2 := fun {A L l} (k : PL A L l) => yy 10 (vf) <|
   ww (p := (Value.bool (!c1_)) = (Value.bool false)) (vBn hc2) <|
   k
  by_cases hc3 : a3 = true
  ·rw [if_pos hc3] at h
   have k4 := fun {A L l} (k : PL A L l) => zz 14 (xbT hc3) <|
    k
   by_cases hc4 : a7 ≤ a2
   ·rw [if_pos hc4] at h
    obtain rfl := oI h
    exact runF2 hm ⟨[6], [(2, 4, false)], 3, 2, [], true, [46], [], []⟩ (k0 <|
     k2 <|
     k4 <|
     zz 20 (xdT hc4) <|
     ee) (by kernel_rfl)
   ·rw [if_neg hc4] at h
    obtain rfl := oI h
    exact runF2 hm ⟨[6], [(2, 4, false)], 3, 2, [], true, [46], [], []⟩ (k0 <|
     k2 <|
     k4 <|
     zz 20 (xdF hc4) <|
     ee) (by kernel_rfl)
  ·rw [if_neg hc3] at h
   obtain rfl := oI h
   exact runF2 hm ⟨[6], [(2, 4, false)], 3, 2, [], true, [46], [], []⟩ (k0 <|
    k2 <|
    zz 14 (xbF hc3) <|
    ee) (by kernel_rfl)
 ·rw [if_neg hc2] at h
  obtain rfl := oI h
  exact runF2 hm ⟨[6], [(2, 4, false)], 3, 2, [], true, [46], [], []⟩ (k0 <|
   yy 10 (vt) <|
   ww (p := (Value.bool (!c1_)) = (Value.bool true)) (vBn (Bool.eq_false_iff.2 hc2)) <|
   ee) (by kernel_rfl)

def A_foldOverstyleschoice_1010y1 (a0 : Int) (a1 : Int) (a2 : Int) (a3 : Bool) (a4 : Int) (a5 : NL) (a6 : Int) (a7 : Int) (a8 : Int) (a9 : Bool) (a10 : List (Int × NL × Int × Int)) (a11 : Int) (a12 : NL) (a13 : Int) (a14 : Int) : List Value := [(Value.agg #[(i6 a11), (nlV a12), (i6 a13), (i6 a14)])]
def H_foldOverstyleschoice_1010y1 (a0 : Int) (a1 : Int) (a2 : Int) (a3 : Bool) (a4 : Int) (a5 : NL) (a6 : Int) (a7 : Int) (a8 : Int) (a9 : Bool) (a10 : List (Int × NL × Int × Int)) (a11 : Int) (a12 : NL) (a13 : Int) (a14 : Int) : AH := ⟨sB [(0, (some (rblk P 19 [false, true, false, true] .ready none [(4, (pN 2 0)), (5, (pN 3 0)), (6, (pN 6 0)), (8, (Value.func (.func 26) #[] #[(pN 7 0)]))] 1))), (1, (some (.marks true))), (2, (some (.cells (layT [(i6 a0), (Value.slice none 0 0), (i6 a1), (i6 a2), (bO a3)]) 46))), (3, (some (.cells (layT [(Value.func (.func 21) #[] #[(pN 4 0), (pN 5 0)])]) 52))), (4, (some (.cells (layT [(i6 a4)]) 3))), (5, (some (.cells (layT [(nlV a5)]) 29))), (6, (some (.cells (layT [(i6 a6), (Value.slice none 0 0), (i6 a7), (i6 a8), (bO a9)]) 46))), (7, (some (.cells (layT [(sN 8 0 (a10).length (Nat.add big 4))]) 22))), (8, (some (.cells (layT (rows rw_iLii a10)) 36)))], 9, 9⟩
def V_foldOverstyleschoice_1010y1 (a0 : Int) (a1 : Int) (a2 : Int) (a3 : Bool) (a4 : Int) (a5 : NL) (a6 : Int) (a7 : Int) (a8 : Int) (a9 : Bool) (a10 : List (Int × NL × Int × Int)) (a11 : Int) (a12 : NL) (a13 : Int) (a14 : Int) (r : Int × NL × Int × Int × Bool) : Value := match r with
 | (o0, o1, o2, o3, o4) => (bO true)
def R_foldOverstyleschoice_1010y1 (a0 : Int) (a1 : Int) (a2 : Int) (a3 : Bool) (a4 : Int) (a5 : NL) (a6 : Int) (a7 : Int) (a8 : Int) (a9 : Bool) (a10 : List (Int × NL × Int × Int)) (a11 : Int) (a12 : NL) (a13 : Int) (a14 : Int) (r : Int × NL × Int × Int × Bool) : AH := match r with
 | (o0, o1, o2, o3, o4) => ⟨sB [(0, (some (rblk P 19 [false, true, false, true] .ready none [(4, (pN 2 0)), (5, (pN 3 0)), (6, (pN 6 0)), (8, (Value.func (.func 26) #[] #[(pN 7 0)]))] 1))), (1, (some (.marks true))), (2, (some (.cells (layT [(i6 o0), (nlV o1), (i6 o2), (i6 o3), (bO o4)]) 46))), (3, (some (.cells (layT [(Value.func (.func 21) #[] #[(pN 4 0), (pN 5 0)])]) 52))), (4, (some (.cells (layT [(i6 a4)]) 3))), (5, (some (.cells (layT [(nlV a5)]) 29))), (6, (some (.cells (layT [(i6 a6), (Value.slice none 0 0), (i6 a7), (i6 a8), (bO a9)]) 46))), (7, (some (.cells (layT [(sN 8 0 (a10).length (Nat.add big 4))]) 22))), (8, (some (.cells (layT (rows rw_iLii a10)) 36)))], 9, 0⟩
abbrev G_foldOverstyleschoice_1010y1 (a0 : Int) (a1 : Int) (a2 : Int) (a3 : Bool) (a4 : Int) (a5 : NL) (a6 : Int) (a7 : Int) (a8 : Int) (a9 : Bool) (a10 : List (Int × NL × Int × Int)) (a11 : Int) (a12 : NL) (a13 : Int) (a14 : Int) (r : Int × NL × Int × Int × Bool) : Prop := Gv P (.yield 0) (A_foldOverstyleschoice_1010y1 a0 a1 a2 a3 a4 a5 a6 a7 a8 a9 a10 a11 a12 a13 a14) (H_foldOverstyleschoice_1010y1 a0 a1 a2 a3 a4 a5 a6 a7 a8 a9 a10 a11 a12 a13 a14) (V_foldOverstyleschoice_1010y1 a0 a1 a2 a3 a4 a5 a6 a7 a8 a9 a10 a11 a12 a13 a14 r) (R_foldOverstyleschoice_1010y1 a0 a1 a2 a3 a4 a5 a6 a7 a8 a9 a10 a11 a12 a13 a14 r)
abbrev C_foldOverstyleschoice_1010y1 (a0 : Int) (a1 : Int) (a2 : Int) (a3 : Bool) (a4 : Int) (a5 : NL) (a6 : Int) (a7 : Int) (a8 : Int) (a9 : Bool) (a10 : List (Int × NL × Int × Int)) (a11 : Int) (a12 : NL) (a13 : Int) (a14 : Int) (r : Int × NL × Int × Int × Bool) (ins outs : BL) : CallA := ⟨9, ins, V_foldOverstyleschoice_1010y1 a0 a1 a2 a3 a4 a5 a6 a7 a8 a9 a10 a11 a12 a13 a14 r, R_foldOverstyleschoice_1010y1 a0 a1 a2 a3 a4 a5 a6 a7 a8 a9 a10 a11 a12 a13 a14 r, outs⟩
def m_foldOverstyleschoice_1010y1 (n : Nat) (a0 : Int) (a1 : Int) (a2 : Int) (a3 : Bool) (a4 : Int) (a5 : NL) (a6 : Int) (a7 : Int) (a8 : Int) (a9 : Bool) (a10 : List (Int × NL × Int × Int)) (a11 : Int) (a12 : NL) (a13 : Int) (a14 : Int) : Option (Int × NL × Int × Int × Bool) :=
 (m_stylesStyle1q1 n a0 a1 a2 a3 a11 a12 a13 a14 a4 a5).bind fun t => match t with
 | (c1_0, c1_1, c1_2, c1_3, c1_4) =>
  some (c1_0, c1_1, c1_2, c1_3, c1_4)
theorem m_foldOverstyleschoice_1010y1_ok (n : Nat) (a0 : Int) (a1 : Int) (a2 : Int) (a3 : Bool) (a4 : Int) (a5 : NL) (a6 : Int) (a7 : Int) (a8 : Int) (a9 : Bool) (a10 : List (Int × NL × Int × Int)) (a11 : Int) (a12 : NL) (a13 : Int) (a14 : Int) (r : Int × NL × Int × Int × Bool) (h : m_foldOverstyleschoice_1010y1 n a0 a1 a2 a3 a4 a5 a6 a7 a8 a9 a10 a11 a12 a13 a14 = some r) : Gv P (.yield 0) (A_foldOverstyleschoice_1010y1 a0 a1 a2 a3 a4 a5 a6 a7 a8 a9 a10 a11 a12 a13 a14) (H_foldOverstyleschoice_1010y1 a0 a1 a2 a3 a4 a5 a6 a7 a8 a9 a10 a11 a12 a13 a14) (V_foldOverstyleschoice_1010y1 a0 a1 a2 a3 a4 a5 a6 a7 a8 a9 a10 a11 a12 a13 a14 r) (R_foldOverstyleschoice_1010y1 a0 a1 a2 a3 a4 a5 a6 a7 a8 a9 a10 a11 a12 a13 a14 r) := by
 unfold m_foldOverstyleschoice_1010y1 at h
 obtain ⟨⟨c1_0, c1_1, c1_2, c1_3, c1_4⟩, hc1, h⟩ := oB h
 dsimp only at h
 obtain rfl := oI h
 exact runY2 hm ⟨[], [(0, 0, false), (1, 1, false), (2, 2, false), (3, 3, false), (4, 4, false), (5, 5, false), (6, 6, false), (7, 7, false), (8, 8, true)], 9, 0, [], false, [], [], []⟩ (ee) (yy 4 (.call (C_stylesStyle1q1 a0 a1 a2 a3 a11 a12 a13 a14 a4 a5 (c1_0, c1_1, c1_2, c1_3, c1_4) [(0, 4, false), (1, 5, false)] [(10, 2, false)])) <|
  ww (m_stylesStyle1q1_ok n a0 a1 a2 a3 a11 a12 a13 a14 a4 a5 (c1_0, c1_1, c1_2, c1_3, c1_4) hc1) <|
  ww (rows_flat rwf_iLii a10 36) <|
  ee) (by kernel_rfl)

def A_stylesStyle1q2 (a0 : Int) (a1 : NL) (a2 : Int) (a3 : Int) (a4 : Bool) (a5 : Int) (a6 : NL) (a7 : Int) (a8 : Int) (a9 : Int) (a10 : NL) : List Value := [(Value.agg #[(i6 a0), (nlV a1), (i6 a2), (i6 a3), (bO a4)]), (Value.agg #[(i6 a5), (nlV a6), (i6 a7), (i6 a8)]), (pN 0 0), (pN 1 0)]
def H_stylesStyle1q2 (a0 : Int) (a1 : NL) (a2 : Int) (a3 : Int) (a4 : Bool) (a5 : Int) (a6 : NL) (a7 : Int) (a8 : Int) (a9 : Int) (a10 : NL) : AH := ⟨sB [(0, (some (.cells (layT [(i6 a9)]) 3))), (1, (some (.cells (layT [(nlV a10)]) 29)))], 2, 2⟩
def V_stylesStyle1q2 (a0 : Int) (a1 : NL) (a2 : Int) (a3 : Int) (a4 : Bool) (a5 : Int) (a6 : NL) (a7 : Int) (a8 : Int) (a9 : Int) (a10 : NL) (r : Int × NL × Int × Int × Bool) : Value := match r with
 | (o0, o1, o2, o3, o4) => (Value.agg #[(i6 o0), (nlV o1), (i6 o2), (i6 o3), (bO o4)])
def R_stylesStyle1q2 (a0 : Int) (a1 : NL) (a2 : Int) (a3 : Int) (a4 : Bool) (a5 : Int) (a6 : NL) (a7 : Int) (a8 : Int) (a9 : Int) (a10 : NL) (r : Int × NL × Int × Int × Bool) : AH := match r with
 | (o0, o1, o2, o3, o4) => ⟨sB [(2, (some (.cells (layT [(i6 o0), (nlV o1), (i6 o2), (i6 o3), (bO o4)]) 46)))], 3, 2⟩
abbrev G_stylesStyle1q2 (a0 : Int) (a1 : NL) (a2 : Int) (a3 : Int) (a4 : Bool) (a5 : Int) (a6 : NL) (a7 : Int) (a8 : Int) (a9 : Int) (a10 : NL) (r : Int × NL × Int × Int × Bool) : Prop := Gv P (.func 21) (A_stylesStyle1q2 a0 a1 a2 a3 a4 a5 a6 a7 a8 a9 a10) (H_stylesStyle1q2 a0 a1 a2 a3 a4 a5 a6 a7 a8 a9 a10) (V_stylesStyle1q2 a0 a1 a2 a3 a4 a5 a6 a7 a8 a9 a10 r) (R_stylesStyle1q2 a0 a1 a2 a3 a4 a5 a6 a7 a8 a9 a10 r)
abbrev C_stylesStyle1q2 (a0 : Int) (a1 : NL) (a2 : Int) (a3 : Int) (a4 : Bool) (a5 : Int) (a6 : NL) (a7 : Int) (a8 : Int) (a9 : Int) (a10 : NL) (r : Int × NL × Int × Int × Bool) (ins outs : BL) : CallA := ⟨2, ins, V_stylesStyle1q2 a0 a1 a2 a3 a4 a5 a6 a7 a8 a9 a10 r, R_stylesStyle1q2 a0 a1 a2 a3 a4 a5 a6 a7 a8 a9 a10 r, outs⟩
def m_stylesStyle1q2 (n : Nat) (a0 : Int) (a1 : NL) (a2 : Int) (a3 : Int) (a4 : Bool) (a5 : Int) (a6 : NL) (a7 : Int) (a8 : Int) (a9 : Int) (a10 : NL) : Option (Int × NL × Int × Int × Bool) :=
 (m_stylesMatchesq1 n a5 a6 a7 a8 a9 a10).bind fun c1_ =>
 if c1_ = true then
  if a4 = true then
   if a8 ≤ a3 then
    some (a0, a1, a2, a3, a4)
   else
    some (a5, a6, a7, a8, true)
  else
   some (a5, a6, a7, a8, true)
 else
  some (a0, a1, a2, a3, a4)
theorem m_stylesStyle1q2_ok (n : Nat) (a0 : Int) (a1 : NL) (a2 : Int) (a3 : Int) (a4 : Bool) (a5 : Int) (a6 : NL) (a7 : Int) (a8 : Int) (a9 : Int) (a10 : NL) (r : Int × NL × Int × Int × Bool) (h : m_stylesStyle1q2 n a0 a1 a2 a3 a4 a5 a6 a7 a8 a9 a10 = some r) : Gv P (.func 21) (A_stylesStyle1q2 a0 a1 a2 a3 a4 a5 a6 a7 a8 a9 a10) (H_stylesStyle1q2 a0 a1 a2 a3 a4 a5 a6 a7 a8 a9 a10) (V_stylesStyle1q2 a0 a1 a2 a3 a4 a5 a6 a7 a8 a9 a10 r) (R_stylesStyle1q2 a0 a1 a2 a3 a4 a5 a6 a7 a8 a9 a10 r) := by
 unfold m_stylesStyle1q2 at h
 obtain ⟨c1_, hc1, h⟩ := oB h
 have k0 := fun {A L l} (k : PL A L l) => yy 9 (.call (C_stylesMatchesq1 a5 a6 a7 a8 a9 a10 c1_ [] [])) <|
  ww (m_stylesMatchesq1_ok n a5 a6 a7 a8 a9 a10 c1_ hc1) <|
  k
 by_cases hc2 : c1_ = true
 ·rw [if_pos hc2] at h
  have k2 := fun {A L l} (k : PL A L l) => yy 10 (vf) <|
   ww (p := (Value.bool (!c1_)) = (Value.bool false)) (vBn hc2) <|
   k
  by_cases hc3 : a4 = true
  ·rw [if_pos hc3] at h
   have k4 := fun {A L l} (k : PL A L l) => zz 14 (xbT hc3) <|
    k
   by_cases hc4 : a8 ≤ a3
   ·rw [if_pos hc4] at h
    obtain rfl := oI h
    exact runF2 hm ⟨[6], [(2, 4, false)], 3, 2, [], false, [], [], []⟩ (k0 <|
     k2 <|
     k4 <|
     zz 20 (xdT hc4) <|
     ee) (by kernel_rfl)
   ·rw [if_neg hc4] at h
    obtain rfl := oI h
    exact runF2 hm ⟨[6], [(2, 4, false)], 3, 2, [], false, [], [], []⟩ (k0 <|
     k2 <|
     k4 <|
     zz 20 (xdF hc4) <|
     ee) (by kernel_rfl)
  ·rw [if_neg hc3] at h
   obtain rfl := oI h
   exact runF2 hm ⟨[6], [(2, 4, false)], 3, 2, [], false, [], [], []⟩ (k0 <|
    k2 <|
    zz 14 (xbF hc3) <|
    ee) (by kernel_rfl)
 ·rw [if_neg hc2] at h
  obtain rfl := oI h
  exact runF2 hm ⟨[6], [(2, 4, false)], 3, 2, [], false, [], [], []⟩ (k0 <|
   yy 10 (vt) <|
   ww (p := (Value.bool (!c1_)) = (Value.bool true)) (vBn (Bool.eq_false_iff.2 hc2)) <|
   ee) (by kernel_rfl)

def A_foldOverstyleschoice_1010y2 (a0 : Int) (a1 : NL) (a2 : Int) (a3 : Int) (a4 : Bool) (a5 : Int) (a6 : NL) (a7 : Int) (a8 : Int) (a9 : Int) (a10 : Bool) (a11 : List (Int × NL × Int × Int)) (a12 : Int) (a13 : NL) (a14 : Int) (a15 : Int) : List Value := [(Value.agg #[(i6 a12), (nlV a13), (i6 a14), (i6 a15)])]
def H_foldOverstyleschoice_1010y2 (a0 : Int) (a1 : NL) (a2 : Int) (a3 : Int) (a4 : Bool) (a5 : Int) (a6 : NL) (a7 : Int) (a8 : Int) (a9 : Int) (a10 : Bool) (a11 : List (Int × NL × Int × Int)) (a12 : Int) (a13 : NL) (a14 : Int) (a15 : Int) : AH := ⟨sB [(0, (some (rblk P 19 [false, true, false, true] .ready none [(4, (pN 2 0)), (5, (pN 3 0)), (6, (pN 6 0)), (8, (Value.func (.func 26) #[] #[(pN 7 0)]))] 1))), (1, (some (.marks true))), (2, (some (.cells (layT [(i6 a0), (nlV a1), (i6 a2), (i6 a3), (bO a4)]) 46))), (3, (some (.cells (layT [(Value.func (.func 21) #[] #[(pN 4 0), (pN 5 0)])]) 52))), (4, (some (.cells (layT [(i6 a5)]) 3))), (5, (some (.cells (layT [(nlV a6)]) 29))), (6, (some (.cells (layT [(i6 a7), (Value.slice none 0 0), (i6 a8), (i6 a9), (bO a10)]) 46))), (7, (some (.cells (layT [(sN 8 0 (a11).length (Nat.add big 4))]) 22))), (8, (some (.cells (layT (rows rw_iLii a11)) 36)))], 9, 9⟩
def V_foldOverstyleschoice_1010y2 (a0 : Int) (a1 : NL) (a2 : Int) (a3 : Int) (a4 : Bool) (a5 : Int) (a6 : NL) (a7 : Int) (a8 : Int) (a9 : Int) (a10 : Bool) (a11 : List (Int × NL × Int × Int)) (a12 : Int) (a13 : NL) (a14 : Int) (a15 : Int) (r : Int × NL × Int × Int × Bool) : Value := match r with
 | (o0, o1, o2, o3, o4) => (bO true)
def R_foldOverstyleschoice_1010y2 (a0 : Int) (a1 : NL) (a2 : Int) (a3 : Int) (a4 : Bool) (a5 : Int) (a6 : NL) (a7 : Int) (a8 : Int) (a9 : Int) (a10 : Bool) (a11 : List (Int × NL × Int × Int)) (a12 : Int) (a13 : NL) (a14 : Int) (a15 : Int) (r : Int × NL × Int × Int × Bool) : AH := match r with
 | (o0, o1, o2, o3, o4) => ⟨sB [(0, (some (rblk P 19 [false, true, false, true] .ready none [(4, (pN 2 0)), (5, (pN 3 0)), (6, (pN 6 0)), (8, (Value.func (.func 26) #[] #[(pN 7 0)]))] 1))), (1, (some (.marks true))), (2, (some (.cells (layT [(i6 o0), (nlV o1), (i6 o2), (i6 o3), (bO o4)]) 46))), (3, (some (.cells (layT [(Value.func (.func 21) #[] #[(pN 4 0), (pN 5 0)])]) 52))), (4, (some (.cells (layT [(i6 a5)]) 3))), (5, (some (.cells (layT [(nlV a6)]) 29))), (6, (some (.cells (layT [(i6 a7), (Value.slice none 0 0), (i6 a8), (i6 a9), (bO a10)]) 46))), (7, (some (.cells (layT [(sN 8 0 (a11).length (Nat.add big 4))]) 22))), (8, (some (.cells (layT (rows rw_iLii a11)) 36)))], 9, 0⟩
abbrev G_foldOverstyleschoice_1010y2 (a0 : Int) (a1 : NL) (a2 : Int) (a3 : Int) (a4 : Bool) (a5 : Int) (a6 : NL) (a7 : Int) (a8 : Int) (a9 : Int) (a10 : Bool) (a11 : List (Int × NL × Int × Int)) (a12 : Int) (a13 : NL) (a14 : Int) (a15 : Int) (r : Int × NL × Int × Int × Bool) : Prop := Gv P (.yield 0) (A_foldOverstyleschoice_1010y2 a0 a1 a2 a3 a4 a5 a6 a7 a8 a9 a10 a11 a12 a13 a14 a15) (H_foldOverstyleschoice_1010y2 a0 a1 a2 a3 a4 a5 a6 a7 a8 a9 a10 a11 a12 a13 a14 a15) (V_foldOverstyleschoice_1010y2 a0 a1 a2 a3 a4 a5 a6 a7 a8 a9 a10 a11 a12 a13 a14 a15 r) (R_foldOverstyleschoice_1010y2 a0 a1 a2 a3 a4 a5 a6 a7 a8 a9 a10 a11 a12 a13 a14 a15 r)
abbrev C_foldOverstyleschoice_1010y2 (a0 : Int) (a1 : NL) (a2 : Int) (a3 : Int) (a4 : Bool) (a5 : Int) (a6 : NL) (a7 : Int) (a8 : Int) (a9 : Int) (a10 : Bool) (a11 : List (Int × NL × Int × Int)) (a12 : Int) (a13 : NL) (a14 : Int) (a15 : Int) (r : Int × NL × Int × Int × Bool) (ins outs : BL) : CallA := ⟨9, ins, V_foldOverstyleschoice_1010y2 a0 a1 a2 a3 a4 a5 a6 a7 a8 a9 a10 a11 a12 a13 a14 a15 r, R_foldOverstyleschoice_1010y2 a0 a1 a2 a3 a4 a5 a6 a7 a8 a9 a10 a11 a12 a13 a14 a15 r, outs⟩
def m_foldOverstyleschoice_1010y2 (n : Nat) (a0 : Int) (a1 : NL) (a2 : Int) (a3 : Int) (a4 : Bool) (a5 : Int) (a6 : NL) (a7 : Int) (a8 : Int) (a9 : Int) (a10 : Bool) (a11 : List (Int × NL × Int × Int)) (a12 : Int) (a13 : NL) (a14 : Int) (a15 : Int) : Option (Int × NL × Int × Int × Bool) :=
 (m_stylesStyle1q2 n a0 a1 a2 a3 a4 a12 a13 a14 a15 a5 a6).bind fun t => match t with
 | (c1_0, c1_1, c1_2, c1_3, c1_4) =>
  some (c1_0, c1_1, c1_2, c1_3, c1_4)
theorem m_foldOverstyleschoice_1010y2_ok (n : Nat) (a0 : Int) (a1 : NL) (a2 : Int) (a3 : Int) (a4 : Bool) (a5 : Int) (a6 : NL) (a7 : Int) (a8 : Int) (a9 : Int) (a10 : Bool) (a11 : List (Int × NL × Int × Int)) (a12 : Int) (a13 : NL) (a14 : Int) (a15 : Int) (r : Int × NL × Int × Int × Bool) (h : m_foldOverstyleschoice_1010y2 n a0 a1 a2 a3 a4 a5 a6 a7 a8 a9 a10 a11 a12 a13 a14 a15 = some r) : Gv P (.yield 0) (A_foldOverstyleschoice_1010y2 a0 a1 a2 a3 a4 a5 a6 a7 a8 a9 a10 a11 a12 a13 a14 a15) (H_foldOverstyleschoice_1010y2 a0 a1 a2 a3 a4 a5 a6 a7 a8 a9 a10 a11 a12 a13 a14 a15) (V_foldOverstyleschoice_1010y2 a0 a1 a2 a3 a4 a5 a6 a7 a8 a9 a10 a11 a12 a13 a14 a15 r) (R_foldOverstyleschoice_1010y2 a0 a1 a2 a3 a4 a5 a6 a7 a8 a9 a10 a11 a12 a13 a14 a15 r) := by
 unfold m_foldOverstyleschoice_1010y2 at h
 obtain ⟨⟨c1_0, c1_1, c1_2, c1_3, c1_4⟩, hc1, h⟩ := oB h
 dsimp only at h
 obtain rfl := oI h
 exact runY2 hm ⟨[], [(0, 0, false), (1, 1, false), (2, 2, false), (3, 3, false), (4, 4, false), (5, 5, false), (6, 6, false), (7, 7, false), (8, 8, true)], 9, 0, [], false, [], [], []⟩ (ee) (yy 4 (.call (C_stylesStyle1q2 a0 a1 a2 a3 a4 a12 a13 a14 a15 a5 a6 (c1_0, c1_1, c1_2, c1_3, c1_4) [(0, 4, false), (1, 5, false)] [(10, 2, false)])) <|
  ww (m_stylesStyle1q2_ok n a0 a1 a2 a3 a4 a12 a13 a14 a15 a5 a6 (c1_0, c1_1, c1_2, c1_3, c1_4) hc1) <|
  ww (rows_flat rwf_iLii a11 36) <|
  ee) (by kernel_rfl)

def A_slicesValuesapiStyle1q1 (a0 : Int) (a1 : Int) (a2 : Int) (a3 : Bool) (a4 : Int) (a5 : NL) (a6 : Int) (a7 : Int) (a8 : Int) (a9 : Bool) (a10 : List (Int × NL × Int × Int)) : List Value := [(Value.func (.yield 0) #[] #[]), (pN 7 0)]
def H_slicesValuesapiStyle1q1 (a0 : Int) (a1 : Int) (a2 : Int) (a3 : Bool) (a4 : Int) (a5 : NL) (a6 : Int) (a7 : Int) (a8 : Int) (a9 : Bool) (a10 : List (Int × NL × Int × Int)) : AH := ⟨sB [(0, (some (rblk P 19 [false, true, false, true] .ready none [(4, (pN 2 0)), (5, (pN 3 0)), (6, (pN 6 0)), (8, (Value.func (.func 26) #[] #[(pN 7 0)]))] 1))), (1, (some (.marks true))), (2, (some (.cells (layT [(i6 a0), (Value.slice none 0 0), (i6 a1), (i6 a2), (bO a3)]) 46))), (3, (some (.cells (layT [(Value.func (.func 21) #[] #[(pN 4 0), (pN 5 0)])]) 52))), (4, (some (.cells (layT [(i6 a4)]) 3))), (5, (some (.cells (layT [(nlV a5)]) 29))), (6, (some (.cells (layT [(i6 a6), (Value.slice none 0 0), (i6 a7), (i6 a8), (bO a9)]) 46))), (7, (some (.cells (layT [(sN 8 0 (a10).length (Nat.add big 4))]) 22))), (8, (some (.cells (layT (rows rw_iLii a10)) 36)))], 9, 9⟩
def V_slicesValuesapiStyle1q1 (a0 : Int) (a1 : Int) (a2 : Int) (a3 : Bool) (a4 : Int) (a5 : NL) (a6 : Int) (a7 : Int) (a8 : Int) (a9 : Bool) (a10 : List (Int × NL × Int × Int)) (r : Int × List (NL) × Int × Int × Bool) : Value := match r with
 | (o0, o1, o2, o3, o4) => (Value.tuple #[])
def R_slicesValuesapiStyle1q1 (a0 : Int) (a1 : Int) (a2 : Int) (a3 : Bool) (a4 : Int) (a5 : NL) (a6 : Int) (a7 : Int) (a8 : Int) (a9 : Bool) (a10 : List (Int × NL × Int × Int)) (r : Int × List (NL) × Int × Int × Bool) : AH := match r with
 | (o0, o1, o2, o3, o4) => ⟨sB [(0, (some (rblk P 19 [false, true, false, true] .ready none [(4, (pN 2 0)), (5, (pN 3 0)), (6, (pN 6 0)), (8, (Value.func (.func 26) #[] #[(pN 7 0)]))] 1))), (1, (some (.marks true))), (2, (some (.cells (layT [(i6 o0), (nlQ o1), (i6 o2), (i6 o3), (bO o4)]) 46))), (3, (some (.cells (layT [(Value.func (.func 21) #[] #[(pN 4 0), (pN 5 0)])]) 52))), (4, (some (.cells (layT [(i6 a4)]) 3))), (5, (some (.cells (layT [(nlV a5)]) 29))), (6, (some (.cells (layT [(i6 a6), (Value.slice none 0 0), (i6 a7), (i6 a8), (bO a9)]) 46))), (7, (some (.cells (layT [(sN 8 0 (a10).length (Nat.add big 4))]) 22))), (8, (some (.cells (layT (rows rw_iLii a10)) 36)))], 9, 0⟩
abbrev G_slicesValuesapiStyle1q1 (a0 : Int) (a1 : Int) (a2 : Int) (a3 : Bool) (a4 : Int) (a5 : NL) (a6 : Int) (a7 : Int) (a8 : Int) (a9 : Bool) (a10 : List (Int × NL × Int × Int)) (r : Int × List (NL) × Int × Int × Bool) : Prop := Gv P (.func 26) (A_slicesValuesapiStyle1q1 a0 a1 a2 a3 a4 a5 a6 a7 a8 a9 a10) (H_slicesValuesapiStyle1q1 a0 a1 a2 a3 a4 a5 a6 a7 a8 a9 a10) (V_slicesValuesapiStyle1q1 a0 a1 a2 a3 a4 a5 a6 a7 a8 a9 a10 r) (R_slicesValuesapiStyle1q1 a0 a1 a2 a3 a4 a5 a6 a7 a8 a9 a10 r)
abbrev C_slicesValuesapiStyle1q1 (a0 : Int) (a1 : Int) (a2 : Int) (a3 : Bool) (a4 : Int) (a5 : NL) (a6 : Int) (a7 : Int) (a8 : Int) (a9 : Bool) (a10 : List (Int × NL × Int × Int)) (r : Int × List (NL) × Int × Int × Bool) (ins outs : BL) : CallA := ⟨9, ins, V_slicesValuesapiStyle1q1 a0 a1 a2 a3 a4 a5 a6 a7 a8 a9 a10 r, R_slicesValuesapiStyle1q1 a0 a1 a2 a3 a4 a5 a6 a7 a8 a9 a10 r, outs⟩
def S_slicesValuesapiStyle1q1_1 (x1_5 : Int) (x1_6 : NL) (x1_7 : Int) (x1_8 : Int) (x1_9 : Int) (x1_10 : Bool) (x1_11 : List (Int × NL × Int × Int)) (x1_12 : Int) (st : Int × List (NL) × Int × Int × Bool × Int) : XSt := match st with
 | (x1_0, x1_1, x1_2, x1_3, x1_4, x1_13) => (sT 16 [(0, (Value.func (.yield 0) #[] #[])), (5, (sN 8 0 (x1_11).length (Nat.add big 4))), (6, (i6 x1_12)), (7, (i6 x1_13))], [], ⟨sB [(0, (some (rblk P 19 [false, true, false, true] .ready none [(4, (pN 2 0)), (5, (pN 3 0)), (6, (pN 6 0)), (8, (Value.func (.func 26) #[] #[(pN 7 0)]))] 1))), (1, (some (.marks true))), (2, (some (.cells (layT [(i6 x1_0), (nlQ x1_1), (i6 x1_2), (i6 x1_3), (bO x1_4)]) 46))), (3, (some (.cells (layT [(Value.func (.func 21) #[] #[(pN 4 0), (pN 5 0)])]) 52))), (4, (some (.cells (layT [(i6 x1_5)]) 3))), (5, (some (.cells (layT [(nlV x1_6)]) 29))), (6, (some (.cells (layT [(i6 x1_7), (Value.slice none 0 0), (i6 x1_8), (i6 x1_9), (bO x1_10)]) 46))), (7, (some (.cells (layT [(sN 8 0 (x1_11).length (Nat.add big 4))]) 22))), (8, (some (.cells (layT (rows rw_iLii x1_11)) 36)))], 9, 0⟩)
def X_slicesValuesapiStyle1q1_1 (x1_5 : Int) (x1_6 : NL) (x1_7 : Int) (x1_8 : Int) (x1_9 : Int) (x1_10 : Bool) (x1_11 : List (Int × NL × Int × Int)) (x1_12 : Int) (r : Int × List (NL) × Int × Int × Bool) : Ex × XSt := match r with
 | (z1_0, z1_1, z1_2, z1_3, z1_4) => (.exit 0, (sT 16 [], [], ⟨sB [(0, (some (rblk P 19 [false, true, false, true] .ready none [(4, (pN 2 0)), (5, (pN 3 0)), (6, (pN 6 0)), (8, (Value.func (.func 26) #[] #[(pN 7 0)]))] 1))), (1, (some (.marks true))), (2, (some (.cells (layT [(i6 z1_0), (nlQ z1_1), (i6 z1_2), (i6 z1_3), (bO z1_4)]) 46))), (3, (some (.cells (layT [(Value.func (.func 21) #[] #[(pN 4 0), (pN 5 0)])]) 52))), (4, (some (.cells (layT [(i6 x1_5)]) 3))), (5, (some (.cells (layT [(nlV x1_6)]) 29))), (6, (some (.cells (layT [(i6 x1_7), (Value.slice none 0 0), (i6 x1_8), (i6 x1_9), (bO x1_10)]) 46))), (7, (some (.cells (layT [(sN 8 0 (x1_11).length (Nat.add big 4))]) 22))), (8, (some (.cells (layT (rows rw_iLii x1_11)) 36)))], 9, 0⟩))
abbrev Q_slicesValuesapiStyle1q1_1 (rnd : Option Nat) (x1_5 : Int) (x1_6 : NL) (x1_7 : Int) (x1_8 : Int) (x1_9 : Int) (x1_10 : Bool) (x1_11 : List (Int × NL × Int × Int)) (x1_12 : Int) (st : Int × List (NL) × Int × Int × Bool × Int) (c : Ex × XSt) : Prop := CG P rnd (fnN P 26) 9 (codeOf P 26 [false, false, true]) (S_slicesValuesapiStyle1q1_1 x1_5 x1_6 x1_7 x1_8 x1_9 x1_10 x1_11 x1_12 st) c
abbrev U_slicesValuesapiStyle1q1_1 (rd : Option Nat) (x1_5 : Int) (x1_6 : NL) (x1_7 : Int) (x1_8 : Int) (x1_9 : Int) (x1_10 : Bool) (x1_11 : List (Int × NL × Int × Int)) (x1_12 : Int) (st : Int × List (NL) × Int × Int × Bool × Int) (r : Int × List (NL) × Int × Int × Bool) : Prop := CG P rd (fnN P 26) 9 (codeOf P 26 [false, true]) (S_slicesValuesapiStyle1q1_1 x1_5 x1_6 x1_7 x1_8 x1_9 x1_10 x1_11 x1_12 st) (X_slicesValuesapiStyle1q1_1 x1_5 x1_6 x1_7 x1_8 x1_9 x1_10 x1_11 x1_12 r)
def B_slicesValuesapiStyle1q1_1 (n : Nat) (x1_5 : Int) (x1_6 : NL) (x1_7 : Int) (x1_8 : Int) (x1_9 : Int) (x1_10 : Bool) (x1_11 : List (Int × NL × Int × Int)) (x1_12 : Int) (st : Int × List (NL) × Int × Int × Bool × Int) : Option ((Int × List (NL) × Int × Int × Bool × Int) ⊕ (Int × List (NL) × Int × Int × Bool)) := match st with
 | (x1_0, x1_1, x1_2, x1_3, x1_4, x1_13) =>
  match x1_1 with
  | [] =>
   if x1_13 < x1_12 then
    if 0 ≤ x1_13 ∧ x1_13 < (((x1_11).length : Nat) : Int) then
     ((some ((x1_11).getD (x1_13).toNat (0, nl0, 0, 0)))).bind fun y1_3_ =>
     (m_foldOverstyleschoice_1010y1 n x1_0 x1_2 x1_3 x1_4 x1_5 x1_6 x1_7 x1_8 x1_9 x1_10 x1_11 (y1_3_.1) (y1_3_.2.1) (y1_3_.2.2.1) (y1_3_.2.2.2)).bind fun t => match t with
     | (y1_4_0, y1_4_1, y1_4_2, y1_4_3, y1_4_4) =>
      some (.inl (y1_4_0, [y1_4_1], y1_4_2, y1_4_3, y1_4_4, (w64 (x1_13 + (1 : Int)))))
    else none
   else
    some (.inr (x1_0, ([] : List (NL)), x1_2, x1_3, x1_4))
  | x1_1a :: x1_1t =>
   if x1_13 < x1_12 then
    if 0 ≤ x1_13 ∧ x1_13 < (((x1_11).length : Nat) : Int) then
     ((some ((x1_11).getD (x1_13).toNat (0, nl0, 0, 0)))).bind fun y1_3_ =>
     (m_foldOverstyleschoice_1010y2 n x1_0 x1_1a x1_2 x1_3 x1_4 x1_5 x1_6 x1_7 x1_8 x1_9 x1_10 x1_11 (y1_3_.1) (y1_3_.2.1) (y1_3_.2.2.1) (y1_3_.2.2.2)).bind fun t => match t with
     | (y1_4_0, y1_4_1, y1_4_2, y1_4_3, y1_4_4) =>
      some (.inl (y1_4_0, [y1_4_1], y1_4_2, y1_4_3, y1_4_4, (w64 (x1_13 + (1 : Int)))))
    else none
   else
    some (.inr (x1_0, [x1_1a], x1_2, x1_3, x1_4))
def m_slicesValuesapiStyle1q1_1 (n : Nat) (x1_5 : Int) (x1_6 : NL) (x1_7 : Int) (x1_8 : Int) (x1_9 : Int) (x1_10 : Bool) (x1_11 : List (Int × NL × Int × Int)) (x1_12 : Int) (st : Int × List (NL) × Int × Int × Bool × Int) : Option (Int × List (NL) × Int × Int × Bool) := iterM (B_slicesValuesapiStyle1q1_1 n x1_5 x1_6 x1_7 x1_8 x1_9 x1_10 x1_11 x1_12) n st
theorem b_slicesValuesapiStyle1q1_1 (n : Nat) {rnd : Option Nat} (x1_5 : Int) (x1_6 : NL) (x1_7 : Int) (x1_8 : Int) (x1_9 : Int) (x1_10 : Bool) (x1_11 : List (Int × NL × Int × Int)) (x1_12 : Int) (st : Int × List (NL) × Int × Int × Bool × Int) (o : (Int × List (NL) × Int × Int × Bool × Int) ⊕ (Int × List (NL) × Int × Int × Bool)) (h : B_slicesValuesapiStyle1q1_1 n x1_5 x1_6 x1_7 x1_8 x1_9 x1_10 x1_11 x1_12 st = some o) : CG P rnd (fnN P 26) 9 (codeOf P 26 [false, false, true]) (S_slicesValuesapiStyle1q1_1 x1_5 x1_6 x1_7 x1_8 x1_9 x1_10 x1_11 x1_12 st) (Sum.elim (fun s => (.normal, S_slicesValuesapiStyle1q1_1 x1_5 x1_6 x1_7 x1_8 x1_9 x1_10 x1_11 x1_12 s)) (fun r => X_slicesValuesapiStyle1q1_1 x1_5 x1_6 x1_7 x1_8 x1_9 x1_10 x1_11 x1_12 r) o) := by
 obtain ⟨x1_0, x1_1, x1_2, x1_3, x1_4, x1_13⟩ := st
 unfold B_slicesValuesapiStyle1q1_1 at h
 dsimp only at h
 cases x1_1 with
 | nil =>
  dsimp only at h
  by_cases hy1_1 : x1_13 < x1_12
  ·rw [if_pos hy1_1] at h
   obtain ⟨hy1_2, h⟩ := gd h
   obtain ⟨y1_3_, hy1_3, h⟩ := oB h
   obtain ⟨⟨y1_4_0, y1_4_1, y1_4_2, y1_4_3, y1_4_4⟩, hy1_4, h⟩ := oB h
   dsimp only at h
   obtain rfl := oI h
   exact runC2 hm ⟨[0, 5, 6, 7], [(0, 0, false), (1, 1, false), (2, 2, false), (3, 3, false), (4, 4, false), (5, 5, false), (6, 6, false), (7, 7, false), (8, 8, true)], 9, 0, [], false, [], [], []⟩ (zz 1 (xdT hy1_1) <|
    zz 7 (xk25 8 U4 hy1_2) <|
    yy 8 (.ld (Value.agg #[(i6 (y1_3_.1)), (nlV (y1_3_.2.1)), (i6 (y1_3_.2.2.1)), (i6 (y1_3_.2.2.2))])) <|
    ww (p := rdT (layT (rows rw_iLii x1_11)) 4 ((x1_13).toNat * 4) = some [(i6 (y1_3_.1)), (nlV (y1_3_.2.1)), (i6 (y1_3_.2.2.1)), (i6 (y1_3_.2.2.2))]) (rows_rdpN rwf_iLii (0, nl0, 0, 0) (hr := hy1_3) (i := (x1_13).toNat) (j := 0) ((x1_13).toNat * 4) rfl (toNatLt hy1_2) (by decide) rfl) <|
    yy 14 (.call (C_foldOverstyleschoice_1010y1 x1_0 x1_2 x1_3 x1_4 x1_5 x1_6 x1_7 x1_8 x1_9 x1_10 x1_11 (y1_3_.1) (y1_3_.2.1) (y1_3_.2.2.1) (y1_3_.2.2.2) (y1_4_0, y1_4_1, y1_4_2, y1_4_3, y1_4_4) [(0, 0, false), (1, 1, false), (2, 2, false), (3, 3, false), (4, 4, false), (5, 5, false), (6, 6, false), (7, 7, false), (8, 8, true)] [(0, 0, false), (1, 1, false), (2, 2, false), (3, 3, false), (4, 4, false), (5, 5, false), (6, 6, false), (7, 7, false), (8, 8, true)])) <|
    ww (m_foldOverstyleschoice_1010y1_ok n x1_0 x1_2 x1_3 x1_4 x1_5 x1_6 x1_7 x1_8 x1_9 x1_10 x1_11 (y1_3_.1) (y1_3_.2.1) (y1_3_.2.2.1) (y1_3_.2.2.2) (y1_4_0, y1_4_1, y1_4_2, y1_4_3, y1_4_4) hy1_4) <|
    ww (rows_flat rwf_iLii x1_11 36) <|
    ww (rows_flat rwf_iLii x1_11 36) <|
    ww (rows_flat rwf_iLii x1_11 36) <|
    ee) (by kernel_rfl)
  ·rw [if_neg hy1_1] at h
   obtain rfl := oI h
   exact runC2 hm ⟨[], [(0, 0, false), (1, 1, false), (2, 2, false), (3, 3, false), (4, 4, false), (5, 5, false), (6, 6, false), (7, 7, false), (8, 8, true)], 9, 0, [], false, [], [], []⟩ (zz 1 (xdF hy1_1) <|
    ww (rows_flat rwf_iLii x1_11 36) <|
    ee) (by kernel_rfl)
 | cons x1_1a x1_1t =>
  dsimp only at h
  by_cases hy1_1 : x1_13 < x1_12
  ·rw [if_pos hy1_1] at h
   obtain ⟨hy1_2, h⟩ := gd h
   obtain ⟨y1_3_, hy1_3, h⟩ := oB h
   obtain ⟨⟨y1_4_0, y1_4_1, y1_4_2, y1_4_3, y1_4_4⟩, hy1_4, h⟩ := oB h
   dsimp only at h
   obtain rfl := oI h
   exact runC2 hm ⟨[0, 5, 6, 7], [(0, 0, false), (1, 1, false), (2, 2, false), (3, 3, false), (4, 4, false), (5, 5, false), (6, 6, false), (7, 7, false), (8, 8, true)], 9, 0, [], false, [], [], []⟩ (zz 1 (xdT hy1_1) <|
    zz 7 (xk25 8 U4 hy1_2) <|
    yy 8 (.ld (Value.agg #[(i6 (y1_3_.1)), (nlV (y1_3_.2.1)), (i6 (y1_3_.2.2.1)), (i6 (y1_3_.2.2.2))])) <|
    ww (p := rdT (layT (rows rw_iLii x1_11)) 4 ((x1_13).toNat * 4) = some [(i6 (y1_3_.1)), (nlV (y1_3_.2.1)), (i6 (y1_3_.2.2.1)), (i6 (y1_3_.2.2.2))]) (rows_rdpN rwf_iLii (0, nl0, 0, 0) (hr := hy1_3) (i := (x1_13).toNat) (j := 0) ((x1_13).toNat * 4) rfl (toNatLt hy1_2) (by decide) rfl) <|
    yy 14 (.call (C_foldOverstyleschoice_1010y2 x1_0 x1_1a x1_2 x1_3 x1_4 x1_5 x1_6 x1_7 x1_8 x1_9 x1_10 x1_11 (y1_3_.1) (y1_3_.2.1) (y1_3_.2.2.1) (y1_3_.2.2.2) (y1_4_0, y1_4_1, y1_4_2, y1_4_3, y1_4_4) [(0, 0, false), (1, 1, false), (2, 2, false), (3, 3, false), (4, 4, false), (5, 5, false), (6, 6, false), (7, 7, false), (8, 8, true)] [(0, 0, false), (1, 1, false), (2, 2, false), (3, 3, false), (4, 4, false), (5, 5, false), (6, 6, false), (7, 7, false), (8, 8, true)])) <|
    ww (m_foldOverstyleschoice_1010y2_ok n x1_0 x1_1a x1_2 x1_3 x1_4 x1_5 x1_6 x1_7 x1_8 x1_9 x1_10 x1_11 (y1_3_.1) (y1_3_.2.1) (y1_3_.2.2.1) (y1_3_.2.2.2) (y1_4_0, y1_4_1, y1_4_2, y1_4_3, y1_4_4) hy1_4) <|
    ww (rows_flat rwf_iLii x1_11 36) <|
    ww (rows_flat rwf_iLii x1_11 36) <|
    ww (rows_flat rwf_iLii x1_11 36) <|
    ee) (by kernel_rfl)
  ·rw [if_neg hy1_1] at h
   obtain rfl := oI h
   exact runC2 hm ⟨[], [(0, 0, false), (1, 1, false), (2, 2, false), (3, 3, false), (4, 4, false), (5, 5, false), (6, 6, false), (7, 7, false), (8, 8, true)], 9, 0, [], false, [], [], []⟩ (zz 1 (xdF hy1_1) <|
    ww (rows_flat rwf_iLii x1_11 36) <|
    ee) (by kernel_rfl)
theorem m_slicesValuesapiStyle1q1_1_ok (n : Nat) {rnd : Option Nat} (x1_5 : Int) (x1_6 : NL) (x1_7 : Int) (x1_8 : Int) (x1_9 : Int) (x1_10 : Bool) (x1_11 : List (Int × NL × Int × Int)) (x1_12 : Int) (st : Int × List (NL) × Int × Int × Bool × Int) (r : Int × List (NL) × Int × Int × Bool) (h : m_slicesValuesapiStyle1q1_1 n x1_5 x1_6 x1_7 x1_8 x1_9 x1_10 x1_11 x1_12 st = some r) : CG P rnd (fnN P 26) 9 (codeOf P 26 [false, true]) (S_slicesValuesapiStyle1q1_1 x1_5 x1_6 x1_7 x1_8 x1_9 x1_10 x1_11 x1_12 st) (X_slicesValuesapiStyle1q1_1 x1_5 x1_6 x1_7 x1_8 x1_9 x1_10 x1_11 x1_12 r) :=
 CG.iter (b := codeOf P 26 [false, false, true]) (by kernel_rfl) (body := B_slicesValuesapiStyle1q1_1 n x1_5 x1_6 x1_7 x1_8 x1_9 x1_10 x1_11 x1_12) (S := S_slicesValuesapiStyle1q1_1 x1_5 x1_6 x1_7 x1_8 x1_9 x1_10 x1_11 x1_12) (X := X_slicesValuesapiStyle1q1_1 x1_5 x1_6 x1_7 x1_8 x1_9 x1_10 x1_11 x1_12)
  (fun s s' h => b_slicesValuesapiStyle1q1_1 n x1_5 x1_6 x1_7 x1_8 x1_9 x1_10 x1_11 x1_12 s (.inl s') h)
  (fun s r h => b_slicesValuesapiStyle1q1_1 n x1_5 x1_6 x1_7 x1_8 x1_9 x1_10 x1_11 x1_12 s (.inr r) h)
  (fun r => by intro hx; cases hx) h
def m_slicesValuesapiStyle1q1 (n : Nat) (a0 : Int) (a1 : Int) (a2 : Int) (a3 : Bool) (a4 : Int) (a5 : NL) (a6 : Int) (a7 : Int) (a8 : Int) (a9 : Bool) (a10 : List (Int × NL × Int × Int)) : Option (Int × List (NL) × Int × Int × Bool) :=
 (m_slicesValuesapiStyle1q1_1 n a4 a5 a6 a7 a8 a9 a10 (((a10).length : Nat) : Int) (a0, ([] : List (NL)), a1, a2, a3, 0)).bind fun t => match t with
 | (c1_0, c1_1, c1_2, c1_3, c1_4) =>
  match c1_1 with
  | [] =>
   some (c1_0, ([] : List (NL)), c1_2, c1_3, c1_4)
  | c1_1a :: c1_1t =>
   some (c1_0, [c1_1a], c1_2, c1_3, c1_4)
theorem m_slicesValuesapiStyle1q1_ok (n : Nat) (a0 : Int) (a1 : Int) (a2 : Int) (a3 : Bool) (a4 : Int) (a5 : NL) (a6 : Int) (a7 : Int) (a8 : Int) (a9 : Bool) (a10 : List (Int × NL × Int × Int)) (r : Int × List (NL) × Int × Int × Bool) (h : m_slicesValuesapiStyle1q1 n a0 a1 a2 a3 a4 a5 a6 a7 a8 a9 a10 = some r) : Gv P (.func 26) (A_slicesValuesapiStyle1q1 a0 a1 a2 a3 a4 a5 a6 a7 a8 a9 a10) (H_slicesValuesapiStyle1q1 a0 a1 a2 a3 a4 a5 a6 a7 a8 a9 a10) (V_slicesValuesapiStyle1q1 a0 a1 a2 a3 a4 a5 a6 a7 a8 a9 a10 r) (R_slicesValuesapiStyle1q1 a0 a1 a2 a3 a4 a5 a6 a7 a8 a9 a10 r) := by
 unfold m_slicesValuesapiStyle1q1 at h
 obtain ⟨⟨c1_0, c1_1, c1_2, c1_3, c1_4⟩, hc1, h⟩ := oB h
 dsimp only at h
 cases c1_1 with
 | nil =>
  dsimp only at h
  obtain rfl := oI h
  exact runF2 hm ⟨[], [(0, 0, false), (1, 1, false), (2, 2, false), (3, 3, false), (4, 4, false), (5, 5, false), (6, 6, false), (7, 7, false), (8, 8, true)], 9, 0, [], false, [], [], []⟩ (ww (p := U_slicesValuesapiStyle1q1_1 none a4 a5 a6 a7 a8 a9 a10 (((a10).length : Nat) : Int) (a0, ([] : List (NL)), a1, a2, a3, 0) (c1_0, ([] : List (NL)), c1_2, c1_3, c1_4)) (m_slicesValuesapiStyle1q1_1_ok n a4 a5 a6 a7 a8 a9 a10 (((a10).length : Nat) : Int) (a0, ([] : List (NL)), a1, a2, a3, 0) (c1_0, ([] : List (NL)), c1_2, c1_3, c1_4) hc1) <|
   ww (rows_flat rwf_iLii a10 36) <|
   ll 5 ⟨⟨[0, 5, 6, 7], [(0, 0, false), (1, 1, false), (2, 2, false), (3, 3, false), (4, 4, false), (5, 5, false), (6, 6, false), (7, 7, false), (8, 8, true)], 9, 0, [], false, [], [], []⟩, (X_slicesValuesapiStyle1q1_1 a4 a5 a6 a7 a8 a9 a10 (((a10).length : Nat) : Int) (c1_0, ([] : List (NL)), c1_2, c1_3, c1_4)).1, (X_slicesValuesapiStyle1q1_1 a4 a5 a6 a7 a8 a9 a10 (((a10).length : Nat) : Int) (c1_0, ([] : List (NL)), c1_2, c1_3, c1_4)).2⟩ <|
   ww (rows_flat rwf_iLii a10 36) <|
   ee) (by kernel_rfl)
 | cons c1_1a c1_1t =>
  dsimp only at h
  obtain rfl := oI h
  exact runF2 hm ⟨[], [(0, 0, false), (1, 1, false), (2, 2, false), (3, 3, false), (4, 4, false), (5, 5, false), (6, 6, false), (7, 7, false), (8, 8, true)], 9, 0, [], false, [], [], []⟩ (ww (p := U_slicesValuesapiStyle1q1_1 none a4 a5 a6 a7 a8 a9 a10 (((a10).length : Nat) : Int) (a0, ([] : List (NL)), a1, a2, a3, 0) (c1_0, (c1_1a :: c1_1t), c1_2, c1_3, c1_4)) (m_slicesValuesapiStyle1q1_1_ok n a4 a5 a6 a7 a8 a9 a10 (((a10).length : Nat) : Int) (a0, ([] : List (NL)), a1, a2, a3, 0) (c1_0, (c1_1a :: c1_1t), c1_2, c1_3, c1_4) hc1) <|
   ww (rows_flat rwf_iLii a10 36) <|
   ll 5 ⟨⟨[0, 5, 6, 7], [(0, 0, false), (1, 1, false), (2, 2, false), (3, 3, false), (4, 4, false), (5, 5, false), (6, 6, false), (7, 7, false), (8, 8, true)], 9, 0, [], false, [], [], []⟩, (X_slicesValuesapiStyle1q1_1 a4 a5 a6 a7 a8 a9 a10 (((a10).length : Nat) : Int) (c1_0, (c1_1a :: c1_1t), c1_2, c1_3, c1_4)).1, (X_slicesValuesapiStyle1q1_1 a4 a5 a6 a7 a8 a9 a10 (((a10).length : Nat) : Int) (c1_0, (c1_1a :: c1_1t), c1_2, c1_3, c1_4)).2⟩ <|
   ww (rows_flat rwf_iLii a10 36) <|
   ee) (by kernel_rfl)

def A_foldOverstyleschoiceq1 (a0 : List (Int × NL × Int × Int)) (a1 : Int) (a2 : Int) (a3 : Int) (a4 : Bool) (a5 : Int) (a6 : NL) : List Value := [(Value.func (.func 26) #[] #[(pN 0 0)]), (Value.agg #[(i6 a1), (Value.slice none 0 0), (i6 a2), (i6 a3), (bO a4)]), (Value.func (.func 21) #[] #[(pN 2 0), (pN 3 0)])]
def H_foldOverstyleschoiceq1 (a0 : List (Int × NL × Int × Int)) (a1 : Int) (a2 : Int) (a3 : Int) (a4 : Bool) (a5 : Int) (a6 : NL) : AH := ⟨sB [(0, (some (.cells (layT [(sN 1 0 (a0).length (Nat.add big 4))]) 22))), (1, (some (.cells (layT (rows rw_iLii a0)) 36))), (2, (some (.cells (layT [(i6 a5)]) 3))), (3, (some (.cells (layT [(nlV a6)]) 29)))], 4, 4⟩
def V_foldOverstyleschoiceq1 (a0 : List (Int × NL × Int × Int)) (a1 : Int) (a2 : Int) (a3 : Int) (a4 : Bool) (a5 : Int) (a6 : NL) (r : Int × List (NL) × Int × Int × Bool) : Value := match r with
 | (o0, o1, o2, o3, o4) => (Value.agg #[(i6 o0), (nlQ o1), (i6 o2), (i6 o3), (bO o4)])
def R_foldOverstyleschoiceq1 (a0 : List (Int × NL × Int × Int)) (a1 : Int) (a2 : Int) (a3 : Int) (a4 : Bool) (a5 : Int) (a6 : NL) (r : Int × List (NL) × Int × Int × Bool) : AH := match r with
 | (o0, o1, o2, o3, o4) => ⟨sB [(0, (some (.cells (layT [(sN 1 0 (a0).length (Nat.add big 4))]) 22))), (1, (some (.cells (layT (rows rw_iLii a0)) 36))), (2, (some (.cells (layT [(i6 a5)]) 3))), (3, (some (.cells (layT [(nlV a6)]) 29))), (4, (some (.marks false))), (5, (some (.cells (layT [(i6 o0), (nlQ o1), (i6 o2), (i6 o3), (bO o4)]) 46)))], 6, 0⟩
abbrev G_foldOverstyleschoiceq1 (a0 : List (Int × NL × Int × Int)) (a1 : Int) (a2 : Int) (a3 : Int) (a4 : Bool) (a5 : Int) (a6 : NL) (r : Int × List (NL) × Int × Int × Bool) : Prop := Gv P (.func 19) (A_foldOverstyleschoiceq1 a0 a1 a2 a3 a4 a5 a6) (H_foldOverstyleschoiceq1 a0 a1 a2 a3 a4 a5 a6) (V_foldOverstyleschoiceq1 a0 a1 a2 a3 a4 a5 a6 r) (R_foldOverstyleschoiceq1 a0 a1 a2 a3 a4 a5 a6 r)
abbrev C_foldOverstyleschoiceq1 (a0 : List (Int × NL × Int × Int)) (a1 : Int) (a2 : Int) (a3 : Int) (a4 : Bool) (a5 : Int) (a6 : NL) (r : Int × List (NL) × Int × Int × Bool) (ins outs : BL) : CallA := ⟨4, ins, V_foldOverstyleschoiceq1 a0 a1 a2 a3 a4 a5 a6 r, R_foldOverstyleschoiceq1 a0 a1 a2 a3 a4 a5 a6 r, outs⟩
def m_foldOverstyleschoiceq1 (n : Nat) (a0 : List (Int × NL × Int × Int)) (a1 : Int) (a2 : Int) (a3 : Int) (a4 : Bool) (a5 : Int) (a6 : NL) : Option (Int × List (NL) × Int × Int × Bool) :=
 (m_slicesValuesapiStyle1q1 n a1 a2 a3 a4 a5 a6 0 0 0 false a0).bind fun t => match t with
 | (c1_0, c1_1, c1_2, c1_3, c1_4) =>
  match c1_1 with
  | [] =>
   some (c1_0, ([] : List (NL)), c1_2, c1_3, c1_4)
  | c1_1a :: c1_1t =>
   some (c1_0, [c1_1a], c1_2, c1_3, c1_4)
theorem m_foldOverstyleschoiceq1_ok (n : Nat) (a0 : List (Int × NL × Int × Int)) (a1 : Int) (a2 : Int) (a3 : Int) (a4 : Bool) (a5 : Int) (a6 : NL) (r : Int × List (NL) × Int × Int × Bool) (h : m_foldOverstyleschoiceq1 n a0 a1 a2 a3 a4 a5 a6 = some r) : Gv P (.func 19) (A_foldOverstyleschoiceq1 a0 a1 a2 a3 a4 a5 a6) (H_foldOverstyleschoiceq1 a0 a1 a2 a3 a4 a5 a6) (V_foldOverstyleschoiceq1 a0 a1 a2 a3 a4 a5 a6 r) (R_foldOverstyleschoiceq1 a0 a1 a2 a3 a4 a5 a6 r) := by
 unfold m_foldOverstyleschoiceq1 at h
 obtain ⟨⟨c1_0, c1_1, c1_2, c1_3, c1_4⟩, hc1, h⟩ := oB h
 dsimp only at h
 cases c1_1 with
 | nil =>
  dsimp only at h
  obtain rfl := oI h
  exact runF2 hm ⟨[6], [(0, 0, false), (1, 1, true), (2, 2, false), (3, 3, false), (4, 7, false), (5, 6, false)], 6, 0, [], false, [], [], []⟩ (yy 8 (.rng (C_slicesValuesapiStyle1q1 a1 a2 a3 a4 a5 a6 0 0 0 false a0 (c1_0, ([] : List (NL)), c1_2, c1_3, c1_4) [(0, 8, false), (1, 7, false), (2, 4, false), (3, 5, false), (4, 2, false), (5, 3, false), (6, 6, false), (7, 0, false), (8, 1, true)] [(8, 0, false), (7, 1, false), (4, 2, false), (5, 3, false), (2, 4, false), (3, 5, false), (6, 6, false), (0, 7, false), (1, 8, true)]) [4, 5, 6, 8]) <|
   ww (m_slicesValuesapiStyle1q1_ok n a1 a2 a3 a4 a5 a6 0 0 0 false a0 (c1_0, ([] : List (NL)), c1_2, c1_3, c1_4) hc1) <|
   ww (rows_flat rwf_iLii a0 36) <|
   ww (rows_flat rwf_iLii a0 36) <|
   ww (rows_flat rwf_iLii a0 36) <|
   ee) (by kernel_rfl)
 | cons c1_1a c1_1t =>
  dsimp only at h
  obtain rfl := oI h
  exact runF2 hm ⟨[6], [(0, 0, false), (1, 1, true), (2, 2, false), (3, 3, false), (4, 7, false), (5, 6, false)], 6, 0, [], false, [], [], []⟩ (yy 8 (.rng (C_slicesValuesapiStyle1q1 a1 a2 a3 a4 a5 a6 0 0 0 false a0 (c1_0, (c1_1a :: c1_1t), c1_2, c1_3, c1_4) [(0, 8, false), (1, 7, false), (2, 4, false), (3, 5, false), (4, 2, false), (5, 3, false), (6, 6, false), (7, 0, false), (8, 1, true)] [(8, 0, false), (7, 1, false), (4, 2, false), (5, 3, false), (2, 4, false), (3, 5, false), (6, 6, false), (0, 7, false), (1, 8, true)]) [4, 5, 6, 8]) <|
   ww (m_slicesValuesapiStyle1q1_ok n a1 a2 a3 a4 a5 a6 0 0 0 false a0 (c1_0, (c1_1a :: c1_1t), c1_2, c1_3, c1_4) hc1) <|
   ww (rows_flat rwf_iLii a0 36) <|
   ww (rows_flat rwf_iLii a0 36) <|
   ww (rows_flat rwf_iLii a0 36) <|
   ee) (by kernel_rfl)

def A_stylesStyleq1 (a0 : List (Int × NL × Int × Int)) (a1 : Int) (a2 : NL) : List Value := [(sN 0 0 (a0).length (Nat.add big 4)), (i6 a1), (nlV a2)]
def H_stylesStyleq1 (a0 : List (Int × NL × Int × Int)) (a1 : Int) (a2 : NL) : AH := ⟨sB [(0, (some (.cells (layT (rows rw_iLii a0)) 36)))], 1, 1⟩
def V_stylesStyleq1 (a0 : List (Int × NL × Int × Int)) (a1 : Int) (a2 : NL) (r : Int) : Value := match r with
 | o0 => (i6 o0)
def R_stylesStyleq1 (a0 : List (Int × NL × Int × Int)) (a1 : Int) (a2 : NL) (r : Int) : AH := match r with
 | o0 => ⟨sB [(0, (some (.cells (layT (rows rw_iLii a0)) 36)))], 1, 0⟩
abbrev G_stylesStyleq1 (a0 : List (Int × NL × Int × Int)) (a1 : Int) (a2 : NL) (r : Int) : Prop := Gv P (.func 10) (A_stylesStyleq1 a0 a1 a2) (H_stylesStyleq1 a0 a1 a2) (V_stylesStyleq1 a0 a1 a2 r) (R_stylesStyleq1 a0 a1 a2 r)
abbrev C_stylesStyleq1 (a0 : List (Int × NL × Int × Int)) (a1 : Int) (a2 : NL) (r : Int) (ins outs : BL) : CallA := ⟨1, ins, V_stylesStyleq1 a0 a1 a2 r, R_stylesStyleq1 a0 a1 a2 r, outs⟩
def m_stylesStyleq1 (n : Nat) (a0 : List (Int × NL × Int × Int)) (a1 : Int) (a2 : NL) : Option (Int) :=
 (m_slicesValuesapiStyleq1 n a0).bind fun _ =>
 (m_foldOverstyleschoiceq1 n a0 0 0 0 false a1 a2).bind fun t => match t with
 | (c2_0, c2_1, c2_2, c2_3, c2_4) =>
  match c2_1 with
  | [] =>
   some c2_2
  | c2_1a :: c2_1t =>
   some c2_2
theorem m_stylesStyleq1_ok (n : Nat) (a0 : List (Int × NL × Int × Int)) (a1 : Int) (a2 : NL) (r : Int) (h : m_stylesStyleq1 n a0 a1 a2 = some r) : Gv P (.func 10) (A_stylesStyleq1 a0 a1 a2) (H_stylesStyleq1 a0 a1 a2) (V_stylesStyleq1 a0 a1 a2 r) (R_stylesStyleq1 a0 a1 a2 r) := by
 unfold m_stylesStyleq1 at h
 obtain ⟨_, hc1, h⟩ := oB h
 obtain ⟨⟨c2_0, c2_1, c2_2, c2_3, c2_4⟩, hc2, h⟩ := oB h
 dsimp only at h
 have k0 := fun {A L l} (k : PL A L l) => yy 6 (.call (C_slicesValuesapiStyleq1 a0 () [(0, 0, true)] [(0, 0, true), (3, 1, false)])) <|
  ww (m_slicesValuesapiStyleq1_ok n a0 () hc1) <|
  ww (rows_flat rwf_iLii a0 36) <|
  ww (rows_flat rwf_iLii a0 36) <|
  k
 cases c2_1 with
 | nil =>
  dsimp only at h
  obtain rfl := oI h
  exact runF2 hm ⟨[6], [(0, 0, true)], 1, 0, [], false, [], [], []⟩ (k0 <|
   yy 9 (.call (C_foldOverstyleschoiceq1 a0 0 0 0 false a1 a2 (c2_0, ([] : List (NL)), c2_2, c2_3, c2_4) [(0, 3, false), (1, 0, true), (2, 1, false), (3, 2, false)] [(3, 0, false), (0, 1, true), (1, 2, false), (2, 3, false), (5, 5, false)])) <|
   ww (m_foldOverstyleschoiceq1_ok n a0 0 0 0 false a1 a2 (c2_0, ([] : List (NL)), c2_2, c2_3, c2_4) hc2) <|
   ww (rows_flat rwf_iLii a0 36) <|
   ww (rows_flat rwf_iLii a0 36) <|
   ww (rows_flat rwf_iLii a0 36) <|
   ee) (by kernel_rfl)
 | cons c2_1a c2_1t =>
  dsimp only at h
  obtain rfl := oI h
  exact runF2 hm ⟨[6], [(0, 0, true)], 1, 0, [], false, [], [], []⟩ (k0 <|
   yy 9 (.call (C_foldOverstyleschoiceq1 a0 0 0 0 false a1 a2 (c2_0, (c2_1a :: c2_1t), c2_2, c2_3, c2_4) [(0, 3, false), (1, 0, true), (2, 1, false), (3, 2, false)] [(3, 0, false), (0, 1, true), (1, 2, false), (2, 3, false), (5, 5, false)])) <|
   ww (m_foldOverstyleschoiceq1_ok n a0 0 0 0 false a1 a2 (c2_0, (c2_1a :: c2_1t), c2_2, c2_3, c2_4) hc2) <|
   ww (rows_flat rwf_iLii a0 36) <|
   ww (rows_flat rwf_iLii a0 36) <|
   ww (rows_flat rwf_iLii a0 36) <|
   ee) (by kernel_rfl)

def A_stylesLeafq1 (a0 : List (Int × NL × Int × Int)) (a1 : WL rw_iiiiiiLu) (a2 : Int) : List Value := [(sN 0 0 (a0).length (Nat.add big 4)), (wlV a1), (i6 a2)]
def H_stylesLeafq1 (a0 : List (Int × NL × Int × Int)) (a1 : WL rw_iiiiiiLu) (a2 : Int) : AH := ⟨sB [(0, (some (.cells (layT (rows rw_iLii a0)) 36)))], 1, 1⟩
def V_stylesLeafq1 (a0 : List (Int × NL × Int × Int)) (a1 : WL rw_iiiiiiLu) (a2 : Int) (r : Int) : Value := match r with
 | o0 => (i6 o0)
def R_stylesLeafq1 (a0 : List (Int × NL × Int × Int)) (a1 : WL rw_iiiiiiLu) (a2 : Int) (r : Int) : AH := match r with
 | o0 => ⟨sB [(0, (some (.cells (layT (rows rw_iLii a0)) 36)))], 1, 0⟩
abbrev G_stylesLeafq1 (a0 : List (Int × NL × Int × Int)) (a1 : WL rw_iiiiiiLu) (a2 : Int) (r : Int) : Prop := Gv P (.func 8) (A_stylesLeafq1 a0 a1 a2) (H_stylesLeafq1 a0 a1 a2) (V_stylesLeafq1 a0 a1 a2 r) (R_stylesLeafq1 a0 a1 a2 r)
abbrev C_stylesLeafq1 (a0 : List (Int × NL × Int × Int)) (a1 : WL rw_iiiiiiLu) (a2 : Int) (r : Int) (ins outs : BL) : CallA := ⟨1, ins, V_stylesLeafq1 a0 a1 a2 r, R_stylesLeafq1 a0 a1 a2 r, outs⟩
def m_stylesLeafq1 (n : Nat) (a0 : List (Int × NL × Int × Int)) (a1 : WL rw_iiiiiiLu) (a2 : Int) : Option (Int) :=
 (m_treePathq1 n a1 a2).bind fun c1_ =>
 if (((c1_).l.length : Nat) : Int) = (0 : Int) then
  some 0
 else
  if 0 ≤ a2 ∧ a2 < (((a1).l.length : Nat) : Int) then
   ((some (((a1).l).getD (a2).toNat (0, 0, 0, 0, 0, 0, nl0, 0)))).bind fun c4_ =>
   if (c4_.2.1) = (3 : Int) then
    ((some (w64 ((((c1_).l.length : Nat) : Int) - (1 : Int))))).bind fun c6_ =>
    if 0 ≤ c6_ then
     if hc8 : 0 ≤ (c6_).toNat ∧ (c6_).toNat ≤ (c1_).l.length then
      (m_stylesStyleq1 n a0 (c4_.1) (nlSub c1_ 0 (c6_).toNat hc8)).bind fun c9_ =>
      some c9_
     else none
    else none
   else
    if (c4_.2.1) = (5 : Int) then
     ((some (w64 ((((c1_).l.length : Nat) : Int) - (1 : Int))))).bind fun c7_ =>
     if 0 ≤ c7_ then
      if hc9 : 0 ≤ (c7_).toNat ∧ (c7_).toNat ≤ (c1_).l.length then
       (m_stylesStyleq1 n a0 (c4_.1) (nlSub c1_ 0 (c7_).toNat hc9)).bind fun c10_ =>
       some c10_
      else none
     else none
    else
     some 0
  else none
theorem m_stylesLeafq1_ok (n : Nat) (a0 : List (Int × NL × Int × Int)) (a1 : WL rw_iiiiiiLu) (a2 : Int) (r : Int) (h : m_stylesLeafq1 n a0 a1 a2 = some r) : Gv P (.func 8) (A_stylesLeafq1 a0 a1 a2) (H_stylesLeafq1 a0 a1 a2) (V_stylesLeafq1 a0 a1 a2 r) (R_stylesLeafq1 a0 a1 a2 r) := by
 unfold m_stylesLeafq1 at h
 obtain ⟨c1_, hc1, h⟩ := oB h
 have k0 := fun {A L l} (k : PL A L l) => yy 5 (.call (C_treePathq1 a1 a2 c1_ [] [])) <|
  ww (m_treePathq1_ok n a1 a2 c1_ hc1) <|
  k
 by_cases hc2 : (((c1_).l.length : Nat) : Int) = (0 : Int)
 ·rw [if_pos hc2] at h
  obtain rfl := oI h
  exact runF2 hm ⟨[6], [(0, 0, true)], 1, 0, [], false, [], [], []⟩ (k0 <|
   zz 11 (xeT hc2) <|
   ww (rows_flat rwf_iLii a0 36) <|
   ee) (by kernel_rfl)
 ·rw [if_neg hc2] at h
  obtain ⟨hc3, h⟩ := gd h
  obtain ⟨c4_, hc4, h⟩ := oB h
  have k2 := fun {A L l} (k : PL A L l) => zz 11 (xeF hc2) <|
   zz 15 (xk4 (a1).num (a1).off (a1).cap hc3) <|
   zz 16 (fk6 (a1).num (Nat.add (a1).off ((a2).toNat * 8))) <|
   zz 17 (lk7 hc4 (toNatLt hc3)) <|
   k
  by_cases hc5 : (c4_.2.1) = (3 : Int)
  ·rw [if_pos hc5] at h
   obtain ⟨c6_, hc6, h⟩ := oB h
   obtain ⟨hc7, h⟩ := gd h
   obtain ⟨hc8, h⟩ := gdD h
   replace h := oB h
   obtain ⟨c9_, hc9, h⟩ := h
   obtain rfl := oI h
   exact runF2 hm ⟨[6], [(0, 0, true)], 1, 0, [], false, [], [], []⟩ (k0 <|
    k2 <|
    zz 18 (xnF hc5) <|
    zz 33 (xk4 (a1).num (a1).off (a1).cap hc3) <|
    zz 34 (fk17 (a1).num (Nat.add (a1).off ((a2).toNat * 8))) <|
    zz 35 (lk18 hc4 (toNatLt hc3)) <|
    zz 39 (xnm hc6) <|
    yy 40 (.pur (nlV (nlSub c1_ 0 (c6_).toNat hc8))) <|
    ww (p := opSlice P 29 (nlV c1_) none (some (i6 c6_)) none Ax.h0 = some ((nlV (nlSub c1_ 0 (c6_).toNat hc8)), Ax.h0)) (slNL (e := 3) c1_ (by kernel_rfl) (by kernel_rfl) rfl (bnd_int hc7) hc8) <|
    yy 41 (.call (C_stylesStyleq1 a0 (c4_.1) (nlSub c1_ 0 (c6_).toNat hc8) c9_ [(0, 0, true)] [(0, 0, true)])) <|
    ww (m_stylesStyleq1_ok n a0 (c4_.1) (nlSub c1_ 0 (c6_).toNat hc8) c9_ hc9) <|
    ww (rows_flat rwf_iLii a0 36) <|
    ww (rows_flat rwf_iLii a0 36) <|
    ww (rows_flat rwf_iLii a0 36) <|
    ee) (by kernel_rfl)
  ·rw [if_neg hc5] at h
   have k6 := fun {A L l} (k : PL A L l) => zz 18 (xnT hc5) <|
    zz 22 (xk4 (a1).num (a1).off (a1).cap hc3) <|
    zz 23 (fk6 (a1).num (Nat.add (a1).off ((a2).toNat * 8))) <|
    zz 24 (lk7 hc4 (toNatLt hc3)) <|
    k
   by_cases hc6 : (c4_.2.1) = (5 : Int)
   ·rw [if_pos hc6] at h
    obtain ⟨c7_, hc7, h⟩ := oB h
    obtain ⟨hc8, h⟩ := gd h
    obtain ⟨hc9, h⟩ := gdD h
    replace h := oB h
    obtain ⟨c10_, hc10, h⟩ := h
    obtain rfl := oI h
    exact runF2 hm ⟨[6], [(0, 0, true)], 1, 0, [], false, [], [], []⟩ (k0 <|
     k2 <|
     k6 <|
     zz 25 (xnF hc6) <|
     zz 33 (xk4 (a1).num (a1).off (a1).cap hc3) <|
     zz 34 (fk17 (a1).num (Nat.add (a1).off ((a2).toNat * 8))) <|
     zz 35 (lk18 hc4 (toNatLt hc3)) <|
     zz 39 (xnm hc7) <|
     yy 40 (.pur (nlV (nlSub c1_ 0 (c7_).toNat hc9))) <|
     ww (p := opSlice P 29 (nlV c1_) none (some (i6 c7_)) none Ax.h0 = some ((nlV (nlSub c1_ 0 (c7_).toNat hc9)), Ax.h0)) (slNL (e := 3) c1_ (by kernel_rfl) (by kernel_rfl) rfl (bnd_int hc8) hc9) <|
     yy 41 (.call (C_stylesStyleq1 a0 (c4_.1) (nlSub c1_ 0 (c7_).toNat hc9) c10_ [(0, 0, true)] [(0, 0, true)])) <|
     ww (m_stylesStyleq1_ok n a0 (c4_.1) (nlSub c1_ 0 (c7_).toNat hc9) c10_ hc10) <|
     ww (rows_flat rwf_iLii a0 36) <|
     ww (rows_flat rwf_iLii a0 36) <|
     ww (rows_flat rwf_iLii a0 36) <|
     ee) (by kernel_rfl)
   ·rw [if_neg hc6] at h
    obtain rfl := oI h
    exact runF2 hm ⟨[6], [(0, 0, true)], 1, 0, [], false, [], [], []⟩ (k0 <|
     k2 <|
     k6 <|
     zz 25 (xnT hc6) <|
     ww (rows_flat rwf_iLii a0 36) <|
     ee) (by kernel_rfl)

def A_slicesValuesapiStyleq2 (a0 : WL rw_iLii) : List Value := [(wlV a0)]
def H_slicesValuesapiStyleq2 (a0 : WL rw_iLii) : AH := ⟨sB [], 0, 0⟩
def V_slicesValuesapiStyleq2 (a0 : WL rw_iLii) (r : Unit) : Value := match r with
 | _ => (Value.func (.func 26) #[] #[(pN 0 0)])
def R_slicesValuesapiStyleq2 (a0 : WL rw_iLii) (r : Unit) : AH := match r with
 | _ => ⟨sB [(0, (some (.cells (layT [(wlV a0)]) 22)))], 1, 0⟩
abbrev G_slicesValuesapiStyleq2 (a0 : WL rw_iLii) (r : Unit) : Prop := Gv P (.func 20) (A_slicesValuesapiStyleq2 a0) (H_slicesValuesapiStyleq2 a0) (V_slicesValuesapiStyleq2 a0 r) (R_slicesValuesapiStyleq2 a0 r)
abbrev C_slicesValuesapiStyleq2 (a0 : WL rw_iLii) (r : Unit) (ins outs : BL) : CallA := ⟨0, ins, V_slicesValuesapiStyleq2 a0 r, R_slicesValuesapiStyleq2 a0 r, outs⟩
def m_slicesValuesapiStyleq2 (n : Nat) (a0 : WL rw_iLii) : Option (Unit) :=
 some ()
theorem m_slicesValuesapiStyleq2_ok (n : Nat) (a0 : WL rw_iLii) (r : Unit) (h : m_slicesValuesapiStyleq2 n a0 = some r) : Gv P (.func 20) (A_slicesValuesapiStyleq2 a0) (H_slicesValuesapiStyleq2 a0) (V_slicesValuesapiStyleq2 a0 r) (R_slicesValuesapiStyleq2 a0 r) := by
 unfold m_slicesValuesapiStyleq2 at h
 obtain rfl := oI h
 exact runF2 hm ⟨[2], [(0, 0, false)], 1, 0, [], false, [], [], []⟩ (ee) (by kernel_rfl)

def A_foldOverstyleschoice_1010y3 (a0 : Int) (a1 : Int) (a2 : Int) (a3 : Bool) (a4 : Int) (a5 : NL) (a6 : Int) (a7 : Int) (a8 : Int) (a9 : Bool) (a10 : WL rw_iLii) (a11 : Int) (a12 : NL) (a13 : Int) (a14 : Int) : List Value := [(Value.agg #[(i6 a11), (nlV a12), (i6 a13), (i6 a14)])]
def H_foldOverstyleschoice_1010y3 (a0 : Int) (a1 : Int) (a2 : Int) (a3 : Bool) (a4 : Int) (a5 : NL) (a6 : Int) (a7 : Int) (a8 : Int) (a9 : Bool) (a10 : WL rw_iLii) (a11 : Int) (a12 : NL) (a13 : Int) (a14 : Int) : AH := ⟨sB [(0, (some (rblk P 19 [false, true, false, true] .ready none [(4, (pN 2 0)), (5, (pN 3 0)), (6, (pN 6 0)), (8, (Value.func (.func 26) #[] #[(pN 7 0)]))] 1))), (1, (some (.marks true))), (2, (some (.cells (layT [(i6 a0), (Value.slice none 0 0), (i6 a1), (i6 a2), (bO a3)]) 46))), (3, (some (.cells (layT [(Value.func (.func 21) #[] #[(pN 4 0), (pN 5 0)])]) 52))), (4, (some (.cells (layT [(i6 a4)]) 3))), (5, (some (.cells (layT [(nlV a5)]) 29))), (6, (some (.cells (layT [(i6 a6), (Value.slice none 0 0), (i6 a7), (i6 a8), (bO a9)]) 46))), (7, (some (.cells (layT [(wlV a10)]) 22)))], 8, 8⟩
def V_foldOverstyleschoice_1010y3 (a0 : Int) (a1 : Int) (a2 : Int) (a3 : Bool) (a4 : Int) (a5 : NL) (a6 : Int) (a7 : Int) (a8 : Int) (a9 : Bool) (a10 : WL rw_iLii) (a11 : Int) (a12 : NL) (a13 : Int) (a14 : Int) (r : Int × NL × Int × Int × Bool) : Value := match r with
 | (o0, o1, o2, o3, o4) => (bO true)
def R_foldOverstyleschoice_1010y3 (a0 : Int) (a1 : Int) (a2 : Int) (a3 : Bool) (a4 : Int) (a5 : NL) (a6 : Int) (a7 : Int) (a8 : Int) (a9 : Bool) (a10 : WL rw_iLii) (a11 : Int) (a12 : NL) (a13 : Int) (a14 : Int) (r : Int × NL × Int × Int × Bool) : AH := match r with
 | (o0, o1, o2, o3, o4) => ⟨sB [(0, (some (rblk P 19 [false, true, false, true] .ready none [(4, (pN 2 0)), (5, (pN 3 0)), (6, (pN 6 0)), (8, (Value.func (.func 26) #[] #[(pN 7 0)]))] 1))), (1, (some (.marks true))), (2, (some (.cells (layT [(i6 o0), (nlV o1), (i6 o2), (i6 o3), (bO o4)]) 46))), (3, (some (.cells (layT [(Value.func (.func 21) #[] #[(pN 4 0), (pN 5 0)])]) 52))), (4, (some (.cells (layT [(i6 a4)]) 3))), (5, (some (.cells (layT [(nlV a5)]) 29))), (6, (some (.cells (layT [(i6 a6), (Value.slice none 0 0), (i6 a7), (i6 a8), (bO a9)]) 46))), (7, (some (.cells (layT [(wlV a10)]) 22)))], 8, 0⟩
abbrev G_foldOverstyleschoice_1010y3 (a0 : Int) (a1 : Int) (a2 : Int) (a3 : Bool) (a4 : Int) (a5 : NL) (a6 : Int) (a7 : Int) (a8 : Int) (a9 : Bool) (a10 : WL rw_iLii) (a11 : Int) (a12 : NL) (a13 : Int) (a14 : Int) (r : Int × NL × Int × Int × Bool) : Prop := Gv P (.yield 0) (A_foldOverstyleschoice_1010y3 a0 a1 a2 a3 a4 a5 a6 a7 a8 a9 a10 a11 a12 a13 a14) (H_foldOverstyleschoice_1010y3 a0 a1 a2 a3 a4 a5 a6 a7 a8 a9 a10 a11 a12 a13 a14) (V_foldOverstyleschoice_1010y3 a0 a1 a2 a3 a4 a5 a6 a7 a8 a9 a10 a11 a12 a13 a14 r) (R_foldOverstyleschoice_1010y3 a0 a1 a2 a3 a4 a5 a6 a7 a8 a9 a10 a11 a12 a13 a14 r)
abbrev C_foldOverstyleschoice_1010y3 (a0 : Int) (a1 : Int) (a2 : Int) (a3 : Bool) (a4 : Int) (a5 : NL) (a6 : Int) (a7 : Int) (a8 : Int) (a9 : Bool) (a10 : WL rw_iLii) (a11 : Int) (a12 : NL) (a13 : Int) (a14 : Int) (r : Int × NL × Int × Int × Bool) (ins outs : BL) : CallA := ⟨8, ins, V_foldOverstyleschoice_1010y3 a0 a1 a2 a3 a4 a5 a6 a7 a8 a9 a10 a11 a12 a13 a14 r, R_foldOverstyleschoice_1010y3 a0 a1 a2 a3 a4 a5 a6 a7 a8 a9 a10 a11 a12 a13 a14 r, outs⟩
def m_foldOverstyleschoice_1010y3 (n : Nat) (a0 : Int) (a1 : Int) (a2 : Int) (a3 : Bool) (a4 : Int) (a5 : NL) (a6 : Int) (a7 : Int) (a8 : Int) (a9 : Bool) (a10 : WL rw_iLii) (a11 : Int) (a12 : NL) (a13 : Int) (a14 : Int) : Option (Int × NL × Int × Int × Bool) :=
 (m_stylesStyle1q1 n a0 a1 a2 a3 a11 a12 a13 a14 a4 a5).bind fun t => match t with
 | (c1_0, c1_1, c1_2, c1_3, c1_4) =>
  some (c1_0, c1_1, c1_2, c1_3, c1_4)
theorem m_foldOverstyleschoice_1010y3_ok (n : Nat) (a0 : Int) (a1 : Int) (a2 : Int) (a3 : Bool) (a4 : Int) (a5 : NL) (a6 : Int) (a7 : Int) (a8 : Int) (a9 : Bool) (a10 : WL rw_iLii) (a11 : Int) (a12 : NL) (a13 : Int) (a14 : Int) (r : Int × NL × Int × Int × Bool) (h : m_foldOverstyleschoice_1010y3 n a0 a1 a2 a3 a4 a5 a6 a7 a8 a9 a10 a11 a12 a13 a14 = some r) : Gv P (.yield 0) (A_foldOverstyleschoice_1010y3 a0 a1 a2 a3 a4 a5 a6 a7 a8 a9 a10 a11 a12 a13 a14) (H_foldOverstyleschoice_1010y3 a0 a1 a2 a3 a4 a5 a6 a7 a8 a9 a10 a11 a12 a13 a14) (V_foldOverstyleschoice_1010y3 a0 a1 a2 a3 a4 a5 a6 a7 a8 a9 a10 a11 a12 a13 a14 r) (R_foldOverstyleschoice_1010y3 a0 a1 a2 a3 a4 a5 a6 a7 a8 a9 a10 a11 a12 a13 a14 r) := by
 unfold m_foldOverstyleschoice_1010y3 at h
 obtain ⟨⟨c1_0, c1_1, c1_2, c1_3, c1_4⟩, hc1, h⟩ := oB h
 dsimp only at h
 obtain rfl := oI h
 exact runY2 hm ⟨[], [(0, 0, false), (1, 1, false), (2, 2, false), (3, 3, false), (4, 4, false), (5, 5, false), (6, 6, false), (7, 7, false)], 8, 0, [], false, [], [], []⟩ (ee) (yy 4 (.call (C_stylesStyle1q1 a0 a1 a2 a3 a11 a12 a13 a14 a4 a5 (c1_0, c1_1, c1_2, c1_3, c1_4) [(0, 4, false), (1, 5, false)] [(9, 2, false)])) <|
  ww (m_stylesStyle1q1_ok n a0 a1 a2 a3 a11 a12 a13 a14 a4 a5 (c1_0, c1_1, c1_2, c1_3, c1_4) hc1) <|
  ee) (by kernel_rfl)

def A_foldOverstyleschoice_1010y4 (a0 : Int) (a1 : NL) (a2 : Int) (a3 : Int) (a4 : Bool) (a5 : Int) (a6 : NL) (a7 : Int) (a8 : Int) (a9 : Int) (a10 : Bool) (a11 : WL rw_iLii) (a12 : Int) (a13 : NL) (a14 : Int) (a15 : Int) : List Value := [(Value.agg #[(i6 a12), (nlV a13), (i6 a14), (i6 a15)])]
def H_foldOverstyleschoice_1010y4 (a0 : Int) (a1 : NL) (a2 : Int) (a3 : Int) (a4 : Bool) (a5 : Int) (a6 : NL) (a7 : Int) (a8 : Int) (a9 : Int) (a10 : Bool) (a11 : WL rw_iLii) (a12 : Int) (a13 : NL) (a14 : Int) (a15 : Int) : AH := ⟨sB [(0, (some (rblk P 19 [false, true, false, true] .ready none [(4, (pN 2 0)), (5, (pN 3 0)), (6, (pN 6 0)), (8, (Value.func (.func 26) #[] #[(pN 7 0)]))] 1))), (1, (some (.marks true))), (2, (some (.cells (layT [(i6 a0), (nlV a1), (i6 a2), (i6 a3), (bO a4)]) 46))), (3, (some (.cells (layT [(Value.func (.func 21) #[] #[(pN 4 0), (pN 5 0)])]) 52))), (4, (some (.cells (layT [(i6 a5)]) 3))), (5, (some (.cells (layT [(nlV a6)]) 29))), (6, (some (.cells (layT [(i6 a7), (Value.slice none 0 0), (i6 a8), (i6 a9), (bO a10)]) 46))), (7, (some (.cells (layT [(wlV a11)]) 22)))], 8, 8⟩
def V_foldOverstyleschoice_1010y4 (a0 : Int) (a1 : NL) (a2 : Int) (a3 : Int) (a4 : Bool) (a5 : Int) (a6 : NL) (a7 : Int) (a8 : Int) (a9 : Int) (a10 : Bool) (a11 : WL rw_iLii) (a12 : Int) (a13 : NL) (a14 : Int) (a15 : Int) (r : Int × NL × Int × Int × Bool) : Value := match r with
 | (o0, o1, o2, o3, o4) => (bO true)
def R_foldOverstyleschoice_1010y4 (a0 : Int) (a1 : NL) (a2 : Int) (a3 : Int) (a4 : Bool) (a5 : Int) (a6 : NL) (a7 : Int) (a8 : Int) (a9 : Int) (a10 : Bool) (a11 : WL rw_iLii) (a12 : Int) (a13 : NL) (a14 : Int) (a15 : Int) (r : Int × NL × Int × Int × Bool) : AH := match r with
 | (o0, o1, o2, o3, o4) => ⟨sB [(0, (some (rblk P 19 [false, true, false, true] .ready none [(4, (pN 2 0)), (5, (pN 3 0)), (6, (pN 6 0)), (8, (Value.func (.func 26) #[] #[(pN 7 0)]))] 1))), (1, (some (.marks true))), (2, (some (.cells (layT [(i6 o0), (nlV o1), (i6 o2), (i6 o3), (bO o4)]) 46))), (3, (some (.cells (layT [(Value.func (.func 21) #[] #[(pN 4 0), (pN 5 0)])]) 52))), (4, (some (.cells (layT [(i6 a5)]) 3))), (5, (some (.cells (layT [(nlV a6)]) 29))), (6, (some (.cells (layT [(i6 a7), (Value.slice none 0 0), (i6 a8), (i6 a9), (bO a10)]) 46))), (7, (some (.cells (layT [(wlV a11)]) 22)))], 8, 0⟩
abbrev G_foldOverstyleschoice_1010y4 (a0 : Int) (a1 : NL) (a2 : Int) (a3 : Int) (a4 : Bool) (a5 : Int) (a6 : NL) (a7 : Int) (a8 : Int) (a9 : Int) (a10 : Bool) (a11 : WL rw_iLii) (a12 : Int) (a13 : NL) (a14 : Int) (a15 : Int) (r : Int × NL × Int × Int × Bool) : Prop := Gv P (.yield 0) (A_foldOverstyleschoice_1010y4 a0 a1 a2 a3 a4 a5 a6 a7 a8 a9 a10 a11 a12 a13 a14 a15) (H_foldOverstyleschoice_1010y4 a0 a1 a2 a3 a4 a5 a6 a7 a8 a9 a10 a11 a12 a13 a14 a15) (V_foldOverstyleschoice_1010y4 a0 a1 a2 a3 a4 a5 a6 a7 a8 a9 a10 a11 a12 a13 a14 a15 r) (R_foldOverstyleschoice_1010y4 a0 a1 a2 a3 a4 a5 a6 a7 a8 a9 a10 a11 a12 a13 a14 a15 r)
abbrev C_foldOverstyleschoice_1010y4 (a0 : Int) (a1 : NL) (a2 : Int) (a3 : Int) (a4 : Bool) (a5 : Int) (a6 : NL) (a7 : Int) (a8 : Int) (a9 : Int) (a10 : Bool) (a11 : WL rw_iLii) (a12 : Int) (a13 : NL) (a14 : Int) (a15 : Int) (r : Int × NL × Int × Int × Bool) (ins outs : BL) : CallA := ⟨8, ins, V_foldOverstyleschoice_1010y4 a0 a1 a2 a3 a4 a5 a6 a7 a8 a9 a10 a11 a12 a13 a14 a15 r, R_foldOverstyleschoice_1010y4 a0 a1 a2 a3 a4 a5 a6 a7 a8 a9 a10 a11 a12 a13 a14 a15 r, outs⟩
def m_foldOverstyleschoice_1010y4 (n : Nat) (a0 : Int) (a1 : NL) (a2 : Int) (a3 : Int) (a4 : Bool) (a5 : Int) (a6 : NL) (a7 : Int) (a8 : Int) (a9 : Int) (a10 : Bool) (a11 : WL rw_iLii) (a12 : Int) (a13 : NL) (a14 : Int) (a15 : Int) : Option (Int × NL × Int × Int × Bool) :=
 (m_stylesStyle1q2 n a0 a1 a2 a3 a4 a12 a13 a14 a15 a5 a6).bind fun t => match t with
 | (c1_0, c1_1, c1_2, c1_3, c1_4) =>
  some (c1_0, c1_1, c1_2, c1_3, c1_4)
theorem m_foldOverstyleschoice_1010y4_ok (n : Nat) (a0 : Int) (a1 : NL) (a2 : Int) (a3 : Int) (a4 : Bool) (a5 : Int) (a6 : NL) (a7 : Int) (a8 : Int) (a9 : Int) (a10 : Bool) (a11 : WL rw_iLii) (a12 : Int) (a13 : NL) (a14 : Int) (a15 : Int) (r : Int × NL × Int × Int × Bool) (h : m_foldOverstyleschoice_1010y4 n a0 a1 a2 a3 a4 a5 a6 a7 a8 a9 a10 a11 a12 a13 a14 a15 = some r) : Gv P (.yield 0) (A_foldOverstyleschoice_1010y4 a0 a1 a2 a3 a4 a5 a6 a7 a8 a9 a10 a11 a12 a13 a14 a15) (H_foldOverstyleschoice_1010y4 a0 a1 a2 a3 a4 a5 a6 a7 a8 a9 a10 a11 a12 a13 a14 a15) (V_foldOverstyleschoice_1010y4 a0 a1 a2 a3 a4 a5 a6 a7 a8 a9 a10 a11 a12 a13 a14 a15 r) (R_foldOverstyleschoice_1010y4 a0 a1 a2 a3 a4 a5 a6 a7 a8 a9 a10 a11 a12 a13 a14 a15 r) := by
 unfold m_foldOverstyleschoice_1010y4 at h
 obtain ⟨⟨c1_0, c1_1, c1_2, c1_3, c1_4⟩, hc1, h⟩ := oB h
 dsimp only at h
 obtain rfl := oI h
 exact runY2 hm ⟨[], [(0, 0, false), (1, 1, false), (2, 2, false), (3, 3, false), (4, 4, false), (5, 5, false), (6, 6, false), (7, 7, false)], 8, 0, [], false, [], [], []⟩ (ee) (yy 4 (.call (C_stylesStyle1q2 a0 a1 a2 a3 a4 a12 a13 a14 a15 a5 a6 (c1_0, c1_1, c1_2, c1_3, c1_4) [(0, 4, false), (1, 5, false)] [(9, 2, false)])) <|
  ww (m_stylesStyle1q2_ok n a0 a1 a2 a3 a4 a12 a13 a14 a15 a5 a6 (c1_0, c1_1, c1_2, c1_3, c1_4) hc1) <|
  ee) (by kernel_rfl)

def A_slicesValuesapiStyle1q2 (a0 : Int) (a1 : Int) (a2 : Int) (a3 : Bool) (a4 : Int) (a5 : NL) (a6 : Int) (a7 : Int) (a8 : Int) (a9 : Bool) (a10 : WL rw_iLii) : List Value := [(Value.func (.yield 0) #[] #[]), (pN 7 0)]
def H_slicesValuesapiStyle1q2 (a0 : Int) (a1 : Int) (a2 : Int) (a3 : Bool) (a4 : Int) (a5 : NL) (a6 : Int) (a7 : Int) (a8 : Int) (a9 : Bool) (a10 : WL rw_iLii) : AH := ⟨sB [(0, (some (rblk P 19 [false, true, false, true] .ready none [(4, (pN 2 0)), (5, (pN 3 0)), (6, (pN 6 0)), (8, (Value.func (.func 26) #[] #[(pN 7 0)]))] 1))), (1, (some (.marks true))), (2, (some (.cells (layT [(i6 a0), (Value.slice none 0 0), (i6 a1), (i6 a2), (bO a3)]) 46))), (3, (some (.cells (layT [(Value.func (.func 21) #[] #[(pN 4 0), (pN 5 0)])]) 52))), (4, (some (.cells (layT [(i6 a4)]) 3))), (5, (some (.cells (layT [(nlV a5)]) 29))), (6, (some (.cells (layT [(i6 a6), (Value.slice none 0 0), (i6 a7), (i6 a8), (bO a9)]) 46))), (7, (some (.cells (layT [(wlV a10)]) 22)))], 8, 8⟩
def V_slicesValuesapiStyle1q2 (a0 : Int) (a1 : Int) (a2 : Int) (a3 : Bool) (a4 : Int) (a5 : NL) (a6 : Int) (a7 : Int) (a8 : Int) (a9 : Bool) (a10 : WL rw_iLii) (r : Int × List (NL) × Int × Int × Bool) : Value := match r with
 | (o0, o1, o2, o3, o4) => (Value.tuple #[])
def R_slicesValuesapiStyle1q2 (a0 : Int) (a1 : Int) (a2 : Int) (a3 : Bool) (a4 : Int) (a5 : NL) (a6 : Int) (a7 : Int) (a8 : Int) (a9 : Bool) (a10 : WL rw_iLii) (r : Int × List (NL) × Int × Int × Bool) : AH := match r with
 | (o0, o1, o2, o3, o4) => ⟨sB [(0, (some (rblk P 19 [false, true, false, true] .ready none [(4, (pN 2 0)), (5, (pN 3 0)), (6, (pN 6 0)), (8, (Value.func (.func 26) #[] #[(pN 7 0)]))] 1))), (1, (some (.marks true))), (2, (some (.cells (layT [(i6 o0), (nlQ o1), (i6 o2), (i6 o3), (bO o4)]) 46))), (3, (some (.cells (layT [(Value.func (.func 21) #[] #[(pN 4 0), (pN 5 0)])]) 52))), (4, (some (.cells (layT [(i6 a4)]) 3))), (5, (some (.cells (layT [(nlV a5)]) 29))), (6, (some (.cells (layT [(i6 a6), (Value.slice none 0 0), (i6 a7), (i6 a8), (bO a9)]) 46))), (7, (some (.cells (layT [(wlV a10)]) 22)))], 8, 0⟩
abbrev G_slicesValuesapiStyle1q2 (a0 : Int) (a1 : Int) (a2 : Int) (a3 : Bool) (a4 : Int) (a5 : NL) (a6 : Int) (a7 : Int) (a8 : Int) (a9 : Bool) (a10 : WL rw_iLii) (r : Int × List (NL) × Int × Int × Bool) : Prop := Gv P (.func 26) (A_slicesValuesapiStyle1q2 a0 a1 a2 a3 a4 a5 a6 a7 a8 a9 a10) (H_slicesValuesapiStyle1q2 a0 a1 a2 a3 a4 a5 a6 a7 a8 a9 a10) (V_slicesValuesapiStyle1q2 a0 a1 a2 a3 a4 a5 a6 a7 a8 a9 a10 r) (R_slicesValuesapiStyle1q2 a0 a1 a2 a3 a4 a5 a6 a7 a8 a9 a10 r)
abbrev C_slicesValuesapiStyle1q2 (a0 : Int) (a1 : Int) (a2 : Int) (a3 : Bool) (a4 : Int) (a5 : NL) (a6 : Int) (a7 : Int) (a8 : Int) (a9 : Bool) (a10 : WL rw_iLii) (r : Int × List (NL) × Int × Int × Bool) (ins outs : BL) : CallA := ⟨8, ins, V_slicesValuesapiStyle1q2 a0 a1 a2 a3 a4 a5 a6 a7 a8 a9 a10 r, R_slicesValuesapiStyle1q2 a0 a1 a2 a3 a4 a5 a6 a7 a8 a9 a10 r, outs⟩
def S_slicesValuesapiStyle1q2_1 (x1_5 : Int) (x1_6 : NL) (x1_7 : Int) (x1_8 : Int) (x1_9 : Int) (x1_10 : Bool) (x1_11 : WL rw_iLii) (x1_12 : Int) (st : Int × List (NL) × Int × Int × Bool × Int) : XSt := match st with
 | (x1_0, x1_1, x1_2, x1_3, x1_4, x1_13) => (sT 16 [(0, (Value.func (.yield 0) #[] #[])), (5, (wlV x1_11)), (6, (i6 x1_12)), (7, (i6 x1_13))], [], ⟨sB [(0, (some (rblk P 19 [false, true, false, true] .ready none [(4, (pN 2 0)), (5, (pN 3 0)), (6, (pN 6 0)), (8, (Value.func (.func 26) #[] #[(pN 7 0)]))] 1))), (1, (some (.marks true))), (2, (some (.cells (layT [(i6 x1_0), (nlQ x1_1), (i6 x1_2), (i6 x1_3), (bO x1_4)]) 46))), (3, (some (.cells (layT [(Value.func (.func 21) #[] #[(pN 4 0), (pN 5 0)])]) 52))), (4, (some (.cells (layT [(i6 x1_5)]) 3))), (5, (some (.cells (layT [(nlV x1_6)]) 29))), (6, (some (.cells (layT [(i6 x1_7), (Value.slice none 0 0), (i6 x1_8), (i6 x1_9), (bO x1_10)]) 46))), (7, (some (.cells (layT [(wlV x1_11)]) 22)))], 8, 0⟩)
def X_slicesValuesapiStyle1q2_1 (x1_5 : Int) (x1_6 : NL) (x1_7 : Int) (x1_8 : Int) (x1_9 : Int) (x1_10 : Bool) (x1_11 : WL rw_iLii) (x1_12 : Int) (r : Int × List (NL) × Int × Int × Bool) : Ex × XSt := match r with
 | (z1_0, z1_1, z1_2, z1_3, z1_4) => (.exit 0, (sT 16 [], [], ⟨sB [(0, (some (rblk P 19 [false, true, false, true] .ready none [(4, (pN 2 0)), (5, (pN 3 0)), (6, (pN 6 0)), (8, (Value.func (.func 26) #[] #[(pN 7 0)]))] 1))), (1, (some (.marks true))), (2, (some (.cells (layT [(i6 z1_0), (nlQ z1_1), (i6 z1_2), (i6 z1_3), (bO z1_4)]) 46))), (3, (some (.cells (layT [(Value.func (.func 21) #[] #[(pN 4 0), (pN 5 0)])]) 52))), (4, (some (.cells (layT [(i6 x1_5)]) 3))), (5, (some (.cells (layT [(nlV x1_6)]) 29))), (6, (some (.cells (layT [(i6 x1_7), (Value.slice none 0 0), (i6 x1_8), (i6 x1_9), (bO x1_10)]) 46))), (7, (some (.cells (layT [(wlV x1_11)]) 22)))], 8, 0⟩))
abbrev Q_slicesValuesapiStyle1q2_1 (rnd : Option Nat) (x1_5 : Int) (x1_6 : NL) (x1_7 : Int) (x1_8 : Int) (x1_9 : Int) (x1_10 : Bool) (x1_11 : WL rw_iLii) (x1_12 : Int) (st : Int × List (NL) × Int × Int × Bool × Int) (c : Ex × XSt) : Prop := CG P rnd (fnN P 26) 8 (codeOf P 26 [false, false, true]) (S_slicesValuesapiStyle1q2_1 x1_5 x1_6 x1_7 x1_8 x1_9 x1_10 x1_11 x1_12 st) c
abbrev U_slicesValuesapiStyle1q2_1 (rd : Option Nat) (x1_5 : Int) (x1_6 : NL) (x1_7 : Int) (x1_8 : Int) (x1_9 : Int) (x1_10 : Bool) (x1_11 : WL rw_iLii) (x1_12 : Int) (st : Int × List (NL) × Int × Int × Bool × Int) (r : Int × List (NL) × Int × Int × Bool) : Prop := CG P rd (fnN P 26) 8 (codeOf P 26 [false, true]) (S_slicesValuesapiStyle1q2_1 x1_5 x1_6 x1_7 x1_8 x1_9 x1_10 x1_11 x1_12 st) (X_slicesValuesapiStyle1q2_1 x1_5 x1_6 x1_7 x1_8 x1_9 x1_10 x1_11 x1_12 r)
def B_slicesValuesapiStyle1q2_1 (n : Nat) (x1_5 : Int) (x1_6 : NL) (x1_7 : Int) (x1_8 : Int) (x1_9 : Int) (x1_10 : Bool) (x1_11 : WL rw_iLii) (x1_12 : Int) (st : Int × List (NL) × Int × Int × Bool × Int) : Option ((Int × List (NL) × Int × Int × Bool × Int) ⊕ (Int × List (NL) × Int × Int × Bool)) := match st with
 | (x1_0, x1_1, x1_2, x1_3, x1_4, x1_13) =>
  match x1_1 with
  | [] =>
   if x1_13 < x1_12 then
    if 0 ≤ x1_13 ∧ x1_13 < (((x1_11).l.length : Nat) : Int) then
     ((some (((x1_11).l).getD (x1_13).toNat (0, nl0, 0, 0)))).bind fun y1_3_ =>
     (m_foldOverstyleschoice_1010y3 n x1_0 x1_2 x1_3 x1_4 x1_5 x1_6 x1_7 x1_8 x1_9 x1_10 x1_11 (y1_3_.1) (y1_3_.2.1) (y1_3_.2.2.1) (y1_3_.2.2.2)).bind fun t => match t with
     | (y1_4_0, y1_4_1, y1_4_2, y1_4_3, y1_4_4) =>
      some (.inl (y1_4_0, [y1_4_1], y1_4_2, y1_4_3, y1_4_4, (w64 (x1_13 + (1 : Int)))))
    else none
   else
    some (.inr (x1_0, ([] : List (NL)), x1_2, x1_3, x1_4))
  | x1_1a :: x1_1t =>
   if x1_13 < x1_12 then
    if 0 ≤ x1_13 ∧ x1_13 < (((x1_11).l.length : Nat) : Int) then
     ((some (((x1_11).l).getD (x1_13).toNat (0, nl0, 0, 0)))).bind fun y1_3_ =>
     (m_foldOverstyleschoice_1010y4 n x1_0 x1_1a x1_2 x1_3 x1_4 x1_5 x1_6 x1_7 x1_8 x1_9 x1_10 x1_11 (y1_3_.1) (y1_3_.2.1) (y1_3_.2.2.1) (y1_3_.2.2.2)).bind fun t => match t with
     | (y1_4_0, y1_4_1, y1_4_2, y1_4_3, y1_4_4) =>
      some (.inl (y1_4_0, [y1_4_1], y1_4_2, y1_4_3, y1_4_4, (w64 (x1_13 + (1 : Int)))))
    else none
   else
    some (.inr (x1_0, [x1_1a], x1_2, x1_3, x1_4))
def m_slicesValuesapiStyle1q2_1 (n : Nat) (x1_5 : Int) (x1_6 : NL) (x1_7 : Int) (x1_8 : Int) (x1_9 : Int) (x1_10 : Bool) (x1_11 : WL rw_iLii) (x1_12 : Int) (st : Int × List (NL) × Int × Int × Bool × Int) : Option (Int × List (NL) × Int × Int × Bool) := iterM (B_slicesValuesapiStyle1q2_1 n x1_5 x1_6 x1_7 x1_8 x1_9 x1_10 x1_11 x1_12) n st
theorem b_slicesValuesapiStyle1q2_1 (n : Nat) {rnd : Option Nat} (x1_5 : Int) (x1_6 : NL) (x1_7 : Int) (x1_8 : Int) (x1_9 : Int) (x1_10 : Bool) (x1_11 : WL rw_iLii) (x1_12 : Int) (st : Int × List (NL) × Int × Int × Bool × Int) (o : (Int × List (NL) × Int × Int × Bool × Int) ⊕ (Int × List (NL) × Int × Int × Bool)) (h : B_slicesValuesapiStyle1q2_1 n x1_5 x1_6 x1_7 x1_8 x1_9 x1_10 x1_11 x1_12 st = some o) : CG P rnd (fnN P 26) 8 (codeOf P 26 [false, false, true]) (S_slicesValuesapiStyle1q2_1 x1_5 x1_6 x1_7 x1_8 x1_9 x1_10 x1_11 x1_12 st) (Sum.elim (fun s => (.normal, S_slicesValuesapiStyle1q2_1 x1_5 x1_6 x1_7 x1_8 x1_9 x1_10 x1_11 x1_12 s)) (fun r => X_slicesValuesapiStyle1q2_1 x1_5 x1_6 x1_7 x1_8 x1_9 x1_10 x1_11 x1_12 r) o) := by
 obtain ⟨x1_0, x1_1, x1_2, x1_3, x1_4, x1_13⟩ := st
 unfold B_slicesValuesapiStyle1q2_1 at h
 dsimp only at h
 cases x1_1 with
 | nil =>
  dsimp only at h
  by_cases hy1_1 : x1_13 < x1_12
  ·rw [if_pos hy1_1] at h
   obtain ⟨hy1_2, h⟩ := gd h
   obtain ⟨y1_3_, hy1_3, h⟩ := oB h
   obtain ⟨⟨y1_4_0, y1_4_1, y1_4_2, y1_4_3, y1_4_4⟩, hy1_4, h⟩ := oB h
   dsimp only at h
   obtain rfl := oI h
   exact runC2 hm ⟨[0, 5, 6, 7], [(0, 0, false), (1, 1, false), (2, 2, false), (3, 3, false), (4, 4, false), (5, 5, false), (6, 6, false), (7, 7, false)], 8, 0, [], false, [], [], []⟩ (zz 1 (xdT hy1_1) <|
    zz 7 (xk1 (x1_11).num (x1_11).off (x1_11).cap hy1_2) <|
    zz 8 (lk26 hy1_3 (toNatLt hy1_2)) <|
    yy 14 (.call (C_foldOverstyleschoice_1010y3 x1_0 x1_2 x1_3 x1_4 x1_5 x1_6 x1_7 x1_8 x1_9 x1_10 x1_11 (y1_3_.1) (y1_3_.2.1) (y1_3_.2.2.1) (y1_3_.2.2.2) (y1_4_0, y1_4_1, y1_4_2, y1_4_3, y1_4_4) [(0, 0, false), (1, 1, false), (2, 2, false), (3, 3, false), (4, 4, false), (5, 5, false), (6, 6, false), (7, 7, false)] [(0, 0, false), (1, 1, false), (2, 2, false), (3, 3, false), (4, 4, false), (5, 5, false), (6, 6, false), (7, 7, false)])) <|
    ww (m_foldOverstyleschoice_1010y3_ok n x1_0 x1_2 x1_3 x1_4 x1_5 x1_6 x1_7 x1_8 x1_9 x1_10 x1_11 (y1_3_.1) (y1_3_.2.1) (y1_3_.2.2.1) (y1_3_.2.2.2) (y1_4_0, y1_4_1, y1_4_2, y1_4_3, y1_4_4) hy1_4) <|
    ee) (by kernel_rfl)
  ·rw [if_neg hy1_1] at h
   obtain rfl := oI h
   exact runC2 hm ⟨[], [(0, 0, false), (1, 1, false), (2, 2, false), (3, 3, false), (4, 4, false), (5, 5, false), (6, 6, false), (7, 7, false)], 8, 0, [], false, [], [], []⟩ (zz 1 (xdF hy1_1) <|
    ee) (by kernel_rfl)
 | cons x1_1a x1_1t =>
  dsimp only at h
  by_cases hy1_1 : x1_13 < x1_12
  ·rw [if_pos hy1_1] at h
   obtain ⟨hy1_2, h⟩ := gd h
   obtain ⟨y1_3_, hy1_3, h⟩ := oB h
   obtain ⟨⟨y1_4_0, y1_4_1, y1_4_2, y1_4_3, y1_4_4⟩, hy1_4, h⟩ := oB h
   dsimp only at h
   obtain rfl := oI h
   exact runC2 hm ⟨[0, 5, 6, 7], [(0, 0, false), (1, 1, false), (2, 2, false), (3, 3, false), (4, 4, false), (5, 5, false), (6, 6, false), (7, 7, false)], 8, 0, [], false, [], [], []⟩ (zz 1 (xdT hy1_1) <|
    zz 7 (xk1 (x1_11).num (x1_11).off (x1_11).cap hy1_2) <|
    zz 8 (lk26 hy1_3 (toNatLt hy1_2)) <|
    yy 14 (.call (C_foldOverstyleschoice_1010y4 x1_0 x1_1a x1_2 x1_3 x1_4 x1_5 x1_6 x1_7 x1_8 x1_9 x1_10 x1_11 (y1_3_.1) (y1_3_.2.1) (y1_3_.2.2.1) (y1_3_.2.2.2) (y1_4_0, y1_4_1, y1_4_2, y1_4_3, y1_4_4) [(0, 0, false), (1, 1, false), (2, 2, false), (3, 3, false), (4, 4, false), (5, 5, false), (6, 6, false), (7, 7, false)] [(0, 0, false), (1, 1, false), (2, 2, false), (3, 3, false), (4, 4, false), (5, 5, false), (6, 6, false), (7, 7, false)])) <|
    ww (m_foldOverstyleschoice_1010y4_ok n x1_0 x1_1a x1_2 x1_3 x1_4 x1_5 x1_6 x1_7 x1_8 x1_9 x1_10 x1_11 (y1_3_.1) (y1_3_.2.1) (y1_3_.2.2.1) (y1_3_.2.2.2) (y1_4_0, y1_4_1, y1_4_2, y1_4_3, y1_4_4) hy1_4) <|
    ee) (by kernel_rfl)
  ·rw [if_neg hy1_1] at h
   obtain rfl := oI h
   exact runC2 hm ⟨[], [(0, 0, false), (1, 1, false), (2, 2, false), (3, 3, false), (4, 4, false), (5, 5, false), (6, 6, false), (7, 7, false)], 8, 0, [], false, [], [], []⟩ (zz 1 (xdF hy1_1) <|
    ee) (by kernel_rfl)
theorem m_slicesValuesapiStyle1q2_1_ok (n : Nat) {rnd : Option Nat} (x1_5 : Int) (x1_6 : NL) (x1_7 : Int) (x1_8 : Int) (x1_9 : Int) (x1_10 : Bool) (x1_11 : WL rw_iLii) (x1_12 : Int) (st : Int × List (NL) × Int × Int × Bool × Int) (r : Int × List (NL) × Int × Int × Bool) (h : m_slicesValuesapiStyle1q2_1 n x1_5 x1_6 x1_7 x1_8 x1_9 x1_10 x1_11 x1_12 st = some r) : CG P rnd (fnN P 26) 8 (codeOf P 26 [false, true]) (S_slicesValuesapiStyle1q2_1 x1_5 x1_6 x1_7 x1_8 x1_9 x1_10 x1_11 x1_12 st) (X_slicesValuesapiStyle1q2_1 x1_5 x1_6 x1_7 x1_8 x1_9 x1_10 x1_11 x1_12 r) :=
 CG.iter (b := codeOf P 26 [false, false, true]) (by kernel_rfl) (body := B_slicesValuesapiStyle1q2_1 n x1_5 x1_6 x1_7 x1_8 x1_9 x1_10 x1_11 x1_12) (S := S_slicesValuesapiStyle1q2_1 x1_5 x1_6 x1_7 x1_8 x1_9 x1_10 x1_11 x1_12) (X := X_slicesValuesapiStyle1q2_1 x1_5 x1_6 x1_7 x1_8 x1_9 x1_10 x1_11 x1_12)
  (fun s s' h => b_slicesValuesapiStyle1q2_1 n x1_5 x1_6 x1_7 x1_8 x1_9 x1_10 x1_11 x1_12 s (.inl s') h)
  (fun s r h => b_slicesValuesapiStyle1q2_1 n x1_5 x1_6 x1_7 x1_8 x1_9 x1_10 x1_11 x1_12 s (.inr r) h)
  (fun r => by intro hx; cases hx) h
def m_slicesValuesapiStyle1q2 (n : Nat) (a0 : Int) (a1 : Int) (a2 : Int) (a3 : Bool) (a4 : Int) (a5 : NL) (a6 : Int) (a7 : Int) (a8 : Int) (a9 : Bool) (a10 : WL rw_iLii) : Option (Int × List (NL) × Int × Int × Bool) :=
 (m_slicesValuesapiStyle1q2_1 n a4 a5 a6 a7 a8 a9 a10 (((a10).l.length : Nat) : Int) (a0, ([] : List (NL)), a1, a2, a3, 0)).bind fun t => match t with
 | (c1_0, c1_1, c1_2, c1_3, c1_4) =>
  match c1_1 with
  | [] =>
   some (c1_0, ([] : List (NL)), c1_2, c1_3, c1_4)
  | c1_1a :: c1_1t =>
   some (c1_0, [c1_1a], c1_2, c1_3, c1_4)
theorem m_slicesValuesapiStyle1q2_ok (n : Nat) (a0 : Int) (a1 : Int) (a2 : Int) (a3 : Bool) (a4 : Int) (a5 : NL) (a6 : Int) (a7 : Int) (a8 : Int) (a9 : Bool) (a10 : WL rw_iLii) (r : Int × List (NL) × Int × Int × Bool) (h : m_slicesValuesapiStyle1q2 n a0 a1 a2 a3 a4 a5 a6 a7 a8 a9 a10 = some r) : Gv P (.func 26) (A_slicesValuesapiStyle1q2 a0 a1 a2 a3 a4 a5 a6 a7 a8 a9 a10) (H_slicesValuesapiStyle1q2 a0 a1 a2 a3 a4 a5 a6 a7 a8 a9 a10) (V_slicesValuesapiStyle1q2 a0 a1 a2 a3 a4 a5 a6 a7 a8 a9 a10 r) (R_slicesValuesapiStyle1q2 a0 a1 a2 a3 a4 a5 a6 a7 a8 a9 a10 r) := by
 unfold m_slicesValuesapiStyle1q2 at h
 obtain ⟨⟨c1_0, c1_1, c1_2, c1_3, c1_4⟩, hc1, h⟩ := oB h
 dsimp only at h
 cases c1_1 with
 | nil =>
  dsimp only at h
  obtain rfl := oI h
  exact runF2 hm ⟨[], [(0, 0, false), (1, 1, false), (2, 2, false), (3, 3, false), (4, 4, false), (5, 5, false), (6, 6, false), (7, 7, false)], 8, 0, [], false, [], [], []⟩ (ww (p := U_slicesValuesapiStyle1q2_1 none a4 a5 a6 a7 a8 a9 a10 (((a10).l.length : Nat) : Int) (a0, ([] : List (NL)), a1, a2, a3, 0) (c1_0, ([] : List (NL)), c1_2, c1_3, c1_4)) (m_slicesValuesapiStyle1q2_1_ok n a4 a5 a6 a7 a8 a9 a10 (((a10).l.length : Nat) : Int) (a0, ([] : List (NL)), a1, a2, a3, 0) (c1_0, ([] : List (NL)), c1_2, c1_3, c1_4) hc1) <|
   ll 5 ⟨⟨[0, 5, 6, 7], [(0, 0, false), (1, 1, false), (2, 2, false), (3, 3, false), (4, 4, false), (5, 5, false), (6, 6, false), (7, 7, false)], 8, 0, [], false, [], [], []⟩, (X_slicesValuesapiStyle1q2_1 a4 a5 a6 a7 a8 a9 a10 (((a10).l.length : Nat) : Int) (c1_0, ([] : List (NL)), c1_2, c1_3, c1_4)).1, (X_slicesValuesapiStyle1q2_1 a4 a5 a6 a7 a8 a9 a10 (((a10).l.length : Nat) : Int) (c1_0, ([] : List (NL)), c1_2, c1_3, c1_4)).2⟩ <|
   ee) (by kernel_rfl)
 | cons c1_1a c1_1t =>
  dsimp only at h
  obtain rfl := oI h
  exact runF2 hm ⟨[], [(0, 0, false), (1, 1, false), (2, 2, false), (3, 3, false), (4, 4, false), (5, 5, false), (6, 6, false), (7, 7, false)], 8, 0, [], false, [], [], []⟩ (ww (p := U_slicesValuesapiStyle1q2_1 none a4 a5 a6 a7 a8 a9 a10 (((a10).l.length : Nat) : Int) (a0, ([] : List (NL)), a1, a2, a3, 0) (c1_0, (c1_1a :: c1_1t), c1_2, c1_3, c1_4)) (m_slicesValuesapiStyle1q2_1_ok n a4 a5 a6 a7 a8 a9 a10 (((a10).l.length : Nat) : Int) (a0, ([] : List (NL)), a1, a2, a3, 0) (c1_0, (c1_1a :: c1_1t), c1_2, c1_3, c1_4) hc1) <|
   ll 5 ⟨⟨[0, 5, 6, 7], [(0, 0, false), (1, 1, false), (2, 2, false), (3, 3, false), (4, 4, false), (5, 5, false), (6, 6, false), (7, 7, false)], 8, 0, [], false, [], [], []⟩, (X_slicesValuesapiStyle1q2_1 a4 a5 a6 a7 a8 a9 a10 (((a10).l.length : Nat) : Int) (c1_0, (c1_1a :: c1_1t), c1_2, c1_3, c1_4)).1, (X_slicesValuesapiStyle1q2_1 a4 a5 a6 a7 a8 a9 a10 (((a10).l.length : Nat) : Int) (c1_0, (c1_1a :: c1_1t), c1_2, c1_3, c1_4)).2⟩ <|
   ee) (by kernel_rfl)

def A_foldOverstyleschoiceq2 (a0 : WL rw_iLii) (a1 : Int) (a2 : Int) (a3 : Int) (a4 : Bool) (a5 : Int) (a6 : NL) : List Value := [(Value.func (.func 26) #[] #[(pN 0 0)]), (Value.agg #[(i6 a1), (Value.slice none 0 0), (i6 a2), (i6 a3), (bO a4)]), (Value.func (.func 21) #[] #[(pN 1 0), (pN 2 0)])]
def H_foldOverstyleschoiceq2 (a0 : WL rw_iLii) (a1 : Int) (a2 : Int) (a3 : Int) (a4 : Bool) (a5 : Int) (a6 : NL) : AH := ⟨sB [(0, (some (.cells (layT [(wlV a0)]) 22))), (1, (some (.cells (layT [(i6 a5)]) 3))), (2, (some (.cells (layT [(nlV a6)]) 29)))], 3, 3⟩
def V_foldOverstyleschoiceq2 (a0 : WL rw_iLii) (a1 : Int) (a2 : Int) (a3 : Int) (a4 : Bool) (a5 : Int) (a6 : NL) (r : Int × List (NL) × Int × Int × Bool) : Value := match r with
 | (o0, o1, o2, o3, o4) => (Value.agg #[(i6 o0), (nlQ o1), (i6 o2), (i6 o3), (bO o4)])
def R_foldOverstyleschoiceq2 (a0 : WL rw_iLii) (a1 : Int) (a2 : Int) (a3 : Int) (a4 : Bool) (a5 : Int) (a6 : NL) (r : Int × List (NL) × Int × Int × Bool) : AH := match r with
 | (o0, o1, o2, o3, o4) => ⟨sB [(0, (some (.cells (layT [(wlV a0)]) 22))), (1, (some (.cells (layT [(i6 a5)]) 3))), (2, (some (.cells (layT [(nlV a6)]) 29))), (3, (some (.marks false))), (4, (some (.cells (layT [(i6 o0), (nlQ o1), (i6 o2), (i6 o3), (bO o4)]) 46)))], 5, 0⟩
abbrev G_foldOverstyleschoiceq2 (a0 : WL rw_iLii) (a1 : Int) (a2 : Int) (a3 : Int) (a4 : Bool) (a5 : Int) (a6 : NL) (r : Int × List (NL) × Int × Int × Bool) : Prop := Gv P (.func 19) (A_foldOverstyleschoiceq2 a0 a1 a2 a3 a4 a5 a6) (H_foldOverstyleschoiceq2 a0 a1 a2 a3 a4 a5 a6) (V_foldOverstyleschoiceq2 a0 a1 a2 a3 a4 a5 a6 r) (R_foldOverstyleschoiceq2 a0 a1 a2 a3 a4 a5 a6 r)
abbrev C_foldOverstyleschoiceq2 (a0 : WL rw_iLii) (a1 : Int) (a2 : Int) (a3 : Int) (a4 : Bool) (a5 : Int) (a6 : NL) (r : Int × List (NL) × Int × Int × Bool) (ins outs : BL) : CallA := ⟨3, ins, V_foldOverstyleschoiceq2 a0 a1 a2 a3 a4 a5 a6 r, R_foldOverstyleschoiceq2 a0 a1 a2 a3 a4 a5 a6 r, outs⟩
def m_foldOverstyleschoiceq2 (n : Nat) (a0 : WL rw_iLii) (a1 : Int) (a2 : Int) (a3 : Int) (a4 : Bool) (a5 : Int) (a6 : NL) : Option (Int × List (NL) × Int × Int × Bool) :=
 (m_slicesValuesapiStyle1q2 n a1 a2 a3 a4 a5 a6 0 0 0 false a0).bind fun t => match t with
 | (c1_0, c1_1, c1_2, c1_3, c1_4) =>
  match c1_1 with
  | [] =>
   some (c1_0, ([] : List (NL)), c1_2, c1_3, c1_4)
  | c1_1a :: c1_1t =>
   some (c1_0, [c1_1a], c1_2, c1_3, c1_4)
theorem m_foldOverstyleschoiceq2_ok (n : Nat) (a0 : WL rw_iLii) (a1 : Int) (a2 : Int) (a3 : Int) (a4 : Bool) (a5 : Int) (a6 : NL) (r : Int × List (NL) × Int × Int × Bool) (h : m_foldOverstyleschoiceq2 n a0 a1 a2 a3 a4 a5 a6 = some r) : Gv P (.func 19) (A_foldOverstyleschoiceq2 a0 a1 a2 a3 a4 a5 a6) (H_foldOverstyleschoiceq2 a0 a1 a2 a3 a4 a5 a6) (V_foldOverstyleschoiceq2 a0 a1 a2 a3 a4 a5 a6 r) (R_foldOverstyleschoiceq2 a0 a1 a2 a3 a4 a5 a6 r) := by
 unfold m_foldOverstyleschoiceq2 at h
 obtain ⟨⟨c1_0, c1_1, c1_2, c1_3, c1_4⟩, hc1, h⟩ := oB h
 dsimp only at h
 cases c1_1 with
 | nil =>
  dsimp only at h
  obtain rfl := oI h
  exact runF2 hm ⟨[6], [(0, 0, false), (1, 1, false), (2, 2, false), (3, 6, false), (4, 5, false)], 5, 0, [], false, [], [], []⟩ (yy 8 (.rng (C_slicesValuesapiStyle1q2 a1 a2 a3 a4 a5 a6 0 0 0 false a0 (c1_0, ([] : List (NL)), c1_2, c1_3, c1_4) [(0, 7, false), (1, 6, false), (2, 3, false), (3, 4, false), (4, 1, false), (5, 2, false), (6, 5, false), (7, 0, false)] [(7, 0, false), (6, 1, false), (3, 2, false), (4, 3, false), (1, 4, false), (2, 5, false), (5, 6, false), (0, 7, false)]) [4, 5, 6, 8]) <|
   ww (m_slicesValuesapiStyle1q2_ok n a1 a2 a3 a4 a5 a6 0 0 0 false a0 (c1_0, ([] : List (NL)), c1_2, c1_3, c1_4) hc1) <|
   ee) (by kernel_rfl)
 | cons c1_1a c1_1t =>
  dsimp only at h
  obtain rfl := oI h
  exact runF2 hm ⟨[6], [(0, 0, false), (1, 1, false), (2, 2, false), (3, 6, false), (4, 5, false)], 5, 0, [], false, [], [], []⟩ (yy 8 (.rng (C_slicesValuesapiStyle1q2 a1 a2 a3 a4 a5 a6 0 0 0 false a0 (c1_0, (c1_1a :: c1_1t), c1_2, c1_3, c1_4) [(0, 7, false), (1, 6, false), (2, 3, false), (3, 4, false), (4, 1, false), (5, 2, false), (6, 5, false), (7, 0, false)] [(7, 0, false), (6, 1, false), (3, 2, false), (4, 3, false), (1, 4, false), (2, 5, false), (5, 6, false), (0, 7, false)]) [4, 5, 6, 8]) <|
   ww (m_slicesValuesapiStyle1q2_ok n a1 a2 a3 a4 a5 a6 0 0 0 false a0 (c1_0, (c1_1a :: c1_1t), c1_2, c1_3, c1_4) hc1) <|
   ee) (by kernel_rfl)

def A_stylesStyleq2 (a0 : WL rw_iLii) (a1 : Int) (a2 : NL) : List Value := [(wlV a0), (i6 a1), (nlV a2)]
def H_stylesStyleq2 (a0 : WL rw_iLii) (a1 : Int) (a2 : NL) : AH := ⟨sB [], 0, 0⟩
def V_stylesStyleq2 (a0 : WL rw_iLii) (a1 : Int) (a2 : NL) (r : Int) : Value := match r with
 | o0 => (i6 o0)
def R_stylesStyleq2 (a0 : WL rw_iLii) (a1 : Int) (a2 : NL) (r : Int) : AH := match r with
 | o0 => ⟨sB [], 0, 0⟩
abbrev G_stylesStyleq2 (a0 : WL rw_iLii) (a1 : Int) (a2 : NL) (r : Int) : Prop := Gv P (.func 10) (A_stylesStyleq2 a0 a1 a2) (H_stylesStyleq2 a0 a1 a2) (V_stylesStyleq2 a0 a1 a2 r) (R_stylesStyleq2 a0 a1 a2 r)
abbrev C_stylesStyleq2 (a0 : WL rw_iLii) (a1 : Int) (a2 : NL) (r : Int) (ins outs : BL) : CallA := ⟨0, ins, V_stylesStyleq2 a0 a1 a2 r, R_stylesStyleq2 a0 a1 a2 r, outs⟩
def m_stylesStyleq2 (n : Nat) (a0 : WL rw_iLii) (a1 : Int) (a2 : NL) : Option (Int) :=
 (m_slicesValuesapiStyleq2 n a0).bind fun _ =>
 (m_foldOverstyleschoiceq2 n a0 0 0 0 false a1 a2).bind fun t => match t with
 | (c2_0, c2_1, c2_2, c2_3, c2_4) =>
  match c2_1 with
  | [] =>
   some c2_2
  | c2_1a :: c2_1t =>
   some c2_2
theorem m_stylesStyleq2_ok (n : Nat) (a0 : WL rw_iLii) (a1 : Int) (a2 : NL) (r : Int) (h : m_stylesStyleq2 n a0 a1 a2 = some r) : Gv P (.func 10) (A_stylesStyleq2 a0 a1 a2) (H_stylesStyleq2 a0 a1 a2) (V_stylesStyleq2 a0 a1 a2 r) (R_stylesStyleq2 a0 a1 a2 r) := by
 unfold m_stylesStyleq2 at h
 obtain ⟨_, hc1, h⟩ := oB h
 obtain ⟨⟨c2_0, c2_1, c2_2, c2_3, c2_4⟩, hc2, h⟩ := oB h
 dsimp only at h
 have k0 := fun {A L l} (k : PL A L l) => yy 6 (.call (C_slicesValuesapiStyleq2 a0 () [] [(2, 0, false)])) <|
  ww (m_slicesValuesapiStyleq2_ok n a0 () hc1) <|
  k
 cases c2_1 with
 | nil =>
  dsimp only at h
  obtain rfl := oI h
  exact runF2 hm ⟨[6], [], 0, 0, [], true, [46], [], []⟩ (k0 <|
   yy 9 (.call (C_foldOverstyleschoiceq2 a0 0 0 0 false a1 a2 (c2_0, ([] : List (NL)), c2_2, c2_3, c2_4) [(0, 2, false), (1, 0, false), (2, 1, false)] [(2, 0, false), (0, 1, false), (1, 2, false), (4, 4, false)])) <|
   ww (m_foldOverstyleschoiceq2_ok n a0 0 0 0 false a1 a2 (c2_0, ([] : List (NL)), c2_2, c2_3, c2_4) hc2) <|
   ee) (by kernel_rfl)
 | cons c2_1a c2_1t =>
  dsimp only at h
  obtain rfl := oI h
  exact runF2 hm ⟨[6], [], 0, 0, [], false, [], [], []⟩ (k0 <|
   yy 9 (.call (C_foldOverstyleschoiceq2 a0 0 0 0 false a1 a2 (c2_0, (c2_1a :: c2_1t), c2_2, c2_3, c2_4) [(0, 2, false), (1, 0, false), (2, 1, false)] [(2, 0, false), (0, 1, false), (1, 2, false), (4, 4, false)])) <|
   ww (m_foldOverstyleschoiceq2_ok n a0 0 0 0 false a1 a2 (c2_0, (c2_1a :: c2_1t), c2_2, c2_3, c2_4) hc2) <|
   ee) (by kernel_rfl)

def A_stylesLeafq2 (a0 : WL rw_iLii) (a1 : WL rw_iiiiiiLu) (a2 : Int) : List Value := [(wlV a0), (wlV a1), (i6 a2)]
def H_stylesLeafq2 (a0 : WL rw_iLii) (a1 : WL rw_iiiiiiLu) (a2 : Int) : AH := ⟨sB [], 0, 0⟩
def V_stylesLeafq2 (a0 : WL rw_iLii) (a1 : WL rw_iiiiiiLu) (a2 : Int) (r : Int) : Value := match r with
 | o0 => (i6 o0)
def R_stylesLeafq2 (a0 : WL rw_iLii) (a1 : WL rw_iiiiiiLu) (a2 : Int) (r : Int) : AH := match r with
 | o0 => ⟨sB [], 0, 0⟩
abbrev G_stylesLeafq2 (a0 : WL rw_iLii) (a1 : WL rw_iiiiiiLu) (a2 : Int) (r : Int) : Prop := Gv P (.func 8) (A_stylesLeafq2 a0 a1 a2) (H_stylesLeafq2 a0 a1 a2) (V_stylesLeafq2 a0 a1 a2 r) (R_stylesLeafq2 a0 a1 a2 r)
abbrev C_stylesLeafq2 (a0 : WL rw_iLii) (a1 : WL rw_iiiiiiLu) (a2 : Int) (r : Int) (ins outs : BL) : CallA := ⟨0, ins, V_stylesLeafq2 a0 a1 a2 r, R_stylesLeafq2 a0 a1 a2 r, outs⟩
def m_stylesLeafq2 (n : Nat) (a0 : WL rw_iLii) (a1 : WL rw_iiiiiiLu) (a2 : Int) : Option (Int) :=
 (m_treePathq1 n a1 a2).bind fun c1_ =>
 if (((c1_).l.length : Nat) : Int) = (0 : Int) then
  some 0
 else
  if 0 ≤ a2 ∧ a2 < (((a1).l.length : Nat) : Int) then
   ((some (((a1).l).getD (a2).toNat (0, 0, 0, 0, 0, 0, nl0, 0)))).bind fun c4_ =>
   if (c4_.2.1) = (3 : Int) then
    ((some (w64 ((((c1_).l.length : Nat) : Int) - (1 : Int))))).bind fun c6_ =>
    if 0 ≤ c6_ then
     if hc8 : 0 ≤ (c6_).toNat ∧ (c6_).toNat ≤ (c1_).l.length then
      (m_stylesStyleq2 n a0 (c4_.1) (nlSub c1_ 0 (c6_).toNat hc8)).bind fun c9_ =>
      some c9_
     else none
    else none
   else
    if (c4_.2.1) = (5 : Int) then
     ((some (w64 ((((c1_).l.length : Nat) : Int) - (1 : Int))))).bind fun c7_ =>
     if 0 ≤ c7_ then
      if hc9 : 0 ≤ (c7_).toNat ∧ (c7_).toNat ≤ (c1_).l.length then
       (m_stylesStyleq2 n a0 (c4_.1) (nlSub c1_ 0 (c7_).toNat hc9)).bind fun c10_ =>
       some c10_
      else none
     else none
    else
     some 0
  else none
theorem m_stylesLeafq2_ok (n : Nat) (a0 : WL rw_iLii) (a1 : WL rw_iiiiiiLu) (a2 : Int) (r : Int) (h : m_stylesLeafq2 n a0 a1 a2 = some r) : Gv P (.func 8) (A_stylesLeafq2 a0 a1 a2) (H_stylesLeafq2 a0 a1 a2) (V_stylesLeafq2 a0 a1 a2 r) (R_stylesLeafq2 a0 a1 a2 r) := by
 unfold m_stylesLeafq2 at h
 obtain ⟨c1_, hc1, h⟩ := oB h
 have k0 := fun {A L l} (k : PL A L l) => yy 5 (.call (C_treePathq1 a1 a2 c1_ [] [])) <|
  ww (m_treePathq1_ok n a1 a2 c1_ hc1) <|
  k
 by_cases hc2 : (((c1_).l.length : Nat) : Int) = (0 : Int)
 ·rw [if_pos hc2] at h
  obtain rfl := oI h
  exact runF2 hm ⟨[6], [], 0, 0, [], false, [], [], []⟩ (k0 <|
   zz 11 (xeT hc2) <|
   ee) (by kernel_rfl)
 ·rw [if_neg hc2] at h
  obtain ⟨hc3, h⟩ := gd h
  obtain ⟨c4_, hc4, h⟩ := oB h
  have k2 := fun {A L l} (k : PL A L l) => zz 11 (xeF hc2) <|
   zz 15 (xk4 (a1).num (a1).off (a1).cap hc3) <|
   zz 16 (fk6 (a1).num (Nat.add (a1).off ((a2).toNat * 8))) <|
   zz 17 (lk7 hc4 (toNatLt hc3)) <|
   k
  by_cases hc5 : (c4_.2.1) = (3 : Int)
  ·rw [if_pos hc5] at h
   obtain ⟨c6_, hc6, h⟩ := oB h
   obtain ⟨hc7, h⟩ := gd h
   obtain ⟨hc8, h⟩ := gdD h
   replace h := oB h
   obtain ⟨c9_, hc9, h⟩ := h
   obtain rfl := oI h
   exact runF2 hm ⟨[6], [], 0, 0, [], false, [], [], []⟩ (k0 <|
    k2 <|
    zz 18 (xnF hc5) <|
    zz 33 (xk4 (a1).num (a1).off (a1).cap hc3) <|
    zz 34 (fk17 (a1).num (Nat.add (a1).off ((a2).toNat * 8))) <|
    zz 35 (lk18 hc4 (toNatLt hc3)) <|
    zz 39 (xnm hc6) <|
    yy 40 (.pur (nlV (nlSub c1_ 0 (c6_).toNat hc8))) <|
    ww (p := opSlice P 29 (nlV c1_) none (some (i6 c6_)) none Ax.h0 = some ((nlV (nlSub c1_ 0 (c6_).toNat hc8)), Ax.h0)) (slNL (e := 3) c1_ (by kernel_rfl) (by kernel_rfl) rfl (bnd_int hc7) hc8) <|
    yy 41 (.call (C_stylesStyleq2 a0 (c4_.1) (nlSub c1_ 0 (c6_).toNat hc8) c9_ [] [])) <|
    ww (m_stylesStyleq2_ok n a0 (c4_.1) (nlSub c1_ 0 (c6_).toNat hc8) c9_ hc9) <|
    ee) (by kernel_rfl)
  ·rw [if_neg hc5] at h
   have k6 := fun {A L l} (k : PL A L l) => zz 18 (xnT hc5) <|
    zz 22 (xk4 (a1).num (a1).off (a1).cap hc3) <|
    zz 23 (fk6 (a1).num (Nat.add (a1).off ((a2).toNat * 8))) <|
    zz 24 (lk7 hc4 (toNatLt hc3)) <|
    k
   by_cases hc6 : (c4_.2.1) = (5 : Int)
   ·rw [if_pos hc6] at h
    obtain ⟨c7_, hc7, h⟩ := oB h
    obtain ⟨hc8, h⟩ := gd h
    obtain ⟨hc9, h⟩ := gdD h
    replace h := oB h
    obtain ⟨c10_, hc10, h⟩ := h
    obtain rfl := oI h
    exact runF2 hm ⟨[6], [], 0, 0, [], false, [], [], []⟩ (k0 <|
     k2 <|
     k6 <|
     zz 25 (xnF hc6) <|
     zz 33 (xk4 (a1).num (a1).off (a1).cap hc3) <|
     zz 34 (fk17 (a1).num (Nat.add (a1).off ((a2).toNat * 8))) <|
     zz 35 (lk18 hc4 (toNatLt hc3)) <|
     zz 39 (xnm hc7) <|
     yy 40 (.pur (nlV (nlSub c1_ 0 (c7_).toNat hc9))) <|
     ww (p := opSlice P 29 (nlV c1_) none (some (i6 c7_)) none Ax.h0 = some ((nlV (nlSub c1_ 0 (c7_).toNat hc9)), Ax.h0)) (slNL (e := 3) c1_ (by kernel_rfl) (by kernel_rfl) rfl (bnd_int hc8) hc9) <|
     yy 41 (.call (C_stylesStyleq2 a0 (c4_.1) (nlSub c1_ 0 (c7_).toNat hc9) c10_ [] [])) <|
     ww (m_stylesStyleq2_ok n a0 (c4_.1) (nlSub c1_ 0 (c7_).toNat hc9) c10_ hc10) <|
     ee) (by kernel_rfl)
   ·rw [if_neg hc6] at h
    obtain rfl := oI h
    exact runF2 hm ⟨[6], [], 0, 0, [], false, [], [], []⟩ (k0 <|
     k2 <|
     k6 <|
     zz 25 (xnT hc6) <|
     ee) (by kernel_rfl)

def A_slicesValuesapiStyleq3 (a0 : List (Int × NL × Int × Int)) : List Value := [(sN 0 0 (a0).length 1)]
def H_slicesValuesapiStyleq3 (a0 : List (Int × NL × Int × Int)) : AH := ⟨sB [(0, (some (.cells (layT (rows rw_iLii a0)) 36)))], 1, 1⟩
def V_slicesValuesapiStyleq3 (a0 : List (Int × NL × Int × Int)) (r : Unit) : Value := match r with
 | _ => (Value.func (.func 26) #[] #[(pN 1 0)])
def R_slicesValuesapiStyleq3 (a0 : List (Int × NL × Int × Int)) (r : Unit) : AH := match r with
 | _ => ⟨sB [(0, (some (.cells (layT (rows rw_iLii a0)) 36))), (1, (some (.cells (layT [(sN 0 0 (a0).length 1)]) 22)))], 2, 1⟩
abbrev G_slicesValuesapiStyleq3 (a0 : List (Int × NL × Int × Int)) (r : Unit) : Prop := Gv P (.func 20) (A_slicesValuesapiStyleq3 a0) (H_slicesValuesapiStyleq3 a0) (V_slicesValuesapiStyleq3 a0 r) (R_slicesValuesapiStyleq3 a0 r)
abbrev C_slicesValuesapiStyleq3 (a0 : List (Int × NL × Int × Int)) (r : Unit) (ins outs : BL) : CallA := ⟨1, ins, V_slicesValuesapiStyleq3 a0 r, R_slicesValuesapiStyleq3 a0 r, outs⟩
def m_slicesValuesapiStyleq3 (n : Nat) (a0 : List (Int × NL × Int × Int)) : Option (Unit) :=
 some ()
theorem m_slicesValuesapiStyleq3_ok (n : Nat) (a0 : List (Int × NL × Int × Int)) (r : Unit) (h : m_slicesValuesapiStyleq3 n a0 = some r) : Gv P (.func 20) (A_slicesValuesapiStyleq3 a0) (H_slicesValuesapiStyleq3 a0) (V_slicesValuesapiStyleq3 a0 r) (R_slicesValuesapiStyleq3 a0 r) := by
 unfold m_slicesValuesapiStyleq3 at h
 obtain rfl := oI h
 exact runF2 hm ⟨[2], [(0, 0, true), (1, 1, false)], 2, 1, [], false, [], [], []⟩ (ww (rows_flat rwf_iLii a0 36) <|
  ee) (by kernel_rfl)

def A_foldOverstyleschoice_1010y5 (a0 : Int) (a1 : Int) (a2 : Int) (a3 : Bool) (a4 : Int) (a5 : NL) (a6 : Int) (a7 : Int) (a8 : Int) (a9 : Bool) (a10 : List (Int × NL × Int × Int)) (a11 : Int) (a12 : NL) (a13 : Int) (a14 : Int) : List Value := [(Value.agg #[(i6 a11), (nlV a12), (i6 a13), (i6 a14)])]
def H_foldOverstyleschoice_1010y5 (a0 : Int) (a1 : Int) (a2 : Int) (a3 : Bool) (a4 : Int) (a5 : NL) (a6 : Int) (a7 : Int) (a8 : Int) (a9 : Bool) (a10 : List (Int × NL × Int × Int)) (a11 : Int) (a12 : NL) (a13 : Int) (a14 : Int) : AH := ⟨sB [(0, (some (rblk P 19 [false, true, false, true] .ready none [(4, (pN 2 0)), (5, (pN 3 0)), (6, (pN 6 0)), (8, (Value.func (.func 26) #[] #[(pN 7 0)]))] 1))), (1, (some (.marks true))), (2, (some (.cells (layT [(i6 a0), (Value.slice none 0 0), (i6 a1), (i6 a2), (bO a3)]) 46))), (3, (some (.cells (layT [(Value.func (.func 21) #[] #[(pN 4 0), (pN 5 0)])]) 52))), (4, (some (.cells (layT [(i6 a4)]) 3))), (5, (some (.cells (layT [(nlV a5)]) 29))), (6, (some (.cells (layT [(i6 a6), (Value.slice none 0 0), (i6 a7), (i6 a8), (bO a9)]) 46))), (7, (some (.cells (layT [(sN 8 0 (a10).length 1)]) 22))), (8, (some (.cells (layT (rows rw_iLii a10)) 36)))], 9, 9⟩
def V_foldOverstyleschoice_1010y5 (a0 : Int) (a1 : Int) (a2 : Int) (a3 : Bool) (a4 : Int) (a5 : NL) (a6 : Int) (a7 : Int) (a8 : Int) (a9 : Bool) (a10 : List (Int × NL × Int × Int)) (a11 : Int) (a12 : NL) (a13 : Int) (a14 : Int) (r : Int × NL × Int × Int × Bool) : Value := match r with
 | (o0, o1, o2, o3, o4) => (bO true)
def R_foldOverstyleschoice_1010y5 (a0 : Int) (a1 : Int) (a2 : Int) (a3 : Bool) (a4 : Int) (a5 : NL) (a6 : Int) (a7 : Int) (a8 : Int) (a9 : Bool) (a10 : List (Int × NL × Int × Int)) (a11 : Int) (a12 : NL) (a13 : Int) (a14 : Int) (r : Int × NL × Int × Int × Bool) : AH := match r with
 | (o0, o1, o2, o3, o4) => ⟨sB [(0, (some (rblk P 19 [false, true, false, true] .ready none [(4, (pN 2 0)), (5, (pN 3 0)), (6, (pN 6 0)), (8, (Value.func (.func 26) #[] #[(pN 7 0)]))] 1))), (1, (some (.marks true))), (2, (some (.cells (layT [(i6 o0), (nlV o1), (i6 o2), (i6 o3), (bO o4)]) 46))), (3, (some (.cells (layT [(Value.func (.func 21) #[] #[(pN 4 0), (pN 5 0)])]) 52))), (4, (some (.cells (layT [(i6 a4)]) 3))), (5, (some (.cells (layT [(nlV a5)]) 29))), (6, (some (.cells (layT [(i6 a6), (Value.slice none 0 0), (i6 a7), (i6 a8), (bO a9)]) 46))), (7, (some (.cells (layT [(sN 8 0 (a10).length 1)]) 22))), (8, (some (.cells (layT (rows rw_iLii a10)) 36)))], 9, 0⟩
abbrev G_foldOverstyleschoice_1010y5 (a0 : Int) (a1 : Int) (a2 : Int) (a3 : Bool) (a4 : Int) (a5 : NL) (a6 : Int) (a7 : Int) (a8 : Int) (a9 : Bool) (a10 : List (Int × NL × Int × Int)) (a11 : Int) (a12 : NL) (a13 : Int) (a14 : Int) (r : Int × NL × Int × Int × Bool) : Prop := Gv P (.yield 0) (A_foldOverstyleschoice_1010y5 a0 a1 a2 a3 a4 a5 a6 a7 a8 a9 a10 a11 a12 a13 a14) (H_foldOverstyleschoice_1010y5 a0 a1 a2 a3 a4 a5 a6 a7 a8 a9 a10 a11 a12 a13 a14) (V_foldOverstyleschoice_1010y5 a0 a1 a2 a3 a4 a5 a6 a7 a8 a9 a10 a11 a12 a13 a14 r) (R_foldOverstyleschoice_1010y5 a0 a1 a2 a3 a4 a5 a6 a7 a8 a9 a10 a11 a12 a13 a14 r)
abbrev C_foldOverstyleschoice_1010y5 (a0 : Int) (a1 : Int) (a2 : Int) (a3 : Bool) (a4 : Int) (a5 : NL) (a6 : Int) (a7 : Int) (a8 : Int) (a9 : Bool) (a10 : List (Int × NL × Int × Int)) (a11 : Int) (a12 : NL) (a13 : Int) (a14 : Int) (r : Int × NL × Int × Int × Bool) (ins outs : BL) : CallA := ⟨9, ins, V_foldOverstyleschoice_1010y5 a0 a1 a2 a3 a4 a5 a6 a7 a8 a9 a10 a11 a12 a13 a14 r, R_foldOverstyleschoice_1010y5 a0 a1 a2 a3 a4 a5 a6 a7 a8 a9 a10 a11 a12 a13 a14 r, outs⟩
def m_foldOverstyleschoice_1010y5 (n : Nat) (a0 : Int) (a1 : Int) (a2 : Int) (a3 : Bool) (a4 : Int) (a5 : NL) (a6 : Int) (a7 : Int) (a8 : Int) (a9 : Bool) (a10 : List (Int × NL × Int × Int)) (a11 : Int) (a12 : NL) (a13 : Int) (a14 : Int) : Option (Int × NL × Int × Int × Bool) :=
 (m_stylesStyle1q1 n a0 a1 a2 a3 a11 a12 a13 a14 a4 a5).bind fun t => match t with
 | (c1_0, c1_1, c1_2, c1_3, c1_4) =>
  some (c1_0, c1_1, c1_2, c1_3, c1_4)
theorem m_foldOverstyleschoice_1010y5_ok (n : Nat) (a0 : Int) (a1 : Int) (a2 : Int) (a3 : Bool) (a4 : Int) (a5 : NL) (a6 : Int) (a7 : Int) (a8 : Int) (a9 : Bool) (a10 : List (Int × NL × Int × Int)) (a11 : Int) (a12 : NL) (a13 : Int) (a14 : Int) (r : Int × NL × Int × Int × Bool) (h : m_foldOverstyleschoice_1010y5 n a0 a1 a2 a3 a4 a5 a6 a7 a8 a9 a10 a11 a12 a13 a14 = some r) : Gv P (.yield 0) (A_foldOverstyleschoice_1010y5 a0 a1 a2 a3 a4 a5 a6 a7 a8 a9 a10 a11 a12 a13 a14) (H_foldOverstyleschoice_1010y5 a0 a1 a2 a3 a4 a5 a6 a7 a8 a9 a10 a11 a12 a13 a14) (V_foldOverstyleschoice_1010y5 a0 a1 a2 a3 a4 a5 a6 a7 a8 a9 a10 a11 a12 a13 a14 r) (R_foldOverstyleschoice_1010y5 a0 a1 a2 a3 a4 a5 a6 a7 a8 a9 a10 a11 a12 a13 a14 r) := by
 unfold m_foldOverstyleschoice_1010y5 at h
 obtain ⟨⟨c1_0, c1_1, c1_2, c1_3, c1_4⟩, hc1, h⟩ := oB h
 dsimp only at h
 obtain rfl := oI h
 exact runY2 hm ⟨[], [(0, 0, false), (1, 1, false), (2, 2, false), (3, 3, false), (4, 4, false), (5, 5, false), (6, 6, false), (7, 7, false), (8, 8, true)], 9, 0, [], false, [], [], []⟩ (ee) (yy 4 (.call (C_stylesStyle1q1 a0 a1 a2 a3 a11 a12 a13 a14 a4 a5 (c1_0, c1_1, c1_2, c1_3, c1_4) [(0, 4, false), (1, 5, false)] [(10, 2, false)])) <|
  ww (m_stylesStyle1q1_ok n a0 a1 a2 a3 a11 a12 a13 a14 a4 a5 (c1_0, c1_1, c1_2, c1_3, c1_4) hc1) <|
  ww (rows_flat rwf_iLii a10 36) <|
  ee) (by kernel_rfl)

def A_foldOverstyleschoice_1010y6 (a0 : Int) (a1 : NL) (a2 : Int) (a3 : Int) (a4 : Bool) (a5 : Int) (a6 : NL) (a7 : Int) (a8 : Int) (a9 : Int) (a10 : Bool) (a11 : List (Int × NL × Int × Int)) (a12 : Int) (a13 : NL) (a14 : Int) (a15 : Int) : List Value := [(Value.agg #[(i6 a12), (nlV a13), (i6 a14), (i6 a15)])]
def H_foldOverstyleschoice_1010y6 (a0 : Int) (a1 : NL) (a2 : Int) (a3 : Int) (a4 : Bool) (a5 : Int) (a6 : NL) (a7 : Int) (a8 : Int) (a9 : Int) (a10 : Bool) (a11 : List (Int × NL × Int × Int)) (a12 : Int) (a13 : NL) (a14 : Int) (a15 : Int) : AH := ⟨sB [(0, (some (rblk P 19 [false, true, false, true] .ready none [(4, (pN 2 0)), (5, (pN 3 0)), (6, (pN 6 0)), (8, (Value.func (.func 26) #[] #[(pN 7 0)]))] 1))), (1, (some (.marks true))), (2, (some (.cells (layT [(i6 a0), (nlV a1), (i6 a2), (i6 a3), (bO a4)]) 46))), (3, (some (.cells (layT [(Value.func (.func 21) #[] #[(pN 4 0), (pN 5 0)])]) 52))), (4, (some (.cells (layT [(i6 a5)]) 3))), (5, (some (.cells (layT [(nlV a6)]) 29))), (6, (some (.cells (layT [(i6 a7), (Value.slice none 0 0), (i6 a8), (i6 a9), (bO a10)]) 46))), (7, (some (.cells (layT [(sN 8 0 (a11).length 1)]) 22))), (8, (some (.cells (layT (rows rw_iLii a11)) 36)))], 9, 9⟩
def V_foldOverstyleschoice_1010y6 (a0 : Int) (a1 : NL) (a2 : Int) (a3 : Int) (a4 : Bool) (a5 : Int) (a6 : NL) (a7 : Int) (a8 : Int) (a9 : Int) (a10 : Bool) (a11 : List (Int × NL × Int × Int)) (a12 : Int) (a13 : NL) (a14 : Int) (a15 : Int) (r : Int × NL × Int × Int × Bool) : Value := match r with
 | (o0, o1, o2, o3, o4) => (bO true)
def R_foldOverstyleschoice_1010y6 (a0 : Int) (a1 : NL) (a2 : Int) (a3 : Int) (a4 : Bool) (a5 : Int) (a6 : NL) (a7 : Int) (a8 : Int) (a9 : Int) (a10 : Bool) (a11 : List (Int × NL × Int × Int)) (a12 : Int) (a13 : NL) (a14 : Int) (a15 : Int) (r : Int × NL × Int × Int × Bool) : AH := match r with
 | (o0, o1, o2, o3, o4) => ⟨sB [(0, (some (rblk P 19 [false, true, false, true] .ready none [(4, (pN 2 0)), (5, (pN 3 0)), (6, (pN 6 0)), (8, (Value.func (.func 26) #[] #[(pN 7 0)]))] 1))), (1, (some (.marks true))), (2, (some (.cells (layT [(i6 o0), (nlV o1), (i6 o2), (i6 o3), (bO o4)]) 46))), (3, (some (.cells (layT [(Value.func (.func 21) #[] #[(pN 4 0), (pN 5 0)])]) 52))), (4, (some (.cells (layT [(i6 a5)]) 3))), (5, (some (.cells (layT [(nlV a6)]) 29))), (6, (some (.cells (layT [(i6 a7), (Value.slice none 0 0), (i6 a8), (i6 a9), (bO a10)]) 46))), (7, (some (.cells (layT [(sN 8 0 (a11).length 1)]) 22))), (8, (some (.cells (layT (rows rw_iLii a11)) 36)))], 9, 0⟩
abbrev G_foldOverstyleschoice_1010y6 (a0 : Int) (a1 : NL) (a2 : Int) (a3 : Int) (a4 : Bool) (a5 : Int) (a6 : NL) (a7 : Int) (a8 : Int) (a9 : Int) (a10 : Bool) (a11 : List (Int × NL × Int × Int)) (a12 : Int) (a13 : NL) (a14 : Int) (a15 : Int) (r : Int × NL × Int × Int × Bool) : Prop := Gv P (.yield 0) (A_foldOverstyleschoice_1010y6 a0 a1 a2 a3 a4 a5 a6 a7 a8 a9 a10 a11 a12 a13 a14 a15) (H_foldOverstyleschoice_1010y6 a0 a1 a2 a3 a4 a5 a6 a7 a8 a9 a10 a11 a12 a13 a14 a15) (V_foldOverstyleschoice_1010y6 a0 a1 a2 a3 a4 a5 a6 a7 a8 a9 a10 a11 a12 a13 a14 a15 r) (R_foldOverstyleschoice_1010y6 a0 a1 a2 a3 a4 a5 a6 a7 a8 a9 a10 a11 a12 a13 a14 a15 r)
abbrev C_foldOverstyleschoice_1010y6 (a0 : Int) (a1 : NL) (a2 : Int) (a3 : Int) (a4 : Bool) (a5 : Int) (a6 : NL) (a7 : Int) (a8 : Int) (a9 : Int) (a10 : Bool) (a11 : List (Int × NL × Int × Int)) (a12 : Int) (a13 : NL) (a14 : Int) (a15 : Int) (r : Int × NL × Int × Int × Bool) (ins outs : BL) : CallA := ⟨9, ins, V_foldOverstyleschoice_1010y6 a0 a1 a2 a3 a4 a5 a6 a7 a8 a9 a10 a11 a12 a13 a14 a15 r, R_foldOverstyleschoice_1010y6 a0 a1 a2 a3 a4 a5 a6 a7 a8 a9 a10 a11 a12 a13 a14 a15 r, outs⟩
def m_foldOverstyleschoice_1010y6 (n : Nat) (a0 : Int) (a1 : NL) (a2 : Int) (a3 : Int) (a4 : Bool) (a5 : Int) (a6 : NL) (a7 : Int) (a8 : Int) (a9 : Int) (a10 : Bool) (a11 : List (Int × NL × Int × Int)) (a12 : Int) (a13 : NL) (a14 : Int) (a15 : Int) : Option (Int × NL × Int × Int × Bool) :=
 (m_stylesStyle1q2 n a0 a1 a2 a3 a4 a12 a13 a14 a15 a5 a6).bind fun t => match t with
 | (c1_0, c1_1, c1_2, c1_3, c1_4) =>
  some (c1_0, c1_1, c1_2, c1_3, c1_4)
theorem m_foldOverstyleschoice_1010y6_ok (n : Nat) (a0 : Int) (a1 : NL) (a2 : Int) (a3 : Int) (a4 : Bool) (a5 : Int) (a6 : NL) (a7 : Int) (a8 : Int) (a9 : Int) (a10 : Bool) (a11 : List (Int × NL × Int × Int)) (a12 : Int) (a13 : NL) (a14 : Int) (a15 : Int) (r : Int × NL × Int × Int × Bool) (h : m_foldOverstyleschoice_1010y6 n a0 a1 a2 a3 a4 a5 a6 a7 a8 a9 a10 a11 a12 a13 a14 a15 = some r) : Gv P (.yield 0) (A_foldOverstyleschoice_1010y6 a0 a1 a2 a3 a4 a5 a6 a7 a8 a9 a10 a11 a12 a13 a14 a15) (H_foldOverstyleschoice_1010y6 a0 a1 a2 a3 a4 a5 a6 a7 a8 a9 a10 a11 a12 a13 a14 a15) (V_foldOverstyleschoice_1010y6 a0 a1 a2 a3 a4 a5 a6 a7 a8 a9 a10 a11 a12 a13 a14 a15 r) (R_foldOverstyleschoice_1010y6 a0 a1 a2 a3 a4 a5 a6 a7 a8 a9 a10 a11 a12 a13 a14 a15 r) := by
 unfold m_foldOverstyleschoice_1010y6 at h
 obtain ⟨⟨c1_0, c1_1, c1_2, c1_3, c1_4⟩, hc1, h⟩ := oB h
 dsimp only at h
 obtain rfl := oI h
 exact runY2 hm ⟨[], [(0, 0, false), (1, 1, false), (2, 2, false), (3, 3, false), (4, 4, false), (5, 5, false), (6, 6, false), (7, 7, false), (8, 8, true)], 9, 0, [], false, [], [], []⟩ (ee) (yy 4 (.call (C_stylesStyle1q2 a0 a1 a2 a3 a4 a12 a13 a14 a15 a5 a6 (c1_0, c1_1, c1_2, c1_3, c1_4) [(0, 4, false), (1, 5, false)] [(10, 2, false)])) <|
  ww (m_stylesStyle1q2_ok n a0 a1 a2 a3 a4 a12 a13 a14 a15 a5 a6 (c1_0, c1_1, c1_2, c1_3, c1_4) hc1) <|
  ww (rows_flat rwf_iLii a11 36) <|
  ee) (by kernel_rfl)

def A_slicesValuesapiStyle1q3 (a0 : Int) (a1 : Int) (a2 : Int) (a3 : Bool) (a4 : Int) (a5 : NL) (a6 : Int) (a7 : Int) (a8 : Int) (a9 : Bool) (a10 : List (Int × NL × Int × Int)) : List Value := [(Value.func (.yield 0) #[] #[]), (pN 7 0)]
def H_slicesValuesapiStyle1q3 (a0 : Int) (a1 : Int) (a2 : Int) (a3 : Bool) (a4 : Int) (a5 : NL) (a6 : Int) (a7 : Int) (a8 : Int) (a9 : Bool) (a10 : List (Int × NL × Int × Int)) : AH := ⟨sB [(0, (some (rblk P 19 [false, true, false, true] .ready none [(4, (pN 2 0)), (5, (pN 3 0)), (6, (pN 6 0)), (8, (Value.func (.func 26) #[] #[(pN 7 0)]))] 1))), (1, (some (.marks true))), (2, (some (.cells (layT [(i6 a0), (Value.slice none 0 0), (i6 a1), (i6 a2), (bO a3)]) 46))), (3, (some (.cells (layT [(Value.func (.func 21) #[] #[(pN 4 0), (pN 5 0)])]) 52))), (4, (some (.cells (layT [(i6 a4)]) 3))), (5, (some (.cells (layT [(nlV a5)]) 29))), (6, (some (.cells (layT [(i6 a6), (Value.slice none 0 0), (i6 a7), (i6 a8), (bO a9)]) 46))), (7, (some (.cells (layT [(sN 8 0 (a10).length 1)]) 22))), (8, (some (.cells (layT (rows rw_iLii a10)) 36)))], 9, 9⟩
def V_slicesValuesapiStyle1q3 (a0 : Int) (a1 : Int) (a2 : Int) (a3 : Bool) (a4 : Int) (a5 : NL) (a6 : Int) (a7 : Int) (a8 : Int) (a9 : Bool) (a10 : List (Int × NL × Int × Int)) (r : Int × List (NL) × Int × Int × Bool) : Value := match r with
 | (o0, o1, o2, o3, o4) => (Value.tuple #[])
def R_slicesValuesapiStyle1q3 (a0 : Int) (a1 : Int) (a2 : Int) (a3 : Bool) (a4 : Int) (a5 : NL) (a6 : Int) (a7 : Int) (a8 : Int) (a9 : Bool) (a10 : List (Int × NL × Int × Int)) (r : Int × List (NL) × Int × Int × Bool) : AH := match r with
 | (o0, o1, o2, o3, o4) => ⟨sB [(0, (some (rblk P 19 [false, true, false, true] .ready none [(4, (pN 2 0)), (5, (pN 3 0)), (6, (pN 6 0)), (8, (Value.func (.func 26) #[] #[(pN 7 0)]))] 1))), (1, (some (.marks true))), (2, (some (.cells (layT [(i6 o0), (nlQ o1), (i6 o2), (i6 o3), (bO o4)]) 46))), (3, (some (.cells (layT [(Value.func (.func 21) #[] #[(pN 4 0), (pN 5 0)])]) 52))), (4, (some (.cells (layT [(i6 a4)]) 3))), (5, (some (.cells (layT [(nlV a5)]) 29))), (6, (some (.cells (layT [(i6 a6), (Value.slice none 0 0), (i6 a7), (i6 a8), (bO a9)]) 46))), (7, (some (.cells (layT [(sN 8 0 (a10).length 1)]) 22))), (8, (some (.cells (layT (rows rw_iLii a10)) 36)))], 9, 0⟩
abbrev G_slicesValuesapiStyle1q3 (a0 : Int) (a1 : Int) (a2 : Int) (a3 : Bool) (a4 : Int) (a5 : NL) (a6 : Int) (a7 : Int) (a8 : Int) (a9 : Bool) (a10 : List (Int × NL × Int × Int)) (r : Int × List (NL) × Int × Int × Bool) : Prop := Gv P (.func 26) (A_slicesValuesapiStyle1q3 a0 a1 a2 a3 a4 a5 a6 a7 a8 a9 a10) (H_slicesValuesapiStyle1q3 a0 a1 a2 a3 a4 a5 a6 a7 a8 a9 a10) (V_slicesValuesapiStyle1q3 a0 a1 a2 a3 a4 a5 a6 a7 a8 a9 a10 r) (R_slicesValuesapiStyle1q3 a0 a1 a2 a3 a4 a5 a6 a7 a8 a9 a10 r)
abbrev C_slicesValuesapiStyle1q3 (a0 : Int) (a1 : Int) (a2 : Int) (a3 : Bool) (a4 : Int) (a5 : NL) (a6 : Int) (a7 : Int) (a8 : Int) (a9 : Bool) (a10 : List (Int × NL × Int × Int)) (r : Int × List (NL) × Int × Int × Bool) (ins outs : BL) : CallA := ⟨9, ins, V_slicesValuesapiStyle1q3 a0 a1 a2 a3 a4 a5 a6 a7 a8 a9 a10 r, R_slicesValuesapiStyle1q3 a0 a1 a2 a3 a4 a5 a6 a7 a8 a9 a10 r, outs⟩
def S_slicesValuesapiStyle1q3_1 (x1_5 : Int) (x1_6 : NL) (x1_7 : Int) (x1_8 : Int) (x1_9 : Int) (x1_10 : Bool) (x1_11 : List (Int × NL × Int × Int)) (x1_12 : Int) (st : Int × List (NL) × Int × Int × Bool × Int) : XSt := match st with
 | (x1_0, x1_1, x1_2, x1_3, x1_4, x1_13) => (sT 16 [(0, (Value.func (.yield 0) #[] #[])), (5, (sN 8 0 (x1_11).length 1)), (6, (i6 x1_12)), (7, (i6 x1_13))], [], ⟨sB [(0, (some (rblk P 19 [false, true, false, true] .ready none [(4, (pN 2 0)), (5, (pN 3 0)), (6, (pN 6 0)), (8, (Value.func (.func 26) #[] #[(pN 7 0)]))] 1))), (1, (some (.marks true))), (2, (some (.cells (layT [(i6 x1_0), (nlQ x1_1), (i6 x1_2), (i6 x1_3), (bO x1_4)]) 46))), (3, (some (.cells (layT [(Value.func (.func 21) #[] #[(pN 4 0), (pN 5 0)])]) 52))), (4, (some (.cells (layT [(i6 x1_5)]) 3))), (5, (some (.cells (layT [(nlV x1_6)]) 29))), (6, (some (.cells (layT [(i6 x1_7), (Value.slice none 0 0), (i6 x1_8), (i6 x1_9), (bO x1_10)]) 46))), (7, (some (.cells (layT [(sN 8 0 (x1_11).length 1)]) 22))), (8, (some (.cells (layT (rows rw_iLii x1_11)) 36)))], 9, 0⟩)
def X_slicesValuesapiStyle1q3_1 (x1_5 : Int) (x1_6 : NL) (x1_7 : Int) (x1_8 : Int) (x1_9 : Int) (x1_10 : Bool) (x1_11 : List (Int × NL × Int × Int)) (x1_12 : Int) (r : Int × List (NL) × Int × Int × Bool) : Ex × XSt := match r with
 | (z1_0, z1_1, z1_2, z1_3, z1_4) => (.exit 0, (sT 16 [], [], ⟨sB [(0, (some (rblk P 19 [false, true, false, true] .ready none [(4, (pN 2 0)), (5, (pN 3 0)), (6, (pN 6 0)), (8, (Value.func (.func 26) #[] #[(pN 7 0)]))] 1))), (1, (some (.marks true))), (2, (some (.cells (layT [(i6 z1_0), (nlQ z1_1), (i6 z1_2), (i6 z1_3), (bO z1_4)]) 46))), (3, (some (.cells (layT [(Value.func (.func 21) #[] #[(pN 4 0), (pN 5 0)])]) 52))), (4, (some (.cells (layT [(i6 x1_5)]) 3))), (5, (some (.cells (layT [(nlV x1_6)]) 29))), (6, (some (.cells (layT [(i6 x1_7), (Value.slice none 0 0), (i6 x1_8), (i6 x1_9), (bO x1_10)]) 46))), (7, (some (.cells (layT [(sN 8 0 (x1_11).length 1)]) 22))), (8, (some (.cells (layT (rows rw_iLii x1_11)) 36)))], 9, 0⟩))
abbrev Q_slicesValuesapiStyle1q3_1 (rnd : Option Nat) (x1_5 : Int) (x1_6 : NL) (x1_7 : Int) (x1_8 : Int) (x1_9 : Int) (x1_10 : Bool) (x1_11 : List (Int × NL × Int × Int)) (x1_12 : Int) (st : Int × List (NL) × Int × Int × Bool × Int) (c : Ex × XSt) : Prop := CG P rnd (fnN P 26) 9 (codeOf P 26 [false, false, true]) (S_slicesValuesapiStyle1q3_1 x1_5 x1_6 x1_7 x1_8 x1_9 x1_10 x1_11 x1_12 st) c
abbrev U_slicesValuesapiStyle1q3_1 (rd : Option Nat) (x1_5 : Int) (x1_6 : NL) (x1_7 : Int) (x1_8 : Int) (x1_9 : Int) (x1_10 : Bool) (x1_11 : List (Int × NL × Int × Int)) (x1_12 : Int) (st : Int × List (NL) × Int × Int × Bool × Int) (r : Int × List (NL) × Int × Int × Bool) : Prop := CG P rd (fnN P 26) 9 (codeOf P 26 [false, true]) (S_slicesValuesapiStyle1q3_1 x1_5 x1_6 x1_7 x1_8 x1_9 x1_10 x1_11 x1_12 st) (X_slicesValuesapiStyle1q3_1 x1_5 x1_6 x1_7 x1_8 x1_9 x1_10 x1_11 x1_12 r)
def B_slicesValuesapiStyle1q3_1 (n : Nat) (x1_5 : Int) (x1_6 : NL) (x1_7 : Int) (x1_8 : Int) (x1_9 : Int) (x1_10 : Bool) (x1_11 : List (Int × NL × Int × Int)) (x1_12 : Int) (st : Int × List (NL) × Int × Int × Bool × Int) : Option ((Int × List (NL) × Int × Int × Bool × Int) ⊕ (Int × List (NL) × Int × Int × Bool)) := match st with
 | (x1_0, x1_1, x1_2, x1_3, x1_4, x1_13) =>
  match x1_1 with
  | [] =>
   if x1_13 < x1_12 then
    if 0 ≤ x1_13 ∧ x1_13 < (((x1_11).length : Nat) : Int) then
     ((some ((x1_11).getD (x1_13).toNat (0, nl0, 0, 0)))).bind fun y1_3_ =>
     (m_foldOverstyleschoice_1010y5 n x1_0 x1_2 x1_3 x1_4 x1_5 x1_6 x1_7 x1_8 x1_9 x1_10 x1_11 (y1_3_.1) (y1_3_.2.1) (y1_3_.2.2.1) (y1_3_.2.2.2)).bind fun t => match t with
     | (y1_4_0, y1_4_1, y1_4_2, y1_4_3, y1_4_4) =>
      some (.inl (y1_4_0, [y1_4_1], y1_4_2, y1_4_3, y1_4_4, (w64 (x1_13 + (1 : Int)))))
    else none
   else
    some (.inr (x1_0, ([] : List (NL)), x1_2, x1_3, x1_4))
  | x1_1a :: x1_1t =>
   if x1_13 < x1_12 then
    if 0 ≤ x1_13 ∧ x1_13 < (((x1_11).length : Nat) : Int) then
     ((some ((x1_11).getD (x1_13).toNat (0, nl0, 0, 0)))).bind fun y1_3_ =>
     (m_foldOverstyleschoice_1010y6 n x1_0 x1_1a x1_2 x1_3 x1_4 x1_5 x1_6 x1_7 x1_8 x1_9 x1_10 x1_11 (y1_3_.1) (y1_3_.2.1) (y1_3_.2.2.1) (y1_3_.2.2.2)).bind fun t => match t with
     | (y1_4_0, y1_4_1, y1_4_2, y1_4_3, y1_4_4) =>
      some (.inl (y1_4_0, [y1_4_1], y1_4_2, y1_4_3, y1_4_4, (w64 (x1_13 + (1 : Int)))))
    else none
   else
    some (.inr (x1_0, [x1_1a], x1_2, x1_3, x1_4))
def m_slicesValuesapiStyle1q3_1 (n : Nat) (x1_5 : Int) (x1_6 : NL) (x1_7 : Int) (x1_8 : Int) (x1_9 : Int) (x1_10 : Bool) (x1_11 : List (Int × NL × Int × Int)) (x1_12 : Int) (st : Int × List (NL) × Int × Int × Bool × Int) : Option (Int × List (NL) × Int × Int × Bool) := iterM (B_slicesValuesapiStyle1q3_1 n x1_5 x1_6 x1_7 x1_8 x1_9 x1_10 x1_11 x1_12) n st
theorem b_slicesValuesapiStyle1q3_1 (n : Nat) {rnd : Option Nat} (x1_5 : Int) (x1_6 : NL) (x1_7 : Int) (x1_8 : Int) (x1_9 : Int) (x1_10 : Bool) (x1_11 : List (Int × NL × Int × Int)) (x1_12 : Int) (st : Int × List (NL) × Int × Int × Bool × Int) (o : (Int × List (NL) × Int × Int × Bool × Int) ⊕ (Int × List (NL) × Int × Int × Bool)) (h : B_slicesValuesapiStyle1q3_1 n x1_5 x1_6 x1_7 x1_8 x1_9 x1_10 x1_11 x1_12 st = some o) : CG P rnd (fnN P 26) 9 (codeOf P 26 [false, false, true]) (S_slicesValuesapiStyle1q3_1 x1_5 x1_6 x1_7 x1_8 x1_9 x1_10 x1_11 x1_12 st) (Sum.elim (fun s => (.normal, S_slicesValuesapiStyle1q3_1 x1_5 x1_6 x1_7 x1_8 x1_9 x1_10 x1_11 x1_12 s)) (fun r => X_slicesValuesapiStyle1q3_1 x1_5 x1_6 x1_7 x1_8 x1_9 x1_10 x1_11 x1_12 r) o) := by
 obtain ⟨x1_0, x1_1, x1_2, x1_3, x1_4, x1_13⟩ := st
 unfold B_slicesValuesapiStyle1q3_1 at h
 dsimp only at h
 cases x1_1 with
 | nil =>
  dsimp only at h
  by_cases hy1_1 : x1_13 < x1_12
  ·rw [if_pos hy1_1] at h
   obtain ⟨hy1_2, h⟩ := gd h
   obtain ⟨y1_3_, hy1_3, h⟩ := oB h
   obtain ⟨⟨y1_4_0, y1_4_1, y1_4_2, y1_4_3, y1_4_4⟩, hy1_4, h⟩ := oB h
   dsimp only at h
   obtain rfl := oI h
   exact runC2 hm ⟨[0, 5, 6, 7], [(0, 0, false), (1, 1, false), (2, 2, false), (3, 3, false), (4, 4, false), (5, 5, false), (6, 6, false), (7, 7, false), (8, 8, true)], 9, 0, [], false, [], [], []⟩ (zz 1 (xdT hy1_1) <|
    zz 7 (xk25 8 1 hy1_2) <|
    yy 8 (.ld (Value.agg #[(i6 (y1_3_.1)), (nlV (y1_3_.2.1)), (i6 (y1_3_.2.2.1)), (i6 (y1_3_.2.2.2))])) <|
    ww (p := rdT (layT (rows rw_iLii x1_11)) 4 ((x1_13).toNat * 4) = some [(i6 (y1_3_.1)), (nlV (y1_3_.2.1)), (i6 (y1_3_.2.2.1)), (i6 (y1_3_.2.2.2))]) (rows_rdpN rwf_iLii (0, nl0, 0, 0) (hr := hy1_3) (i := (x1_13).toNat) (j := 0) ((x1_13).toNat * 4) rfl (toNatLt hy1_2) (by decide) rfl) <|
    yy 14 (.call (C_foldOverstyleschoice_1010y5 x1_0 x1_2 x1_3 x1_4 x1_5 x1_6 x1_7 x1_8 x1_9 x1_10 x1_11 (y1_3_.1) (y1_3_.2.1) (y1_3_.2.2.1) (y1_3_.2.2.2) (y1_4_0, y1_4_1, y1_4_2, y1_4_3, y1_4_4) [(0, 0, false), (1, 1, false), (2, 2, false), (3, 3, false), (4, 4, false), (5, 5, false), (6, 6, false), (7, 7, false), (8, 8, true)] [(0, 0, false), (1, 1, false), (2, 2, false), (3, 3, false), (4, 4, false), (5, 5, false), (6, 6, false), (7, 7, false), (8, 8, true)])) <|
    ww (m_foldOverstyleschoice_1010y5_ok n x1_0 x1_2 x1_3 x1_4 x1_5 x1_6 x1_7 x1_8 x1_9 x1_10 x1_11 (y1_3_.1) (y1_3_.2.1) (y1_3_.2.2.1) (y1_3_.2.2.2) (y1_4_0, y1_4_1, y1_4_2, y1_4_3, y1_4_4) hy1_4) <|
    ww (rows_flat rwf_iLii x1_11 36) <|
    ww (rows_flat rwf_iLii x1_11 36) <|
    ww (rows_flat rwf_iLii x1_11 36) <|
    ee) (by kernel_rfl)
  ·rw [if_neg hy1_1] at h
   obtain rfl := oI h
   exact runC2 hm ⟨[], [(0, 0, false), (1, 1, false), (2, 2, false), (3, 3, false), (4, 4, false), (5, 5, false), (6, 6, false), (7, 7, false), (8, 8, true)], 9, 0, [], false, [], [], []⟩ (zz 1 (xdF hy1_1) <|
    ww (rows_flat rwf_iLii x1_11 36) <|
    ee) (by kernel_rfl)
 | cons x1_1a x1_1t =>
  dsimp only at h
  by_cases hy1_1 : x1_13 < x1_12
  ·rw [if_pos hy1_1] at h
   obtain ⟨hy1_2, h⟩ := gd h
   obtain ⟨y1_3_, hy1_3, h⟩ := oB h
   obtain ⟨⟨y1_4_0, y1_4_1, y1_4_2, y1_4_3, y1_4_4⟩, hy1_4, h⟩ := oB h
   dsimp only at h
   obtain rfl := oI h
   exact runC2 hm ⟨[0, 5, 6, 7], [(0, 0, false), (1, 1, false), (2, 2, false), (3, 3, false), (4, 4, false), (5, 5, false), (6, 6, false), (7, 7, false), (8, 8, true)], 9, 0, [], false, [], [], []⟩ (zz 1 (xdT hy1_1) <|
    zz 7 (xk25 8 1 hy1_2) <|
    yy 8 (.ld (Value.agg #[(i6 (y1_3_.1)), (nlV (y1_3_.2.1)), (i6 (y1_3_.2.2.1)), (i6 (y1_3_.2.2.2))])) <|
    ww (p := rdT (layT (rows rw_iLii x1_11)) 4 ((x1_13).toNat * 4) = some [(i6 (y1_3_.1)), (nlV (y1_3_.2.1)), (i6 (y1_3_.2.2.1)), (i6 (y1_3_.2.2.2))]) (rows_rdpN rwf_iLii (0, nl0, 0, 0) (hr := hy1_3) (i := (x1_13).toNat) (j := 0) ((x1_13).toNat * 4) rfl (toNatLt hy1_2) (by decide) rfl) <|
    yy 14 (.call (C_foldOverstyleschoice_1010y6 x1_0 x1_1a x1_2 x1_3 x1_4 x1_5 x1_6 x1_7 x1_8 x1_9 x1_10 x1_11 (y1_3_.1) (y1_3_.2.1) (y1_3_.2.2.1) (y1_3_.2.2.2) (y1_4_0, y1_4_1, y1_4_2, y1_4_3, y1_4_4) [(0, 0, false), (1, 1, false), (2, 2, false), (3, 3, false), (4, 4, false), (5, 5, false), (6, 6, false), (7, 7, false), (8, 8, true)] [(0, 0, false), (1, 1, false), (2, 2, false), (3, 3, false), (4, 4, false), (5, 5, false), (6, 6, false), (7, 7, false), (8, 8, true)])) <|
    ww (m_foldOverstyleschoice_1010y6_ok n x1_0 x1_1a x1_2 x1_3 x1_4 x1_5 x1_6 x1_7 x1_8 x1_9 x1_10 x1_11 (y1_3_.1) (y1_3_.2.1) (y1_3_.2.2.1) (y1_3_.2.2.2) (y1_4_0, y1_4_1, y1_4_2, y1_4_3, y1_4_4) hy1_4) <|
    ww (rows_flat rwf_iLii x1_11 36) <|
    ww (rows_flat rwf_iLii x1_11 36) <|
    ww (rows_flat rwf_iLii x1_11 36) <|
    ee) (by kernel_rfl)
  ·rw [if_neg hy1_1] at h
   obtain rfl := oI h
   exact runC2 hm ⟨[], [(0, 0, false), (1, 1, false), (2, 2, false), (3, 3, false), (4, 4, false), (5, 5, false), (6, 6, false), (7, 7, false), (8, 8, true)], 9, 0, [], false, [], [], []⟩ (zz 1 (xdF hy1_1) <|
    ww (rows_flat rwf_iLii x1_11 36) <|
    ee) (by kernel_rfl)
theorem m_slicesValuesapiStyle1q3_1_ok (n : Nat) {rnd : Option Nat} (x1_5 : Int) (x1_6 : NL) (x1_7 : Int) (x1_8 : Int) (x1_9 : Int) (x1_10 : Bool) (x1_11 : List (Int × NL × Int × Int)) (x1_12 : Int) (st : Int × List (NL) × Int × Int × Bool × Int) (r : Int × List (NL) × Int × Int × Bool) (h : m_slicesValuesapiStyle1q3_1 n x1_5 x1_6 x1_7 x1_8 x1_9 x1_10 x1_11 x1_12 st = some r) : CG P rnd (fnN P 26) 9 (codeOf P 26 [false, true]) (S_slicesValuesapiStyle1q3_1 x1_5 x1_6 x1_7 x1_8 x1_9 x1_10 x1_11 x1_12 st) (X_slicesValuesapiStyle1q3_1 x1_5 x1_6 x1_7 x1_8 x1_9 x1_10 x1_11 x1_12 r) :=
 CG.iter (b := codeOf P 26 [false, false, true]) (by kernel_rfl) (body := B_slicesValuesapiStyle1q3_1 n x1_5 x1_6 x1_7 x1_8 x1_9 x1_10 x1_11 x1_12) (S := S_slicesValuesapiStyle1q3_1 x1_5 x1_6 x1_7 x1_8 x1_9 x1_10 x1_11 x1_12) (X := X_slicesValuesapiStyle1q3_1 x1_5 x1_6 x1_7 x1_8 x1_9 x1_10 x1_11 x1_12)
  (fun s s' h => b_slicesValuesapiStyle1q3_1 n x1_5 x1_6 x1_7 x1_8 x1_9 x1_10 x1_11 x1_12 s (.inl s') h)
  (fun s r h => b_slicesValuesapiStyle1q3_1 n x1_5 x1_6 x1_7 x1_8 x1_9 x1_10 x1_11 x1_12 s (.inr r) h)
  (fun r => by intro hx; cases hx) h
def m_slicesValuesapiStyle1q3 (n : Nat) (a0 : Int) (a1 : Int) (a2 : Int) (a3 : Bool) (a4 : Int) (a5 : NL) (a6 : Int) (a7 : Int) (a8 : Int) (a9 : Bool) (a10 : List (Int × NL × Int × Int)) : Option (Int × List (NL) × Int × Int × Bool) :=
 (m_slicesValuesapiStyle1q3_1 n a4 a5 a6 a7 a8 a9 a10 (((a10).length : Nat) : Int) (a0, ([] : List (NL)), a1, a2, a3, 0)).bind fun t => match t with
 | (c1_0, c1_1, c1_2, c1_3, c1_4) =>
  match c1_1 with
  | [] =>
   some (c1_0, ([] : List (NL)), c1_2, c1_3, c1_4)
  | c1_1a :: c1_1t =>
   some (c1_0, [c1_1a], c1_2, c1_3, c1_4)
theorem m_slicesValuesapiStyle1q3_ok (n : Nat) (a0 : Int) (a1 : Int) (a2 : Int) (a3 : Bool) (a4 : Int) (a5 : NL) (a6 : Int) (a7 : Int) (a8 : Int) (a9 : Bool) (a10 : List (Int × NL × Int × Int)) (r : Int × List (NL) × Int × Int × Bool) (h : m_slicesValuesapiStyle1q3 n a0 a1 a2 a3 a4 a5 a6 a7 a8 a9 a10 = some r) : Gv P (.func 26) (A_slicesValuesapiStyle1q3 a0 a1 a2 a3 a4 a5 a6 a7 a8 a9 a10) (H_slicesValuesapiStyle1q3 a0 a1 a2 a3 a4 a5 a6 a7 a8 a9 a10) (V_slicesValuesapiStyle1q3 a0 a1 a2 a3 a4 a5 a6 a7 a8 a9 a10 r) (R_slicesValuesapiStyle1q3 a0 a1 a2 a3 a4 a5 a6 a7 a8 a9 a10 r) := by
 unfold m_slicesValuesapiStyle1q3 at h
 obtain ⟨⟨c1_0, c1_1, c1_2, c1_3, c1_4⟩, hc1, h⟩ := oB h
 dsimp only at h
 cases c1_1 with
 | nil =>
  dsimp only at h
  obtain rfl := oI h
  exact runF2 hm ⟨[], [(0, 0, false), (1, 1, false), (2, 2, false), (3, 3, false), (4, 4, false), (5, 5, false), (6, 6, false), (7, 7, false), (8, 8, true)], 9, 0, [], false, [], [], []⟩ (ww (p := U_slicesValuesapiStyle1q3_1 none a4 a5 a6 a7 a8 a9 a10 (((a10).length : Nat) : Int) (a0, ([] : List (NL)), a1, a2, a3, 0) (c1_0, ([] : List (NL)), c1_2, c1_3, c1_4)) (m_slicesValuesapiStyle1q3_1_ok n a4 a5 a6 a7 a8 a9 a10 (((a10).length : Nat) : Int) (a0, ([] : List (NL)), a1, a2, a3, 0) (c1_0, ([] : List (NL)), c1_2, c1_3, c1_4) hc1) <|
   ww (rows_flat rwf_iLii a10 36) <|
   ll 5 ⟨⟨[0, 5, 6, 7], [(0, 0, false), (1, 1, false), (2, 2, false), (3, 3, false), (4, 4, false), (5, 5, false), (6, 6, false), (7, 7, false), (8, 8, true)], 9, 0, [], false, [], [], []⟩, (X_slicesValuesapiStyle1q3_1 a4 a5 a6 a7 a8 a9 a10 (((a10).length : Nat) : Int) (c1_0, ([] : List (NL)), c1_2, c1_3, c1_4)).1, (X_slicesValuesapiStyle1q3_1 a4 a5 a6 a7 a8 a9 a10 (((a10).length : Nat) : Int) (c1_0, ([] : List (NL)), c1_2, c1_3, c1_4)).2⟩ <|
   ww (rows_flat rwf_iLii a10 36) <|
   ee) (by kernel_rfl)
 | cons c1_1a c1_1t =>
  dsimp only at h
  obtain rfl := oI h
  exact runF2 hm ⟨[], [(0, 0, false), (1, 1, false), (2, 2, false), (3, 3, false), (4, 4, false), (5, 5, false), (6, 6, false), (7, 7, false), (8, 8, true)], 9, 0, [], false, [], [], []⟩ (ww (p := U_slicesValuesapiStyle1q3_1 none a4 a5 a6 a7 a8 a9 a10 (((a10).length : Nat) : Int) (a0, ([] : List (NL)), a1, a2, a3, 0) (c1_0, (c1_1a :: c1_1t), c1_2, c1_3, c1_4)) (m_slicesValuesapiStyle1q3_1_ok n a4 a5 a6 a7 a8 a9 a10 (((a10).length : Nat) : Int) (a0, ([] : List (NL)), a1, a2, a3, 0) (c1_0, (c1_1a :: c1_1t), c1_2, c1_3, c1_4) hc1) <|
   ww (rows_flat rwf_iLii a10 36) <|
   ll 5 ⟨⟨[0, 5, 6, 7], [(0, 0, false), (1, 1, false), (2, 2, false), (3, 3, false), (4, 4, false), (5, 5, false), (6, 6, false), (7, 7, false), (8, 8, true)], 9, 0, [], false, [], [], []⟩, (X_slicesValuesapiStyle1q3_1 a4 a5 a6 a7 a8 a9 a10 (((a10).length : Nat) : Int) (c1_0, (c1_1a :: c1_1t), c1_2, c1_3, c1_4)).1, (X_slicesValuesapiStyle1q3_1 a4 a5 a6 a7 a8 a9 a10 (((a10).length : Nat) : Int) (c1_0, (c1_1a :: c1_1t), c1_2, c1_3, c1_4)).2⟩ <|
   ww (rows_flat rwf_iLii a10 36) <|
   ee) (by kernel_rfl)

def A_foldOverstyleschoiceq3 (a0 : List (Int × NL × Int × Int)) (a1 : Int) (a2 : Int) (a3 : Int) (a4 : Bool) (a5 : Int) (a6 : NL) : List Value := [(Value.func (.func 26) #[] #[(pN 0 0)]), (Value.agg #[(i6 a1), (Value.slice none 0 0), (i6 a2), (i6 a3), (bO a4)]), (Value.func (.func 21) #[] #[(pN 2 0), (pN 3 0)])]
def H_foldOverstyleschoiceq3 (a0 : List (Int × NL × Int × Int)) (a1 : Int) (a2 : Int) (a3 : Int) (a4 : Bool) (a5 : Int) (a6 : NL) : AH := ⟨sB [(0, (some (.cells (layT [(sN 1 0 (a0).length 1)]) 22))), (1, (some (.cells (layT (rows rw_iLii a0)) 36))), (2, (some (.cells (layT [(i6 a5)]) 3))), (3, (some (.cells (layT [(nlV a6)]) 29)))], 4, 4⟩
def V_foldOverstyleschoiceq3 (a0 : List (Int × NL × Int × Int)) (a1 : Int) (a2 : Int) (a3 : Int) (a4 : Bool) (a5 : Int) (a6 : NL) (r : Int × List (NL) × Int × Int × Bool) : Value := match r with
 | (o0, o1, o2, o3, o4) => (Value.agg #[(i6 o0), (nlQ o1), (i6 o2), (i6 o3), (bO o4)])
def R_foldOverstyleschoiceq3 (a0 : List (Int × NL × Int × Int)) (a1 : Int) (a2 : Int) (a3 : Int) (a4 : Bool) (a5 : Int) (a6 : NL) (r : Int × List (NL) × Int × Int × Bool) : AH := match r with
 | (o0, o1, o2, o3, o4) => ⟨sB [(0, (some (.cells (layT [(sN 1 0 (a0).length 1)]) 22))), (1, (some (.cells (layT (rows rw_iLii a0)) 36))), (2, (some (.cells (layT [(i6 a5)]) 3))), (3, (some (.cells (layT [(nlV a6)]) 29))), (4, (some (.marks false))), (5, (some (.cells (layT [(i6 o0), (nlQ o1), (i6 o2), (i6 o3), (bO o4)]) 46)))], 6, 0⟩
abbrev G_foldOverstyleschoiceq3 (a0 : List (Int × NL × Int × Int)) (a1 : Int) (a2 : Int) (a3 : Int) (a4 : Bool) (a5 : Int) (a6 : NL) (r : Int × List (NL) × Int × Int × Bool) : Prop := Gv P (.func 19) (A_foldOverstyleschoiceq3 a0 a1 a2 a3 a4 a5 a6) (H_foldOverstyleschoiceq3 a0 a1 a2 a3 a4 a5 a6) (V_foldOverstyleschoiceq3 a0 a1 a2 a3 a4 a5 a6 r) (R_foldOverstyleschoiceq3 a0 a1 a2 a3 a4 a5 a6 r)
abbrev C_foldOverstyleschoiceq3 (a0 : List (Int × NL × Int × Int)) (a1 : Int) (a2 : Int) (a3 : Int) (a4 : Bool) (a5 : Int) (a6 : NL) (r : Int × List (NL) × Int × Int × Bool) (ins outs : BL) : CallA := ⟨4, ins, V_foldOverstyleschoiceq3 a0 a1 a2 a3 a4 a5 a6 r, R_foldOverstyleschoiceq3 a0 a1 a2 a3 a4 a5 a6 r, outs⟩
def m_foldOverstyleschoiceq3 (n : Nat) (a0 : List (Int × NL × Int × Int)) (a1 : Int) (a2 : Int) (a3 : Int) (a4 : Bool) (a5 : Int) (a6 : NL) : Option (Int × List (NL) × Int × Int × Bool) :=
 (m_slicesValuesapiStyle1q3 n a1 a2 a3 a4 a5 a6 0 0 0 false a0).bind fun t => match t with
 | (c1_0, c1_1, c1_2, c1_3, c1_4) =>
  match c1_1 with
  | [] =>
   some (c1_0, ([] : List (NL)), c1_2, c1_3, c1_4)
  | c1_1a :: c1_1t =>
   some (c1_0, [c1_1a], c1_2, c1_3, c1_4)
theorem m_foldOverstyleschoiceq3_ok (n : Nat) (a0 : List (Int × NL × Int × Int)) (a1 : Int) (a2 : Int) (a3 : Int) (a4 : Bool) (a5 : Int) (a6 : NL) (r : Int × List (NL) × Int × Int × Bool) (h : m_foldOverstyleschoiceq3 n a0 a1 a2 a3 a4 a5 a6 = some r) : Gv P (.func 19) (A_foldOverstyleschoiceq3 a0 a1 a2 a3 a4 a5 a6) (H_foldOverstyleschoiceq3 a0 a1 a2 a3 a4 a5 a6) (V_foldOverstyleschoiceq3 a0 a1 a2 a3 a4 a5 a6 r) (R_foldOverstyleschoiceq3 a0 a1 a2 a3 a4 a5 a6 r) := by
 unfold m_foldOverstyleschoiceq3 at h
 obtain ⟨⟨c1_0, c1_1, c1_2, c1_3, c1_4⟩, hc1, h⟩ := oB h
 dsimp only at h
 cases c1_1 with
 | nil =>
  dsimp only at h
  obtain rfl := oI h
  exact runF2 hm ⟨[6], [(0, 0, false), (1, 1, true), (2, 2, false), (3, 3, false), (4, 7, false), (5, 6, false)], 6, 0, [], false, [], [], []⟩ (yy 8 (.rng (C_slicesValuesapiStyle1q3 a1 a2 a3 a4 a5 a6 0 0 0 false a0 (c1_0, ([] : List (NL)), c1_2, c1_3, c1_4) [(0, 8, false), (1, 7, false), (2, 4, false), (3, 5, false), (4, 2, false), (5, 3, false), (6, 6, false), (7, 0, false), (8, 1, true)] [(8, 0, false), (7, 1, false), (4, 2, false), (5, 3, false), (2, 4, false), (3, 5, false), (6, 6, false), (0, 7, false), (1, 8, true)]) [4, 5, 6, 8]) <|
   ww (m_slicesValuesapiStyle1q3_ok n a1 a2 a3 a4 a5 a6 0 0 0 false a0 (c1_0, ([] : List (NL)), c1_2, c1_3, c1_4) hc1) <|
   ww (rows_flat rwf_iLii a0 36) <|
   ww (rows_flat rwf_iLii a0 36) <|
   ww (rows_flat rwf_iLii a0 36) <|
   ee) (by kernel_rfl)
 | cons c1_1a c1_1t =>
  dsimp only at h
  obtain rfl := oI h
  exact runF2 hm ⟨[6], [(0, 0, false), (1, 1, true), (2, 2, false), (3, 3, false), (4, 7, false), (5, 6, false)], 6, 0, [], false, [], [], []⟩ (yy 8 (.rng (C_slicesValuesapiStyle1q3 a1 a2 a3 a4 a5 a6 0 0 0 false a0 (c1_0, (c1_1a :: c1_1t), c1_2, c1_3, c1_4) [(0, 8, false), (1, 7, false), (2, 4, false), (3, 5, false), (4, 2, false), (5, 3, false), (6, 6, false), (7, 0, false), (8, 1, true)] [(8, 0, false), (7, 1, false), (4, 2, false), (5, 3, false), (2, 4, false), (3, 5, false), (6, 6, false), (0, 7, false), (1, 8, true)]) [4, 5, 6, 8]) <|
   ww (m_slicesValuesapiStyle1q3_ok n a1 a2 a3 a4 a5 a6 0 0 0 false a0 (c1_0, (c1_1a :: c1_1t), c1_2, c1_3, c1_4) hc1) <|
   ww (rows_flat rwf_iLii a0 36) <|
   ww (rows_flat rwf_iLii a0 36) <|
   ww (rows_flat rwf_iLii a0 36) <|
   ee) (by kernel_rfl)

def A_stylesStyleq3 (a0 : List (Int × NL × Int × Int)) (a1 : Int) (a2 : NL) : List Value := [(sN 0 0 (a0).length 1), (i6 a1), (nlV a2)]
def H_stylesStyleq3 (a0 : List (Int × NL × Int × Int)) (a1 : Int) (a2 : NL) : AH := ⟨sB [(0, (some (.cells (layT (rows rw_iLii a0)) 36)))], 1, 1⟩
def V_stylesStyleq3 (a0 : List (Int × NL × Int × Int)) (a1 : Int) (a2 : NL) (r : Int) : Value := match r with
 | o0 => (i6 o0)
def R_stylesStyleq3 (a0 : List (Int × NL × Int × Int)) (a1 : Int) (a2 : NL) (r : Int) : AH := match r with
 | o0 => ⟨sB [(0, (some (.cells (layT (rows rw_iLii a0)) 36)))], 1, 0⟩
abbrev G_stylesStyleq3 (a0 : List (Int × NL × Int × Int)) (a1 : Int) (a2 : NL) (r : Int) : Prop := Gv P (.func 10) (A_stylesStyleq3 a0 a1 a2) (H_stylesStyleq3 a0 a1 a2) (V_stylesStyleq3 a0 a1 a2 r) (R_stylesStyleq3 a0 a1 a2 r)
abbrev C_stylesStyleq3 (a0 : List (Int × NL × Int × Int)) (a1 : Int) (a2 : NL) (r : Int) (ins outs : BL) : CallA := ⟨1, ins, V_stylesStyleq3 a0 a1 a2 r, R_stylesStyleq3 a0 a1 a2 r, outs⟩
def m_stylesStyleq3 (n : Nat) (a0 : List (Int × NL × Int × Int)) (a1 : Int) (a2 : NL) : Option (Int) :=
 (m_slicesValuesapiStyleq3 n a0).bind fun _ =>
 (m_foldOverstyleschoiceq3 n a0 0 0 0 false a1 a2).bind fun t => match t with
 | (c2_0, c2_1, c2_2, c2_3, c2_4) =>
  match c2_1 with
  | [] =>
   some c2_2
  | c2_1a :: c2_1t =>
   some c2_2
theorem m_stylesStyleq3_ok (n : Nat) (a0 : List (Int × NL × Int × Int)) (a1 : Int) (a2 : NL) (r : Int) (h : m_stylesStyleq3 n a0 a1 a2 = some r) : Gv P (.func 10) (A_stylesStyleq3 a0 a1 a2) (H_stylesStyleq3 a0 a1 a2) (V_stylesStyleq3 a0 a1 a2 r) (R_stylesStyleq3 a0 a1 a2 r) := by
 unfold m_stylesStyleq3 at h
 obtain ⟨_, hc1, h⟩ := oB h
 obtain ⟨⟨c2_0, c2_1, c2_2, c2_3, c2_4⟩, hc2, h⟩ := oB h
 dsimp only at h
 have k0 := fun {A L l} (k : PL A L l) => yy 6 (.call (C_slicesValuesapiStyleq3 a0 () [(0, 0, true)] [(0, 0, true), (3, 1, false)])) <|
  ww (m_slicesValuesapiStyleq3_ok n a0 () hc1) <|
  ww (rows_flat rwf_iLii a0 36) <|
  ww (rows_flat rwf_iLii a0 36) <|
  k
 cases c2_1 with
 | nil =>
  dsimp only at h
  obtain rfl := oI h
  exact runF2 hm ⟨[6], [(0, 0, true)], 1, 0, [], false, [], [], []⟩ (k0 <|
   yy 9 (.call (C_foldOverstyleschoiceq3 a0 0 0 0 false a1 a2 (c2_0, ([] : List (NL)), c2_2, c2_3, c2_4) [(0, 3, false), (1, 0, true), (2, 1, false), (3, 2, false)] [(3, 0, false), (0, 1, true), (1, 2, false), (2, 3, false), (5, 5, false)])) <|
   ww (m_foldOverstyleschoiceq3_ok n a0 0 0 0 false a1 a2 (c2_0, ([] : List (NL)), c2_2, c2_3, c2_4) hc2) <|
   ww (rows_flat rwf_iLii a0 36) <|
   ww (rows_flat rwf_iLii a0 36) <|
   ww (rows_flat rwf_iLii a0 36) <|
   ee) (by kernel_rfl)
 | cons c2_1a c2_1t =>
  dsimp only at h
  obtain rfl := oI h
  exact runF2 hm ⟨[6], [(0, 0, true)], 1, 0, [], false, [], [], []⟩ (k0 <|
   yy 9 (.call (C_foldOverstyleschoiceq3 a0 0 0 0 false a1 a2 (c2_0, (c2_1a :: c2_1t), c2_2, c2_3, c2_4) [(0, 3, false), (1, 0, true), (2, 1, false), (3, 2, false)] [(3, 0, false), (0, 1, true), (1, 2, false), (2, 3, false), (5, 5, false)])) <|
   ww (m_foldOverstyleschoiceq3_ok n a0 0 0 0 false a1 a2 (c2_0, (c2_1a :: c2_1t), c2_2, c2_3, c2_4) hc2) <|
   ww (rows_flat rwf_iLii a0 36) <|
   ww (rows_flat rwf_iLii a0 36) <|
   ww (rows_flat rwf_iLii a0 36) <|
   ee) (by kernel_rfl)

def A_stylesLeafq3 (a0 : List (Int × NL × Int × Int)) (a1 : WL rw_iiiiiiLu) (a2 : Int) : List Value := [(sN 0 0 (a0).length 1), (wlV a1), (i6 a2)]
def H_stylesLeafq3 (a0 : List (Int × NL × Int × Int)) (a1 : WL rw_iiiiiiLu) (a2 : Int) : AH := ⟨sB [(0, (some (.cells (layT (rows rw_iLii a0)) 36)))], 1, 1⟩
def V_stylesLeafq3 (a0 : List (Int × NL × Int × Int)) (a1 : WL rw_iiiiiiLu) (a2 : Int) (r : Int) : Value := match r with
 | o0 => (i6 o0)
def R_stylesLeafq3 (a0 : List (Int × NL × Int × Int)) (a1 : WL rw_iiiiiiLu) (a2 : Int) (r : Int) : AH := match r with
 | o0 => ⟨sB [(0, (some (.cells (layT (rows rw_iLii a0)) 36)))], 1, 0⟩
abbrev G_stylesLeafq3 (a0 : List (Int × NL × Int × Int)) (a1 : WL rw_iiiiiiLu) (a2 : Int) (r : Int) : Prop := Gv P (.func 8) (A_stylesLeafq3 a0 a1 a2) (H_stylesLeafq3 a0 a1 a2) (V_stylesLeafq3 a0 a1 a2 r) (R_stylesLeafq3 a0 a1 a2 r)
abbrev C_stylesLeafq3 (a0 : List (Int × NL × Int × Int)) (a1 : WL rw_iiiiiiLu) (a2 : Int) (r : Int) (ins outs : BL) : CallA := ⟨1, ins, V_stylesLeafq3 a0 a1 a2 r, R_stylesLeafq3 a0 a1 a2 r, outs⟩
def m_stylesLeafq3 (n : Nat) (a0 : List (Int × NL × Int × Int)) (a1 : WL rw_iiiiiiLu) (a2 : Int) : Option (Int) :=
 (m_treePathq1 n a1 a2).bind fun c1_ =>
 if (((c1_).l.length : Nat) : Int) = (0 : Int) then
  some 0
 else
  if 0 ≤ a2 ∧ a2 < (((a1).l.length : Nat) : Int) then
   ((some (((a1).l).getD (a2).toNat (0, 0, 0, 0, 0, 0, nl0, 0)))).bind fun c4_ =>
   if (c4_.2.1) = (3 : Int) then
    ((some (w64 ((((c1_).l.length : Nat) : Int) - (1 : Int))))).bind fun c6_ =>
    if 0 ≤ c6_ then
     if hc8 : 0 ≤ (c6_).toNat ∧ (c6_).toNat ≤ (c1_).l.length then
      (m_stylesStyleq3 n a0 (c4_.1) (nlSub c1_ 0 (c6_).toNat hc8)).bind fun c9_ =>
      some c9_
     else none
    else none
   else
    if (c4_.2.1) = (5 : Int) then
     ((some (w64 ((((c1_).l.length : Nat) : Int) - (1 : Int))))).bind fun c7_ =>
     if 0 ≤ c7_ then
      if hc9 : 0 ≤ (c7_).toNat ∧ (c7_).toNat ≤ (c1_).l.length then
       (m_stylesStyleq3 n a0 (c4_.1) (nlSub c1_ 0 (c7_).toNat hc9)).bind fun c10_ =>
       some c10_
      else none
     else none
    else
     some 0
  else none
theorem m_stylesLeafq3_ok (n : Nat) (a0 : List (Int × NL × Int × Int)) (a1 : WL rw_iiiiiiLu) (a2 : Int) (r : Int) (h : m_stylesLeafq3 n a0 a1 a2 = some r) : Gv P (.func 8) (A_stylesLeafq3 a0 a1 a2) (H_stylesLeafq3 a0 a1 a2) (V_stylesLeafq3 a0 a1 a2 r) (R_stylesLeafq3 a0 a1 a2 r) := by
 unfold m_stylesLeafq3 at h
 obtain ⟨c1_, hc1, h⟩ := oB h
 have k0 := fun {A L l} (k : PL A L l) => yy 5 (.call (C_treePathq1 a1 a2 c1_ [] [])) <|
  ww (m_treePathq1_ok n a1 a2 c1_ hc1) <|
  k
 by_cases hc2 : (((c1_).l.length : Nat) : Int) = (0 : Int)
 ·rw [if_pos hc2] at h
  obtain rfl := oI h
  exact runF2 hm ⟨[6], [(0, 0, true)], 1, 0, [], false, [], [], []⟩ (k0 <|
   zz 11 (xeT hc2) <|
   ww (rows_flat rwf_iLii a0 36) <|
   ee) (by kernel_rfl)
 ·rw [if_neg hc2] at h
  obtain ⟨hc3, h⟩ := gd h
  obtain ⟨c4_, hc4, h⟩ := oB h
  have k2 := fun {A L l} (k : PL A L l) => zz 11 (xeF hc2) <|
   zz 15 (xk4 (a1).num (a1).off (a1).cap hc3) <|
   zz 16 (fk6 (a1).num (Nat.add (a1).off ((a2).toNat * 8))) <|
   zz 17 (lk7 hc4 (toNatLt hc3)) <|
   k
  by_cases hc5 : (c4_.2.1) = (3 : Int)
  ·rw [if_pos hc5] at h
   obtain ⟨c6_, hc6, h⟩ := oB h
   obtain ⟨hc7, h⟩ := gd h
   obtain ⟨hc8, h⟩ := gdD h
   replace h := oB h
   obtain ⟨c9_, hc9, h⟩ := h
   obtain rfl := oI h
   exact runF2 hm ⟨[6], [(0, 0, true)], 1, 0, [], false, [], [], []⟩ (k0 <|
    k2 <|
    zz 18 (xnF hc5) <|
    zz 33 (xk4 (a1).num (a1).off (a1).cap hc3) <|
    zz 34 (fk17 (a1).num (Nat.add (a1).off ((a2).toNat * 8))) <|
    zz 35 (lk18 hc4 (toNatLt hc3)) <|
    zz 39 (xnm hc6) <|
    yy 40 (.pur (nlV (nlSub c1_ 0 (c6_).toNat hc8))) <|
    ww (p := opSlice P 29 (nlV c1_) none (some (i6 c6_)) none Ax.h0 = some ((nlV (nlSub c1_ 0 (c6_).toNat hc8)), Ax.h0)) (slNL (e := 3) c1_ (by kernel_rfl) (by kernel_rfl) rfl (bnd_int hc7) hc8) <|
    yy 41 (.call (C_stylesStyleq3 a0 (c4_.1) (nlSub c1_ 0 (c6_).toNat hc8) c9_ [(0, 0, true)] [(0, 0, true)])) <|
    ww (m_stylesStyleq3_ok n a0 (c4_.1) (nlSub c1_ 0 (c6_).toNat hc8) c9_ hc9) <|
    ww (rows_flat rwf_iLii a0 36) <|
    ww (rows_flat rwf_iLii a0 36) <|
    ww (rows_flat rwf_iLii a0 36) <|
    ee) (by kernel_rfl)
  ·rw [if_neg hc5] at h
   have k6 := fun {A L l} (k : PL A L l) => zz 18 (xnT hc5) <|
    zz 22 (xk4 (a1).num (a1).off (a1).cap hc3) <|
    zz 23 (fk6 (a1).num (Nat.add (a1).off ((a2).toNat * 8))) <|
    zz 24 (lk7 hc4 (toNatLt hc3)) <|
    k
   by_cases hc6 : (c4_.2.1) = (5 : Int)
   ·rw [if_pos hc6] at h
    obtain ⟨c7_, hc7, h⟩ := oB h
    obtain ⟨hc8, h⟩ := gd h
    obtain ⟨hc9, h⟩ := gdD h
    replace h := oB h
    obtain ⟨c10_, hc10, h⟩ := h
    obtain rfl := oI h
    exact runF2 hm ⟨[6], [(0, 0, true)], 1, 0, [], false, [], [], []⟩ (k0 <|
     k2 <|
     k6 <|
     zz 25 (xnF hc6) <|
     zz 33 (xk4 (a1).num (a1).off (a1).cap hc3) <|
     zz 34 (fk17 (a1).num (Nat.add (a1).off ((a2).toNat * 8))) <|
     zz 35 (lk18 hc4 (toNatLt hc3)) <|
     zz 39 (xnm hc7) <|
     yy 40 (.pur (nlV (nlSub c1_ 0 (c7_).toNat hc9))) <|
     ww (p := opSlice P 29 (nlV c1_) none (some (i6 c7_)) none Ax.h0 = some ((nlV (nlSub c1_ 0 (c7_).toNat hc9)), Ax.h0)) (slNL (e := 3) c1_ (by kernel_rfl) (by kernel_rfl) rfl (bnd_int hc8) hc9) <|
     yy 41 (.call (C_stylesStyleq3 a0 (c4_.1) (nlSub c1_ 0 (c7_).toNat hc9) c10_ [(0, 0, true)] [(0, 0, true)])) <|
     ww (m_stylesStyleq3_ok n a0 (c4_.1) (nlSub c1_ 0 (c7_).toNat hc9) c10_ hc10) <|
     ww (rows_flat rwf_iLii a0 36) <|
     ww (rows_flat rwf_iLii a0 36) <|
     ww (rows_flat rwf_iLii a0 36) <|
     ee) (by kernel_rfl)
   ·rw [if_neg hc6] at h
    obtain rfl := oI h
    exact runF2 hm ⟨[6], [(0, 0, true)], 1, 0, [], false, [], [], []⟩ (k0 <|
     k2 <|
     k6 <|
     zz 25 (xnT hc6) <|
     ww (rows_flat rwf_iLii a0 36) <|
     ee) (by kernel_rfl)

def A_viewportlaw26StylesOwn (g2 : Int) (g3 : Int) : List Value := [(wlV wA), (wlV wB), (i6 g2), (i6 g3)]
def H_viewportlaw26StylesOwn (g2 : Int) (g3 : Int) : AH := ⟨sB [], 0, 0⟩
def V_viewportlaw26StylesOwn (g2 : Int) (g3 : Int) (r : Unit) : Value := match r with
 | _ => (bO true)
def R_viewportlaw26StylesOwn (g2 : Int) (g3 : Int) (r : Unit) : AH := match r with
 | _ => ⟨sB [], 0, 0⟩
abbrev G_viewportlaw26StylesOwn (g2 : Int) (g3 : Int) (r : Unit) : Prop := Gv P (.func 3) (A_viewportlaw26StylesOwn g2 g3) (H_viewportlaw26StylesOwn g2 g3) (V_viewportlaw26StylesOwn g2 g3 r) (R_viewportlaw26StylesOwn g2 g3 r)
abbrev C_viewportlaw26StylesOwn (g2 : Int) (g3 : Int) (r : Unit) (ins outs : BL) : CallA := ⟨0, ins, V_viewportlaw26StylesOwn g2 g3 r, R_viewportlaw26StylesOwn g2 g3 r, outs⟩
def S_viewportlaw26StylesOwnt10 (x10_0 : WL rw_iLii) (x10_1 : WL rw_iiiiiiLu) (x10_2 : Int) (x10_3 : Int) (x10_4 : NL) (x10_5 : Int) (x10_6 : Int) (st : Unit) : XSt := (sT 122 [(0, (wlV x10_0)), (1, (wlV x10_1)), (2, (i6 x10_2)), (10, (pN 0 0)), (11, (i6 x10_6))], [], ⟨sB [(0, (some (.cells (layT [(i6 x10_3), (nlV x10_4), (i6 (77 : Int)), (i6 x10_5)]) 36)))], 1, 0⟩)
def X_viewportlaw26StylesOwnt10 (x10_0 : WL rw_iLii) (x10_1 : WL rw_iiiiiiLu) (x10_2 : Int) (x10_3 : Int) (x10_4 : NL) (x10_5 : Int) (x10_6 : Int) (r : (Unit) ⊕ (Int)) : Ex × XSt := match r with
 | .inl _ => (.ret, (sT 122 [(8, (bO true))], [], ⟨sB [], 0, 0⟩))
 | .inr z10_0 => (.normal, (sT 122 [(0, (wlV x10_0)), (1, (wlV x10_1)), (2, (i6 x10_2)), (10, (pN 0 0)), (11, (i6 (w64 (x10_6 + (1 : Int)))))], [], ⟨sB [(0, (some (.cells (layT [(i6 x10_3), (nlV x10_4), (i6 (77 : Int)), (i6 z10_0)]) 36)))], 1, 0⟩))
abbrev U_viewportlaw26StylesOwnt10 (rd : Option Nat) (x10_0 : WL rw_iLii) (x10_1 : WL rw_iiiiiiLu) (x10_2 : Int) (x10_3 : Int) (x10_4 : NL) (x10_5 : Int) (x10_6 : Int) (st : Unit) (r : (Unit) ⊕ (Int)) : Prop := CG P rd (fnN P 3) 0 (codeOf P 3 [true, false, false, true, false, true, true, true, true, true, true, true, true]) (S_viewportlaw26StylesOwnt10 x10_0 x10_1 x10_2 x10_3 x10_4 x10_5 x10_6 st) (X_viewportlaw26StylesOwnt10 x10_0 x10_1 x10_2 x10_3 x10_4 x10_5 x10_6 r)
def m_viewportlaw26StylesOwnt10 (n : Nat) (x10_0 : WL rw_iLii) (x10_1 : WL rw_iiiiiiLu) (x10_2 : Int) (x10_3 : Int) (x10_4 : NL) (x10_5 : Int) (x10_6 : Int) (st : Unit) : Option ((Unit) ⊕ (Int)) :=
 if 0 ≤ x10_6 ∧ x10_6 < (((x10_0).l.length : Nat) : Int) then
  ((some (((x10_0).l).getD (x10_6).toNat (0, nl0, 0, 0)))).bind fun y10_2_ =>
  if (y10_2_.2.2.2) > (1099511627776 : Int) then
   some (.inl ())
  else
   some (.inr (maxB x10_5 (y10_2_.2.2.2)))
 else none
theorem m_viewportlaw26StylesOwnt10_ok (n : Nat) {rnd : Option Nat} (x10_0 : WL rw_iLii) (x10_1 : WL rw_iiiiiiLu) (x10_2 : Int) (x10_3 : Int) (x10_4 : NL) (x10_5 : Int) (x10_6 : Int) (st : Unit) (r : (Unit) ⊕ (Int)) (h : m_viewportlaw26StylesOwnt10 n x10_0 x10_1 x10_2 x10_3 x10_4 x10_5 x10_6 st = some r) : CG P rnd (fnN P 3) 0 (codeOf P 3 [true, false, false, true, false, true, true, true, true, true, true, true, true]) (S_viewportlaw26StylesOwnt10 x10_0 x10_1 x10_2 x10_3 x10_4 x10_5 x10_6 st) (X_viewportlaw26StylesOwnt10 x10_0 x10_1 x10_2 x10_3 x10_4 x10_5 x10_6 r) := by
 unfold m_viewportlaw26StylesOwnt10 at h
 obtain ⟨hy10_1, h⟩ := gd h
 obtain ⟨y10_2_, hy10_2, h⟩ := oB h
 have k0 := fun {A L l} (k : PL A L l) => zz 7 (xk1 (x10_0).num (x10_0).off (x10_0).cap hy10_1) <|
  zz 8 (fk19 (x10_0).num (Nat.add (x10_0).off ((x10_6).toNat * 4))) <|
  zz 9 (lk20 hy10_2 (toNatLt hy10_1)) <|
  zz 16 (xk1 (x10_0).num (x10_0).off (x10_0).cap hy10_1) <|
  zz 17 (fk19 (x10_0).num (Nat.add (x10_0).off ((x10_6).toNat * 4))) <|
  zz 18 (lk20 hy10_2 (toNatLt hy10_1)) <|
  k
 by_cases hy10_3 : (y10_2_.2.2.2) > (1099511627776 : Int)
 ·rw [if_pos hy10_3] at h
  obtain rfl := oI h
  exact runC2 hm ⟨[8], [], 0, 0, [], false, [], [], []⟩ (k0 <|
   zz 19 (xdT hy10_3) <|
   ee) (by kernel_rfl)
 ·rw [if_neg hy10_3] at h
  obtain rfl := oI h
  exact runC2 hm ⟨[0, 1, 2, 10, 11], [(0, 0, false)], 1, 0, [], false, [], [], []⟩ (k0 <|
   zz 19 (xdF hy10_3) <|
   ee) (by kernel_rfl)
def S_viewportlaw26StylesOwn_9 (x9_0 : WL rw_iLii) (x9_1 : WL rw_iiiiiiLu) (x9_2 : Int) (x9_3 : Int) (x9_4 : NL) (st : Int × Int) : XSt := match st with
 | (x9_5, x9_6) => (sT 122 [(0, (wlV x9_0)), (1, (wlV x9_1)), (2, (i6 x9_2)), (10, (pN 0 0)), (11, (i6 x9_6))], [], ⟨sB [(0, (some (.cells (layT [(i6 x9_3), (nlV x9_4), (i6 (77 : Int)), (i6 x9_5)]) 36)))], 1, 0⟩)
def X_viewportlaw26StylesOwn_9 (x9_0 : WL rw_iLii) (x9_1 : WL rw_iiiiiiLu) (x9_2 : Int) (x9_3 : Int) (x9_4 : NL) (r : (Unit) ⊕ (Int)) : Ex × XSt := match r with
 | .inl _ => (.ret, (sT 122 [(8, (bO true))], [], ⟨sB [], 0, 0⟩))
 | .inr z9_0 => (.exit 0, (sT 122 [(0, (wlV x9_0)), (1, (wlV x9_1)), (2, (i6 x9_2)), (10, (pN 0 0))], [], ⟨sB [(0, (some (.cells (layT [(i6 x9_3), (nlV x9_4), (i6 (77 : Int)), (i6 z9_0)]) 36)))], 1, 0⟩))
abbrev Q_viewportlaw26StylesOwn_9 (rnd : Option Nat) (x9_0 : WL rw_iLii) (x9_1 : WL rw_iiiiiiLu) (x9_2 : Int) (x9_3 : Int) (x9_4 : NL) (st : Int × Int) (c : Ex × XSt) : Prop := CG P rnd (fnN P 3) 0 (codeOf P 3 [false, false, true, false, true, true, true, true, true, true, true, true]) (S_viewportlaw26StylesOwn_9 x9_0 x9_1 x9_2 x9_3 x9_4 st) c
abbrev U_viewportlaw26StylesOwn_9 (rd : Option Nat) (x9_0 : WL rw_iLii) (x9_1 : WL rw_iiiiiiLu) (x9_2 : Int) (x9_3 : Int) (x9_4 : NL) (st : Int × Int) (r : (Unit) ⊕ (Int)) : Prop := CG P rd (fnN P 3) 0 (codeOf P 3 [false, true, false, true, true, true, true, true, true, true, true]) (S_viewportlaw26StylesOwn_9 x9_0 x9_1 x9_2 x9_3 x9_4 st) (X_viewportlaw26StylesOwn_9 x9_0 x9_1 x9_2 x9_3 x9_4 r)
def B_viewportlaw26StylesOwn_9 (n : Nat) (x9_0 : WL rw_iLii) (x9_1 : WL rw_iiiiiiLu) (x9_2 : Int) (x9_3 : Int) (x9_4 : NL) (st : Int × Int) : Option ((Int × Int) ⊕ ((Unit) ⊕ (Int))) := match st with
 | (x9_5, x9_6) =>
  if x9_6 < (((x9_0).l.length : Nat) : Int) then
   match m_viewportlaw26StylesOwnt10 n x9_0 x9_1 x9_2 x9_3 x9_4 x9_5 x9_6 () with
   | none => none
   | some (.inl _) =>
    some (.inr (.inl ()))
   | some (.inr y9_2_) =>
    some (.inl (y9_2_, (w64 (x9_6 + (1 : Int)))))
  else
   some (.inr (.inr x9_5))
def m_viewportlaw26StylesOwn_9 (n : Nat) (x9_0 : WL rw_iLii) (x9_1 : WL rw_iiiiiiLu) (x9_2 : Int) (x9_3 : Int) (x9_4 : NL) (st : Int × Int) : Option ((Unit) ⊕ (Int)) := iterM (B_viewportlaw26StylesOwn_9 n x9_0 x9_1 x9_2 x9_3 x9_4) n st
theorem b_viewportlaw26StylesOwn_9 (n : Nat) {rnd : Option Nat} (x9_0 : WL rw_iLii) (x9_1 : WL rw_iiiiiiLu) (x9_2 : Int) (x9_3 : Int) (x9_4 : NL) (st : Int × Int) (o : (Int × Int) ⊕ ((Unit) ⊕ (Int))) (h : B_viewportlaw26StylesOwn_9 n x9_0 x9_1 x9_2 x9_3 x9_4 st = some o) : CG P rnd (fnN P 3) 0 (codeOf P 3 [false, false, true, false, true, true, true, true, true, true, true, true]) (S_viewportlaw26StylesOwn_9 x9_0 x9_1 x9_2 x9_3 x9_4 st) (Sum.elim (fun s => (.normal, S_viewportlaw26StylesOwn_9 x9_0 x9_1 x9_2 x9_3 x9_4 s)) (fun r => X_viewportlaw26StylesOwn_9 x9_0 x9_1 x9_2 x9_3 x9_4 r) o) := by
 obtain ⟨x9_5, x9_6⟩ := st
 unfold B_viewportlaw26StylesOwn_9 at h
 dsimp only at h
 by_cases hy9_1 : x9_6 < (((x9_0).l.length : Nat) : Int)
 ·rw [if_pos hy9_1] at h
  have k0 := fun {A L l} (k : PL A L l) => zz 5 (xdT hy9_1) <|
   k
  rcases hy9_2 : m_viewportlaw26StylesOwnt10 n x9_0 x9_1 x9_2 x9_3 x9_4 x9_5 x9_6 () with _ | (⟨⟩ | y9_2_)
  ·rw [hy9_2] at h; cases h
  ·rw [hy9_2] at h
   dsimp only at h
   obtain rfl := oI h
   exact runC2 hm ⟨[8], [], 0, 0, [], false, [], [], []⟩ (k0 <|
    ww (p := U_viewportlaw26StylesOwnt10 rnd x9_0 x9_1 x9_2 x9_3 x9_4 x9_5 x9_6 () (.inl ())) (m_viewportlaw26StylesOwnt10_ok n x9_0 x9_1 x9_2 x9_3 x9_4 x9_5 x9_6 () (.inl ()) hy9_2) <|
    ll 7 ⟨⟨[0, 1, 2, 10, 11], [(0, 0, false)], 1, 0, [], false, [], [], []⟩, (X_viewportlaw26StylesOwnt10 x9_0 x9_1 x9_2 x9_3 x9_4 x9_5 x9_6 (.inl ())).1, (X_viewportlaw26StylesOwnt10 x9_0 x9_1 x9_2 x9_3 x9_4 x9_5 x9_6 (.inl ())).2⟩ <|
    ee) (by kernel_rfl)
  ·rw [hy9_2] at h
   dsimp only at h
   obtain rfl := oI h
   exact runC2 hm ⟨[0, 1, 2, 10, 11], [(0, 0, false)], 1, 0, [], false, [], [], []⟩ (k0 <|
    ww (p := U_viewportlaw26StylesOwnt10 rnd x9_0 x9_1 x9_2 x9_3 x9_4 x9_5 x9_6 () (.inr y9_2_)) (m_viewportlaw26StylesOwnt10_ok n x9_0 x9_1 x9_2 x9_3 x9_4 x9_5 x9_6 () (.inr y9_2_) hy9_2) <|
    ll 7 ⟨⟨[0, 1, 2, 10, 11], [(0, 0, false)], 1, 0, [], false, [], [], []⟩, (X_viewportlaw26StylesOwnt10 x9_0 x9_1 x9_2 x9_3 x9_4 x9_5 x9_6 (.inr y9_2_)).1, (X_viewportlaw26StylesOwnt10 x9_0 x9_1 x9_2 x9_3 x9_4 x9_5 x9_6 (.inr y9_2_)).2⟩ <|
    ee) (by kernel_rfl)
 ·rw [if_neg hy9_1] at h
  obtain rfl := oI h
  exact runC2 hm ⟨[0, 1, 2, 10], [(0, 0, false)], 1, 0, [], false, [], [], []⟩ (zz 5 (xdF hy9_1) <|
   ee) (by kernel_rfl)
theorem m_viewportlaw26StylesOwn_9_ok (n : Nat) {rnd : Option Nat} (x9_0 : WL rw_iLii) (x9_1 : WL rw_iiiiiiLu) (x9_2 : Int) (x9_3 : Int) (x9_4 : NL) (st : Int × Int) (r : (Unit) ⊕ (Int)) (h : m_viewportlaw26StylesOwn_9 n x9_0 x9_1 x9_2 x9_3 x9_4 st = some r) : CG P rnd (fnN P 3) 0 (codeOf P 3 [false, true, false, true, true, true, true, true, true, true, true]) (S_viewportlaw26StylesOwn_9 x9_0 x9_1 x9_2 x9_3 x9_4 st) (X_viewportlaw26StylesOwn_9 x9_0 x9_1 x9_2 x9_3 x9_4 r) :=
 CG.iter (b := codeOf P 3 [false, false, true, false, true, true, true, true, true, true, true, true]) (by kernel_rfl) (body := B_viewportlaw26StylesOwn_9 n x9_0 x9_1 x9_2 x9_3 x9_4) (S := S_viewportlaw26StylesOwn_9 x9_0 x9_1 x9_2 x9_3 x9_4) (X := X_viewportlaw26StylesOwn_9 x9_0 x9_1 x9_2 x9_3 x9_4)
  (fun s s' h => b_viewportlaw26StylesOwn_9 n x9_0 x9_1 x9_2 x9_3 x9_4 s (.inl s') h)
  (fun s r h => b_viewportlaw26StylesOwn_9 n x9_0 x9_1 x9_2 x9_3 x9_4 s (.inr r) h)
  (fun r => by intro hx; rcases r with _ | _ <;> cases hx) h
def S_viewportlaw26StylesOwnt11 (x11_0 : WL rw_iLii) (x11_1 : WL rw_iiiiiiLu) (x11_2 : Int) (x11_3 : Int) (x11_4 : NL) (x11_5 : Int) (st : Unit) : XSt := (sT 122 [(0, (wlV x11_0)), (1, (wlV x11_1)), (2, (i6 x11_2)), (10, (pN 0 0))], [], ⟨sB [(0, (some (.cells (layT [(i6 x11_3), (nlV x11_4), (i6 (77 : Int)), (i6 x11_5)]) 36)))], 1, 0⟩)
def X_viewportlaw26StylesOwnt11 (x11_0 : WL rw_iLii) (x11_1 : WL rw_iiiiiiLu) (x11_2 : Int) (x11_3 : Int) (x11_4 : NL) (x11_5 : Int) (r : Unit) : Ex × XSt := match r with
 | _ => (.ret, (sT 122 [(8, (bO true))], [], ⟨sB [], 0, 0⟩))
abbrev U_viewportlaw26StylesOwnt11 (rd : Option Nat) (x11_0 : WL rw_iLii) (x11_1 : WL rw_iiiiiiLu) (x11_2 : Int) (x11_3 : Int) (x11_4 : NL) (x11_5 : Int) (st : Unit) (r : Unit) : Prop := CG P rd (fnN P 3) 0 (codeOf P 3 [true, true, true, true, true, true, true, true, true]) (S_viewportlaw26StylesOwnt11 x11_0 x11_1 x11_2 x11_3 x11_4 x11_5 st) (X_viewportlaw26StylesOwnt11 x11_0 x11_1 x11_2 x11_3 x11_4 x11_5 r)
def m_viewportlaw26StylesOwnt11 (n : Nat) (x11_0 : WL rw_iLii) (x11_1 : WL rw_iiiiiiLu) (x11_2 : Int) (x11_3 : Int) (x11_4 : NL) (x11_5 : Int) (st : Unit) : Option (Unit) :=
 if 0 < (x11_0).l.length then
  if (0 + (x11_0).l.length) * 48 ≤ 140737488355328 then
   if 0 < 0 + (x11_0).l.length then
    if (((([] : List (Int × NL × Int × Int)) ++ (x11_0).l)).length + 1) * 48 ≤ 140737488355328 then
     (m_stylesLeafq1 n ((([] : List (Int × NL × Int × Int)) ++ (x11_0).l) ++ [(x11_3, x11_4, (77 : Int), (w64 (x11_5 + (1 : Int))))]) x11_1 x11_2).bind fun y11_5_ =>
     if y11_5_ = (77 : Int) then
      if (1 + (x11_0).l.length) * 48 ≤ 140737488355328 then
       if 1 < 1 + (x11_0).l.length then
        (m_stylesLeafq1 n ([((w64 (x11_3 + (1 : Int))), x11_4, (77 : Int), (w64 (x11_5 + (1 : Int))))] ++ (x11_0).l) x11_1 x11_2).bind fun y11_9_ =>
        (m_stylesLeafq2 n x11_0 x11_1 x11_2).bind fun y11_10_ =>
        if y11_9_ = y11_10_ then
         some ()
        else
         none
       else none
      else none
     else
      none
    else none
   else none
  else none
 else
  (m_stylesLeafq1 n [(x11_3, x11_4, (77 : Int), (w64 (x11_5 + (1 : Int))))] x11_1 x11_2).bind fun y11_2_ =>
  if y11_2_ = (77 : Int) then
   (m_stylesLeafq3 n [((w64 (x11_3 + (1 : Int))), x11_4, (77 : Int), (w64 (x11_5 + (1 : Int))))] x11_1 x11_2).bind fun y11_4_ =>
   (m_stylesLeafq2 n x11_0 x11_1 x11_2).bind fun y11_5_ =>
   if y11_4_ = y11_5_ then
    some ()
   else
    none
  else
   none
theorem m_viewportlaw26StylesOwnt11_ok (n : Nat) {rnd : Option Nat} (x11_0 : WL rw_iLii) (x11_1 : WL rw_iiiiiiLu) (x11_2 : Int) (x11_3 : Int) (x11_4 : NL) (x11_5 : Int) (st : Unit) (r : Unit) (h : m_viewportlaw26StylesOwnt11 n x11_0 x11_1 x11_2 x11_3 x11_4 x11_5 st = some r) : CG P rnd (fnN P 3) 0 (codeOf P 3 [true, true, true, true, true, true, true, true, true]) (S_viewportlaw26StylesOwnt11 x11_0 x11_1 x11_2 x11_3 x11_4 x11_5 st) (X_viewportlaw26StylesOwnt11 x11_0 x11_1 x11_2 x11_3 x11_4 x11_5 r) := by
 unfold m_viewportlaw26StylesOwnt11 at h
 by_cases hy11_1 : 0 < (x11_0).l.length
 ·rw [if_pos hy11_1] at h
  obtain ⟨hy11_2, h⟩ := gd h
  obtain ⟨hy11_3, h⟩ := gd h
  obtain ⟨hy11_4, h⟩ := gd h
  obtain ⟨y11_5_, hy11_5, h⟩ := oB h
  have k0 := fun {A L l} (k : PL A L l) => ww (p := (x11_0).l.length = (x11_0).l.length) (rfl) <|
   ww (p := ((x11_0).l.length = 0 ∧ (rows rw_iLii (x11_0).l) = []) ∨ ∃ y, Tabs.win (x11_0).num = some y ∧ rdL y.2.2 (Nat.mul (x11_0).l.length 4) (x11_0).off = some (rows rw_iLii (x11_0).l)) (srcR rwf_iLii x11_0) <|
   yy 19 (.app ⟨some ((x11_0).l.length, (rows rw_iLii (x11_0).l)), ([] : List Value), (rows rw_iLii (([] : List (Int × NL × Int × Int)) ++ (x11_0).l)), ((([] : List (Int × NL × Int × Int)) ++ (x11_0).l)).length, true⟩) <|
   ww (p := 0 < (x11_0).l.length) (hy11_1) <|
   ww (p := 0 < big) ((by decide)) <|
   ww (p := 0 < Nat.add 0 (x11_0).l.length) (hy11_3) <|
   ww (p := rdT (layT ([] : List Value)) (Nat.mul 0 4) 0 = some (([] : List Value))) (rfl) <|
   ww (p := fits (Nat.add 0 (x11_0).l.length) 48 = true) (fits_ok hy11_2 (by have := hy11_2; show (_ : Nat) + _ ≤ _; omega)) <|
   ww (p := ([] : List Value) ++ (rows rw_iLii (x11_0).l) = (rows rw_iLii (([] : List (Int × NL × Int × Int)) ++ (x11_0).l))) (rows_app rw_iLii ([] : List (Int × NL × Int × Int)) (x11_0).l) <|
   ww (p := Nat.add 0 (x11_0).l.length = ((([] : List (Int × NL × Int × Int)) ++ (x11_0).l)).length) (by simp <;> (try simp only [List.length_cons] at *) <;> omega) <|
   yy 22 (.app ⟨none, rows rw_iLii (([] : List (Int × NL × Int × Int)) ++ (x11_0).l), (rows rw_iLii ((([] : List (Int × NL × Int × Int)) ++ (x11_0).l) ++ [(x11_3, x11_4, (77 : Int), (w64 (x11_5 + (1 : Int))))])), (((([] : List (Int × NL × Int × Int)) ++ (x11_0).l) ++ [(x11_3, x11_4, (77 : Int), (w64 (x11_5 + (1 : Int))))])).length, false⟩) <|
   ww (p := 0 < 1) ((by decide)) <|
   ww (p := rdT (layT (rows rw_iLii (([] : List (Int × NL × Int × Int)) ++ (x11_0).l))) (Nat.mul ((([] : List (Int × NL × Int × Int)) ++ (x11_0).l)).length 4) 0 = some (rows rw_iLii (([] : List (Int × NL × Int × Int)) ++ (x11_0).l))) (rows_rd rwf_iLii _ _ rfl) <|
   ww (p := fits (Nat.add ((([] : List (Int × NL × Int × Int)) ++ (x11_0).l)).length 1) 48 = true) (fits_ok hy11_4 (by have := hy11_4; show (_ : Nat) + _ ≤ _; omega)) <|
   ww (p := allCells [(i6 x11_3), (nlV x11_4), (i6 (77 : Int)), (i6 (w64 (x11_5 + (1 : Int))))] = true) (rfl) <|
   ww (p := allCells (rows rw_iLii (([] : List (Int × NL × Int × Int)) ++ (x11_0).l)) = true) (rows_cells rwf_iLii _) <|
   ww (p := rows rw_iLii (([] : List (Int × NL × Int × Int)) ++ (x11_0).l) ++ [(i6 x11_3), (nlV x11_4), (i6 (77 : Int)), (i6 (w64 (x11_5 + (1 : Int))))] = (rows rw_iLii ((([] : List (Int × NL × Int × Int)) ++ (x11_0).l) ++ [(x11_3, x11_4, (77 : Int), (w64 (x11_5 + (1 : Int))))]))) (rows_app rw_iLii (([] : List (Int × NL × Int × Int)) ++ (x11_0).l) [(x11_3, x11_4, (77 : Int), (w64 (x11_5 + (1 : Int))))]) <|
   ww (p := Nat.add ((([] : List (Int × NL × Int × Int)) ++ (x11_0).l)).length 1 = (((([] : List (Int × NL × Int × Int)) ++ (x11_0).l) ++ [(x11_3, x11_4, (77 : Int), (w64 (x11_5 + (1 : Int))))])).length) (by simp) <|
   yy 25 (.call (C_stylesLeafq1 ((([] : List (Int × NL × Int × Int)) ++ (x11_0).l) ++ [(x11_3, x11_4, (77 : Int), (w64 (x11_5 + (1 : Int))))]) x11_1 x11_2 y11_5_ [(0, 16, true)] [(16, 0, true)])) <|
   ww (m_stylesLeafq1_ok n ((([] : List (Int × NL × Int × Int)) ++ (x11_0).l) ++ [(x11_3, x11_4, (77 : Int), (w64 (x11_5 + (1 : Int))))]) x11_1 x11_2 y11_5_ hy11_5) <|
   ww (rows_flat rwf_iLii ((([] : List (Int × NL × Int × Int)) ++ (x11_0).l) ++ [(x11_3, x11_4, (77 : Int), (w64 (x11_5 + (1 : Int))))]) 36) <|
   ww (rows_flat rwf_iLii ((([] : List (Int × NL × Int × Int)) ++ (x11_0).l) ++ [(x11_3, x11_4, (77 : Int), (w64 (x11_5 + (1 : Int))))]) 36) <|
   k
  by_cases hy11_6 : y11_5_ = (77 : Int)
  ·rw [if_pos hy11_6] at h
   obtain ⟨hy11_7, h⟩ := gd h
   obtain ⟨hy11_8, h⟩ := gd h
   obtain ⟨y11_9_, hy11_9, h⟩ := oB h
   obtain ⟨y11_10_, hy11_10, h⟩ := oB h
   have k22 := fun {A L l} (k : PL A L l) => zz 26 (xeT hy11_6) <|
    ww (p := (x11_0).l.length = (x11_0).l.length) (rfl) <|
    ww (p := ((x11_0).l.length = 0 ∧ (rows rw_iLii (x11_0).l) = []) ∨ ∃ y, Tabs.win (x11_0).num = some y ∧ rdL y.2.2 (Nat.mul (x11_0).l.length 4) (x11_0).off = some (rows rw_iLii (x11_0).l)) (srcR rwf_iLii x11_0) <|
    yy 31 (.app ⟨some ((x11_0).l.length, (rows rw_iLii (x11_0).l)), [(i6 (w64 (x11_3 + (1 : Int)))), (nlV x11_4), (i6 (77 : Int)), (i6 (w64 (x11_5 + (1 : Int))))], (rows rw_iLii ([((w64 (x11_3 + (1 : Int))), x11_4, (77 : Int), (w64 (x11_5 + (1 : Int))))] ++ (x11_0).l)), (([((w64 (x11_3 + (1 : Int))), x11_4, (77 : Int), (w64 (x11_5 + (1 : Int))))] ++ (x11_0).l)).length, true⟩) <|
    ww (p := 0 < (x11_0).l.length) (hy11_1) <|
    ww (p := 1 < big) ((by decide)) <|
    ww (p := 1 < Nat.add 1 (x11_0).l.length) (hy11_8) <|
    ww (p := rdT (layT [(i6 (w64 (x11_3 + (1 : Int)))), (nlV x11_4), (i6 (77 : Int)), (i6 (w64 (x11_5 + (1 : Int))))]) (Nat.mul 1 4) 0 = some ([(i6 (w64 (x11_3 + (1 : Int)))), (nlV x11_4), (i6 (77 : Int)), (i6 (w64 (x11_5 + (1 : Int))))])) (rfl) <|
    ww (p := fits (Nat.add 1 (x11_0).l.length) 48 = true) (fits_ok hy11_7 (by have := hy11_7; show (_ : Nat) + _ ≤ _; omega)) <|
    ww (p := [(i6 (w64 (x11_3 + (1 : Int)))), (nlV x11_4), (i6 (77 : Int)), (i6 (w64 (x11_5 + (1 : Int))))] ++ (rows rw_iLii (x11_0).l) = (rows rw_iLii ([((w64 (x11_3 + (1 : Int))), x11_4, (77 : Int), (w64 (x11_5 + (1 : Int))))] ++ (x11_0).l))) (rows_app rw_iLii [((w64 (x11_3 + (1 : Int))), x11_4, (77 : Int), (w64 (x11_5 + (1 : Int))))] (x11_0).l) <|
    ww (p := Nat.add 1 (x11_0).l.length = (([((w64 (x11_3 + (1 : Int))), x11_4, (77 : Int), (w64 (x11_5 + (1 : Int))))] ++ (x11_0).l)).length) (by simp <;> (try simp only [List.length_cons] at *) <;> omega) <|
    yy 34 (.call (C_stylesLeafq1 ([((w64 (x11_3 + (1 : Int))), x11_4, (77 : Int), (w64 (x11_5 + (1 : Int))))] ++ (x11_0).l) x11_1 x11_2 y11_9_ [(0, 17, true)] [(17, 0, true)])) <|
    ww (m_stylesLeafq1_ok n ([((w64 (x11_3 + (1 : Int))), x11_4, (77 : Int), (w64 (x11_5 + (1 : Int))))] ++ (x11_0).l) x11_1 x11_2 y11_9_ hy11_9) <|
    ww (rows_flat rwf_iLii ([((w64 (x11_3 + (1 : Int))), x11_4, (77 : Int), (w64 (x11_5 + (1 : Int))))] ++ (x11_0).l) 36) <|
    ww (rows_flat rwf_iLii ([((w64 (x11_3 + (1 : Int))), x11_4, (77 : Int), (w64 (x11_5 + (1 : Int))))] ++ (x11_0).l) 36) <|
    yy 38 (.call (C_stylesLeafq2 x11_0 x11_1 x11_2 y11_10_ [] [])) <|
    ww (m_stylesLeafq2_ok n x11_0 x11_1 x11_2 y11_10_ hy11_10) <|
    k
   by_cases hy11_11 : y11_9_ = y11_10_
   ·rw [if_pos hy11_11] at h
    obtain rfl := oI h
    exact runC2 hm ⟨[8], [], 0, 0, [], false, [], [], []⟩ (k0 <|
     k22 <|
     zz 39 (xeT hy11_11) <|
     ee) (by kernel_rfl)
   ·rw [if_neg hy11_11] at h
    cases h
  ·rw [if_neg hy11_6] at h
   cases h
 ·rw [if_neg hy11_1] at h
  obtain ⟨y11_2_, hy11_2, h⟩ := oB h
  have k0 := fun {A L l} (k : PL A L l) => yy 19 (.app0) <|
   ww (p := 0 = (x11_0).l.length) ((by have := hy11_1; omega)) <|
   ww (p := ((x11_0).l.length = 0 ∧ ([] : List Value) = []) ∨ ∃ y, Tabs.win (x11_0).num = some y ∧ rdL y.2.2 (Nat.mul (x11_0).l.length 4) (x11_0).off = some ([] : List Value)) (.inl ⟨(by have := hy11_1; omega), rfl⟩) <|
   ww (p := ∀ H : AH, appTop H 4 36 48 (0, []) (sN 2 0 0 0) = some ((sN 2 0 0 0), H)) (fun _ => rfl) <|
   yy 25 (.call (C_stylesLeafq1 [(x11_3, x11_4, (77 : Int), (w64 (x11_5 + (1 : Int))))] x11_1 x11_2 y11_2_ [(0, 15, false)] [(15, 0, true)])) <|
   ww (m_stylesLeafq1_ok n [(x11_3, x11_4, (77 : Int), (w64 (x11_5 + (1 : Int))))] x11_1 x11_2 y11_2_ hy11_2) <|
   ww (rows_flat rwf_iLii [(x11_3, x11_4, (77 : Int), (w64 (x11_5 + (1 : Int))))] 36) <|
   k
  by_cases hy11_3 : y11_2_ = (77 : Int)
  ·rw [if_pos hy11_3] at h
   obtain ⟨y11_4_, hy11_4, h⟩ := oB h
   obtain ⟨y11_5_, hy11_5, h⟩ := oB h
   have k7 := fun {A L l} (k : PL A L l) => zz 26 (xeT hy11_3) <|
    yy 31 (.app0) <|
    ww (p := 0 = (x11_0).l.length) ((by have := hy11_1; omega)) <|
    ww (p := ((x11_0).l.length = 0 ∧ ([] : List Value) = []) ∨ ∃ y, Tabs.win (x11_0).num = some y ∧ rdL y.2.2 (Nat.mul (x11_0).l.length 4) (x11_0).off = some ([] : List Value)) (.inl ⟨(by have := hy11_1; omega), rfl⟩) <|
    ww (p := ∀ H : AH, appTop H 4 36 48 (0, []) (sN 14 0 1 1) = some ((sN 14 0 1 1), H)) (fun _ => rfl) <|
    yy 34 (.call (C_stylesLeafq3 [((w64 (x11_3 + (1 : Int))), x11_4, (77 : Int), (w64 (x11_5 + (1 : Int))))] x11_1 x11_2 y11_4_ [(0, 14, false)] [(14, 0, true)])) <|
    ww (m_stylesLeafq3_ok n [((w64 (x11_3 + (1 : Int))), x11_4, (77 : Int), (w64 (x11_5 + (1 : Int))))] x11_1 x11_2 y11_4_ hy11_4) <|
    ww (rows_flat rwf_iLii [((w64 (x11_3 + (1 : Int))), x11_4, (77 : Int), (w64 (x11_5 + (1 : Int))))] 36) <|
    yy 38 (.call (C_stylesLeafq2 x11_0 x11_1 x11_2 y11_5_ [] [])) <|
    ww (m_stylesLeafq2_ok n x11_0 x11_1 x11_2 y11_5_ hy11_5) <|
    k
   by_cases hy11_6 : y11_4_ = y11_5_
   ·rw [if_pos hy11_6] at h
    obtain rfl := oI h
    exact runC2 hm ⟨[8], [], 0, 0, [], false, [], [], []⟩ (k0 <|
     k7 <|
     zz 39 (xeT hy11_6) <|
     ee) (by kernel_rfl)
   ·rw [if_neg hy11_6] at h
    cases h
  ·rw [if_neg hy11_3] at h
   cases h
def S_viewportlaw26StylesOwnt8 (x8_0 : WL rw_iLii) (x8_1 : WL rw_iiiiiiLu) (x8_2 : Int) (x8_3 : Int) (x8_4 : NL) (st : Unit) : XSt := (sT 122 [(0, (wlV x8_0)), (1, (wlV x8_1)), (2, (i6 x8_2)), (10, (pN 0 0))], [], ⟨sB [(0, (some (.cells (layT [(i6 x8_3), (nlV x8_4), (i6 (77 : Int)), (i6 (-1099511627776 : Int))]) 36)))], 1, 0⟩)
def X_viewportlaw26StylesOwnt8 (x8_0 : WL rw_iLii) (x8_1 : WL rw_iiiiiiLu) (x8_2 : Int) (x8_3 : Int) (x8_4 : NL) (r : Unit) : Ex × XSt := match r with
 | _ => (.ret, (sT 122 [(8, (bO true))], [], ⟨sB [], 0, 0⟩))
abbrev U_viewportlaw26StylesOwnt8 (rd : Option Nat) (x8_0 : WL rw_iLii) (x8_1 : WL rw_iiiiiiLu) (x8_2 : Int) (x8_3 : Int) (x8_4 : NL) (st : Unit) (r : Unit) : Prop := CG P rd (fnN P 3) 0 (codeOf P 3 [true, true, true, true, true, true, true, true]) (S_viewportlaw26StylesOwnt8 x8_0 x8_1 x8_2 x8_3 x8_4 st) (X_viewportlaw26StylesOwnt8 x8_0 x8_1 x8_2 x8_3 x8_4 r)
def m_viewportlaw26StylesOwnt8 (n : Nat) (x8_0 : WL rw_iLii) (x8_1 : WL rw_iiiiiiLu) (x8_2 : Int) (x8_3 : Int) (x8_4 : NL) (st : Unit) : Option (Unit) :=
 match m_viewportlaw26StylesOwn_9 n x8_0 x8_1 x8_2 x8_3 x8_4 ((-1099511627776), 0) with
 | none => none
 | some (.inl _) =>
  some ()
 | some (.inr y8_1_) =>
  (m_viewportlaw26StylesOwnt11 n x8_0 x8_1 x8_2 x8_3 x8_4 y8_1_ ()).bind fun _ =>
  some ()
theorem m_viewportlaw26StylesOwnt8_ok (n : Nat) {rnd : Option Nat} (x8_0 : WL rw_iLii) (x8_1 : WL rw_iiiiiiLu) (x8_2 : Int) (x8_3 : Int) (x8_4 : NL) (st : Unit) (r : Unit) (h : m_viewportlaw26StylesOwnt8 n x8_0 x8_1 x8_2 x8_3 x8_4 st = some r) : CG P rnd (fnN P 3) 0 (codeOf P 3 [true, true, true, true, true, true, true, true]) (S_viewportlaw26StylesOwnt8 x8_0 x8_1 x8_2 x8_3 x8_4 st) (X_viewportlaw26StylesOwnt8 x8_0 x8_1 x8_2 x8_3 x8_4 r) := by
 unfold m_viewportlaw26StylesOwnt8 at h
 rcases hy8_1 : m_viewportlaw26StylesOwn_9 n x8_0 x8_1 x8_2 x8_3 x8_4 ((-1099511627776), 0) with _ | (⟨⟩ | y8_1_)
 ·rw [hy8_1] at h; cases h
 ·rw [hy8_1] at h
  dsimp only at h
  obtain rfl := oI h
  exact runC2 hm ⟨[8], [], 0, 0, [], false, [], [], []⟩ (ww (p := U_viewportlaw26StylesOwn_9 rnd x8_0 x8_1 x8_2 x8_3 x8_4 ((-1099511627776), 0) (.inl ())) (m_viewportlaw26StylesOwn_9_ok n x8_0 x8_1 x8_2 x8_3 x8_4 ((-1099511627776), 0) (.inl ()) hy8_1) <|
   ll 4 ⟨⟨[0, 1, 2, 10, 11], [(0, 0, false)], 1, 0, [], false, [], [], []⟩, (X_viewportlaw26StylesOwn_9 x8_0 x8_1 x8_2 x8_3 x8_4 (.inl ())).1, (X_viewportlaw26StylesOwn_9 x8_0 x8_1 x8_2 x8_3 x8_4 (.inl ())).2⟩ <|
   ee) (by kernel_rfl)
 ·rw [hy8_1] at h
  dsimp only at h
  obtain ⟨_, hy8_2, h⟩ := oB h
  obtain rfl := oI h
  exact runC2 hm ⟨[8], [], 0, 0, [], false, [], [], []⟩ (ww (p := U_viewportlaw26StylesOwn_9 rnd x8_0 x8_1 x8_2 x8_3 x8_4 ((-1099511627776), 0) (.inr y8_1_)) (m_viewportlaw26StylesOwn_9_ok n x8_0 x8_1 x8_2 x8_3 x8_4 ((-1099511627776), 0) (.inr y8_1_) hy8_1) <|
   ll 4 ⟨⟨[0, 1, 2, 10, 11], [(0, 0, false)], 1, 0, [], false, [], [], []⟩, (X_viewportlaw26StylesOwn_9 x8_0 x8_1 x8_2 x8_3 x8_4 (.inr y8_1_)).1, (X_viewportlaw26StylesOwn_9 x8_0 x8_1 x8_2 x8_3 x8_4 (.inr y8_1_)).2⟩ <|
   ww (p := U_viewportlaw26StylesOwnt11 rnd x8_0 x8_1 x8_2 x8_3 x8_4 y8_1_ () ()) (m_viewportlaw26StylesOwnt11_ok n x8_0 x8_1 x8_2 x8_3 x8_4 y8_1_ () () hy8_2) <|
   ll 5 ⟨⟨[0, 1, 2, 10], [(0, 0, false)], 1, 0, [], false, [], [], []⟩, (X_viewportlaw26StylesOwnt11 x8_0 x8_1 x8_2 x8_3 x8_4 y8_1_ ()).1, (X_viewportlaw26StylesOwnt11 x8_0 x8_1 x8_2 x8_3 x8_4 y8_1_ ()).2⟩ <|
   ee) (by kernel_rfl)
def S_viewportlaw26StylesOwnt7 (x7_0 : WL rw_iLii) (x7_1 : WL rw_iiiiiiLu) (x7_2 : Int) (x7_3 : Int) (x7_4 : NL) (st : Unit) : XSt := (sT 122 [(0, (wlV x7_0)), (1, (wlV x7_1)), (2, (i6 x7_2)), (3, (i6 x7_3)), (9, (nlV x7_4))], [], ⟨sB [], 0, 0⟩)
def X_viewportlaw26StylesOwnt7 (x7_0 : WL rw_iLii) (x7_1 : WL rw_iiiiiiLu) (x7_2 : Int) (x7_3 : Int) (x7_4 : NL) (r : Unit) : Ex × XSt := match r with
 | _ => (.ret, (sT 122 [(8, (bO true))], [], ⟨sB [], 0, 0⟩))
abbrev U_viewportlaw26StylesOwnt7 (rd : Option Nat) (x7_0 : WL rw_iLii) (x7_1 : WL rw_iiiiiiLu) (x7_2 : Int) (x7_3 : Int) (x7_4 : NL) (st : Unit) (r : Unit) : Prop := CG P rd (fnN P 3) 0 (codeOf P 3 [true, true, true, true, true, true]) (S_viewportlaw26StylesOwnt7 x7_0 x7_1 x7_2 x7_3 x7_4 st) (X_viewportlaw26StylesOwnt7 x7_0 x7_1 x7_2 x7_3 x7_4 r)
def m_viewportlaw26StylesOwnt7 (n : Nat) (x7_0 : WL rw_iLii) (x7_1 : WL rw_iiiiiiLu) (x7_2 : Int) (x7_3 : Int) (x7_4 : NL) (st : Unit) : Option (Unit) :=
 ((some (w64 ((((x7_4).l.length : Nat) : Int) - (1 : Int))))).bind fun y7_1_ =>
 if 0 ≤ y7_1_ then
  if hy7_3 : 0 ≤ (y7_1_).toNat ∧ (y7_1_).toNat ≤ (x7_4).l.length then
   if 0 ≤ x7_2 ∧ x7_2 < (((x7_1).l.length : Nat) : Int) then
    ((some (((x7_1).l).getD (x7_2).toNat (0, 0, 0, 0, 0, 0, nl0, 0)))).bind fun y7_5_ =>
    ((some (w64 (((((nlSub x7_4 0 (y7_1_).toNat hy7_3)).l.length : Nat) : Int) + (1 : Int))))).bind fun y7_6_ =>
    (m_viewportkitPickq1 n x7_3 y7_6_).bind fun y7_7_ =>
    if 0 ≤ y7_7_ then
     if hy7_9 : (y7_7_).toNat ≤ ((nlSub x7_4 0 (y7_1_).toNat hy7_3)).l.length ∧ ((nlSub x7_4 0 (y7_1_).toNat hy7_3)).l.length ≤ ((nlSub x7_4 0 (y7_1_).toNat hy7_3)).l.length then
      (m_viewportlaw26StylesOwnt8 n x7_0 x7_1 x7_2 (y7_5_.1) (nlSub (nlSub x7_4 0 (y7_1_).toNat hy7_3) (y7_7_).toNat ((nlSub x7_4 0 (y7_1_).toNat hy7_3)).l.length hy7_9) ()).bind fun _ =>
      some ()
     else none
    else none
   else none
  else none
 else none
theorem m_viewportlaw26StylesOwnt7_ok (n : Nat) {rnd : Option Nat} (x7_0 : WL rw_iLii) (x7_1 : WL rw_iiiiiiLu) (x7_2 : Int) (x7_3 : Int) (x7_4 : NL) (st : Unit) (r : Unit) (h : m_viewportlaw26StylesOwnt7 n x7_0 x7_1 x7_2 x7_3 x7_4 st = some r) : CG P rnd (fnN P 3) 0 (codeOf P 3 [true, true, true, true, true, true]) (S_viewportlaw26StylesOwnt7 x7_0 x7_1 x7_2 x7_3 x7_4 st) (X_viewportlaw26StylesOwnt7 x7_0 x7_1 x7_2 x7_3 x7_4 r) := by
 unfold m_viewportlaw26StylesOwnt7 at h
 obtain ⟨y7_1_, hy7_1, h⟩ := oB h
 obtain ⟨hy7_2, h⟩ := gd h
 obtain ⟨hy7_3, h⟩ := gdD h
 replace h := gd h
 obtain ⟨hy7_4, h⟩ := h
 replace h := oB h
 obtain ⟨y7_5_, hy7_5, h⟩ := h
 replace h := oB h
 obtain ⟨y7_6_, hy7_6, h⟩ := h
 replace h := oB h
 obtain ⟨y7_7_, hy7_7, h⟩ := h
 replace h := gd h
 obtain ⟨hy7_8, h⟩ := h
 replace h := gdD h
 obtain ⟨hy7_9, h⟩ := h
 replace h := oB h
 obtain ⟨_, hy7_10, h⟩ := h
 obtain rfl := oI h
 exact runC2 hm ⟨[8], [], 0, 0, [], false, [], [], []⟩ (zz 4 (xnm hy7_1) <|
  yy 5 (.pur (nlV (nlSub x7_4 0 (y7_1_).toNat hy7_3))) <|
  ww (p := opSlice P 29 (nlV x7_4) none (some (i6 y7_1_)) none Ax.h0 = some ((nlV (nlSub x7_4 0 (y7_1_).toNat hy7_3)), Ax.h0)) (slNL (e := 3) x7_4 (by kernel_rfl) (by kernel_rfl) rfl (bnd_int hy7_2) hy7_3) <|
  zz 10 (xk4 (x7_1).num (x7_1).off (x7_1).cap hy7_4) <|
  zz 11 (fk17 (x7_1).num (Nat.add (x7_1).off ((x7_2).toNat * 8))) <|
  zz 12 (lk18 hy7_5 (toNatLt hy7_4)) <|
  zz 17 (xnm hy7_6) <|
  yy 18 (.call (C_viewportkitPickq1 x7_3 y7_6_ y7_7_ [] [])) <|
  ww (m_viewportkitPickq1_ok n x7_3 y7_6_ y7_7_ hy7_7) <|
  yy 19 (.pur (nlV (nlSub (nlSub x7_4 0 (y7_1_).toNat hy7_3) (y7_7_).toNat ((nlSub x7_4 0 (y7_1_).toNat hy7_3)).l.length hy7_9))) <|
  ww (p := opSlice P 29 (nlV (nlSub x7_4 0 (y7_1_).toNat hy7_3)) (some (i6 y7_7_)) none none Ax.h0 = some ((nlV (nlSub (nlSub x7_4 0 (y7_1_).toNat hy7_3) (y7_7_).toNat ((nlSub x7_4 0 (y7_1_).toNat hy7_3)).l.length hy7_9)), Ax.h0)) (slNL (e := 3) (nlSub x7_4 0 (y7_1_).toNat hy7_3) (by kernel_rfl) (by kernel_rfl) (bnd_int hy7_8) rfl hy7_9) <|
  ww (p := U_viewportlaw26StylesOwnt8 rnd x7_0 x7_1 x7_2 (y7_5_.1) (nlSub (nlSub x7_4 0 (y7_1_).toNat hy7_3) (y7_7_).toNat ((nlSub x7_4 0 (y7_1_).toNat hy7_3)).l.length hy7_9) () ()) (m_viewportlaw26StylesOwnt8_ok n x7_0 x7_1 x7_2 (y7_5_.1) (nlSub (nlSub x7_4 0 (y7_1_).toNat hy7_3) (y7_7_).toNat ((nlSub x7_4 0 (y7_1_).toNat hy7_3)).l.length hy7_9) () () hy7_10) <|
  ll 23 ⟨⟨[0, 1, 2, 10], [(0, 13, false)], 1, 0, [], false, [], [], []⟩, (X_viewportlaw26StylesOwnt8 x7_0 x7_1 x7_2 (y7_5_.1) (nlSub (nlSub x7_4 0 (y7_1_).toNat hy7_3) (y7_7_).toNat ((nlSub x7_4 0 (y7_1_).toNat hy7_3)).l.length hy7_9) ()).1, (X_viewportlaw26StylesOwnt8 x7_0 x7_1 x7_2 (y7_5_.1) (nlSub (nlSub x7_4 0 (y7_1_).toNat hy7_3) (y7_7_).toNat ((nlSub x7_4 0 (y7_1_).toNat hy7_3)).l.length hy7_9) ()).2⟩ <|
  ee) (by kernel_rfl)
def S_viewportlaw26StylesOwnt6 (x6_0 : WL rw_iLii) (x6_1 : WL rw_iiiiiiLu) (x6_2 : Int) (x6_3 : Int) (st : Unit) : XSt := (sT 122 [(0, (wlV x6_0)), (1, (wlV x6_1)), (2, (i6 x6_2)), (3, (i6 x6_3))], [], ⟨sB [], 0, 0⟩)
def X_viewportlaw26StylesOwnt6 (x6_0 : WL rw_iLii) (x6_1 : WL rw_iiiiiiLu) (x6_2 : Int) (x6_3 : Int) (r : Unit) : Ex × XSt := match r with
 | _ => (.ret, (sT 122 [(8, (bO true))], [], ⟨sB [], 0, 0⟩))
abbrev U_viewportlaw26StylesOwnt6 (rd : Option Nat) (x6_0 : WL rw_iLii) (x6_1 : WL rw_iiiiiiLu) (x6_2 : Int) (x6_3 : Int) (st : Unit) (r : Unit) : Prop := CG P rd (fnN P 3) 0 (codeOf P 3 [true, true, true, true, true]) (S_viewportlaw26StylesOwnt6 x6_0 x6_1 x6_2 x6_3 st) (X_viewportlaw26StylesOwnt6 x6_0 x6_1 x6_2 x6_3 r)
def m_viewportlaw26StylesOwnt6 (n : Nat) (x6_0 : WL rw_iLii) (x6_1 : WL rw_iiiiiiLu) (x6_2 : Int) (x6_3 : Int) (st : Unit) : Option (Unit) :=
 (m_viewportref16Pathq1 n x6_1 x6_2).bind fun y6_1_ =>
 (m_viewportlaw26StylesOwnt7 n x6_0 x6_1 x6_2 x6_3 y6_1_ ()).bind fun _ =>
 some ()
theorem m_viewportlaw26StylesOwnt6_ok (n : Nat) {rnd : Option Nat} (x6_0 : WL rw_iLii) (x6_1 : WL rw_iiiiiiLu) (x6_2 : Int) (x6_3 : Int) (st : Unit) (r : Unit) (h : m_viewportlaw26StylesOwnt6 n x6_0 x6_1 x6_2 x6_3 st = some r) : CG P rnd (fnN P 3) 0 (codeOf P 3 [true, true, true, true, true]) (S_viewportlaw26StylesOwnt6 x6_0 x6_1 x6_2 x6_3 st) (X_viewportlaw26StylesOwnt6 x6_0 x6_1 x6_2 x6_3 r) := by
 unfold m_viewportlaw26StylesOwnt6 at h
 obtain ⟨y6_1_, hy6_1, h⟩ := oB h
 obtain ⟨_, hy6_2, h⟩ := oB h
 obtain rfl := oI h
 exact runC2 hm ⟨[8], [], 0, 0, [], false, [], [], []⟩ (yy 3 (.call (C_viewportref16Pathq1 x6_1 x6_2 y6_1_ [] [])) <|
  ww (m_viewportref16Pathq1_ok n x6_1 x6_2 y6_1_ hy6_1) <|
  ww (p := U_viewportlaw26StylesOwnt7 rnd x6_0 x6_1 x6_2 x6_3 y6_1_ () ()) (m_viewportlaw26StylesOwnt7_ok n x6_0 x6_1 x6_2 x6_3 y6_1_ () () hy6_2) <|
  ll 5 ⟨⟨[0, 1, 2, 3, 9], [], 0, 0, [], false, [], [], []⟩, (X_viewportlaw26StylesOwnt7 x6_0 x6_1 x6_2 x6_3 y6_1_ ()).1, (X_viewportlaw26StylesOwnt7 x6_0 x6_1 x6_2 x6_3 y6_1_ ()).2⟩ <|
  ee) (by kernel_rfl)
def S_viewportlaw26StylesOwnt3 (x3_0 : WL rw_iLii) (x3_1 : WL rw_iiiiiiLu) (x3_2 : Int) (x3_3 : Int) (x3_4 : Bool) (st : Unit) : XSt := (sT 122 [(0, (wlV x3_0)), (1, (wlV x3_1)), (2, (i6 x3_2)), (3, (i6 x3_3)), (23, (bO x3_4))], [], ⟨sB [], 0, 0⟩)
def X_viewportlaw26StylesOwnt3 (x3_0 : WL rw_iLii) (x3_1 : WL rw_iiiiiiLu) (x3_2 : Int) (x3_3 : Int) (x3_4 : Bool) (r : (Unit) ⊕ (Unit)) : Ex × XSt := match r with
 | .inl _ => (.ret, (sT 122 [(8, (bO true))], [], ⟨sB [], 0, 0⟩))
 | .inr _ => (.normal, (sT 122 [(0, (wlV x3_0)), (1, (wlV x3_1)), (2, (i6 x3_2)), (3, (i6 x3_3))], [], ⟨sB [], 0, 0⟩))
abbrev U_viewportlaw26StylesOwnt3 (rd : Option Nat) (x3_0 : WL rw_iLii) (x3_1 : WL rw_iiiiiiLu) (x3_2 : Int) (x3_3 : Int) (x3_4 : Bool) (st : Unit) (r : (Unit) ⊕ (Unit)) : Prop := CG P rd (fnN P 3) 0 (codeOf P 3 [true, false, true, true]) (S_viewportlaw26StylesOwnt3 x3_0 x3_1 x3_2 x3_3 x3_4 st) (X_viewportlaw26StylesOwnt3 x3_0 x3_1 x3_2 x3_3 x3_4 r)
def m_viewportlaw26StylesOwnt3 (n : Nat) (x3_0 : WL rw_iLii) (x3_1 : WL rw_iiiiiiLu) (x3_2 : Int) (x3_3 : Int) (x3_4 : Bool) (st : Unit) : Option ((Unit) ⊕ (Unit)) :=
 if x3_4 = true then
  some (.inl ())
 else
  some (.inr ())
theorem m_viewportlaw26StylesOwnt3_ok (n : Nat) {rnd : Option Nat} (x3_0 : WL rw_iLii) (x3_1 : WL rw_iiiiiiLu) (x3_2 : Int) (x3_3 : Int) (x3_4 : Bool) (st : Unit) (r : (Unit) ⊕ (Unit)) (h : m_viewportlaw26StylesOwnt3 n x3_0 x3_1 x3_2 x3_3 x3_4 st = some r) : CG P rnd (fnN P 3) 0 (codeOf P 3 [true, false, true, true]) (S_viewportlaw26StylesOwnt3 x3_0 x3_1 x3_2 x3_3 x3_4 st) (X_viewportlaw26StylesOwnt3 x3_0 x3_1 x3_2 x3_3 x3_4 r) := by
 unfold m_viewportlaw26StylesOwnt3 at h
 by_cases hy3_1 : x3_4 = true
 ·rw [if_pos hy3_1] at h
  obtain rfl := oI h
  exact runC2 hm ⟨[8], [], 0, 0, [], false, [], [], []⟩ (zz 0 (xbT hy3_1) <|
   ee) (by kernel_rfl)
 ·rw [if_neg hy3_1] at h
  obtain rfl := oI h
  exact runC2 hm ⟨[0, 1, 2, 3], [], 0, 0, [], false, [], [], []⟩ (zz 0 (xbF hy3_1) <|
   ee) (by kernel_rfl)
def S_viewportlaw26StylesOwnt5 (x5_0 : WL rw_iLii) (x5_1 : WL rw_iiiiiiLu) (x5_2 : Int) (x5_3 : Int) (st : Unit) : XSt := (sT 122 [(0, (wlV x5_0)), (1, (wlV x5_1)), (2, (i6 x5_2)), (3, (i6 x5_3))], [], ⟨sB [], 0, 0⟩)
def X_viewportlaw26StylesOwnt5 (x5_0 : WL rw_iLii) (x5_1 : WL rw_iiiiiiLu) (x5_2 : Int) (x5_3 : Int) (r : Unit) : Ex × XSt := match r with
 | _ => (.ret, (sT 122 [(8, (bO true))], [], ⟨sB [], 0, 0⟩))
abbrev U_viewportlaw26StylesOwnt5 (rd : Option Nat) (x5_0 : WL rw_iLii) (x5_1 : WL rw_iiiiiiLu) (x5_2 : Int) (x5_3 : Int) (st : Unit) (r : Unit) : Prop := CG P rd (fnN P 3) 0 (codeOf P 3 [true, true, true, true]) (S_viewportlaw26StylesOwnt5 x5_0 x5_1 x5_2 x5_3 st) (X_viewportlaw26StylesOwnt5 x5_0 x5_1 x5_2 x5_3 r)
def m_viewportlaw26StylesOwnt5 (n : Nat) (x5_0 : WL rw_iLii) (x5_1 : WL rw_iiiiiiLu) (x5_2 : Int) (x5_3 : Int) (st : Unit) : Option (Unit) :=
 if 0 ≤ x5_2 ∧ x5_2 < (((x5_1).l.length : Nat) : Int) then
  ((some (((x5_1).l).getD (x5_2).toNat (0, 0, 0, 0, 0, 0, nl0, 0)))).bind fun y5_2_ =>
  if (y5_2_.2.1) = (3 : Int) then
   (m_viewportlaw26StylesOwnt6 n x5_0 x5_1 x5_2 x5_3 ()).bind fun _ =>
   some ()
  else
   if (y5_2_.2.1) = (5 : Int) then
    (m_viewportlaw26StylesOwnt6 n x5_0 x5_1 x5_2 x5_3 ()).bind fun _ =>
    some ()
   else
    (m_stylesLeafq2 n x5_0 x5_1 x5_2).bind fun y5_5_ =>
    if y5_5_ = (0 : Int) then
     some ()
    else
     none
 else none
theorem m_viewportlaw26StylesOwnt5_ok (n : Nat) {rnd : Option Nat} (x5_0 : WL rw_iLii) (x5_1 : WL rw_iiiiiiLu) (x5_2 : Int) (x5_3 : Int) (st : Unit) (r : Unit) (h : m_viewportlaw26StylesOwnt5 n x5_0 x5_1 x5_2 x5_3 st = some r) : CG P rnd (fnN P 3) 0 (codeOf P 3 [true, true, true, true]) (S_viewportlaw26StylesOwnt5 x5_0 x5_1 x5_2 x5_3 st) (X_viewportlaw26StylesOwnt5 x5_0 x5_1 x5_2 x5_3 r) := by
 unfold m_viewportlaw26StylesOwnt5 at h
 obtain ⟨hy5_1, h⟩ := gd h
 obtain ⟨y5_2_, hy5_2, h⟩ := oB h
 have k0 := fun {A L l} (k : PL A L l) => zz 4 (xk4 (x5_1).num (x5_1).off (x5_1).cap hy5_1) <|
  zz 5 (fk6 (x5_1).num (Nat.add (x5_1).off ((x5_2).toNat * 8))) <|
  zz 6 (lk7 hy5_2 (toNatLt hy5_1)) <|
  k
 by_cases hy5_3 : (y5_2_.2.1) = (3 : Int)
 ·rw [if_pos hy5_3] at h
  obtain ⟨_, hy5_4, h⟩ := oB h
  obtain rfl := oI h
  exact runC2 hm ⟨[8], [], 0, 0, [], false, [], [], []⟩ (k0 <|
   zz 7 (xnF hy5_3) <|
   ww (p := U_viewportlaw26StylesOwnt6 rnd x5_0 x5_1 x5_2 x5_3 () ()) (m_viewportlaw26StylesOwnt6_ok n x5_0 x5_1 x5_2 x5_3 () () hy5_4) <|
   ll 17 ⟨⟨[0, 1, 2, 3], [], 0, 0, [], false, [], [], []⟩, (X_viewportlaw26StylesOwnt6 x5_0 x5_1 x5_2 x5_3 ()).1, (X_viewportlaw26StylesOwnt6 x5_0 x5_1 x5_2 x5_3 ()).2⟩ <|
   ee) (by kernel_rfl)
 ·rw [if_neg hy5_3] at h
  have k3 := fun {A L l} (k : PL A L l) => zz 7 (xnT hy5_3) <|
   zz 11 (xk4 (x5_1).num (x5_1).off (x5_1).cap hy5_1) <|
   zz 12 (fk6 (x5_1).num (Nat.add (x5_1).off ((x5_2).toNat * 8))) <|
   zz 13 (lk7 hy5_2 (toNatLt hy5_1)) <|
   k
  by_cases hy5_4 : (y5_2_.2.1) = (5 : Int)
  ·rw [if_pos hy5_4] at h
   obtain ⟨_, hy5_5, h⟩ := oB h
   obtain rfl := oI h
   exact runC2 hm ⟨[8], [], 0, 0, [], false, [], [], []⟩ (k0 <|
    k3 <|
    zz 14 (xnF hy5_4) <|
    ww (p := U_viewportlaw26StylesOwnt6 rnd x5_0 x5_1 x5_2 x5_3 () ()) (m_viewportlaw26StylesOwnt6_ok n x5_0 x5_1 x5_2 x5_3 () () hy5_5) <|
    ll 17 ⟨⟨[0, 1, 2, 3], [], 0, 0, [], false, [], [], []⟩, (X_viewportlaw26StylesOwnt6 x5_0 x5_1 x5_2 x5_3 ()).1, (X_viewportlaw26StylesOwnt6 x5_0 x5_1 x5_2 x5_3 ()).2⟩ <|
    ee) (by kernel_rfl)
  ·rw [if_neg hy5_4] at h
   obtain ⟨y5_5_, hy5_5, h⟩ := oB h
   have k7 := fun {A L l} (k : PL A L l) => zz 14 (xnT hy5_4) <|
    yy 21 (.call (C_stylesLeafq2 x5_0 x5_1 x5_2 y5_5_ [] [])) <|
    ww (m_stylesLeafq2_ok n x5_0 x5_1 x5_2 y5_5_ hy5_5) <|
    k
   by_cases hy5_6 : y5_5_ = (0 : Int)
   ·rw [if_pos hy5_6] at h
    obtain rfl := oI h
    exact runC2 hm ⟨[8], [], 0, 0, [], false, [], [], []⟩ (k0 <|
     k3 <|
     k7 <|
     zz 22 (xeT hy5_6) <|
     ee) (by kernel_rfl)
   ·rw [if_neg hy5_6] at h
    cases h
def S_viewportlaw26StylesOwnt1 (x1_0 : WL rw_iLii) (x1_1 : WL rw_iiiiiiLu) (x1_2 : Int) (x1_3 : Int) (st : Unit) : XSt := (sT 122 [(0, (wlV x1_0)), (1, (wlV x1_1)), (2, (i6 x1_2)), (3, (i6 x1_3)), (14, (bO false))], [], ⟨sB [], 0, 0⟩)
def X_viewportlaw26StylesOwnt1 (x1_0 : WL rw_iLii) (x1_1 : WL rw_iiiiiiLu) (x1_2 : Int) (x1_3 : Int) (r : Unit) : Ex × XSt := match r with
 | _ => (.normal, (sT 122 [(0, (wlV x1_0)), (1, (wlV x1_1)), (2, (i6 x1_2)), (3, (i6 x1_3))], [], ⟨sB [], 0, 0⟩))
abbrev U_viewportlaw26StylesOwnt1 (rd : Option Nat) (x1_0 : WL rw_iLii) (x1_1 : WL rw_iiiiiiLu) (x1_2 : Int) (x1_3 : Int) (st : Unit) (r : Unit) : Prop := CG P rd (fnN P 3) 0 (codeOf P 3 [true, false, true]) (S_viewportlaw26StylesOwnt1 x1_0 x1_1 x1_2 x1_3 st) (X_viewportlaw26StylesOwnt1 x1_0 x1_1 x1_2 x1_3 r)
def m_viewportlaw26StylesOwnt1 (n : Nat) (x1_0 : WL rw_iLii) (x1_1 : WL rw_iiiiiiLu) (x1_2 : Int) (x1_3 : Int) (st : Unit) : Option (Unit) :=
 some ()
theorem m_viewportlaw26StylesOwnt1_ok (n : Nat) {rnd : Option Nat} (x1_0 : WL rw_iLii) (x1_1 : WL rw_iiiiiiLu) (x1_2 : Int) (x1_3 : Int) (st : Unit) (r : Unit) (h : m_viewportlaw26StylesOwnt1 n x1_0 x1_1 x1_2 x1_3 st = some r) : CG P rnd (fnN P 3) 0 (codeOf P 3 [true, false, true]) (S_viewportlaw26StylesOwnt1 x1_0 x1_1 x1_2 x1_3 st) (X_viewportlaw26StylesOwnt1 x1_0 x1_1 x1_2 x1_3 r) := by
 unfold m_viewportlaw26StylesOwnt1 at h
 obtain rfl := oI h
 exact runC2 hm ⟨[0, 1, 2, 3], [], 0, 0, [], false, [], [], []⟩ (ee) (by kernel_rfl)
def S_viewportlaw26StylesOwnt4 (x4_0 : WL rw_iLii) (x4_1 : WL rw_iiiiiiLu) (x4_2 : Int) (x4_3 : Int) (st : Unit) : XSt := (sT 122 [(0, (wlV x4_0)), (1, (wlV x4_1)), (2, (i6 x4_2)), (3, (i6 x4_3))], [], ⟨sB [], 0, 0⟩)
def X_viewportlaw26StylesOwnt4 (x4_0 : WL rw_iLii) (x4_1 : WL rw_iiiiiiLu) (x4_2 : Int) (x4_3 : Int) (r : Unit) : Ex × XSt := match r with
 | _ => (.ret, (sT 122 [(8, (bO true))], [], ⟨sB [], 0, 0⟩))
abbrev U_viewportlaw26StylesOwnt4 (rd : Option Nat) (x4_0 : WL rw_iLii) (x4_1 : WL rw_iiiiiiLu) (x4_2 : Int) (x4_3 : Int) (st : Unit) (r : Unit) : Prop := CG P rd (fnN P 3) 0 (codeOf P 3 [true, true, true]) (S_viewportlaw26StylesOwnt4 x4_0 x4_1 x4_2 x4_3 st) (X_viewportlaw26StylesOwnt4 x4_0 x4_1 x4_2 x4_3 r)
def m_viewportlaw26StylesOwnt4 (n : Nat) (x4_0 : WL rw_iLii) (x4_1 : WL rw_iiiiiiLu) (x4_2 : Int) (x4_3 : Int) (st : Unit) : Option (Unit) :=
 (m_viewportkitPickq1 n x4_2 (((x4_1).l.length : Nat) : Int)).bind fun y4_1_ =>
 (m_viewportlaw26StylesOwnt5 n x4_0 x4_1 y4_1_ x4_3 ()).bind fun _ =>
 some ()
theorem m_viewportlaw26StylesOwnt4_ok (n : Nat) {rnd : Option Nat} (x4_0 : WL rw_iLii) (x4_1 : WL rw_iiiiiiLu) (x4_2 : Int) (x4_3 : Int) (st : Unit) (r : Unit) (h : m_viewportlaw26StylesOwnt4 n x4_0 x4_1 x4_2 x4_3 st = some r) : CG P rnd (fnN P 3) 0 (codeOf P 3 [true, true, true]) (S_viewportlaw26StylesOwnt4 x4_0 x4_1 x4_2 x4_3 st) (X_viewportlaw26StylesOwnt4 x4_0 x4_1 x4_2 x4_3 r) := by
 unfold m_viewportlaw26StylesOwnt4 at h
 obtain ⟨y4_1_, hy4_1, h⟩ := oB h
 obtain ⟨_, hy4_2, h⟩ := oB h
 obtain rfl := oI h
 exact runC2 hm ⟨[8], [], 0, 0, [], false, [], [], []⟩ (yy 4 (.call (C_viewportkitPickq1 x4_2 (((x4_1).l.length : Nat) : Int) y4_1_ [] [])) <|
  ww (m_viewportkitPickq1_ok n x4_2 (((x4_1).l.length : Nat) : Int) y4_1_ hy4_1) <|
  ww (p := U_viewportlaw26StylesOwnt5 rnd x4_0 x4_1 y4_1_ x4_3 () ()) (m_viewportlaw26StylesOwnt5_ok n x4_0 x4_1 y4_1_ x4_3 () () hy4_2) <|
  ll 6 ⟨⟨[0, 1, 2, 3], [], 0, 0, [], false, [], [], []⟩, (X_viewportlaw26StylesOwnt5 x4_0 x4_1 y4_1_ x4_3 ()).1, (X_viewportlaw26StylesOwnt5 x4_0 x4_1 y4_1_ x4_3 ()).2⟩ <|
  ee) (by kernel_rfl)
def S_viewportlaw26StylesOwnt2 (x2_0 : WL rw_iLii) (x2_1 : WL rw_iiiiiiLu) (x2_2 : Int) (x2_3 : Int) (st : Unit) : XSt := (sT 122 [(0, (wlV x2_0)), (1, (wlV x2_1)), (2, (i6 x2_2)), (3, (i6 x2_3))], [], ⟨sB [], 0, 0⟩)
def X_viewportlaw26StylesOwnt2 (x2_0 : WL rw_iLii) (x2_1 : WL rw_iiiiiiLu) (x2_2 : Int) (x2_3 : Int) (r : Unit) : Ex × XSt := match r with
 | _ => (.ret, (sT 122 [(8, (bO true))], [], ⟨sB [], 0, 0⟩))
abbrev U_viewportlaw26StylesOwnt2 (rd : Option Nat) (x2_0 : WL rw_iLii) (x2_1 : WL rw_iiiiiiLu) (x2_2 : Int) (x2_3 : Int) (st : Unit) (r : Unit) : Prop := CG P rd (fnN P 3) 0 (codeOf P 3 [true, true]) (S_viewportlaw26StylesOwnt2 x2_0 x2_1 x2_2 x2_3 st) (X_viewportlaw26StylesOwnt2 x2_0 x2_1 x2_2 x2_3 r)
def m_viewportlaw26StylesOwnt2 (n : Nat) (x2_0 : WL rw_iLii) (x2_1 : WL rw_iiiiiiLu) (x2_2 : Int) (x2_3 : Int) (st : Unit) : Option (Unit) :=
 (m_viewportlaw26lightq1 n x2_0 x2_1).bind fun y2_1_ =>
 if y2_1_ = true then
  (m_viewportref16Checkq1 n x2_1).bind fun y2_3_ =>
  if y2_3_ = (0 : Int) then
   match m_viewportlaw26StylesOwnt3 n x2_0 x2_1 x2_2 x2_3 false () with
   | none => none
   | some (.inl _) =>
    some ()
   | some (.inr _) =>
    (m_viewportlaw26StylesOwnt4 n x2_0 x2_1 x2_2 x2_3 ()).bind fun _ =>
    some ()
  else
   match m_viewportlaw26StylesOwnt3 n x2_0 x2_1 x2_2 x2_3 true () with
   | none => none
   | some (.inl _) =>
    some ()
   | some (.inr _) =>
    (m_viewportlaw26StylesOwnt4 n x2_0 x2_1 x2_2 x2_3 ()).bind fun _ =>
    some ()
 else
  match m_viewportlaw26StylesOwnt3 n x2_0 x2_1 x2_2 x2_3 true () with
  | none => none
  | some (.inl _) =>
   some ()
  | some (.inr _) =>
   (m_viewportlaw26StylesOwnt4 n x2_0 x2_1 x2_2 x2_3 ()).bind fun _ =>
   some ()
theorem m_viewportlaw26StylesOwnt2_ok (n : Nat) {rnd : Option Nat} (x2_0 : WL rw_iLii) (x2_1 : WL rw_iiiiiiLu) (x2_2 : Int) (x2_3 : Int) (st : Unit) (r : Unit) (h : m_viewportlaw26StylesOwnt2 n x2_0 x2_1 x2_2 x2_3 st = some r) : CG P rnd (fnN P 3) 0 (codeOf P 3 [true, true]) (S_viewportlaw26StylesOwnt2 x2_0 x2_1 x2_2 x2_3 st) (X_viewportlaw26StylesOwnt2 x2_0 x2_1 x2_2 x2_3 r) := by
 unfold m_viewportlaw26StylesOwnt2 at h
 obtain ⟨y2_1_, hy2_1, h⟩ := oB h
 have k0 := fun {A L l} (k : PL A L l) => yy 4 (.call (C_viewportlaw26lightq1 x2_0 x2_1 y2_1_ [] [])) <|
  ww (m_viewportlaw26lightq1_ok n x2_0 x2_1 y2_1_ hy2_1) <|
  k
 by_cases hy2_2 : y2_1_ = true
 ·rw [if_pos hy2_2] at h
  obtain ⟨y2_3_, hy2_3, h⟩ := oB h
  have k2 := fun {A L l} (k : PL A L l) => yy 5 (vf) <|
   ww (p := (Value.bool (!y2_1_)) = (Value.bool false)) (vBn hy2_2) <|
   yy 8 (.call (C_viewportref16Checkq1 x2_1 y2_3_ [] [])) <|
   ww (m_viewportref16Checkq1_ok n x2_1 y2_3_ hy2_3) <|
   k
  by_cases hy2_4 : y2_3_ = (0 : Int)
  ·rw [if_pos hy2_4] at h
   have k6 := fun {A L l} (k : PL A L l) => zz 9 (xnF hy2_4) <|
    k
   rcases hy2_5 : m_viewportlaw26StylesOwnt3 n x2_0 x2_1 x2_2 x2_3 false () with _ | (⟨⟩ | ⟨⟩)
   ·rw [hy2_5] at h; cases h
   ·rw [hy2_5] at h
    dsimp only at h
    obtain rfl := oI h
    exact runC2 hm ⟨[8], [], 0, 0, [], false, [], [], []⟩ (k0 <|
     k2 <|
     k6 <|
     ww (p := U_viewportlaw26StylesOwnt3 rnd x2_0 x2_1 x2_2 x2_3 false () (.inl ())) (m_viewportlaw26StylesOwnt3_ok n x2_0 x2_1 x2_2 x2_3 false () (.inl ()) hy2_5) <|
     ll 11 ⟨⟨[0, 1, 2, 3, 23], [], 0, 0, [], false, [], [], []⟩, (X_viewportlaw26StylesOwnt3 x2_0 x2_1 x2_2 x2_3 false (.inl ())).1, (X_viewportlaw26StylesOwnt3 x2_0 x2_1 x2_2 x2_3 false (.inl ())).2⟩ <|
     ee) (by kernel_rfl)
   ·rw [hy2_5] at h
    dsimp only at h
    obtain ⟨_, hy2_6, h⟩ := oB h
    obtain rfl := oI h
    exact runC2 hm ⟨[8], [], 0, 0, [], false, [], [], []⟩ (k0 <|
     k2 <|
     k6 <|
     ww (p := U_viewportlaw26StylesOwnt3 rnd x2_0 x2_1 x2_2 x2_3 false () (.inr ())) (m_viewportlaw26StylesOwnt3_ok n x2_0 x2_1 x2_2 x2_3 false () (.inr ()) hy2_5) <|
     ll 11 ⟨⟨[0, 1, 2, 3, 23], [], 0, 0, [], false, [], [], []⟩, (X_viewportlaw26StylesOwnt3 x2_0 x2_1 x2_2 x2_3 false (.inr ())).1, (X_viewportlaw26StylesOwnt3 x2_0 x2_1 x2_2 x2_3 false (.inr ())).2⟩ <|
     ww (p := U_viewportlaw26StylesOwnt4 rnd x2_0 x2_1 x2_2 x2_3 () ()) (m_viewportlaw26StylesOwnt4_ok n x2_0 x2_1 x2_2 x2_3 () () hy2_6) <|
     ll 12 ⟨⟨[0, 1, 2, 3], [], 0, 0, [], false, [], [], []⟩, (X_viewportlaw26StylesOwnt4 x2_0 x2_1 x2_2 x2_3 ()).1, (X_viewportlaw26StylesOwnt4 x2_0 x2_1 x2_2 x2_3 ()).2⟩ <|
     ee) (by kernel_rfl)
  ·rw [if_neg hy2_4] at h
   have k6 := fun {A L l} (k : PL A L l) => zz 9 (xnT hy2_4) <|
    k
   rcases hy2_5 : m_viewportlaw26StylesOwnt3 n x2_0 x2_1 x2_2 x2_3 true () with _ | (⟨⟩ | ⟨⟩)
   ·rw [hy2_5] at h; cases h
   ·rw [hy2_5] at h
    dsimp only at h
    obtain rfl := oI h
    exact runC2 hm ⟨[8], [], 0, 0, [], false, [], [], []⟩ (k0 <|
     k2 <|
     k6 <|
     ww (p := U_viewportlaw26StylesOwnt3 rnd x2_0 x2_1 x2_2 x2_3 true () (.inl ())) (m_viewportlaw26StylesOwnt3_ok n x2_0 x2_1 x2_2 x2_3 true () (.inl ()) hy2_5) <|
     ll 11 ⟨⟨[0, 1, 2, 3, 23], [], 0, 0, [], false, [], [], []⟩, (X_viewportlaw26StylesOwnt3 x2_0 x2_1 x2_2 x2_3 true (.inl ())).1, (X_viewportlaw26StylesOwnt3 x2_0 x2_1 x2_2 x2_3 true (.inl ())).2⟩ <|
     ee) (by kernel_rfl)
   ·rw [hy2_5] at h
    dsimp only at h
    obtain ⟨_, hy2_6, h⟩ := oB h
    obtain rfl := oI h
    exact runC2 hm ⟨[8], [], 0, 0, [], false, [], [], []⟩ (k0 <|
     k2 <|
     k6 <|
     ww (p := U_viewportlaw26StylesOwnt3 rnd x2_0 x2_1 x2_2 x2_3 true () (.inr ())) (m_viewportlaw26StylesOwnt3_ok n x2_0 x2_1 x2_2 x2_3 true () (.inr ()) hy2_5) <|
     ll 11 ⟨⟨[0, 1, 2, 3, 23], [], 0, 0, [], false, [], [], []⟩, (X_viewportlaw26StylesOwnt3 x2_0 x2_1 x2_2 x2_3 true (.inr ())).1, (X_viewportlaw26StylesOwnt3 x2_0 x2_1 x2_2 x2_3 true (.inr ())).2⟩ <|
     ww (p := U_viewportlaw26StylesOwnt4 rnd x2_0 x2_1 x2_2 x2_3 () ()) (m_viewportlaw26StylesOwnt4_ok n x2_0 x2_1 x2_2 x2_3 () () hy2_6) <|
     ll 12 ⟨⟨[0, 1, 2, 3], [], 0, 0, [], false, [], [], []⟩, (X_viewportlaw26StylesOwnt4 x2_0 x2_1 x2_2 x2_3 ()).1, (X_viewportlaw26StylesOwnt4 x2_0 x2_1 x2_2 x2_3 ()).2⟩ <|
     ee) (by kernel_rfl)
 ·rw [if_neg hy2_2] at h
  have k2 := fun {A L l} (k : PL A L l) => yy 5 (vt) <|
   ww (p := (Value.bool (!y2_1_)) = (Value.bool true)) (vBn (Bool.eq_false_iff.2 hy2_2)) <|
   k
  rcases hy2_3 : m_viewportlaw26StylesOwnt3 n x2_0 x2_1 x2_2 x2_3 true () with _ | (⟨⟩ | ⟨⟩)
  ·rw [hy2_3] at h; cases h
  ·rw [hy2_3] at h
   dsimp only at h
   obtain rfl := oI h
   exact runC2 hm ⟨[8], [], 0, 0, [], false, [], [], []⟩ (k0 <|
    k2 <|
    ww (p := U_viewportlaw26StylesOwnt3 rnd x2_0 x2_1 x2_2 x2_3 true () (.inl ())) (m_viewportlaw26StylesOwnt3_ok n x2_0 x2_1 x2_2 x2_3 true () (.inl ()) hy2_3) <|
    ll 11 ⟨⟨[0, 1, 2, 3, 23], [], 0, 0, [], false, [], [], []⟩, (X_viewportlaw26StylesOwnt3 x2_0 x2_1 x2_2 x2_3 true (.inl ())).1, (X_viewportlaw26StylesOwnt3 x2_0 x2_1 x2_2 x2_3 true (.inl ())).2⟩ <|
    ee) (by kernel_rfl)
  ·rw [hy2_3] at h
   dsimp only at h
   obtain ⟨_, hy2_4, h⟩ := oB h
   obtain rfl := oI h
   exact runC2 hm ⟨[8], [], 0, 0, [], false, [], [], []⟩ (k0 <|
    k2 <|
    ww (p := U_viewportlaw26StylesOwnt3 rnd x2_0 x2_1 x2_2 x2_3 true () (.inr ())) (m_viewportlaw26StylesOwnt3_ok n x2_0 x2_1 x2_2 x2_3 true () (.inr ()) hy2_3) <|
    ll 11 ⟨⟨[0, 1, 2, 3, 23], [], 0, 0, [], false, [], [], []⟩, (X_viewportlaw26StylesOwnt3 x2_0 x2_1 x2_2 x2_3 true (.inr ())).1, (X_viewportlaw26StylesOwnt3 x2_0 x2_1 x2_2 x2_3 true (.inr ())).2⟩ <|
    ww (p := U_viewportlaw26StylesOwnt4 rnd x2_0 x2_1 x2_2 x2_3 () ()) (m_viewportlaw26StylesOwnt4_ok n x2_0 x2_1 x2_2 x2_3 () () hy2_4) <|
    ll 12 ⟨⟨[0, 1, 2, 3], [], 0, 0, [], false, [], [], []⟩, (X_viewportlaw26StylesOwnt4 x2_0 x2_1 x2_2 x2_3 ()).1, (X_viewportlaw26StylesOwnt4 x2_0 x2_1 x2_2 x2_3 ()).2⟩ <|
    ee) (by kernel_rfl)
def m_viewportlaw26StylesOwn (n : Nat) (g2 : Int) (g3 : Int) : Option (Unit) :=
 (m_viewportlaw26lives n).bind fun _ =>
 (m_viewportlaw26StylesOwnt1 n wA wB g2 g3 ()).bind fun _ =>
 (m_viewportlaw26StylesOwnt2 n wA wB g2 g3 ()).bind fun _ =>
 some ()
theorem m_viewportlaw26StylesOwn_ok (n : Nat) (g2 : Int) (g3 : Int) (r : Unit) (h : m_viewportlaw26StylesOwn n g2 g3 = some r) : Gv P (.func 3) (A_viewportlaw26StylesOwn g2 g3) (H_viewportlaw26StylesOwn g2 g3) (V_viewportlaw26StylesOwn g2 g3 r) (R_viewportlaw26StylesOwn g2 g3 r) := by
 unfold m_viewportlaw26StylesOwn at h
 obtain ⟨_, hc1, h⟩ := oB h
 obtain ⟨_, hc2, h⟩ := oB h
 obtain ⟨_, hc3, h⟩ := oB h
 obtain rfl := oI h
 exact runF2 hm ⟨[8], [], 0, 0, [], false, [], [], []⟩ (yy 4 (.call ⟨0, [], (Value.bool true), Ax.h0, []⟩) <|
  ww (m_viewportlaw26lives_ok n  () hc1) <|
  ww (p := U_viewportlaw26StylesOwnt1 none wA wB g2 g3 () ()) (m_viewportlaw26StylesOwnt1_ok n wA wB g2 g3 () () hc2) <|
  ll 6 ⟨⟨[0, 1, 2, 3, 14], [], 0, 0, [], false, [], [], []⟩, (X_viewportlaw26StylesOwnt1 wA wB g2 g3 ()).1, (X_viewportlaw26StylesOwnt1 wA wB g2 g3 ()).2⟩ <|
  ww (p := U_viewportlaw26StylesOwnt2 none wA wB g2 g3 () ()) (m_viewportlaw26StylesOwnt2_ok n wA wB g2 g3 () () hc3) <|
  ll 7 ⟨⟨[0, 1, 2, 3], [], 0, 0, [], false, [], [], []⟩, (X_viewportlaw26StylesOwnt2 wA wB g2 g3 ()).1, (X_viewportlaw26StylesOwnt2 wA wB g2 g3 ()).2⟩ <|
  ee) (by kernel_rfl)

end Go.Proofs.Ytejokkfeocohpaa.sow26
