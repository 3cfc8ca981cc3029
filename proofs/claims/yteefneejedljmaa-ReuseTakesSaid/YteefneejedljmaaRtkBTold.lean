/-
  What functions do, told by pure functions. No condition.
-/
import Derived.Test.YteefneejedljmaaRtkATold
set_option linter.unusedSimpArgs false
set_option linter.unusedVariables false
set_option linter.unusedSectionVars false
set_option linter.unnecessarySimpa false
set_option maxRecDepth 100000
noncomputable section
namespace Go.Proofs.Yteefneejedljmaa.rtk
open Go Go.Proofs.Yteefneejedljmaa Ax
variable [Args]
def A_soq1 (a0 : Int) (a1 : Int) (a2 : Int) (a3 : Int) (a4 : Int) (a5 : Int) (a6 : NL) (a7 : Int) : List Value := [(Value.agg #[(i6 a0), (i6 a1), (i6 a2), (i6 a3), (i6 a4), (i6 a5), (nlV a6), (Value.int .u64 a7)])]
def H_soq1 (a0 : Int) (a1 : Int) (a2 : Int) (a3 : Int) (a4 : Int) (a5 : Int) (a6 : NL) (a7 : Int) : AH := ⟨sB [], 0, 0⟩
def V_soq1 (a0 : Int) (a1 : Int) (a2 : Int) (a3 : Int) (a4 : Int) (a5 : Int) (a6 : NL) (a7 : Int) (r : Bool) : Value := match r with
 | o0 => (bO o0)
def R_soq1 (a0 : Int) (a1 : Int) (a2 : Int) (a3 : Int) (a4 : Int) (a5 : Int) (a6 : NL) (a7 : Int) (r : Bool) : AH := match r with
 | o0 => ⟨sB [], 0, 0⟩
abbrev G_soq1 (a0 : Int) (a1 : Int) (a2 : Int) (a3 : Int) (a4 : Int) (a5 : Int) (a6 : NL) (a7 : Int) (r : Bool) : Prop := Gv P (.func 35) (A_soq1 a0 a1 a2 a3 a4 a5 a6 a7) (H_soq1 a0 a1 a2 a3 a4 a5 a6 a7) (V_soq1 a0 a1 a2 a3 a4 a5 a6 a7 r) (R_soq1 a0 a1 a2 a3 a4 a5 a6 a7 r)
abbrev C_soq1 (a0 : Int) (a1 : Int) (a2 : Int) (a3 : Int) (a4 : Int) (a5 : Int) (a6 : NL) (a7 : Int) (r : Bool) (ins outs : BL) : CallA := ⟨0, ins, V_soq1 a0 a1 a2 a3 a4 a5 a6 a7 r, R_soq1 a0 a1 a2 a3 a4 a5 a6 a7 r, outs⟩
def m_soq1 (n : Nat) (a0 : Int) (a1 : Int) (a2 : Int) (a3 : Int) (a4 : Int) (a5 : Int) (a6 : NL) (a7 : Int) : Option (Bool) :=
 if a2 < (0 : Int) then
  some false
 else
  if a2 > a4 then
   some false
  else
   if a5 ≤ a2 then
    some false
   else
    if a1 = (1 : Int) then
     if a3 = a2 then
      some true
     else
      some false
    else
     if a1 = (2 : Int) then
      if a3 = a2 then
       some true
      else
       some false
     else
      if a1 = (4 : Int) then
       if a3 = a2 then
        if a4 = a2 then
         if (a6.l.length : Int) = (0 : Int) then
          some true
         else
          some false
        else
         some false
       else
        some false
      else
       if a1 = (3 : Int) then
        if a3 ≥ a2 then
         if a3 ≤ a4 then
          if (a6.l.length : Int) = (0 : Int) then
           some true
          else
           some false
         else
          some false
        else
         some false
       else
        if a1 = (5 : Int) then
         if a3 ≥ a2 then
          if a3 ≤ a4 then
           if (a6.l.length : Int) = (0 : Int) then
            some true
           else
            some false
          else
           some false
         else
          some false
        else
         if a1 = (6 : Int) then
          if a3 ≥ a2 then
           if a3 ≤ a4 then
            if (a6.l.length : Int) = (0 : Int) then
             some true
            else
             some false
           else
            some false
          else
           some false
         else
          some false
theorem m_soq1_ok (n : Nat) (a0 : Int) (a1 : Int) (a2 : Int) (a3 : Int) (a4 : Int) (a5 : Int) (a6 : NL) (a7 : Int) (r : Bool) (h : m_soq1 n a0 a1 a2 a3 a4 a5 a6 a7 = some r) : Gv P (.func 35) (A_soq1 a0 a1 a2 a3 a4 a5 a6 a7) (H_soq1 a0 a1 a2 a3 a4 a5 a6 a7) (V_soq1 a0 a1 a2 a3 a4 a5 a6 a7 r) (R_soq1 a0 a1 a2 a3 a4 a5 a6 a7 r) := by
 unfold m_soq1 at h
 by_cases hc1 : a2 < (0 : Int)
 ·rw [if_pos hc1] at h
  obtain rfl := oI h; exact runF2 hm (L := lT []) ⟨[2], [], 0, 0, [], false, []⟩ (zz 7 (xdT hc1) ee) (by kernel_rfl)
 ·rw [if_neg hc1] at h
  by_cases hc2 : a2 > a4
  ·rw [if_pos hc2] at h
   obtain rfl := oI h; exact runF2 hm (L := lT []) ⟨[2], [], 0, 0, [], false, []⟩ (zz 7 (xdF hc1) <|
zz 13 (xdT hc2) ee) (by kernel_rfl)
  ·rw [if_neg hc2] at h
   by_cases hc3 : a5 ≤ a2
   ·rw [if_pos hc3] at h
    obtain rfl := oI h; exact runF2 hm (L := lT []) ⟨[2], [], 0, 0, [], false, []⟩ (zz 7 (xdF hc1) <|
zz 13 (xdF hc2) <|
zz 20 (xdT hc3) ee) (by kernel_rfl)
   ·rw [if_neg hc3] at h
    by_cases hc4 : a1 = (1 : Int)
    ·rw [if_pos hc4] at h
     by_cases hc5 : a3 = a2
     ·rw [if_pos hc5] at h
      obtain rfl := oI h; exact runF2 hm (L := lT []) ⟨[2], [], 0, 0, [], false, []⟩ (zz 7 (xdF hc1) <|
zz 13 (xdF hc2) <|
zz 20 (xdF hc3) <|
zz 30 (xeT hc4) <|
zz 39 (xeT hc5) ee) (by kernel_rfl)
     ·rw [if_neg hc5] at h
      obtain rfl := oI h; exact runF2 hm (L := lT []) ⟨[2], [], 0, 0, [], false, []⟩ (zz 7 (xdF hc1) <|
zz 13 (xdF hc2) <|
zz 20 (xdF hc3) <|
zz 30 (xeT hc4) <|
zz 39 (xeF hc5) ee) (by kernel_rfl)
    ·rw [if_neg hc4] at h
     by_cases hc5 : a1 = (2 : Int)
     ·rw [if_pos hc5] at h
      by_cases hc6 : a3 = a2
      ·rw [if_pos hc6] at h
       obtain rfl := oI h; exact runF2 hm (L := lT []) ⟨[2], [], 0, 0, [], false, []⟩ (zz 7 (xdF hc1) <|
zz 13 (xdF hc2) <|
zz 20 (xdF hc3) <|
zz 30 (xeF hc4) <|
zz 33 (xeT hc5) <|
zz 41 (xeT hc6) ee) (by kernel_rfl)
      ·rw [if_neg hc6] at h
       obtain rfl := oI h; exact runF2 hm (L := lT []) ⟨[2], [], 0, 0, [], false, []⟩ (zz 7 (xdF hc1) <|
zz 13 (xdF hc2) <|
zz 20 (xdF hc3) <|
zz 30 (xeF hc4) <|
zz 33 (xeT hc5) <|
zz 41 (xeF hc6) ee) (by kernel_rfl)
     ·rw [if_neg hc5] at h
      by_cases hc6 : a1 = (4 : Int)
      ·rw [if_pos hc6] at h
       by_cases hc7 : a3 = a2
       ·rw [if_pos hc7] at h
        by_cases hc8 : a4 = a2
        ·rw [if_pos hc8] at h
         by_cases hc9 : (a6.l.length : Int) = (0 : Int)
         ·rw [if_pos hc9] at h
          obtain rfl := oI h; exact runF2 hm (L := lT []) ⟨[2], [], 0, 0, [], false, []⟩ (zz 7 (xdF hc1) <|
zz 13 (xdF hc2) <|
zz 20 (xdF hc3) <|
zz 30 (xeF hc4) <|
zz 33 (xeF hc5) <|
zz 37 (xeT hc6) <|
zz 45 (xeT hc7) <|
zz 51 (xeT hc8) <|
zz 57 (xeT hc9) ee) (by kernel_rfl)
         ·rw [if_neg hc9] at h
          obtain rfl := oI h; exact runF2 hm (L := lT []) ⟨[2], [], 0, 0, [], false, []⟩ (zz 7 (xdF hc1) <|
zz 13 (xdF hc2) <|
zz 20 (xdF hc3) <|
zz 30 (xeF hc4) <|
zz 33 (xeF hc5) <|
zz 37 (xeT hc6) <|
zz 45 (xeT hc7) <|
zz 51 (xeT hc8) <|
zz 57 (xeF hc9) ee) (by kernel_rfl)
        ·rw [if_neg hc8] at h
         obtain rfl := oI h; exact runF2 hm (L := lT []) ⟨[2], [], 0, 0, [], false, []⟩ (zz 7 (xdF hc1) <|
zz 13 (xdF hc2) <|
zz 20 (xdF hc3) <|
zz 30 (xeF hc4) <|
zz 33 (xeF hc5) <|
zz 37 (xeT hc6) <|
zz 45 (xeT hc7) <|
zz 51 (xeF hc8) ee) (by kernel_rfl)
       ·rw [if_neg hc7] at h
        obtain rfl := oI h; exact runF2 hm (L := lT []) ⟨[2], [], 0, 0, [], false, []⟩ (zz 7 (xdF hc1) <|
zz 13 (xdF hc2) <|
zz 20 (xdF hc3) <|
zz 30 (xeF hc4) <|
zz 33 (xeF hc5) <|
zz 37 (xeT hc6) <|
zz 45 (xeF hc7) ee) (by kernel_rfl)
      ·rw [if_neg hc6] at h
       by_cases hc7 : a1 = (3 : Int)
       ·rw [if_pos hc7] at h
        by_cases hc8 : a3 ≥ a2
        ·rw [if_pos hc8] at h
         by_cases hc9 : a3 ≤ a4
         ·rw [if_pos hc9] at h
          by_cases hc10 : (a6.l.length : Int) = (0 : Int)
          ·rw [if_pos hc10] at h
           obtain rfl := oI h; exact runF2 hm (L := lT []) ⟨[2], [], 0, 0, [], false, []⟩ (zz 7 (xdF hc1) <|
zz 13 (xdF hc2) <|
zz 20 (xdF hc3) <|
zz 30 (xeF hc4) <|
zz 33 (xeF hc5) <|
zz 37 (xeF hc6) <|
zz 42 (xeT hc7) <|
zz 51 (xdT hc8) <|
zz 57 (xdT hc9) <|
zz 63 (xeT hc10) ee) (by kernel_rfl)
          ·rw [if_neg hc10] at h
           obtain rfl := oI h; exact runF2 hm (L := lT []) ⟨[2], [], 0, 0, [], false, []⟩ (zz 7 (xdF hc1) <|
zz 13 (xdF hc2) <|
zz 20 (xdF hc3) <|
zz 30 (xeF hc4) <|
zz 33 (xeF hc5) <|
zz 37 (xeF hc6) <|
zz 42 (xeT hc7) <|
zz 51 (xdT hc8) <|
zz 57 (xdT hc9) <|
zz 63 (xeF hc10) ee) (by kernel_rfl)
         ·rw [if_neg hc9] at h
          obtain rfl := oI h; exact runF2 hm (L := lT []) ⟨[2], [], 0, 0, [], false, []⟩ (zz 7 (xdF hc1) <|
zz 13 (xdF hc2) <|
zz 20 (xdF hc3) <|
zz 30 (xeF hc4) <|
zz 33 (xeF hc5) <|
zz 37 (xeF hc6) <|
zz 42 (xeT hc7) <|
zz 51 (xdT hc8) <|
zz 57 (xdF hc9) ee) (by kernel_rfl)
        ·rw [if_neg hc8] at h
         obtain rfl := oI h; exact runF2 hm (L := lT []) ⟨[2], [], 0, 0, [], false, []⟩ (zz 7 (xdF hc1) <|
zz 13 (xdF hc2) <|
zz 20 (xdF hc3) <|
zz 30 (xeF hc4) <|
zz 33 (xeF hc5) <|
zz 37 (xeF hc6) <|
zz 42 (xeT hc7) <|
zz 51 (xdF hc8) ee) (by kernel_rfl)
       ·rw [if_neg hc7] at h
        by_cases hc8 : a1 = (5 : Int)
        ·rw [if_pos hc8] at h
         by_cases hc9 : a3 ≥ a2
         ·rw [if_pos hc9] at h
          by_cases hc10 : a3 ≤ a4
          ·rw [if_pos hc10] at h
           by_cases hc11 : (a6.l.length : Int) = (0 : Int)
           ·rw [if_pos hc11] at h
            obtain rfl := oI h; exact runF2 hm (L := lT []) ⟨[2], [], 0, 0, [], false, []⟩ (zz 7 (xdF hc1) <|
zz 13 (xdF hc2) <|
zz 20 (xdF hc3) <|
zz 30 (xeF hc4) <|
zz 33 (xeF hc5) <|
zz 37 (xeF hc6) <|
zz 42 (xeF hc7) <|
zz 46 (xeT hc8) <|
zz 55 (xdT hc9) <|
zz 61 (xdT hc10) <|
zz 67 (xeT hc11) ee) (by kernel_rfl)
           ·rw [if_neg hc11] at h
            obtain rfl := oI h; exact runF2 hm (L := lT []) ⟨[2], [], 0, 0, [], false, []⟩ (zz 7 (xdF hc1) <|
zz 13 (xdF hc2) <|
zz 20 (xdF hc3) <|
zz 30 (xeF hc4) <|
zz 33 (xeF hc5) <|
zz 37 (xeF hc6) <|
zz 42 (xeF hc7) <|
zz 46 (xeT hc8) <|
zz 55 (xdT hc9) <|
zz 61 (xdT hc10) <|
zz 67 (xeF hc11) ee) (by kernel_rfl)
          ·rw [if_neg hc10] at h
           obtain rfl := oI h; exact runF2 hm (L := lT []) ⟨[2], [], 0, 0, [], false, []⟩ (zz 7 (xdF hc1) <|
zz 13 (xdF hc2) <|
zz 20 (xdF hc3) <|
zz 30 (xeF hc4) <|
zz 33 (xeF hc5) <|
zz 37 (xeF hc6) <|
zz 42 (xeF hc7) <|
zz 46 (xeT hc8) <|
zz 55 (xdT hc9) <|
zz 61 (xdF hc10) ee) (by kernel_rfl)
         ·rw [if_neg hc9] at h
          obtain rfl := oI h; exact runF2 hm (L := lT []) ⟨[2], [], 0, 0, [], false, []⟩ (zz 7 (xdF hc1) <|
zz 13 (xdF hc2) <|
zz 20 (xdF hc3) <|
zz 30 (xeF hc4) <|
zz 33 (xeF hc5) <|
zz 37 (xeF hc6) <|
zz 42 (xeF hc7) <|
zz 46 (xeT hc8) <|
zz 55 (xdF hc9) ee) (by kernel_rfl)
        ·rw [if_neg hc8] at h
         by_cases hc9 : a1 = (6 : Int)
         ·rw [if_pos hc9] at h
          by_cases hc10 : a3 ≥ a2
          ·rw [if_pos hc10] at h
           by_cases hc11 : a3 ≤ a4
           ·rw [if_pos hc11] at h
            by_cases hc12 : (a6.l.length : Int) = (0 : Int)
            ·rw [if_pos hc12] at h
             obtain rfl := oI h; exact runF2 hm (L := lT []) ⟨[2], [], 0, 0, [], false, []⟩ (zz 7 (xdF hc1) <|
zz 13 (xdF hc2) <|
zz 20 (xdF hc3) <|
zz 30 (xeF hc4) <|
zz 33 (xeF hc5) <|
zz 37 (xeF hc6) <|
zz 42 (xeF hc7) <|
zz 46 (xeF hc8) <|
zz 49 (xeT hc9) <|
zz 57 (xdT hc10) <|
zz 63 (xdT hc11) <|
zz 69 (xeT hc12) ee) (by kernel_rfl)
            ·rw [if_neg hc12] at h
             obtain rfl := oI h; exact runF2 hm (L := lT []) ⟨[2], [], 0, 0, [], false, []⟩ (zz 7 (xdF hc1) <|
zz 13 (xdF hc2) <|
zz 20 (xdF hc3) <|
zz 30 (xeF hc4) <|
zz 33 (xeF hc5) <|
zz 37 (xeF hc6) <|
zz 42 (xeF hc7) <|
zz 46 (xeF hc8) <|
zz 49 (xeT hc9) <|
zz 57 (xdT hc10) <|
zz 63 (xdT hc11) <|
zz 69 (xeF hc12) ee) (by kernel_rfl)
           ·rw [if_neg hc11] at h
            obtain rfl := oI h; exact runF2 hm (L := lT []) ⟨[2], [], 0, 0, [], false, []⟩ (zz 7 (xdF hc1) <|
zz 13 (xdF hc2) <|
zz 20 (xdF hc3) <|
zz 30 (xeF hc4) <|
zz 33 (xeF hc5) <|
zz 37 (xeF hc6) <|
zz 42 (xeF hc7) <|
zz 46 (xeF hc8) <|
zz 49 (xeT hc9) <|
zz 57 (xdT hc10) <|
zz 63 (xdF hc11) ee) (by kernel_rfl)
          ·rw [if_neg hc10] at h
           obtain rfl := oI h; exact runF2 hm (L := lT []) ⟨[2], [], 0, 0, [], false, []⟩ (zz 7 (xdF hc1) <|
zz 13 (xdF hc2) <|
zz 20 (xdF hc3) <|
zz 30 (xeF hc4) <|
zz 33 (xeF hc5) <|
zz 37 (xeF hc6) <|
zz 42 (xeF hc7) <|
zz 46 (xeF hc8) <|
zz 49 (xeT hc9) <|
zz 57 (xdF hc10) ee) (by kernel_rfl)
         ·rw [if_neg hc9] at h
          obtain rfl := oI h; exact runF2 hm (L := lT []) ⟨[2], [], 0, 0, [], false, []⟩ (zz 7 (xdF hc1) <|
zz 13 (xdF hc2) <|
zz 20 (xdF hc3) <|
zz 30 (xeF hc4) <|
zz 33 (xeF hc5) <|
zz 37 (xeF hc6) <|
zz 42 (xeF hc7) <|
zz 46 (xeF hc8) <|
zz 49 (xeF hc9) ee) (by kernel_rfl)

def A_tCq1 : List Value := [(sW 0 0 (Args.A).length Args.cA)]
def H_tCq1 : AH := ⟨sB [], 0, 0⟩
def V_tCq1 (r : Int) : Value := match r with
 | o0 => (i6 o0)
def R_tCq1 (r : Int) : AH := match r with
 | o0 => ⟨sB [], 0, 0⟩
abbrev G_tCq1 (r : Int) : Prop := Gv P (.func 19) A_tCq1 H_tCq1 (V_tCq1  r) (R_tCq1  r)
abbrev C_tCq1 (r : Int) (ins outs : BL) : CallA := ⟨0, ins, V_tCq1  r, R_tCq1  r, outs⟩
def S_tCq1_1 (x1_0 : Int) (st : Int) : XSt := match st with
 | x1_1 => (sT 36 [(16, (sW 0 0 (Args.A).length Args.cA)), (17, (i6 x1_0)), (18, (i6 x1_1))], [], ⟨sB [], 0, 0⟩)
def X_tCq1_1 (x1_0 : Int) (r : (Unit) ⊕ (Unit)) : Ex × XSt := match r with
 | .inl _ => (.ret, (sT 36 [(2, (i6 (2 : Int)))], [], ⟨sB [], 0, 0⟩))
 | .inr _ => (.exit 0, (sT 36 [], [], ⟨sB [], 0, 0⟩))
abbrev Q_tCq1_1 (rnd : Option Nat) (x1_0 : Int) (st : Int) (c : Ex × XSt) : Prop := CG P rnd (fnN P 19) 0 (codeOf P 19 [false, false, true, false, true, true, true]) (S_tCq1_1 x1_0 st) c
abbrev U_tCq1_1 (rd : Option Nat) (x1_0 : Int) (st : Int) (r : (Unit) ⊕ (Unit)) : Prop := CG P rd (fnN P 19) 0 (codeOf P 19 [false, true, false, true, true, true]) (S_tCq1_1 x1_0 st) (X_tCq1_1 x1_0 r)
def B_tCq1_1 (n : Nat) (x1_0 : Int) (st : Int) : Option ((Int) ⊕ ((Unit) ⊕ (Unit))) := match st with
 | x1_1 =>
  if x1_1 < x1_0 then
   if 0 ≤ x1_1 ∧ x1_1 < (Args.A.length : Int) then
    ((some ((Args.A).getD (x1_1).toNat (0, 0, 0, 0, 0, 0, nl0, 0)))).bind fun y1_3_ =>
    (m_soq1 n (y1_3_.1) (y1_3_.2.1) (y1_3_.2.2.1) (y1_3_.2.2.2.1) (y1_3_.2.2.2.2.1) (y1_3_.2.2.2.2.2.1) (y1_3_.2.2.2.2.2.2.1) (y1_3_.2.2.2.2.2.2.2)).bind fun y1_4_ =>
    if y1_4_ = true then
     if (y1_3_.2.1) = (1 : Int) then
      if x1_1 > (0 : Int) then
       some (.inr (.inl ()))
      else
       some (.inl (w64 (x1_1 + (1 : Int))))
     else
      some (.inl (w64 (x1_1 + (1 : Int))))
    else
     some (.inr (.inl ()))
   else none
  else
   some (.inr (.inr ()))
def m_tCq1_1 (n : Nat) (x1_0 : Int) (st : Int) : Option ((Unit) ⊕ (Unit)) := iterM (B_tCq1_1 n x1_0) n st
theorem q_tCq1_1_0 (n : Nat) {rnd : Option Nat} (x1_0 x1_1 : Int) (hy1_1 : x1_1 < x1_0) (hy1_2 : 0 ≤ x1_1 ∧ x1_1 < (Args.A.length : Int)) (y1_3_ : R8) (hy1_3 : (some ((Args.A).getD (x1_1).toNat (0, 0, 0, 0, 0, 0, nl0, 0))) = some y1_3_) (y1_4_ : Bool) (hy1_4 : m_soq1 n (y1_3_.1) (y1_3_.2.1) (y1_3_.2.2.1) (y1_3_.2.2.2.1) (y1_3_.2.2.2.2.1) (y1_3_.2.2.2.2.2.1) (y1_3_.2.2.2.2.2.2.1) (y1_3_.2.2.2.2.2.2.2) = some y1_4_) (hy1_5 : y1_4_ = true) (hy1_6 : (y1_3_.2.1) = (1 : Int)) (hy1_7 : x1_1 > (0 : Int)) : Q_tCq1_1 rnd x1_0 x1_1 (X_tCq1_1 x1_0 (.inl ())) :=
 runC2 hm (L := lT []) ⟨[2], [], 0, 0, [], false, []⟩ (zz 1 (xdT hy1_1) <|
zz 8 (xk1 0 Args.cA hy1_2) <|
zz 9 (lk2 hy1_3 (toNatLt hy1_2)) <|
yy 15 (.call (C_soq1 (y1_3_.1) (y1_3_.2.1) (y1_3_.2.2.1) (y1_3_.2.2.2.1) (y1_3_.2.2.2.2.1) (y1_3_.2.2.2.2.2.1) (y1_3_.2.2.2.2.2.2.1) (y1_3_.2.2.2.2.2.2.2) y1_4_ [] [])) <|
ww (m_soq1_ok n (y1_3_.1) (y1_3_.2.1) (y1_3_.2.2.1) (y1_3_.2.2.2.1) (y1_3_.2.2.2.2.1) (y1_3_.2.2.2.2.2.1) (y1_3_.2.2.2.2.2.2.1) (y1_3_.2.2.2.2.2.2.2) y1_4_ hy1_4) <|
yy 16 (vf) <|
ww (p := (Value.bool (!y1_4_)) = (Value.bool false)) (vBn hy1_5) <|
zz 20 (xeT hy1_6) <|
zz 23 (xdT hy1_7) <|
ee) (by kernel_rfl)
theorem q_tCq1_1_1 (n : Nat) {rnd : Option Nat} (x1_0 x1_1 : Int) (hy1_1 : x1_1 < x1_0) (hy1_2 : 0 ≤ x1_1 ∧ x1_1 < (Args.A.length : Int)) (y1_3_ : R8) (hy1_3 : (some ((Args.A).getD (x1_1).toNat (0, 0, 0, 0, 0, 0, nl0, 0))) = some y1_3_) (y1_4_ : Bool) (hy1_4 : m_soq1 n (y1_3_.1) (y1_3_.2.1) (y1_3_.2.2.1) (y1_3_.2.2.2.1) (y1_3_.2.2.2.2.1) (y1_3_.2.2.2.2.2.1) (y1_3_.2.2.2.2.2.2.1) (y1_3_.2.2.2.2.2.2.2) = some y1_4_) (hy1_5 : y1_4_ = true) (hy1_6 : (y1_3_.2.1) = (1 : Int)) (hy1_7 : ¬ (x1_1 > (0 : Int))) : Q_tCq1_1 rnd x1_0 x1_1 (.normal, S_tCq1_1 x1_0 (w64 (x1_1 + (1 : Int)))) :=
 runC2 hm (L := lT []) ⟨[16, 17, 18], [], 0, 0, [], false, []⟩ (zz 1 (xdT hy1_1) <|
zz 8 (xk1 0 Args.cA hy1_2) <|
zz 9 (lk2 hy1_3 (toNatLt hy1_2)) <|
yy 15 (.call (C_soq1 (y1_3_.1) (y1_3_.2.1) (y1_3_.2.2.1) (y1_3_.2.2.2.1) (y1_3_.2.2.2.2.1) (y1_3_.2.2.2.2.2.1) (y1_3_.2.2.2.2.2.2.1) (y1_3_.2.2.2.2.2.2.2) y1_4_ [] [])) <|
ww (m_soq1_ok n (y1_3_.1) (y1_3_.2.1) (y1_3_.2.2.1) (y1_3_.2.2.2.1) (y1_3_.2.2.2.2.1) (y1_3_.2.2.2.2.2.1) (y1_3_.2.2.2.2.2.2.1) (y1_3_.2.2.2.2.2.2.2) y1_4_ hy1_4) <|
yy 16 (vf) <|
ww (p := (Value.bool (!y1_4_)) = (Value.bool false)) (vBn hy1_5) <|
zz 20 (xeT hy1_6) <|
zz 23 (xdF hy1_7) <|
ee) (by kernel_rfl)
theorem q_tCq1_1_2 (n : Nat) {rnd : Option Nat} (x1_0 x1_1 : Int) (hy1_1 : x1_1 < x1_0) (hy1_2 : 0 ≤ x1_1 ∧ x1_1 < (Args.A.length : Int)) (y1_3_ : R8) (hy1_3 : (some ((Args.A).getD (x1_1).toNat (0, 0, 0, 0, 0, 0, nl0, 0))) = some y1_3_) (y1_4_ : Bool) (hy1_4 : m_soq1 n (y1_3_.1) (y1_3_.2.1) (y1_3_.2.2.1) (y1_3_.2.2.2.1) (y1_3_.2.2.2.2.1) (y1_3_.2.2.2.2.2.1) (y1_3_.2.2.2.2.2.2.1) (y1_3_.2.2.2.2.2.2.2) = some y1_4_) (hy1_5 : y1_4_ = true) (hy1_6 : ¬ ((y1_3_.2.1) = (1 : Int))) : Q_tCq1_1 rnd x1_0 x1_1 (.normal, S_tCq1_1 x1_0 (w64 (x1_1 + (1 : Int)))) :=
 runC2 hm (L := lT []) ⟨[16, 17, 18], [], 0, 0, [], false, []⟩ (zz 1 (xdT hy1_1) <|
zz 8 (xk1 0 Args.cA hy1_2) <|
zz 9 (lk2 hy1_3 (toNatLt hy1_2)) <|
yy 15 (.call (C_soq1 (y1_3_.1) (y1_3_.2.1) (y1_3_.2.2.1) (y1_3_.2.2.2.1) (y1_3_.2.2.2.2.1) (y1_3_.2.2.2.2.2.1) (y1_3_.2.2.2.2.2.2.1) (y1_3_.2.2.2.2.2.2.2) y1_4_ [] [])) <|
ww (m_soq1_ok n (y1_3_.1) (y1_3_.2.1) (y1_3_.2.2.1) (y1_3_.2.2.2.1) (y1_3_.2.2.2.2.1) (y1_3_.2.2.2.2.2.1) (y1_3_.2.2.2.2.2.2.1) (y1_3_.2.2.2.2.2.2.2) y1_4_ hy1_4) <|
yy 16 (vf) <|
ww (p := (Value.bool (!y1_4_)) = (Value.bool false)) (vBn hy1_5) <|
zz 20 (xeF hy1_6) <|
ee) (by kernel_rfl)
theorem q_tCq1_1_3 (n : Nat) {rnd : Option Nat} (x1_0 x1_1 : Int) (hy1_1 : x1_1 < x1_0) (hy1_2 : 0 ≤ x1_1 ∧ x1_1 < (Args.A.length : Int)) (y1_3_ : R8) (hy1_3 : (some ((Args.A).getD (x1_1).toNat (0, 0, 0, 0, 0, 0, nl0, 0))) = some y1_3_) (y1_4_ : Bool) (hy1_4 : m_soq1 n (y1_3_.1) (y1_3_.2.1) (y1_3_.2.2.1) (y1_3_.2.2.2.1) (y1_3_.2.2.2.2.1) (y1_3_.2.2.2.2.2.1) (y1_3_.2.2.2.2.2.2.1) (y1_3_.2.2.2.2.2.2.2) = some y1_4_) (hy1_5 : ¬ (y1_4_ = true)) : Q_tCq1_1 rnd x1_0 x1_1 (X_tCq1_1 x1_0 (.inl ())) :=
 runC2 hm (L := lT []) ⟨[2], [], 0, 0, [], false, []⟩ (zz 1 (xdT hy1_1) <|
zz 8 (xk1 0 Args.cA hy1_2) <|
zz 9 (lk2 hy1_3 (toNatLt hy1_2)) <|
yy 15 (.call (C_soq1 (y1_3_.1) (y1_3_.2.1) (y1_3_.2.2.1) (y1_3_.2.2.2.1) (y1_3_.2.2.2.2.1) (y1_3_.2.2.2.2.2.1) (y1_3_.2.2.2.2.2.2.1) (y1_3_.2.2.2.2.2.2.2) y1_4_ [] [])) <|
ww (m_soq1_ok n (y1_3_.1) (y1_3_.2.1) (y1_3_.2.2.1) (y1_3_.2.2.2.1) (y1_3_.2.2.2.2.1) (y1_3_.2.2.2.2.2.1) (y1_3_.2.2.2.2.2.2.1) (y1_3_.2.2.2.2.2.2.2) y1_4_ hy1_4) <|
yy 16 (vt) <|
ww (p := (Value.bool (!y1_4_)) = (Value.bool true)) (vBn (Bool.eq_false_iff.2 hy1_5)) <|
ee) (by kernel_rfl)
theorem q_tCq1_1_4 (n : Nat) {rnd : Option Nat} (x1_0 x1_1 : Int) (hy1_1 : ¬ (x1_1 < x1_0)) : Q_tCq1_1 rnd x1_0 x1_1 (X_tCq1_1 x1_0 (.inr ())) :=
 runC2 hm (L := lT []) ⟨[], [], 0, 0, [], false, []⟩ (zz 1 (xdF hy1_1) <|
ee) (by kernel_rfl)
theorem m_tCq1_1_ok (n : Nat) {rnd : Option Nat} (x1_0 : Int) (st : Int) (r : (Unit) ⊕ (Unit)) (h : m_tCq1_1 n x1_0 st = some r) : CG P rnd (fnN P 19) 0 (codeOf P 19 [false, true, false, true, true, true]) (S_tCq1_1 x1_0 st) (X_tCq1_1 x1_0 r) :=
 CG.iter (b := codeOf P 19 [false, false, true, false, true, true, true]) (by kernel_rfl) (body := B_tCq1_1 n x1_0) (S := S_tCq1_1 x1_0) (X := X_tCq1_1 x1_0)
  (fun x1_1 s' h => by
  unfold B_tCq1_1 at h
  dsimp only at h
  by_cases hy1_1 : x1_1 < x1_0
  ·rw [if_pos hy1_1] at h
   by_cases hy1_2 : 0 ≤ x1_1 ∧ x1_1 < (Args.A.length : Int)
   ·rw [if_pos hy1_2] at h
    obtain ⟨y1_3_, hy1_3, h⟩ := Option.bind_eq_some_iff.1 h
    obtain ⟨y1_4_, hy1_4, h⟩ := Option.bind_eq_some_iff.1 h
    by_cases hy1_5 : y1_4_ = true
    ·rw [if_pos hy1_5] at h
     by_cases hy1_6 : (y1_3_.2.1) = (1 : Int)
     ·rw [if_pos hy1_6] at h
      by_cases hy1_7 : x1_1 > (0 : Int)
      ·rw [if_pos hy1_7] at h
       cases h
      ·rw [if_neg hy1_7] at h
       obtain rfl := Sum.inl.inj (oI h); exact q_tCq1_1_1 n x1_0 x1_1 hy1_1 hy1_2 y1_3_ hy1_3 y1_4_ hy1_4 hy1_5 hy1_6 hy1_7
     ·rw [if_neg hy1_6] at h
      obtain rfl := Sum.inl.inj (oI h); exact q_tCq1_1_2 n x1_0 x1_1 hy1_1 hy1_2 y1_3_ hy1_3 y1_4_ hy1_4 hy1_5 hy1_6
    ·rw [if_neg hy1_5] at h
     cases h
   ·rw [if_neg hy1_2] at h; cases h
  ·rw [if_neg hy1_1] at h
   cases h)
  (fun x1_1 r h => by
  unfold B_tCq1_1 at h
  dsimp only at h
  by_cases hy1_1 : x1_1 < x1_0
  ·rw [if_pos hy1_1] at h
   by_cases hy1_2 : 0 ≤ x1_1 ∧ x1_1 < (Args.A.length : Int)
   ·rw [if_pos hy1_2] at h
    obtain ⟨y1_3_, hy1_3, h⟩ := Option.bind_eq_some_iff.1 h
    obtain ⟨y1_4_, hy1_4, h⟩ := Option.bind_eq_some_iff.1 h
    by_cases hy1_5 : y1_4_ = true
    ·rw [if_pos hy1_5] at h
     by_cases hy1_6 : (y1_3_.2.1) = (1 : Int)
     ·rw [if_pos hy1_6] at h
      by_cases hy1_7 : x1_1 > (0 : Int)
      ·rw [if_pos hy1_7] at h
       obtain rfl := Sum.inr.inj (oI h); exact q_tCq1_1_0 n x1_0 x1_1 hy1_1 hy1_2 y1_3_ hy1_3 y1_4_ hy1_4 hy1_5 hy1_6 hy1_7
      ·rw [if_neg hy1_7] at h
       cases h
     ·rw [if_neg hy1_6] at h
      cases h
    ·rw [if_neg hy1_5] at h
     obtain rfl := Sum.inr.inj (oI h); exact q_tCq1_1_3 n x1_0 x1_1 hy1_1 hy1_2 y1_3_ hy1_3 y1_4_ hy1_4 hy1_5
   ·rw [if_neg hy1_2] at h; cases h
  ·rw [if_neg hy1_1] at h
   obtain rfl := Sum.inr.inj (oI h); exact q_tCq1_1_4 n x1_0 x1_1 hy1_1)
  (fun r => by intro hx; rcases r with _ | _ <;> cases hx) h
def m_tCq1 (n : Nat) : Option (Int) :=
 if (Args.A.length : Int) > (524288 : Int) then
  some 3
 else
  if (Args.A.length : Int) = (0 : Int) then
   some 2
  else
   (m_iOq1 n).bind fun c3_ =>
   if c3_ = true then
    match m_tCq1_1 n (Args.A.length : Int) 0 with
    | none => none
    | some (.inl _) =>
     some 2
    | some (.inr _) =>
     some 0
   else
    some 2
theorem m_tCq1_ok (n : Nat) (r : Int) (h : m_tCq1 n = some r) : Gv P (.func 19) A_tCq1 H_tCq1 (V_tCq1  r) (R_tCq1  r) := by
 unfold m_tCq1 at h
 by_cases hc1 : (Args.A.length : Int) > (524288 : Int)
 ·rw [if_pos hc1] at h
  obtain rfl := oI h; exact runF2 hm (L := lT []) ⟨[2], [], 0, 0, [], false, []⟩ (zz 6 (xdT hc1) ee) (by kernel_rfl)
 ·rw [if_neg hc1] at h
  by_cases hc2 : (Args.A.length : Int) = (0 : Int)
  ·rw [if_pos hc2] at h
   obtain rfl := oI h; exact runF2 hm (L := lT []) ⟨[2], [], 0, 0, [], false, []⟩ (zz 6 (xdF hc1) <|
zz 12 (xeT hc2) ee) (by kernel_rfl)
  ·rw [if_neg hc2] at h
   obtain ⟨c3_, hc3, h⟩ := Option.bind_eq_some_iff.1 h
   by_cases hc4 : c3_ = true
   ·rw [if_pos hc4] at h
    rcases hc5 : m_tCq1_1 n (Args.A.length : Int) 0 with _ | (⟨⟩ | ⟨⟩)
    ·rw [hc5] at h; cases h
    ·rw [hc5] at h
     dsimp only at h
     obtain rfl := oI h; exact runF2 hm (L := lT [(25, ⟨⟨[16, 17, 18], [], 0, 0, [], false, []⟩, (X_tCq1_1 (Args.A.length : Int) (.inl ())).1, (X_tCq1_1 (Args.A.length : Int) (.inl ())).2⟩)]) ⟨[2], [], 0, 0, [], false, []⟩ (zz 6 (xdF hc1) <|
zz 12 (xeF hc2) <|
yy 15 (.call (C_iOq1  c3_ [] [])) <|
ww (m_iOq1_ok n  c3_ hc3) <|
yy 16 (vf) <|
ww (p := (Value.bool (!c3_)) = (Value.bool false)) (vBn hc4) <|
ww (p := U_tCq1_1 none (Args.A.length : Int) 0 (.inl ())) (m_tCq1_1_ok n (Args.A.length : Int) 0 (.inl ()) hc5) ee) (by kernel_rfl)
    ·rw [hc5] at h
     dsimp only at h
     obtain rfl := oI h; exact runF2 hm (L := lT [(25, ⟨⟨[16, 17, 18], [], 0, 0, [], false, []⟩, (X_tCq1_1 (Args.A.length : Int) (.inr ())).1, (X_tCq1_1 (Args.A.length : Int) (.inr ())).2⟩)]) ⟨[2], [], 0, 0, [], false, []⟩ (zz 6 (xdF hc1) <|
zz 12 (xeF hc2) <|
yy 15 (.call (C_iOq1  c3_ [] [])) <|
ww (m_iOq1_ok n  c3_ hc3) <|
yy 16 (vf) <|
ww (p := (Value.bool (!c3_)) = (Value.bool false)) (vBn hc4) <|
ww (p := U_tCq1_1 none (Args.A.length : Int) 0 (.inr ())) (m_tCq1_1_ok n (Args.A.length : Int) 0 (.inr ()) hc5) ee) (by kernel_rfl)
   ·rw [if_neg hc4] at h
    obtain rfl := oI h; exact runF2 hm (L := lT []) ⟨[2], [], 0, 0, [], false, []⟩ (zz 6 (xdF hc1) <|
zz 12 (xeF hc2) <|
yy 15 (.call (C_iOq1  c3_ [] [])) <|
ww (m_iOq1_ok n  c3_ hc3) <|
yy 16 (vt) <|
ww (p := (Value.bool (!c3_)) = (Value.bool true)) (vBn (Bool.eq_false_iff.2 hc4)) ee) (by kernel_rfl)

def A_plq1 (a0 : Int) : List Value := [(sW 0 0 (Args.A).length Args.cA), (i6 a0)]
def H_plq1 (a0 : Int) : AH := ⟨sB [], 0, 0⟩
def V_plq1 (a0 : Int) (r : Unit) : Value := match r with
 | _ => (Value.func (.func 40) #[] #[(pN 0 0), (pN 1 0)])
def R_plq1 (a0 : Int) (r : Unit) : AH := match r with
 | _ => ⟨sB [(0, (some (.cells (layT [(sW 0 0 (Args.A).length Args.cA)]) 22))), (1, (some (.cells (layT [(i6 a0)]) 3)))], 2, 0⟩
abbrev G_plq1 (a0 : Int) (r : Unit) : Prop := Gv P (.func 26) (A_plq1 a0) (H_plq1 a0) (V_plq1 a0 r) (R_plq1 a0 r)
abbrev C_plq1 (a0 : Int) (r : Unit) (ins outs : BL) : CallA := ⟨0, ins, V_plq1 a0 r, R_plq1 a0 r, outs⟩
def m_plq1 (n : Nat) (a0 : Int) : Option (Unit) :=
 some ()
theorem m_plq1_ok (n : Nat) (a0 : Int) (r : Unit) (h : m_plq1 n a0 = some r) : Gv P (.func 26) (A_plq1 a0) (H_plq1 a0) (V_plq1 a0 r) (R_plq1 a0 r) := by
 unfold m_plq1 at h
 obtain rfl := oI h; exact runF2 hm (L := lT []) ⟨[4], [(0, 0, false), (1, 1, false)], 2, 0, [], false, []⟩ (ee) (by kernel_rfl)

def A_pIq1 (a0 : Int) (a1 : Int) (a2 : Int) (a3 : Int) (a4 : Int) (a5 : Int) (a6 : NL) (a7 : Int) : List Value := [(Value.agg #[(i6 a0), (i6 a1), (i6 a2), (i6 a3), (i6 a4), (i6 a5), (nlV a6), (Value.int .u64 a7)])]
def H_pIq1 (a0 : Int) (a1 : Int) (a2 : Int) (a3 : Int) (a4 : Int) (a5 : Int) (a6 : NL) (a7 : Int) : AH := ⟨sB [], 0, 0⟩
def V_pIq1 (a0 : Int) (a1 : Int) (a2 : Int) (a3 : Int) (a4 : Int) (a5 : Int) (a6 : NL) (a7 : Int) (r : Bool) : Value := match r with
 | o0 => (bO o0)
def R_pIq1 (a0 : Int) (a1 : Int) (a2 : Int) (a3 : Int) (a4 : Int) (a5 : Int) (a6 : NL) (a7 : Int) (r : Bool) : AH := match r with
 | o0 => ⟨sB [], 0, 0⟩
abbrev G_pIq1 (a0 : Int) (a1 : Int) (a2 : Int) (a3 : Int) (a4 : Int) (a5 : Int) (a6 : NL) (a7 : Int) (r : Bool) : Prop := Gv P (.func 27) (A_pIq1 a0 a1 a2 a3 a4 a5 a6 a7) (H_pIq1 a0 a1 a2 a3 a4 a5 a6 a7) (V_pIq1 a0 a1 a2 a3 a4 a5 a6 a7 r) (R_pIq1 a0 a1 a2 a3 a4 a5 a6 a7 r)
abbrev C_pIq1 (a0 : Int) (a1 : Int) (a2 : Int) (a3 : Int) (a4 : Int) (a5 : Int) (a6 : NL) (a7 : Int) (r : Bool) (ins outs : BL) : CallA := ⟨0, ins, V_pIq1 a0 a1 a2 a3 a4 a5 a6 a7 r, R_pIq1 a0 a1 a2 a3 a4 a5 a6 a7 r, outs⟩
def m_pIq1 (n : Nat) (a0 : Int) (a1 : Int) (a2 : Int) (a3 : Int) (a4 : Int) (a5 : Int) (a6 : NL) (a7 : Int) : Option (Bool) :=
 if a1 = (1 : Int) then
  some true
 else
  if a1 = (2 : Int) then
   some true
  else
   some false
theorem m_pIq1_ok (n : Nat) (a0 : Int) (a1 : Int) (a2 : Int) (a3 : Int) (a4 : Int) (a5 : Int) (a6 : NL) (a7 : Int) (r : Bool) (h : m_pIq1 n a0 a1 a2 a3 a4 a5 a6 a7 = some r) : Gv P (.func 27) (A_pIq1 a0 a1 a2 a3 a4 a5 a6 a7) (H_pIq1 a0 a1 a2 a3 a4 a5 a6 a7) (V_pIq1 a0 a1 a2 a3 a4 a5 a6 a7 r) (R_pIq1 a0 a1 a2 a3 a4 a5 a6 a7 r) := by
 unfold m_pIq1 at h
 by_cases hc1 : a1 = (1 : Int)
 ·rw [if_pos hc1] at h
  obtain rfl := oI h; exact runF2 hm (L := lT []) ⟨[2], [], 0, 0, [], false, []⟩ (zz 6 (xeT hc1) ee) (by kernel_rfl)
 ·rw [if_neg hc1] at h
  by_cases hc2 : a1 = (2 : Int)
  ·rw [if_pos hc2] at h
   obtain rfl := oI h; exact runF2 hm (L := lT []) ⟨[2], [], 0, 0, [], false, []⟩ (zz 6 (xeF hc1) <|
zz 10 (xeT hc2) ee) (by kernel_rfl)
  ·rw [if_neg hc2] at h
   obtain rfl := oI h; exact runF2 hm (L := lT []) ⟨[2], [], 0, 0, [], false, []⟩ (zz 6 (xeF hc1) <|
zz 10 (xeF hc2) ee) (by kernel_rfl)

def A_treeFind_11010y1 (a0 : Int) (a1 : Int) (a2 : Int) (a3 : Bool) (a4 : Int) (a5 : Int) : List Value := [(i6 a5)]
def H_treeFind_11010y1 (a0 : Int) (a1 : Int) (a2 : Int) (a3 : Bool) (a4 : Int) (a5 : Int) : AH := ⟨sB [(0, (some (rblk P 15 [false, true, false, true, true] .ready none [(3, (pN 2 0)), (4, (pN 3 0)), (5, (pN 4 0)), (6, (pN 5 0)), (7, (pN 6 0)), (14, (Value.func (.func 40) #[] #[(pN 7 0), (pN 8 0)]))] 1))), (1, (some (.marks true))), (2, (some (.cells (layT [(sW 0 0 (Args.A).length Args.cA)]) 22))), (3, (some (.cells (layT [(i6 a0)]) 3))), (4, (some (.cells (layT [(i6 a1)]) 3))), (5, (some (.cells (layT [(i6 a2)]) 3))), (6, (some (.cells (layT [(bO a3)]) 4))), (7, (some (.cells (layT [(sW 0 0 (Args.A).length Args.cA)]) 22))), (8, (some (.cells (layT [(i6 a4)]) 3)))], 9, 9⟩
def V_treeFind_11010y1 (a0 : Int) (a1 : Int) (a2 : Int) (a3 : Bool) (a4 : Int) (a5 : Int) (r : (Unit) ⊕ (Unit)) : Value := match r with
 | .inl _ => (bO false)
 | .inr _ => (bO true)
def R_treeFind_11010y1 (a0 : Int) (a1 : Int) (a2 : Int) (a3 : Bool) (a4 : Int) (a5 : Int) (r : (Unit) ⊕ (Unit)) : AH := match r with
 | .inl _ => ⟨sB [(0, (some (rblk P 15 [false, true, false, true, true] .done (some .ret) [(3, (pN 2 0)), (4, (pN 3 0)), (5, (pN 4 0)), (6, (pN 5 0)), (7, (pN 6 0)), (14, (Value.func (.func 40) #[] #[(pN 7 0), (pN 8 0)]))] 1))), (1, (some (.marks true))), (2, (some (.cells (layT [(sW 0 0 (Args.A).length Args.cA)]) 22))), (3, (some (.cells (layT [(i6 a0)]) 3))), (4, (some (.cells (layT [(i6 a1)]) 3))), (5, (some (.cells (layT [(i6 a5)]) 3))), (6, (some (.cells (layT [(bO true)]) 4))), (7, (some (.cells (layT [(sW 0 0 (Args.A).length Args.cA)]) 22))), (8, (some (.cells (layT [(i6 a4)]) 3)))], 9, 0⟩
 | .inr _ => ⟨sB [(0, (some (rblk P 15 [false, true, false, true, true] .ready none [(3, (pN 2 0)), (4, (pN 3 0)), (5, (pN 4 0)), (6, (pN 5 0)), (7, (pN 6 0)), (14, (Value.func (.func 40) #[] #[(pN 7 0), (pN 8 0)]))] 1))), (1, (some (.marks true))), (2, (some (.cells (layT [(sW 0 0 (Args.A).length Args.cA)]) 22))), (3, (some (.cells (layT [(i6 a0)]) 3))), (4, (some (.cells (layT [(i6 a1)]) 3))), (5, (some (.cells (layT [(i6 a2)]) 3))), (6, (some (.cells (layT [(bO a3)]) 4))), (7, (some (.cells (layT [(sW 0 0 (Args.A).length Args.cA)]) 22))), (8, (some (.cells (layT [(i6 a4)]) 3)))], 9, 0⟩
abbrev G_treeFind_11010y1 (a0 : Int) (a1 : Int) (a2 : Int) (a3 : Bool) (a4 : Int) (a5 : Int) (r : (Unit) ⊕ (Unit)) : Prop := Gv P (.yield 0) (A_treeFind_11010y1 a0 a1 a2 a3 a4 a5) (H_treeFind_11010y1 a0 a1 a2 a3 a4 a5) (V_treeFind_11010y1 a0 a1 a2 a3 a4 a5 r) (R_treeFind_11010y1 a0 a1 a2 a3 a4 a5 r)
abbrev C_treeFind_11010y1 (a0 : Int) (a1 : Int) (a2 : Int) (a3 : Bool) (a4 : Int) (a5 : Int) (r : (Unit) ⊕ (Unit)) (ins outs : BL) : CallA := ⟨9, ins, V_treeFind_11010y1 a0 a1 a2 a3 a4 a5 r, R_treeFind_11010y1 a0 a1 a2 a3 a4 a5 r, outs⟩
def m_treeFind_11010y1 (n : Nat) (a0 : Int) (a1 : Int) (a2 : Int) (a3 : Bool) (a4 : Int) (a5 : Int) : Option ((Unit) ⊕ (Unit)) :=
 if 0 ≤ a5 ∧ a5 < (Args.A.length : Int) then
  ((some ((Args.A).getD (a5).toNat (0, 0, 0, 0, 0, 0, nl0, 0)))).bind fun c2_ =>
  (m_pIq1 n (c2_.1) (c2_.2.1) (c2_.2.2.1) (c2_.2.2.2.1) (c2_.2.2.2.2.1) (c2_.2.2.2.2.2.1) (c2_.2.2.2.2.2.2.1) (c2_.2.2.2.2.2.2.2)).bind fun c3_ =>
  if c3_ = true then
   if (c2_.1) = a0 then
    if (c2_.2.2.1) = a1 then
     some (.inl ())
    else
     some (.inr ())
   else
    some (.inr ())
  else
   some (.inr ())
 else none
theorem m_treeFind_11010y1_ok (n : Nat) (a0 : Int) (a1 : Int) (a2 : Int) (a3 : Bool) (a4 : Int) (a5 : Int) (r : (Unit) ⊕ (Unit)) (h : m_treeFind_11010y1 n a0 a1 a2 a3 a4 a5 = some r) : Gv P (.yield 0) (A_treeFind_11010y1 a0 a1 a2 a3 a4 a5) (H_treeFind_11010y1 a0 a1 a2 a3 a4 a5) (V_treeFind_11010y1 a0 a1 a2 a3 a4 a5 r) (R_treeFind_11010y1 a0 a1 a2 a3 a4 a5 r) := by
 unfold m_treeFind_11010y1 at h
 by_cases hc1 : 0 ≤ a5 ∧ a5 < (Args.A.length : Int)
 ·rw [if_pos hc1] at h
  obtain ⟨c2_, hc2, h⟩ := Option.bind_eq_some_iff.1 h
  obtain ⟨c3_, hc3, h⟩ := Option.bind_eq_some_iff.1 h
  by_cases hc4 : c3_ = true
  ·rw [if_pos hc4] at h
   by_cases hc5 : (c2_.1) = a0
   ·rw [if_pos hc5] at h
    by_cases hc6 : (c2_.2.2.1) = a1
    ·rw [if_pos hc6] at h
     obtain rfl := oI h; exact runY_ok hm (A1 := aT []) (L1 := lT []) (A2 := aT [(4, .pur (pW 0 ((a5).toNat * 8))), (5, .ld (Value.agg #[(i6 (c2_.1)), (i6 (c2_.2.1)), (i6 (c2_.2.2.1)), (i6 (c2_.2.2.2.1)), (i6 (c2_.2.2.2.2.1)), (i6 (c2_.2.2.2.2.2.1)), (nlV (c2_.2.2.2.2.2.2.1)), (Value.int .u64 (c2_.2.2.2.2.2.2.2))])), (10, .call (C_pIq1 (c2_.1) (c2_.2.1) (c2_.2.2.1) (c2_.2.2.2.1) (c2_.2.2.2.2.1) (c2_.2.2.2.2.2.1) (c2_.2.2.2.2.2.2.1) (c2_.2.2.2.2.2.2.2) c3_ [] [])), (11, vt), (15, vt), (21, vt)]) (L2 := lT []) (wk := ⟨[], [(0, 0, false), (1, 1, false), (2, 2, false), (3, 3, false), (4, 4, false), (5, 5, false), (6, 6, false), (7, 7, false), (8, 8, false)], 9, 0, [], false, []⟩) (ps := [xp1 0 (Args.A).length Args.cA a5, lp2 (a5).toNat c2_, G_pIq1 (c2_.1) (c2_.2.1) (c2_.2.2.1) (c2_.2.2.2.1) (c2_.2.2.2.2.1) (c2_.2.2.2.2.2.1) (c2_.2.2.2.2.2.2.1) (c2_.2.2.2.2.2.2.2) c3_, bT c3_, eT (c2_.1) a0, eT (c2_.2.2.1) a1]) (by kernel_rfl) ⟨((xk1 0 Args.cA hc1).p), ((lk2 hc2 (toNatLt hc1)).p), (m_pIq1_ok n (c2_.1) (c2_.2.1) (c2_.2.2.1) (c2_.2.2.2.1) (c2_.2.2.2.2.1) (c2_.2.2.2.2.2.1) (c2_.2.2.2.2.2.2.1) (c2_.2.2.2.2.2.2.2) c3_ hc3), ((xbT hc4).p), ((xeT hc5).p), ((xeT hc6).p), trivial⟩
    ·rw [if_neg hc6] at h
     obtain rfl := oI h; exact runY_ok hm (A1 := aT []) (L1 := lT []) (A2 := aT [(4, .pur (pW 0 ((a5).toNat * 8))), (5, .ld (Value.agg #[(i6 (c2_.1)), (i6 (c2_.2.1)), (i6 (c2_.2.2.1)), (i6 (c2_.2.2.2.1)), (i6 (c2_.2.2.2.2.1)), (i6 (c2_.2.2.2.2.2.1)), (nlV (c2_.2.2.2.2.2.2.1)), (Value.int .u64 (c2_.2.2.2.2.2.2.2))])), (10, .call (C_pIq1 (c2_.1) (c2_.2.1) (c2_.2.2.1) (c2_.2.2.2.1) (c2_.2.2.2.2.1) (c2_.2.2.2.2.2.1) (c2_.2.2.2.2.2.2.1) (c2_.2.2.2.2.2.2.2) c3_ [] [])), (11, vt), (15, vt), (21, vf)]) (L2 := lT []) (wk := ⟨[], [(0, 0, false), (1, 1, false), (2, 2, false), (3, 3, false), (4, 4, false), (5, 5, false), (6, 6, false), (7, 7, false), (8, 8, false)], 9, 0, [], false, []⟩) (ps := [xp1 0 (Args.A).length Args.cA a5, lp2 (a5).toNat c2_, G_pIq1 (c2_.1) (c2_.2.1) (c2_.2.2.1) (c2_.2.2.2.1) (c2_.2.2.2.2.1) (c2_.2.2.2.2.2.1) (c2_.2.2.2.2.2.2.1) (c2_.2.2.2.2.2.2.2) c3_, bT c3_, eT (c2_.1) a0, eF (c2_.2.2.1) a1]) (by kernel_rfl) ⟨((xk1 0 Args.cA hc1).p), ((lk2 hc2 (toNatLt hc1)).p), (m_pIq1_ok n (c2_.1) (c2_.2.1) (c2_.2.2.1) (c2_.2.2.2.1) (c2_.2.2.2.2.1) (c2_.2.2.2.2.2.1) (c2_.2.2.2.2.2.2.1) (c2_.2.2.2.2.2.2.2) c3_ hc3), ((xbT hc4).p), ((xeT hc5).p), ((xeF hc6).p), trivial⟩
   ·rw [if_neg hc5] at h
    obtain rfl := oI h; exact runY_ok hm (A1 := aT []) (L1 := lT []) (A2 := aT [(4, .pur (pW 0 ((a5).toNat * 8))), (5, .ld (Value.agg #[(i6 (c2_.1)), (i6 (c2_.2.1)), (i6 (c2_.2.2.1)), (i6 (c2_.2.2.2.1)), (i6 (c2_.2.2.2.2.1)), (i6 (c2_.2.2.2.2.2.1)), (nlV (c2_.2.2.2.2.2.2.1)), (Value.int .u64 (c2_.2.2.2.2.2.2.2))])), (10, .call (C_pIq1 (c2_.1) (c2_.2.1) (c2_.2.2.1) (c2_.2.2.2.1) (c2_.2.2.2.2.1) (c2_.2.2.2.2.2.1) (c2_.2.2.2.2.2.2.1) (c2_.2.2.2.2.2.2.2) c3_ [] [])), (11, vt), (15, vf)]) (L2 := lT []) (wk := ⟨[], [(0, 0, false), (1, 1, false), (2, 2, false), (3, 3, false), (4, 4, false), (5, 5, false), (6, 6, false), (7, 7, false), (8, 8, false)], 9, 0, [], false, []⟩) (ps := [xp1 0 (Args.A).length Args.cA a5, lp2 (a5).toNat c2_, G_pIq1 (c2_.1) (c2_.2.1) (c2_.2.2.1) (c2_.2.2.2.1) (c2_.2.2.2.2.1) (c2_.2.2.2.2.2.1) (c2_.2.2.2.2.2.2.1) (c2_.2.2.2.2.2.2.2) c3_, bT c3_, eF (c2_.1) a0]) (by kernel_rfl) ⟨((xk1 0 Args.cA hc1).p), ((lk2 hc2 (toNatLt hc1)).p), (m_pIq1_ok n (c2_.1) (c2_.2.1) (c2_.2.2.1) (c2_.2.2.2.1) (c2_.2.2.2.2.1) (c2_.2.2.2.2.2.1) (c2_.2.2.2.2.2.2.1) (c2_.2.2.2.2.2.2.2) c3_ hc3), ((xbT hc4).p), ((xeF hc5).p), trivial⟩
  ·rw [if_neg hc4] at h
   obtain rfl := oI h; exact runY_ok hm (A1 := aT []) (L1 := lT []) (A2 := aT [(4, .pur (pW 0 ((a5).toNat * 8))), (5, .ld (Value.agg #[(i6 (c2_.1)), (i6 (c2_.2.1)), (i6 (c2_.2.2.1)), (i6 (c2_.2.2.2.1)), (i6 (c2_.2.2.2.2.1)), (i6 (c2_.2.2.2.2.2.1)), (nlV (c2_.2.2.2.2.2.2.1)), (Value.int .u64 (c2_.2.2.2.2.2.2.2))])), (10, .call (C_pIq1 (c2_.1) (c2_.2.1) (c2_.2.2.1) (c2_.2.2.2.1) (c2_.2.2.2.2.1) (c2_.2.2.2.2.2.1) (c2_.2.2.2.2.2.2.1) (c2_.2.2.2.2.2.2.2) c3_ [] [])), (11, vf)]) (L2 := lT []) (wk := ⟨[], [(0, 0, false), (1, 1, false), (2, 2, false), (3, 3, false), (4, 4, false), (5, 5, false), (6, 6, false), (7, 7, false), (8, 8, false)], 9, 0, [], false, []⟩) (ps := [xp1 0 (Args.A).length Args.cA a5, lp2 (a5).toNat c2_, G_pIq1 (c2_.1) (c2_.2.1) (c2_.2.2.1) (c2_.2.2.2.1) (c2_.2.2.2.2.1) (c2_.2.2.2.2.2.1) (c2_.2.2.2.2.2.2.1) (c2_.2.2.2.2.2.2.2) c3_, bF c3_]) (by kernel_rfl) ⟨((xk1 0 Args.cA hc1).p), ((lk2 hc2 (toNatLt hc1)).p), (m_pIq1_ok n (c2_.1) (c2_.2.1) (c2_.2.2.1) (c2_.2.2.2.1) (c2_.2.2.2.2.1) (c2_.2.2.2.2.2.1) (c2_.2.2.2.2.2.2.1) (c2_.2.2.2.2.2.2.2) c3_ hc3), ((xbF hc4).p), trivial⟩
 ·rw [if_neg hc1] at h; cases h

def A_viq1 (a0 : Int) (a1 : Int) (a2 : Int) (a3 : Int) (a4 : Bool) (a5 : Int) : List Value := [(sW 0 0 (Args.A).length Args.cA), (i6 a0), (Value.func (.yield 0) #[] #[])]
def H_viq1 (a0 : Int) (a1 : Int) (a2 : Int) (a3 : Int) (a4 : Bool) (a5 : Int) : AH := ⟨sB [(0, (some (rblk P 15 [false, true, false, true, true] .ready none [(3, (pN 2 0)), (4, (pN 3 0)), (5, (pN 4 0)), (6, (pN 5 0)), (7, (pN 6 0)), (14, (Value.func (.func 40) #[] #[(pN 7 0), (pN 8 0)]))] 1))), (1, (some (.marks true))), (2, (some (.cells (layT [(sW 0 0 (Args.A).length Args.cA)]) 22))), (3, (some (.cells (layT [(i6 a1)]) 3))), (4, (some (.cells (layT [(i6 a2)]) 3))), (5, (some (.cells (layT [(i6 a3)]) 3))), (6, (some (.cells (layT [(bO a4)]) 4))), (7, (some (.cells (layT [(sW 0 0 (Args.A).length Args.cA)]) 22))), (8, (some (.cells (layT [(i6 a5)]) 3)))], 9, 9⟩
def V_viq1 (a0 : Int) (a1 : Int) (a2 : Int) (a3 : Int) (a4 : Bool) (a5 : Int) (r : (Int) ⊕ (Unit)) : Value := match r with
 | .inl o0 => (bO false)
 | .inr _ => (bO true)
def R_viq1 (a0 : Int) (a1 : Int) (a2 : Int) (a3 : Int) (a4 : Bool) (a5 : Int) (r : (Int) ⊕ (Unit)) : AH := match r with
 | .inl o0 => ⟨sB [(0, (some (rblk P 15 [false, true, false, true, true] .done (some .ret) [(3, (pN 2 0)), (4, (pN 3 0)), (5, (pN 4 0)), (6, (pN 5 0)), (7, (pN 6 0)), (14, (Value.func (.func 40) #[] #[(pN 7 0), (pN 8 0)]))] 1))), (1, (some (.marks true))), (2, (some (.cells (layT [(sW 0 0 (Args.A).length Args.cA)]) 22))), (3, (some (.cells (layT [(i6 a1)]) 3))), (4, (some (.cells (layT [(i6 a2)]) 3))), (5, (some (.cells (layT [(i6 o0)]) 3))), (6, (some (.cells (layT [(bO true)]) 4))), (7, (some (.cells (layT [(sW 0 0 (Args.A).length Args.cA)]) 22))), (8, (some (.cells (layT [(i6 a5)]) 3)))], 9, 0⟩
 | .inr _ => ⟨sB [(0, (some (rblk P 15 [false, true, false, true, true] .ready none [(3, (pN 2 0)), (4, (pN 3 0)), (5, (pN 4 0)), (6, (pN 5 0)), (7, (pN 6 0)), (14, (Value.func (.func 40) #[] #[(pN 7 0), (pN 8 0)]))] 1))), (1, (some (.marks true))), (2, (some (.cells (layT [(sW 0 0 (Args.A).length Args.cA)]) 22))), (3, (some (.cells (layT [(i6 a1)]) 3))), (4, (some (.cells (layT [(i6 a2)]) 3))), (5, (some (.cells (layT [(i6 a3)]) 3))), (6, (some (.cells (layT [(bO a4)]) 4))), (7, (some (.cells (layT [(sW 0 0 (Args.A).length Args.cA)]) 22))), (8, (some (.cells (layT [(i6 a5)]) 3)))], 9, 0⟩
abbrev G_viq1 (a0 : Int) (a1 : Int) (a2 : Int) (a3 : Int) (a4 : Bool) (a5 : Int) (r : (Int) ⊕ (Unit)) : Prop := Gv P (.func 41) (A_viq1 a0 a1 a2 a3 a4 a5) (H_viq1 a0 a1 a2 a3 a4 a5) (V_viq1 a0 a1 a2 a3 a4 a5 r) (R_viq1 a0 a1 a2 a3 a4 a5 r)
abbrev C_viq1 (a0 : Int) (a1 : Int) (a2 : Int) (a3 : Int) (a4 : Bool) (a5 : Int) (r : (Int) ⊕ (Unit)) (ins outs : BL) : CallA := ⟨9, ins, V_viq1 a0 a1 a2 a3 a4 a5 r, R_viq1 a0 a1 a2 a3 a4 a5 r, outs⟩
def S_viq1_1 (x1_0 : Int) (x1_1 : Int) (x1_2 : Int) (x1_3 : Bool) (x1_4 : Int) (x1_5 : NL) (x1_6 : Int) (st : Int) : XSt := match st with
 | x1_7 => (sT 29 [(0, (sW 0 0 (Args.A).length Args.cA)), (2, (Value.func (.yield 0) #[] #[])), (17, (nlV x1_5)), (18, (i6 x1_6)), (19, (i6 x1_7))], [], ⟨sB [(0, (some (rblk P 15 [false, true, false, true, true] .ready none [(3, (pN 2 0)), (4, (pN 3 0)), (5, (pN 4 0)), (6, (pN 5 0)), (7, (pN 6 0)), (14, (Value.func (.func 40) #[] #[(pN 7 0), (pN 8 0)]))] 1))), (1, (some (.marks true))), (2, (some (.cells (layT [(sW 0 0 (Args.A).length Args.cA)]) 22))), (3, (some (.cells (layT [(i6 x1_0)]) 3))), (4, (some (.cells (layT [(i6 x1_1)]) 3))), (5, (some (.cells (layT [(i6 x1_2)]) 3))), (6, (some (.cells (layT [(bO x1_3)]) 4))), (7, (some (.cells (layT [(sW 0 0 (Args.A).length Args.cA)]) 22))), (8, (some (.cells (layT [(i6 x1_4)]) 3)))], 9, 0⟩)
def X_viq1_1 (x1_0 : Int) (x1_1 : Int) (x1_2 : Int) (x1_3 : Bool) (x1_4 : Int) (x1_5 : NL) (x1_6 : Int) (r : (Int) ⊕ (Unit)) : Ex × XSt := match r with
 | .inl z1_0 => (.ret, (sT 29 [(6, (bO false))], [], ⟨sB [(0, (some (rblk P 15 [false, true, false, true, true] .done (some .ret) [(3, (pN 2 0)), (4, (pN 3 0)), (5, (pN 4 0)), (6, (pN 5 0)), (7, (pN 6 0)), (14, (Value.func (.func 40) #[] #[(pN 7 0), (pN 8 0)]))] 1))), (1, (some (.marks true))), (2, (some (.cells (layT [(sW 0 0 (Args.A).length Args.cA)]) 22))), (3, (some (.cells (layT [(i6 x1_0)]) 3))), (4, (some (.cells (layT [(i6 x1_1)]) 3))), (5, (some (.cells (layT [(i6 z1_0)]) 3))), (6, (some (.cells (layT [(bO true)]) 4))), (7, (some (.cells (layT [(sW 0 0 (Args.A).length Args.cA)]) 22))), (8, (some (.cells (layT [(i6 x1_4)]) 3)))], 9, 0⟩))
 | .inr _ => (.exit 0, (sT 29 [], [], ⟨sB [(0, (some (rblk P 15 [false, true, false, true, true] .ready none [(3, (pN 2 0)), (4, (pN 3 0)), (5, (pN 4 0)), (6, (pN 5 0)), (7, (pN 6 0)), (14, (Value.func (.func 40) #[] #[(pN 7 0), (pN 8 0)]))] 1))), (1, (some (.marks true))), (2, (some (.cells (layT [(sW 0 0 (Args.A).length Args.cA)]) 22))), (3, (some (.cells (layT [(i6 x1_0)]) 3))), (4, (some (.cells (layT [(i6 x1_1)]) 3))), (5, (some (.cells (layT [(i6 x1_2)]) 3))), (6, (some (.cells (layT [(bO x1_3)]) 4))), (7, (some (.cells (layT [(sW 0 0 (Args.A).length Args.cA)]) 22))), (8, (some (.cells (layT [(i6 x1_4)]) 3)))], 9, 0⟩))
abbrev Q_viq1_1 (rnd : Option Nat) (x1_0 : Int) (x1_1 : Int) (x1_2 : Int) (x1_3 : Bool) (x1_4 : Int) (x1_5 : NL) (x1_6 : Int) (st : Int) (c : Ex × XSt) : Prop := CG P rnd (fnN P 41) 9 (codeOf P 41 [false, false, true, false, true, true]) (S_viq1_1 x1_0 x1_1 x1_2 x1_3 x1_4 x1_5 x1_6 st) c
abbrev U_viq1_1 (rd : Option Nat) (x1_0 : Int) (x1_1 : Int) (x1_2 : Int) (x1_3 : Bool) (x1_4 : Int) (x1_5 : NL) (x1_6 : Int) (st : Int) (r : (Int) ⊕ (Unit)) : Prop := CG P rd (fnN P 41) 9 (codeOf P 41 [false, true, false, true, true]) (S_viq1_1 x1_0 x1_1 x1_2 x1_3 x1_4 x1_5 x1_6 st) (X_viq1_1 x1_0 x1_1 x1_2 x1_3 x1_4 x1_5 x1_6 r)
def B_viq1_1 (rec_viq1 : (Int) → (Int) → (Int) → (Int) → (Bool) → (Int) → Option ((Int) ⊕ (Unit))) (n : Nat) (x1_0 : Int) (x1_1 : Int) (x1_2 : Int) (x1_3 : Bool) (x1_4 : Int) (x1_5 : NL) (x1_6 : Int) (st : Int) : Option ((Int) ⊕ ((Int) ⊕ (Unit))) := match st with
 | x1_7 =>
  if x1_7 < x1_6 then
   if 0 ≤ x1_7 ∧ x1_7 < (x1_5.l.length : Int) then
    if (x1_7).toNat < ((x1_5).l).length then
     ((some (((x1_5).l).getD (x1_7).toNat 0))).bind fun y1_4_ =>
     match rec_viq1 y1_4_ x1_0 x1_1 x1_2 x1_3 x1_4 with
     | none => none
     | some (.inl y1_5_) =>
      some (.inr (.inl y1_5_))
     | some (.inr _) =>
      some (.inl (w64 (x1_7 + (1 : Int))))
    else none
   else none
  else
   some (.inr (.inr ()))
def m_viq1_1 (rec_viq1 : (Int) → (Int) → (Int) → (Int) → (Bool) → (Int) → Option ((Int) ⊕ (Unit))) (n : Nat) (x1_0 : Int) (x1_1 : Int) (x1_2 : Int) (x1_3 : Bool) (x1_4 : Int) (x1_5 : NL) (x1_6 : Int) (st : Int) : Option ((Int) ⊕ (Unit)) := iterM (B_viq1_1 rec_viq1 n x1_0 x1_1 x1_2 x1_3 x1_4 x1_5 x1_6) n st
theorem q_viq1_1_0 (rec_viq1 : (Int) → (Int) → (Int) → (Int) → (Bool) → (Int) → Option ((Int) ⊕ (Unit))) (hrec_viq1 : ∀ (a0 : Int) (a1 : Int) (a2 : Int) (a3 : Int) (a4 : Bool) (a5 : Int) (r : (Int) ⊕ (Unit)), rec_viq1 a0 a1 a2 a3 a4 a5 = some r → Gv P (.func 41) (A_viq1 a0 a1 a2 a3 a4 a5) (H_viq1 a0 a1 a2 a3 a4 a5) (V_viq1 a0 a1 a2 a3 a4 a5 r) (R_viq1 a0 a1 a2 a3 a4 a5 r)) (n : Nat) {rnd : Option Nat} (x1_0 x1_1 x1_2 : Int) (x1_3 : Bool) (x1_4 : Int) (x1_5 : NL) (x1_6 x1_7 : Int) (hy1_1 : x1_7 < x1_6) (hy1_2 : 0 ≤ x1_7 ∧ x1_7 < (x1_5.l.length : Int)) (hy1_3 : (x1_7).toNat < ((x1_5).l).length) (y1_4_ : Int) (hy1_4 : (some (((x1_5).l).getD (x1_7).toNat 0)) = some y1_4_) (y1_5_ : Int) (hy1_5 : rec_viq1 y1_4_ x1_0 x1_1 x1_2 x1_3 x1_4 = some (.inl y1_5_)) : Q_viq1_1 rnd x1_0 x1_1 x1_2 x1_3 x1_4 x1_5 x1_6 x1_7 (X_viq1_1 x1_0 x1_1 x1_2 x1_3 x1_4 x1_5 x1_6 (.inl y1_5_)) :=
 runC2 hm (L := lT []) ⟨[6], [(0, 0, false), (1, 1, false), (2, 2, false), (3, 3, false), (4, 4, false), (5, 5, false), (6, 6, false), (7, 7, false), (8, 8, false)], 9, 0, [], false, []⟩ (zz 1 (xdT hy1_1) <|
zz 7 (xk9 (Nat.add (x1_5).num 64) (x1_5).cap hy1_2) <|
zz 8 (nk10 hy1_4 hy1_3) <|
yy 14 (.call (C_viq1 y1_4_ x1_0 x1_1 x1_2 x1_3 x1_4 (.inl y1_5_) [(0, 0, false), (1, 1, false), (2, 2, false), (3, 3, false), (4, 4, false), (5, 5, false), (6, 6, false), (7, 7, false), (8, 8, false)] [(0, 0, false), (1, 1, false), (2, 2, false), (3, 3, false), (4, 4, false), (5, 5, false), (6, 6, false), (7, 7, false), (8, 8, false)])) <|
ww (hrec_viq1 y1_4_ x1_0 x1_1 x1_2 x1_3 x1_4 (.inl y1_5_) hy1_5) <|
ee) (by kernel_rfl)
theorem q_viq1_1_1 (rec_viq1 : (Int) → (Int) → (Int) → (Int) → (Bool) → (Int) → Option ((Int) ⊕ (Unit))) (hrec_viq1 : ∀ (a0 : Int) (a1 : Int) (a2 : Int) (a3 : Int) (a4 : Bool) (a5 : Int) (r : (Int) ⊕ (Unit)), rec_viq1 a0 a1 a2 a3 a4 a5 = some r → Gv P (.func 41) (A_viq1 a0 a1 a2 a3 a4 a5) (H_viq1 a0 a1 a2 a3 a4 a5) (V_viq1 a0 a1 a2 a3 a4 a5 r) (R_viq1 a0 a1 a2 a3 a4 a5 r)) (n : Nat) {rnd : Option Nat} (x1_0 x1_1 x1_2 : Int) (x1_3 : Bool) (x1_4 : Int) (x1_5 : NL) (x1_6 x1_7 : Int) (hy1_1 : x1_7 < x1_6) (hy1_2 : 0 ≤ x1_7 ∧ x1_7 < (x1_5.l.length : Int)) (hy1_3 : (x1_7).toNat < ((x1_5).l).length) (y1_4_ : Int) (hy1_4 : (some (((x1_5).l).getD (x1_7).toNat 0)) = some y1_4_) (hy1_5 : rec_viq1 y1_4_ x1_0 x1_1 x1_2 x1_3 x1_4 = some (.inr ())) : Q_viq1_1 rnd x1_0 x1_1 x1_2 x1_3 x1_4 x1_5 x1_6 x1_7 (.normal, S_viq1_1 x1_0 x1_1 x1_2 x1_3 x1_4 x1_5 x1_6 (w64 (x1_7 + (1 : Int)))) :=
 runC2 hm (L := lT []) ⟨[0, 2, 17, 18, 19], [(0, 0, false), (1, 1, false), (2, 2, false), (3, 3, false), (4, 4, false), (5, 5, false), (6, 6, false), (7, 7, false), (8, 8, false)], 9, 0, [], false, []⟩ (zz 1 (xdT hy1_1) <|
zz 7 (xk9 (Nat.add (x1_5).num 64) (x1_5).cap hy1_2) <|
zz 8 (nk10 hy1_4 hy1_3) <|
yy 14 (.call (C_viq1 y1_4_ x1_0 x1_1 x1_2 x1_3 x1_4 (.inr ()) [(0, 0, false), (1, 1, false), (2, 2, false), (3, 3, false), (4, 4, false), (5, 5, false), (6, 6, false), (7, 7, false), (8, 8, false)] [(0, 0, false), (1, 1, false), (2, 2, false), (3, 3, false), (4, 4, false), (5, 5, false), (6, 6, false), (7, 7, false), (8, 8, false)])) <|
ww (hrec_viq1 y1_4_ x1_0 x1_1 x1_2 x1_3 x1_4 (.inr ()) hy1_5) <|
ee) (by kernel_rfl)
theorem q_viq1_1_2 (rec_viq1 : (Int) → (Int) → (Int) → (Int) → (Bool) → (Int) → Option ((Int) ⊕ (Unit))) (hrec_viq1 : ∀ (a0 : Int) (a1 : Int) (a2 : Int) (a3 : Int) (a4 : Bool) (a5 : Int) (r : (Int) ⊕ (Unit)), rec_viq1 a0 a1 a2 a3 a4 a5 = some r → Gv P (.func 41) (A_viq1 a0 a1 a2 a3 a4 a5) (H_viq1 a0 a1 a2 a3 a4 a5) (V_viq1 a0 a1 a2 a3 a4 a5 r) (R_viq1 a0 a1 a2 a3 a4 a5 r)) (n : Nat) {rnd : Option Nat} (x1_0 x1_1 x1_2 : Int) (x1_3 : Bool) (x1_4 : Int) (x1_5 : NL) (x1_6 x1_7 : Int) (hy1_1 : ¬ (x1_7 < x1_6)) : Q_viq1_1 rnd x1_0 x1_1 x1_2 x1_3 x1_4 x1_5 x1_6 x1_7 (X_viq1_1 x1_0 x1_1 x1_2 x1_3 x1_4 x1_5 x1_6 (.inr ())) :=
 runC2 hm (L := lT []) ⟨[], [(0, 0, false), (1, 1, false), (2, 2, false), (3, 3, false), (4, 4, false), (5, 5, false), (6, 6, false), (7, 7, false), (8, 8, false)], 9, 0, [], false, []⟩ (zz 1 (xdF hy1_1) <|
ee) (by kernel_rfl)
theorem m_viq1_1_ok (rec_viq1 : (Int) → (Int) → (Int) → (Int) → (Bool) → (Int) → Option ((Int) ⊕ (Unit))) (hrec_viq1 : ∀ (a0 : Int) (a1 : Int) (a2 : Int) (a3 : Int) (a4 : Bool) (a5 : Int) (r : (Int) ⊕ (Unit)), rec_viq1 a0 a1 a2 a3 a4 a5 = some r → Gv P (.func 41) (A_viq1 a0 a1 a2 a3 a4 a5) (H_viq1 a0 a1 a2 a3 a4 a5) (V_viq1 a0 a1 a2 a3 a4 a5 r) (R_viq1 a0 a1 a2 a3 a4 a5 r)) (n : Nat) {rnd : Option Nat} (x1_0 : Int) (x1_1 : Int) (x1_2 : Int) (x1_3 : Bool) (x1_4 : Int) (x1_5 : NL) (x1_6 : Int) (st : Int) (r : (Int) ⊕ (Unit)) (h : m_viq1_1 rec_viq1 n x1_0 x1_1 x1_2 x1_3 x1_4 x1_5 x1_6 st = some r) : CG P rnd (fnN P 41) 9 (codeOf P 41 [false, true, false, true, true]) (S_viq1_1 x1_0 x1_1 x1_2 x1_3 x1_4 x1_5 x1_6 st) (X_viq1_1 x1_0 x1_1 x1_2 x1_3 x1_4 x1_5 x1_6 r) :=
 CG.iter (b := codeOf P 41 [false, false, true, false, true, true]) (by kernel_rfl) (body := B_viq1_1 rec_viq1 n x1_0 x1_1 x1_2 x1_3 x1_4 x1_5 x1_6) (S := S_viq1_1 x1_0 x1_1 x1_2 x1_3 x1_4 x1_5 x1_6) (X := X_viq1_1 x1_0 x1_1 x1_2 x1_3 x1_4 x1_5 x1_6)
  (fun x1_7 s' h => by
  unfold B_viq1_1 at h
  dsimp only at h
  by_cases hy1_1 : x1_7 < x1_6
  ·rw [if_pos hy1_1] at h
   by_cases hy1_2 : 0 ≤ x1_7 ∧ x1_7 < (x1_5.l.length : Int)
   ·rw [if_pos hy1_2] at h
    by_cases hy1_3 : (x1_7).toNat < ((x1_5).l).length
    ·rw [if_pos hy1_3] at h
     obtain ⟨y1_4_, hy1_4, h⟩ := Option.bind_eq_some_iff.1 h
     rcases hy1_5 : rec_viq1 y1_4_ x1_0 x1_1 x1_2 x1_3 x1_4 with _ | (y1_5_ | ⟨⟩)
     ·rw [hy1_5] at h; cases h
     ·rw [hy1_5] at h
      dsimp only at h
      cases h
     ·rw [hy1_5] at h
      dsimp only at h
      obtain rfl := Sum.inl.inj (oI h); exact q_viq1_1_1 rec_viq1 hrec_viq1 n x1_0 x1_1 x1_2 x1_3 x1_4 x1_5 x1_6 x1_7 hy1_1 hy1_2 hy1_3 y1_4_ hy1_4 hy1_5
    ·rw [if_neg hy1_3] at h; cases h
   ·rw [if_neg hy1_2] at h; cases h
  ·rw [if_neg hy1_1] at h
   cases h)
  (fun x1_7 r h => by
  unfold B_viq1_1 at h
  dsimp only at h
  by_cases hy1_1 : x1_7 < x1_6
  ·rw [if_pos hy1_1] at h
   by_cases hy1_2 : 0 ≤ x1_7 ∧ x1_7 < (x1_5.l.length : Int)
   ·rw [if_pos hy1_2] at h
    by_cases hy1_3 : (x1_7).toNat < ((x1_5).l).length
    ·rw [if_pos hy1_3] at h
     obtain ⟨y1_4_, hy1_4, h⟩ := Option.bind_eq_some_iff.1 h
     rcases hy1_5 : rec_viq1 y1_4_ x1_0 x1_1 x1_2 x1_3 x1_4 with _ | (y1_5_ | ⟨⟩)
     ·rw [hy1_5] at h; cases h
     ·rw [hy1_5] at h
      dsimp only at h
      obtain rfl := Sum.inr.inj (oI h); exact q_viq1_1_0 rec_viq1 hrec_viq1 n x1_0 x1_1 x1_2 x1_3 x1_4 x1_5 x1_6 x1_7 hy1_1 hy1_2 hy1_3 y1_4_ hy1_4 y1_5_ hy1_5
     ·rw [hy1_5] at h
      dsimp only at h
      cases h
    ·rw [if_neg hy1_3] at h; cases h
   ·rw [if_neg hy1_2] at h; cases h
  ·rw [if_neg hy1_1] at h
   obtain rfl := Sum.inr.inj (oI h); exact q_viq1_1_2 rec_viq1 hrec_viq1 n x1_0 x1_1 x1_2 x1_3 x1_4 x1_5 x1_6 x1_7 hy1_1)
  (fun r => by intro hx; rcases r with _ | _ <;> cases hx) h
def s_viq1 (rec_viq1 : (Int) → (Int) → (Int) → (Int) → (Bool) → (Int) → Option ((Int) ⊕ (Unit))) (n : Nat) (a0 : Int) (a1 : Int) (a2 : Int) (a3 : Int) (a4 : Bool) (a5 : Int) : Option ((Int) ⊕ (Unit)) :=
 match m_treeFind_11010y1 n a1 a2 a3 a4 a5 a0 with
 | none => none
 | some (.inl _) =>
  some (.inl a0)
 | some (.inr _) =>
  if 0 ≤ a0 ∧ a0 < (Args.A.length : Int) then
   ((some ((Args.A).getD (a0).toNat (0, 0, 0, 0, 0, 0, nl0, 0)))).bind fun c3_ =>
   match m_viq1_1 rec_viq1 n a1 a2 a3 a4 a5 (c3_.2.2.2.2.2.2.1) (c3_.2.2.2.2.2.2.1.l.length : Int) 0 with
   | none => none
   | some (.inl c4_) =>
    some (.inl c4_)
   | some (.inr _) =>
    some (.inr ())
  else none
theorem s_viq1_ok (rec_viq1 : (Int) → (Int) → (Int) → (Int) → (Bool) → (Int) → Option ((Int) ⊕ (Unit))) (hrec_viq1 : ∀ (a0 : Int) (a1 : Int) (a2 : Int) (a3 : Int) (a4 : Bool) (a5 : Int) (r : (Int) ⊕ (Unit)), rec_viq1 a0 a1 a2 a3 a4 a5 = some r → Gv P (.func 41) (A_viq1 a0 a1 a2 a3 a4 a5) (H_viq1 a0 a1 a2 a3 a4 a5) (V_viq1 a0 a1 a2 a3 a4 a5 r) (R_viq1 a0 a1 a2 a3 a4 a5 r)) (n : Nat) (a0 : Int) (a1 : Int) (a2 : Int) (a3 : Int) (a4 : Bool) (a5 : Int) (r : (Int) ⊕ (Unit)) (h : s_viq1 rec_viq1 n a0 a1 a2 a3 a4 a5 = some r) : Gv P (.func 41) (A_viq1 a0 a1 a2 a3 a4 a5) (H_viq1 a0 a1 a2 a3 a4 a5) (V_viq1 a0 a1 a2 a3 a4 a5 r) (R_viq1 a0 a1 a2 a3 a4 a5 r) := by
 unfold s_viq1 at h
 rcases hc1 : m_treeFind_11010y1 n a1 a2 a3 a4 a5 a0 with _ | (⟨⟩ | ⟨⟩)
 ·rw [hc1] at h; cases h
 ·rw [hc1] at h
  dsimp only at h
  obtain rfl := oI h; exact runF2 hm (L := lT []) ⟨[6], [(0, 0, false), (1, 1, false), (2, 2, false), (3, 3, false), (4, 4, false), (5, 5, false), (6, 6, false), (7, 7, false), (8, 8, false)], 9, 0, [], false, []⟩ (yy 6 (.call (C_treeFind_11010y1 a1 a2 a3 a4 a5 a0 (.inl ()) [(0, 0, false), (1, 1, false), (2, 2, false), (3, 3, false), (4, 4, false), (5, 5, false), (6, 6, false), (7, 7, false), (8, 8, false)] [(0, 0, false), (1, 1, false), (2, 2, false), (3, 3, false), (4, 4, false), (5, 5, false), (6, 6, false), (7, 7, false), (8, 8, false)])) <|
ww (m_treeFind_11010y1_ok n a1 a2 a3 a4 a5 a0 (.inl ()) hc1) ee) (by kernel_rfl)
 ·rw [hc1] at h
  dsimp only at h
  by_cases hc2 : 0 ≤ a0 ∧ a0 < (Args.A.length : Int)
  ·rw [if_pos hc2] at h
   obtain ⟨c3_, hc3, h⟩ := Option.bind_eq_some_iff.1 h
   rcases hc4 : m_viq1_1 rec_viq1 n a1 a2 a3 a4 a5 (c3_.2.2.2.2.2.2.1) (c3_.2.2.2.2.2.2.1.l.length : Int) 0 with _ | (c4_ | ⟨⟩)
   ·rw [hc4] at h; cases h
   ·rw [hc4] at h
    dsimp only at h
    obtain rfl := oI h; exact runF2 hm (L := lT [(19, ⟨⟨[0, 2, 17, 18, 19], [(0, 0, false), (1, 1, false), (2, 2, false), (3, 3, false), (4, 4, false), (5, 5, false), (6, 6, false), (7, 7, false), (8, 8, false)], 9, 0, [], false, []⟩, (X_viq1_1 a1 a2 a3 a4 a5 (c3_.2.2.2.2.2.2.1) (c3_.2.2.2.2.2.2.1.l.length : Int) (.inl c4_)).1, (X_viq1_1 a1 a2 a3 a4 a5 (c3_.2.2.2.2.2.2.1) (c3_.2.2.2.2.2.2.1.l.length : Int) (.inl c4_)).2⟩)]) ⟨[6], [(0, 0, false), (1, 1, false), (2, 2, false), (3, 3, false), (4, 4, false), (5, 5, false), (6, 6, false), (7, 7, false), (8, 8, false)], 9, 0, [], false, []⟩ (yy 6 (.call (C_treeFind_11010y1 a1 a2 a3 a4 a5 a0 (.inr ()) [(0, 0, false), (1, 1, false), (2, 2, false), (3, 3, false), (4, 4, false), (5, 5, false), (6, 6, false), (7, 7, false), (8, 8, false)] [(0, 0, false), (1, 1, false), (2, 2, false), (3, 3, false), (4, 4, false), (5, 5, false), (6, 6, false), (7, 7, false), (8, 8, false)])) <|
ww (m_treeFind_11010y1_ok n a1 a2 a3 a4 a5 a0 (.inr ()) hc1) <|
zz 13 (xk1 0 Args.cA hc2) <|
zz 14 (fk7 ((a0).toNat * 8)) <|
zz 15 (lk8 hc3 (toNatLt hc2)) <|
ww (p := U_viq1_1 none a1 a2 a3 a4 a5 (c3_.2.2.2.2.2.2.1) (c3_.2.2.2.2.2.2.1.l.length : Int) 0 (.inl c4_)) (m_viq1_1_ok rec_viq1 hrec_viq1 n a1 a2 a3 a4 a5 (c3_.2.2.2.2.2.2.1) (c3_.2.2.2.2.2.2.1.l.length : Int) 0 (.inl c4_) hc4) ee) (by kernel_rfl)
   ·rw [hc4] at h
    dsimp only at h
    obtain rfl := oI h; exact runF2 hm (L := lT [(19, ⟨⟨[0, 2, 17, 18, 19], [(0, 0, false), (1, 1, false), (2, 2, false), (3, 3, false), (4, 4, false), (5, 5, false), (6, 6, false), (7, 7, false), (8, 8, false)], 9, 0, [], false, []⟩, (X_viq1_1 a1 a2 a3 a4 a5 (c3_.2.2.2.2.2.2.1) (c3_.2.2.2.2.2.2.1.l.length : Int) (.inr ())).1, (X_viq1_1 a1 a2 a3 a4 a5 (c3_.2.2.2.2.2.2.1) (c3_.2.2.2.2.2.2.1.l.length : Int) (.inr ())).2⟩)]) ⟨[6], [(0, 0, false), (1, 1, false), (2, 2, false), (3, 3, false), (4, 4, false), (5, 5, false), (6, 6, false), (7, 7, false), (8, 8, false)], 9, 0, [], false, []⟩ (yy 6 (.call (C_treeFind_11010y1 a1 a2 a3 a4 a5 a0 (.inr ()) [(0, 0, false), (1, 1, false), (2, 2, false), (3, 3, false), (4, 4, false), (5, 5, false), (6, 6, false), (7, 7, false), (8, 8, false)] [(0, 0, false), (1, 1, false), (2, 2, false), (3, 3, false), (4, 4, false), (5, 5, false), (6, 6, false), (7, 7, false), (8, 8, false)])) <|
ww (m_treeFind_11010y1_ok n a1 a2 a3 a4 a5 a0 (.inr ()) hc1) <|
zz 13 (xk1 0 Args.cA hc2) <|
zz 14 (fk7 ((a0).toNat * 8)) <|
zz 15 (lk8 hc3 (toNatLt hc2)) <|
ww (p := U_viq1_1 none a1 a2 a3 a4 a5 (c3_.2.2.2.2.2.2.1) (c3_.2.2.2.2.2.2.1.l.length : Int) 0 (.inr ())) (m_viq1_1_ok rec_viq1 hrec_viq1 n a1 a2 a3 a4 a5 (c3_.2.2.2.2.2.2.1) (c3_.2.2.2.2.2.2.1.l.length : Int) 0 (.inr ()) hc4) ee) (by kernel_rfl)
  ·rw [if_neg hc2] at h; cases h
def m_viq1 : Nat → (Int) → (Int) → (Int) → (Int) → (Bool) → (Int) → Option ((Int) ⊕ (Unit))
 | 0 => fun _ _ _ _ _ _ => none
 | n + 1 => fun a0 a1 a2 a3 a4 a5 => s_viq1 (m_viq1 n) n a0 a1 a2 a3 a4 a5
theorem m_viq1_ok : ∀ (n : Nat) (a0 : Int) (a1 : Int) (a2 : Int) (a3 : Int) (a4 : Bool) (a5 : Int) (r : (Int) ⊕ (Unit)) (h : m_viq1 n a0 a1 a2 a3 a4 a5 = some r), Gv P (.func 41) (A_viq1 a0 a1 a2 a3 a4 a5) (H_viq1 a0 a1 a2 a3 a4 a5) (V_viq1 a0 a1 a2 a3 a4 a5 r) (R_viq1 a0 a1 a2 a3 a4 a5 r)
 | 0, _, _, _, _, _, _, _, h => nomatch h
 | n + 1, a0, a1, a2, a3, a4, a5, r, h => s_viq1_ok (m_viq1 n) (m_viq1_ok n) n a0 a1 a2 a3 a4 a5 r h

def A_pl1q1 (a0 : Int) (a1 : Int) (a2 : Int) (a3 : Bool) (a4 : Int) : List Value := [(Value.func (.yield 0) #[] #[]), (pN 7 0), (pN 8 0)]
def H_pl1q1 (a0 : Int) (a1 : Int) (a2 : Int) (a3 : Bool) (a4 : Int) : AH := ⟨sB [(0, (some (rblk P 15 [false, true, false, true, true] .ready none [(3, (pN 2 0)), (4, (pN 3 0)), (5, (pN 4 0)), (6, (pN 5 0)), (7, (pN 6 0)), (14, (Value.func (.func 40) #[] #[(pN 7 0), (pN 8 0)]))] 1))), (1, (some (.marks true))), (2, (some (.cells (layT [(sW 0 0 (Args.A).length Args.cA)]) 22))), (3, (some (.cells (layT [(i6 a0)]) 3))), (4, (some (.cells (layT [(i6 a1)]) 3))), (5, (some (.cells (layT [(i6 a2)]) 3))), (6, (some (.cells (layT [(bO a3)]) 4))), (7, (some (.cells (layT [(sW 0 0 (Args.A).length Args.cA)]) 22))), (8, (some (.cells (layT [(i6 a4)]) 3)))], 9, 9⟩
def V_pl1q1 (a0 : Int) (a1 : Int) (a2 : Int) (a3 : Bool) (a4 : Int) (r : (Int) ⊕ (Unit)) : Value := match r with
 | .inl o0 => (Value.tuple #[])
 | .inr _ => (Value.tuple #[])
def R_pl1q1 (a0 : Int) (a1 : Int) (a2 : Int) (a3 : Bool) (a4 : Int) (r : (Int) ⊕ (Unit)) : AH := match r with
 | .inl o0 => ⟨sB [(0, (some (rblk P 15 [false, true, false, true, true] .done (some .ret) [(3, (pN 2 0)), (4, (pN 3 0)), (5, (pN 4 0)), (6, (pN 5 0)), (7, (pN 6 0)), (14, (Value.func (.func 40) #[] #[(pN 7 0), (pN 8 0)]))] 1))), (1, (some (.marks true))), (2, (some (.cells (layT [(sW 0 0 (Args.A).length Args.cA)]) 22))), (3, (some (.cells (layT [(i6 a0)]) 3))), (4, (some (.cells (layT [(i6 a1)]) 3))), (5, (some (.cells (layT [(i6 o0)]) 3))), (6, (some (.cells (layT [(bO true)]) 4))), (7, (some (.cells (layT [(sW 0 0 (Args.A).length Args.cA)]) 22))), (8, (some (.cells (layT [(i6 a4)]) 3)))], 9, 0⟩
 | .inr _ => ⟨sB [(0, (some (rblk P 15 [false, true, false, true, true] .ready none [(3, (pN 2 0)), (4, (pN 3 0)), (5, (pN 4 0)), (6, (pN 5 0)), (7, (pN 6 0)), (14, (Value.func (.func 40) #[] #[(pN 7 0), (pN 8 0)]))] 1))), (1, (some (.marks true))), (2, (some (.cells (layT [(sW 0 0 (Args.A).length Args.cA)]) 22))), (3, (some (.cells (layT [(i6 a0)]) 3))), (4, (some (.cells (layT [(i6 a1)]) 3))), (5, (some (.cells (layT [(i6 a2)]) 3))), (6, (some (.cells (layT [(bO a3)]) 4))), (7, (some (.cells (layT [(sW 0 0 (Args.A).length Args.cA)]) 22))), (8, (some (.cells (layT [(i6 a4)]) 3)))], 9, 0⟩
abbrev G_pl1q1 (a0 : Int) (a1 : Int) (a2 : Int) (a3 : Bool) (a4 : Int) (r : (Int) ⊕ (Unit)) : Prop := Gv P (.func 40) (A_pl1q1 a0 a1 a2 a3 a4) (H_pl1q1 a0 a1 a2 a3 a4) (V_pl1q1 a0 a1 a2 a3 a4 r) (R_pl1q1 a0 a1 a2 a3 a4 r)
abbrev C_pl1q1 (a0 : Int) (a1 : Int) (a2 : Int) (a3 : Bool) (a4 : Int) (r : (Int) ⊕ (Unit)) (ins outs : BL) : CallA := ⟨9, ins, V_pl1q1 a0 a1 a2 a3 a4 r, R_pl1q1 a0 a1 a2 a3 a4 r, outs⟩
def m_pl1q1 (n : Nat) (a0 : Int) (a1 : Int) (a2 : Int) (a3 : Bool) (a4 : Int) : Option ((Int) ⊕ (Unit)) :=
 match m_viq1 n a4 a0 a1 a2 a3 a4 with
 | none => none
 | some (.inl c1_) =>
  some (.inl c1_)
 | some (.inr _) =>
  some (.inr ())
theorem m_pl1q1_ok (n : Nat) (a0 : Int) (a1 : Int) (a2 : Int) (a3 : Bool) (a4 : Int) (r : (Int) ⊕ (Unit)) (h : m_pl1q1 n a0 a1 a2 a3 a4 = some r) : Gv P (.func 40) (A_pl1q1 a0 a1 a2 a3 a4) (H_pl1q1 a0 a1 a2 a3 a4) (V_pl1q1 a0 a1 a2 a3 a4 r) (R_pl1q1 a0 a1 a2 a3 a4 r) := by
 unfold m_pl1q1 at h
 rcases hc1 : m_viq1 n a4 a0 a1 a2 a3 a4 with _ | (c1_ | ⟨⟩)
 ·rw [hc1] at h; cases h
 ·rw [hc1] at h
  dsimp only at h
  obtain rfl := oI h; exact runF2 hm (L := lT []) ⟨[], [(0, 0, false), (1, 1, false), (2, 2, false), (3, 3, false), (4, 4, false), (5, 5, false), (6, 6, false), (7, 7, false), (8, 8, false)], 9, 0, [], false, []⟩ (yy 3 (.call (C_viq1 a4 a0 a1 a2 a3 a4 (.inl c1_) [(0, 0, false), (1, 1, false), (2, 2, false), (3, 3, false), (4, 4, false), (5, 5, false), (6, 6, false), (7, 7, false), (8, 8, false)] [(0, 0, false), (1, 1, false), (2, 2, false), (3, 3, false), (4, 4, false), (5, 5, false), (6, 6, false), (7, 7, false), (8, 8, false)])) <|
ww (m_viq1_ok n a4 a0 a1 a2 a3 a4 (.inl c1_) hc1) ee) (by kernel_rfl)
 ·rw [hc1] at h
  dsimp only at h
  obtain rfl := oI h; exact runF2 hm (L := lT []) ⟨[], [(0, 0, false), (1, 1, false), (2, 2, false), (3, 3, false), (4, 4, false), (5, 5, false), (6, 6, false), (7, 7, false), (8, 8, false)], 9, 0, [], false, []⟩ (yy 3 (.call (C_viq1 a4 a0 a1 a2 a3 a4 (.inr ()) [(0, 0, false), (1, 1, false), (2, 2, false), (3, 3, false), (4, 4, false), (5, 5, false), (6, 6, false), (7, 7, false), (8, 8, false)] [(0, 0, false), (1, 1, false), (2, 2, false), (3, 3, false), (4, 4, false), (5, 5, false), (6, 6, false), (7, 7, false), (8, 8, false)])) <|
ww (m_viq1_ok n a4 a0 a1 a2 a3 a4 (.inr ()) hc1) ee) (by kernel_rfl)

def A_treeFindq1 (a0 : Int) (a1 : Int) : List Value := [(sW 0 0 (Args.A).length Args.cA), (i6 a0), (i6 a1)]
def H_treeFindq1 (a0 : Int) (a1 : Int) : AH := ⟨sB [], 0, 0⟩
def V_treeFindq1 (a0 : Int) (a1 : Int) (r : (Int × Bool) ⊕ (Unit)) : Value := match r with
 | .inl (o0, o1) => (Value.tuple #[(i6 o0), (bO o1)])
 | .inr _ => (Value.tuple #[(i6 (0 : Int)), (bO false)])
def R_treeFindq1 (a0 : Int) (a1 : Int) (r : (Int × Bool) ⊕ (Unit)) : AH := match r with
 | .inl (o0, o1) => ⟨sB [(0, (some (.marks false))), (1, (some (.cells (layT [(i6 o0)]) 3))), (2, (some (.cells (layT [(bO o1)]) 4)))], 3, 0⟩
 | .inr _ => ⟨sB [(0, (some (.cells (layT [(i6 (0 : Int))]) 3))), (1, (some (.cells (layT [(bO false)]) 4)))], 2, 0⟩
abbrev G_treeFindq1 (a0 : Int) (a1 : Int) (r : (Int × Bool) ⊕ (Unit)) : Prop := Gv P (.func 15) (A_treeFindq1 a0 a1) (H_treeFindq1 a0 a1) (V_treeFindq1 a0 a1 r) (R_treeFindq1 a0 a1 r)
abbrev C_treeFindq1 (a0 : Int) (a1 : Int) (r : (Int × Bool) ⊕ (Unit)) (ins outs : BL) : CallA := ⟨0, ins, V_treeFindq1 a0 a1 r, R_treeFindq1 a0 a1 r, outs⟩
def m_treeFindq1 (n : Nat) (a0 : Int) (a1 : Int) : Option ((Int × Bool) ⊕ (Unit)) :=
 (m_tCq1 n).bind fun c1_ =>
 if c1_ = (0 : Int) then
  (m_plq1 n 0).bind fun _ =>
  match m_pl1q1 n a0 a1 0 false 0 with
  | none => none
  | some (.inl c4_) =>
   some (.inl (c4_, true))
  | some (.inr _) =>
   some (.inl (0, false))
 else
  some (.inr ())
theorem m_treeFindq1_ok (n : Nat) (a0 : Int) (a1 : Int) (r : (Int × Bool) ⊕ (Unit)) (h : m_treeFindq1 n a0 a1 = some r) : Gv P (.func 15) (A_treeFindq1 a0 a1) (H_treeFindq1 a0 a1) (V_treeFindq1 a0 a1 r) (R_treeFindq1 a0 a1 r) := by
 unfold m_treeFindq1 at h
 obtain ⟨c1_, hc1, h⟩ := Option.bind_eq_some_iff.1 h
 by_cases hc2 : c1_ = (0 : Int)
 ·rw [if_pos hc2] at h
  obtain ⟨_, hc3, h⟩ := Option.bind_eq_some_iff.1 h
  rcases hc4 : m_pl1q1 n a0 a1 0 false 0 with _ | (c4_ | ⟨⟩)
  ·rw [hc4] at h; cases h
  ·rw [hc4] at h
   dsimp only at h
   obtain rfl := oI h; exact runF2 hm (L := lT []) ⟨[6, 7], [(0, 7, false), (1, 3, false), (2, 4, false)], 3, 0, [], false, []⟩ (yy 9 (.call (C_tCq1  c1_ [] [])) <|
ww (m_tCq1_ok n  c1_ hc1) <|
zz 10 (xnF hc2) <|
yy 15 (.call (C_plq1 0 () [] [(5, 0, false), (6, 1, false)])) <|
ww (m_plq1_ok n 0 () hc3) <|
yy 17 (.rng (C_pl1q1 a0 a1 0 false 0 (.inl c4_) [(0, 8, false), (1, 7, false), (2, 0, false), (3, 1, false), (4, 2, false), (5, 3, false), (6, 4, false), (7, 5, false), (8, 6, false)] [(8, 0, false), (7, 1, false), (0, 2, false), (1, 3, false), (2, 4, false), (3, 5, false), (4, 6, false), (5, 7, false), (6, 8, false)]) [3, 4, 5, 6, 7, 14]) <|
ww (m_pl1q1_ok n a0 a1 0 false 0 (.inl c4_) hc4) ee) (by kernel_rfl)
  ·rw [hc4] at h
   dsimp only at h
   obtain rfl := oI h; exact runF2 hm (L := lT []) ⟨[6, 7], [(0, 7, false), (1, 3, false), (2, 4, false)], 3, 0, [], false, []⟩ (yy 9 (.call (C_tCq1  c1_ [] [])) <|
ww (m_tCq1_ok n  c1_ hc1) <|
zz 10 (xnF hc2) <|
yy 15 (.call (C_plq1 0 () [] [(5, 0, false), (6, 1, false)])) <|
ww (m_plq1_ok n 0 () hc3) <|
yy 17 (.rng (C_pl1q1 a0 a1 0 false 0 (.inr ()) [(0, 8, false), (1, 7, false), (2, 0, false), (3, 1, false), (4, 2, false), (5, 3, false), (6, 4, false), (7, 5, false), (8, 6, false)] [(8, 0, false), (7, 1, false), (0, 2, false), (1, 3, false), (2, 4, false), (3, 5, false), (4, 6, false), (5, 7, false), (6, 8, false)]) [3, 4, 5, 6, 7, 14]) <|
ww (m_pl1q1_ok n a0 a1 0 false 0 (.inr ()) hc4) ee) (by kernel_rfl)
 ·rw [if_neg hc2] at h
  obtain rfl := oI h; exact runF2 hm (L := lT []) ⟨[6, 7], [(0, 3, false), (1, 4, false)], 2, 0, [], false, []⟩ (yy 9 (.call (C_tCq1  c1_ [] [])) <|
ww (m_tCq1_ok n  c1_ hc1) <|
zz 10 (xnT hc2) ee) (by kernel_rfl)

def A_bKq1 : List Value := [(sW 0 0 (Args.A).length Args.cA)]
def H_bKq1 : AH := ⟨sB [], 0, 0⟩
def V_bKq1 (r : Unit) : Value := match r with
 | _ => (Value.func (.func 42) #[] #[(pN 0 0)])
def R_bKq1 (r : Unit) : AH := match r with
 | _ => ⟨sB [(0, (some (.cells (layT [(sW 0 0 (Args.A).length Args.cA)]) 22)))], 1, 0⟩
abbrev G_bKq1 (r : Unit) : Prop := Gv P (.func 28) A_bKq1 H_bKq1 (V_bKq1  r) (R_bKq1  r)
abbrev C_bKq1 (r : Unit) (ins outs : BL) : CallA := ⟨0, ins, V_bKq1  r, R_bKq1  r, outs⟩
def m_bKq1 (n : Nat) : Option (Unit) :=
 some ()
theorem m_bKq1_ok (n : Nat) (r : Unit) (h : m_bKq1 n = some r) : Gv P (.func 28) A_bKq1 H_bKq1 (V_bKq1  r) (R_bKq1  r) := by
 unfold m_bKq1 at h
 obtain rfl := oI h; exact runF2 hm (L := lT []) ⟨[2], [(0, 0, false)], 1, 0, [], false, []⟩ (ee) (by kernel_rfl)

def A_tS1q1 (a0 : Int) (a1 : List (Bool)) (a2 : Nat) (a3 : Nat) : List Value := [(i6 a0), (pN 0 0)]
def H_tS1q1 (a0 : Int) (a1 : List (Bool)) (a2 : Nat) (a3 : Nat) : AH := ⟨sB [(0, (some (.cells (layT [(sN 1 0 a2 a3)]) 43))), (1, (some (.cells (layT (rows rw_b a1)) 4)))], 2, 2⟩
def V_tS1q1 (a0 : Int) (a1 : List (Bool)) (a2 : Nat) (a3 : Nat) (r : Bool) : Value := match r with
 | o0 => (bO o0)
def R_tS1q1 (a0 : Int) (a1 : List (Bool)) (a2 : Nat) (a3 : Nat) (r : Bool) : AH := match r with
 | o0 => ⟨sB [], 2, 2⟩
abbrev G_tS1q1 (a0 : Int) (a1 : List (Bool)) (a2 : Nat) (a3 : Nat) (r : Bool) : Prop := Gv P (.func 30) (A_tS1q1 a0 a1 a2 a3) (H_tS1q1 a0 a1 a2 a3) (V_tS1q1 a0 a1 a2 a3 r) (R_tS1q1 a0 a1 a2 a3 r)
abbrev C_tS1q1 (a0 : Int) (a1 : List (Bool)) (a2 : Nat) (a3 : Nat) (r : Bool) (ins outs : BL) : CallA := ⟨2, ins, V_tS1q1 a0 a1 a2 a3 r, R_tS1q1 a0 a1 a2 a3 r, outs⟩
def m_tS1q1 (n : Nat) (a0 : Int) (a1 : List (Bool)) (a2 : Nat) (a3 : Nat) : Option (Bool) :=
 if 0 ≤ a0 ∧ a0 < ((a2 : Nat) : Int) then
  if (a0).toNat < (a1).length then
   ((some ((a1).getD (a0).toNat (false)))).bind fun c3_ =>
   some c3_
  else none
 else none
theorem m_tS1q1_ok (n : Nat) (a0 : Int) (a1 : List (Bool)) (a2 : Nat) (a3 : Nat) (r : Bool) (h : m_tS1q1 n a0 a1 a2 a3 = some r) : Gv P (.func 30) (A_tS1q1 a0 a1 a2 a3) (H_tS1q1 a0 a1 a2 a3) (V_tS1q1 a0 a1 a2 a3 r) (R_tS1q1 a0 a1 a2 a3 r) := by
 unfold m_tS1q1 at h
 by_cases hc1 : 0 ≤ a0 ∧ a0 < ((a2 : Nat) : Int)
 ·rw [if_pos hc1] at h
  by_cases hc2 : (a0).toNat < (a1).length
  ·rw [if_pos hc2] at h
   obtain ⟨c3_, hc3, h⟩ := Option.bind_eq_some_iff.1 h
   obtain rfl := oI h; exact runF2 hm (L := lT []) ⟨[3], [], 2, 2, [], false, []⟩ (zz 5 (xk19 1 a3 hc1) <|
zz 6 (ok20 hc3 (hc2)) ee) (by kernel_rfl)
  ·rw [if_neg hc2] at h; cases h
 ·rw [if_neg hc1] at h; cases h

def A_xFq1 (a0 : NL) (a1 : List (Bool)) (a2 : Nat) (a3 : Nat) : List Value := [(nlV a0), (Value.func (.func 30) #[] #[(pN 0 0)])]
def H_xFq1 (a0 : NL) (a1 : List (Bool)) (a2 : Nat) (a3 : Nat) : AH := ⟨sB [(0, (some (.cells (layT [(sN 1 0 a2 a3)]) 43))), (1, (some (.cells (layT (rows rw_b a1)) 4)))], 2, 2⟩
def V_xFq1 (a0 : NL) (a1 : List (Bool)) (a2 : Nat) (a3 : Nat) (r : Int) : Value := match r with
 | o0 => (i6 o0)
def R_xFq1 (a0 : NL) (a1 : List (Bool)) (a2 : Nat) (a3 : Nat) (r : Int) : AH := match r with
 | o0 => ⟨sB [], 2, 2⟩
abbrev G_xFq1 (a0 : NL) (a1 : List (Bool)) (a2 : Nat) (a3 : Nat) (r : Int) : Prop := Gv P (.func 43) (A_xFq1 a0 a1 a2 a3) (H_xFq1 a0 a1 a2 a3) (V_xFq1 a0 a1 a2 a3 r) (R_xFq1 a0 a1 a2 a3 r)
abbrev C_xFq1 (a0 : NL) (a1 : List (Bool)) (a2 : Nat) (a3 : Nat) (r : Int) (ins outs : BL) : CallA := ⟨2, ins, V_xFq1 a0 a1 a2 a3 r, R_xFq1 a0 a1 a2 a3 r, outs⟩
def S_xFq1_1 (x1_0 : List (Bool)) (x1_1 : Nat) (x1_2 : Nat) (x1_3 : NL) (x1_4 : Int) (st : Int) : XSt := match st with
 | x1_5 => (sT 19 [(0, (nlV x1_3)), (1, (Value.func (.func 30) #[] #[(pN 0 0)])), (7, (i6 x1_4)), (8, (i6 x1_5))], [], ⟨sB [(0, (some (.cells (layT [(sN 1 0 x1_1 x1_2)]) 43))), (1, (some (.cells (layT (rows rw_b x1_0)) 4)))], 2, 2⟩)
def X_xFq1_1 (x1_0 : List (Bool)) (x1_1 : Nat) (x1_2 : Nat) (x1_3 : NL) (x1_4 : Int) (r : (Int) ⊕ (Unit)) : Ex × XSt := match r with
 | .inl z1_0 => (.ret, (sT 19 [(4, (i6 z1_0))], [], ⟨sB [(0, (some (.cells (layT [(sN 1 0 x1_1 x1_2)]) 43))), (1, (some (.cells (layT (rows rw_b x1_0)) 4)))], 2, 2⟩))
 | .inr _ => (.exit 0, (sT 19 [], [], ⟨sB [(0, (some (.cells (layT [(sN 1 0 x1_1 x1_2)]) 43))), (1, (some (.cells (layT (rows rw_b x1_0)) 4)))], 2, 2⟩))
abbrev Q_xFq1_1 (rnd : Option Nat) (x1_0 : List (Bool)) (x1_1 : Nat) (x1_2 : Nat) (x1_3 : NL) (x1_4 : Int) (st : Int) (c : Ex × XSt) : Prop := CG P rnd (fnN P 43) 2 (codeOf P 43 [false, false, true, false, true]) (S_xFq1_1 x1_0 x1_1 x1_2 x1_3 x1_4 st) c
abbrev U_xFq1_1 (rd : Option Nat) (x1_0 : List (Bool)) (x1_1 : Nat) (x1_2 : Nat) (x1_3 : NL) (x1_4 : Int) (st : Int) (r : (Int) ⊕ (Unit)) : Prop := CG P rd (fnN P 43) 2 (codeOf P 43 [false, true, false, true]) (S_xFq1_1 x1_0 x1_1 x1_2 x1_3 x1_4 st) (X_xFq1_1 x1_0 x1_1 x1_2 x1_3 x1_4 r)
def B_xFq1_1 (n : Nat) (x1_0 : List (Bool)) (x1_1 : Nat) (x1_2 : Nat) (x1_3 : NL) (x1_4 : Int) (st : Int) : Option ((Int) ⊕ ((Int) ⊕ (Unit))) := match st with
 | x1_5 =>
  if x1_5 < x1_4 then
   if 0 ≤ x1_5 ∧ x1_5 < (x1_3.l.length : Int) then
    if (x1_5).toNat < ((x1_3).l).length then
     ((some (((x1_3).l).getD (x1_5).toNat 0))).bind fun y1_4_ =>
     (m_tS1q1 n y1_4_ x1_0 x1_1 x1_2).bind fun y1_5_ =>
     if y1_5_ = true then
      some (.inr (.inl x1_5))
     else
      some (.inl (w64 (x1_5 + (1 : Int))))
    else none
   else none
  else
   some (.inr (.inr ()))
def m_xFq1_1 (n : Nat) (x1_0 : List (Bool)) (x1_1 : Nat) (x1_2 : Nat) (x1_3 : NL) (x1_4 : Int) (st : Int) : Option ((Int) ⊕ (Unit)) := iterM (B_xFq1_1 n x1_0 x1_1 x1_2 x1_3 x1_4) n st
theorem q_xFq1_1_0 (n : Nat) {rnd : Option Nat} (x1_0 : List (Bool)) (x1_1 x1_2 : Nat) (x1_3 : NL) (x1_4 x1_5 : Int) (hy1_1 : x1_5 < x1_4) (hy1_2 : 0 ≤ x1_5 ∧ x1_5 < (x1_3.l.length : Int)) (hy1_3 : (x1_5).toNat < ((x1_3).l).length) (y1_4_ : Int) (hy1_4 : (some (((x1_3).l).getD (x1_5).toNat 0)) = some y1_4_) (y1_5_ : Bool) (hy1_5 : m_tS1q1 n y1_4_ x1_0 x1_1 x1_2 = some y1_5_) (hy1_6 : y1_5_ = true) : Q_xFq1_1 rnd x1_0 x1_1 x1_2 x1_3 x1_4 x1_5 (X_xFq1_1 x1_0 x1_1 x1_2 x1_3 x1_4 (.inl x1_5)) :=
 runC2 hm (L := lT []) ⟨[4], [(0, 0, false), (1, 1, true)], 2, 2, [], false, []⟩ (zz 1 (xdT hy1_1) <|
zz 13 (xk9 (Nat.add (x1_3).num 64) (x1_3).cap hy1_2) <|
zz 14 (nk10 hy1_4 hy1_3) <|
yy 15 (.call (C_tS1q1 y1_4_ x1_0 x1_1 x1_2 y1_5_ [(0, 0, false), (1, 1, true)] [])) <|
ww (m_tS1q1_ok n y1_4_ x1_0 x1_1 x1_2 y1_5_ hy1_5) <|
ww (rows_flat rwf_b x1_0 4) <|
zz 16 (xbT hy1_6) <|
ww (rows_flat rwf_b x1_0 4) <|
ee) (by kernel_rfl)
theorem q_xFq1_1_1 (n : Nat) {rnd : Option Nat} (x1_0 : List (Bool)) (x1_1 x1_2 : Nat) (x1_3 : NL) (x1_4 x1_5 : Int) (hy1_1 : x1_5 < x1_4) (hy1_2 : 0 ≤ x1_5 ∧ x1_5 < (x1_3.l.length : Int)) (hy1_3 : (x1_5).toNat < ((x1_3).l).length) (y1_4_ : Int) (hy1_4 : (some (((x1_3).l).getD (x1_5).toNat 0)) = some y1_4_) (y1_5_ : Bool) (hy1_5 : m_tS1q1 n y1_4_ x1_0 x1_1 x1_2 = some y1_5_) (hy1_6 : ¬ (y1_5_ = true)) : Q_xFq1_1 rnd x1_0 x1_1 x1_2 x1_3 x1_4 x1_5 (.normal, S_xFq1_1 x1_0 x1_1 x1_2 x1_3 x1_4 (w64 (x1_5 + (1 : Int)))) :=
 runC2 hm (L := lT []) ⟨[0, 1, 7, 8], [(0, 0, false), (1, 1, true)], 2, 2, [], false, []⟩ (zz 1 (xdT hy1_1) <|
zz 13 (xk9 (Nat.add (x1_3).num 64) (x1_3).cap hy1_2) <|
zz 14 (nk10 hy1_4 hy1_3) <|
yy 15 (.call (C_tS1q1 y1_4_ x1_0 x1_1 x1_2 y1_5_ [(0, 0, false), (1, 1, true)] [])) <|
ww (m_tS1q1_ok n y1_4_ x1_0 x1_1 x1_2 y1_5_ hy1_5) <|
ww (rows_flat rwf_b x1_0 4) <|
zz 16 (xbF hy1_6) <|
ww (rows_flat rwf_b x1_0 4) <|
ee) (by kernel_rfl)
theorem q_xFq1_1_2 (n : Nat) {rnd : Option Nat} (x1_0 : List (Bool)) (x1_1 x1_2 : Nat) (x1_3 : NL) (x1_4 x1_5 : Int) (hy1_1 : ¬ (x1_5 < x1_4)) : Q_xFq1_1 rnd x1_0 x1_1 x1_2 x1_3 x1_4 x1_5 (X_xFq1_1 x1_0 x1_1 x1_2 x1_3 x1_4 (.inr ())) :=
 runC2 hm (L := lT []) ⟨[], [(0, 0, false), (1, 1, true)], 2, 2, [], false, []⟩ (zz 1 (xdF hy1_1) <|
ww (rows_flat rwf_b x1_0 4) <|
ee) (by kernel_rfl)
theorem m_xFq1_1_ok (n : Nat) {rnd : Option Nat} (x1_0 : List (Bool)) (x1_1 : Nat) (x1_2 : Nat) (x1_3 : NL) (x1_4 : Int) (st : Int) (r : (Int) ⊕ (Unit)) (h : m_xFq1_1 n x1_0 x1_1 x1_2 x1_3 x1_4 st = some r) : CG P rnd (fnN P 43) 2 (codeOf P 43 [false, true, false, true]) (S_xFq1_1 x1_0 x1_1 x1_2 x1_3 x1_4 st) (X_xFq1_1 x1_0 x1_1 x1_2 x1_3 x1_4 r) :=
 CG.iter (b := codeOf P 43 [false, false, true, false, true]) (by kernel_rfl) (body := B_xFq1_1 n x1_0 x1_1 x1_2 x1_3 x1_4) (S := S_xFq1_1 x1_0 x1_1 x1_2 x1_3 x1_4) (X := X_xFq1_1 x1_0 x1_1 x1_2 x1_3 x1_4)
  (fun x1_5 s' h => by
  unfold B_xFq1_1 at h
  dsimp only at h
  by_cases hy1_1 : x1_5 < x1_4
  ·rw [if_pos hy1_1] at h
   by_cases hy1_2 : 0 ≤ x1_5 ∧ x1_5 < (x1_3.l.length : Int)
   ·rw [if_pos hy1_2] at h
    by_cases hy1_3 : (x1_5).toNat < ((x1_3).l).length
    ·rw [if_pos hy1_3] at h
     obtain ⟨y1_4_, hy1_4, h⟩ := Option.bind_eq_some_iff.1 h
     obtain ⟨y1_5_, hy1_5, h⟩ := Option.bind_eq_some_iff.1 h
     by_cases hy1_6 : y1_5_ = true
     ·rw [if_pos hy1_6] at h
      cases h
     ·rw [if_neg hy1_6] at h
      obtain rfl := Sum.inl.inj (oI h); exact q_xFq1_1_1 n x1_0 x1_1 x1_2 x1_3 x1_4 x1_5 hy1_1 hy1_2 hy1_3 y1_4_ hy1_4 y1_5_ hy1_5 hy1_6
    ·rw [if_neg hy1_3] at h; cases h
   ·rw [if_neg hy1_2] at h; cases h
  ·rw [if_neg hy1_1] at h
   cases h)
  (fun x1_5 r h => by
  unfold B_xFq1_1 at h
  dsimp only at h
  by_cases hy1_1 : x1_5 < x1_4
  ·rw [if_pos hy1_1] at h
   by_cases hy1_2 : 0 ≤ x1_5 ∧ x1_5 < (x1_3.l.length : Int)
   ·rw [if_pos hy1_2] at h
    by_cases hy1_3 : (x1_5).toNat < ((x1_3).l).length
    ·rw [if_pos hy1_3] at h
     obtain ⟨y1_4_, hy1_4, h⟩ := Option.bind_eq_some_iff.1 h
     obtain ⟨y1_5_, hy1_5, h⟩ := Option.bind_eq_some_iff.1 h
     by_cases hy1_6 : y1_5_ = true
     ·rw [if_pos hy1_6] at h
      obtain rfl := Sum.inr.inj (oI h); exact q_xFq1_1_0 n x1_0 x1_1 x1_2 x1_3 x1_4 x1_5 hy1_1 hy1_2 hy1_3 y1_4_ hy1_4 y1_5_ hy1_5 hy1_6
     ·rw [if_neg hy1_6] at h
      cases h
    ·rw [if_neg hy1_3] at h; cases h
   ·rw [if_neg hy1_2] at h; cases h
  ·rw [if_neg hy1_1] at h
   obtain rfl := Sum.inr.inj (oI h); exact q_xFq1_1_2 n x1_0 x1_1 x1_2 x1_3 x1_4 x1_5 hy1_1)
  (fun r => by intro hx; rcases r with _ | _ <;> cases hx) h
def m_xFq1 (n : Nat) (a0 : NL) (a1 : List (Bool)) (a2 : Nat) (a3 : Nat) : Option (Int) :=
 match m_xFq1_1 n a1 a2 a3 a0 (a0.l.length : Int) 0 with
 | none => none
 | some (.inl c1_) =>
  some c1_
 | some (.inr _) =>
  some (-1)
theorem m_xFq1_ok (n : Nat) (a0 : NL) (a1 : List (Bool)) (a2 : Nat) (a3 : Nat) (r : Int) (h : m_xFq1 n a0 a1 a2 a3 = some r) : Gv P (.func 43) (A_xFq1 a0 a1 a2 a3) (H_xFq1 a0 a1 a2 a3) (V_xFq1 a0 a1 a2 a3 r) (R_xFq1 a0 a1 a2 a3 r) := by
 unfold m_xFq1 at h
 rcases hc1 : m_xFq1_1 n a1 a2 a3 a0 (a0.l.length : Int) 0 with _ | (c1_ | ⟨⟩)
 ·rw [hc1] at h; cases h
 ·rw [hc1] at h
  dsimp only at h
  obtain rfl := oI h; exact runF2 hm (L := lT [(8, ⟨⟨[0, 1, 7, 8], [(0, 0, false), (1, 1, true)], 2, 2, [], false, []⟩, (X_xFq1_1 a1 a2 a3 a0 (a0.l.length : Int) (.inl c1_)).1, (X_xFq1_1 a1 a2 a3 a0 (a0.l.length : Int) (.inl c1_)).2⟩)]) ⟨[4], [], 2, 2, [], false, []⟩ (ww (p := U_xFq1_1 none a1 a2 a3 a0 (a0.l.length : Int) 0 (.inl c1_)) (m_xFq1_1_ok n a1 a2 a3 a0 (a0.l.length : Int) 0 (.inl c1_) hc1) <|
ww (rows_flat rwf_b a1 4) ee) (by kernel_rfl)
 ·rw [hc1] at h
  dsimp only at h
  obtain rfl := oI h; exact runF2 hm (L := lT [(8, ⟨⟨[0, 1, 7, 8], [(0, 0, false), (1, 1, true)], 2, 2, [], false, []⟩, (X_xFq1_1 a1 a2 a3 a0 (a0.l.length : Int) (.inr ())).1, (X_xFq1_1 a1 a2 a3 a0 (a0.l.length : Int) (.inr ())).2⟩)]) ⟨[4], [], 2, 2, [], false, []⟩ (ww (p := U_xFq1_1 none a1 a2 a3 a0 (a0.l.length : Int) 0 (.inr ())) (m_xFq1_1_ok n a1 a2 a3 a0 (a0.l.length : Int) 0 (.inr ()) hc1) <|
ww (rows_flat rwf_b a1 4) ee) (by kernel_rfl)

def A_cFq1 (a0 : NL) (a1 : List (Bool)) (a2 : Nat) (a3 : Nat) : List Value := [(nlV a0), (Value.func (.func 30) #[] #[(pN 0 0)])]
def H_cFq1 (a0 : NL) (a1 : List (Bool)) (a2 : Nat) (a3 : Nat) : AH := ⟨sB [(0, (some (.cells (layT [(sN 1 0 a2 a3)]) 43))), (1, (some (.cells (layT (rows rw_b a1)) 4)))], 2, 2⟩
def V_cFq1 (a0 : NL) (a1 : List (Bool)) (a2 : Nat) (a3 : Nat) (r : Bool) : Value := match r with
 | o0 => (bO o0)
def R_cFq1 (a0 : NL) (a1 : List (Bool)) (a2 : Nat) (a3 : Nat) (r : Bool) : AH := match r with
 | o0 => ⟨sB [], 2, 2⟩
abbrev G_cFq1 (a0 : NL) (a1 : List (Bool)) (a2 : Nat) (a3 : Nat) (r : Bool) : Prop := Gv P (.func 29) (A_cFq1 a0 a1 a2 a3) (H_cFq1 a0 a1 a2 a3) (V_cFq1 a0 a1 a2 a3 r) (R_cFq1 a0 a1 a2 a3 r)
abbrev C_cFq1 (a0 : NL) (a1 : List (Bool)) (a2 : Nat) (a3 : Nat) (r : Bool) (ins outs : BL) : CallA := ⟨2, ins, V_cFq1 a0 a1 a2 a3 r, R_cFq1 a0 a1 a2 a3 r, outs⟩
def m_cFq1 (n : Nat) (a0 : NL) (a1 : List (Bool)) (a2 : Nat) (a3 : Nat) : Option (Bool) :=
 (m_xFq1 n a0 a1 a2 a3).bind fun c1_ =>
 if c1_ ≥ (0 : Int) then
  some true
 else
  some false
theorem m_cFq1_ok (n : Nat) (a0 : NL) (a1 : List (Bool)) (a2 : Nat) (a3 : Nat) (r : Bool) (h : m_cFq1 n a0 a1 a2 a3 = some r) : Gv P (.func 29) (A_cFq1 a0 a1 a2 a3) (H_cFq1 a0 a1 a2 a3) (V_cFq1 a0 a1 a2 a3 r) (R_cFq1 a0 a1 a2 a3 r) := by
 unfold m_cFq1 at h
 obtain ⟨c1_, hc1, h⟩ := Option.bind_eq_some_iff.1 h
 by_cases hc2 : c1_ ≥ (0 : Int)
 ·rw [if_pos hc2] at h
  obtain rfl := oI h; exact runF2 hm (L := lT []) ⟨[4], [], 2, 2, [], false, []⟩ (yy 5 (.call (C_xFq1 a0 a1 a2 a3 c1_ [(0, 0, false), (1, 1, true)] [])) <|
ww (m_xFq1_ok n a0 a1 a2 a3 c1_ hc1) <|
ww (rows_flat rwf_b a1 4) <|
zz 6 (xdT hc2) ee) (by kernel_rfl)
 ·rw [if_neg hc2] at h
  obtain rfl := oI h; exact runF2 hm (L := lT []) ⟨[4], [], 2, 2, [], false, []⟩ (yy 5 (.call (C_xFq1 a0 a1 a2 a3 c1_ [(0, 0, false), (1, 1, true)] [])) <|
ww (m_xFq1_ok n a0 a1 a2 a3 c1_ hc1) <|
ww (rows_flat rwf_b a1 4) <|
zz 6 (xdF hc2) ee) (by kernel_rfl)

def A_tS_111010y1 (a0 : List (Bool)) (a1 : Nat) (a2 : Nat) (a3 : Int) (a4 : Int) (a5 : Int) (a6 : Int) (a7 : Int) (a8 : Int) (a9 : Int) (a10 : NL) (a11 : Int) : List Value := [(i6 a3), (Value.agg #[(i6 a4), (i6 a5), (i6 a6), (i6 a7), (i6 a8), (i6 a9), (nlV a10), (Value.int .u64 a11)])]
def H_tS_111010y1 (a0 : List (Bool)) (a1 : Nat) (a2 : Nat) (a3 : Int) (a4 : Int) (a5 : Int) (a6 : Int) (a7 : Int) (a8 : Int) (a9 : Int) (a10 : NL) (a11 : Int) : AH := ⟨sB [(0, (some (rblk P 17 [false, true, false, true, true, true] .ready none [(3, (pN 2 0)), (13, (Value.func (.func 42) #[] #[(pN 4 0)]))] 1))), (1, (some (.marks true))), (2, (some (.cells (layT [(sN 3 0 a1 a2)]) 43))), (3, (some (.cells (layT (rows rw_b a0)) 4))), (4, (some (.cells (layT [(sW 0 0 (Args.A).length Args.cA)]) 22)))], 5, 5⟩
def V_tS_111010y1 (a0 : List (Bool)) (a1 : Nat) (a2 : Nat) (a3 : Int) (a4 : Int) (a5 : Int) (a6 : Int) (a7 : Int) (a8 : Int) (a9 : Int) (a10 : NL) (a11 : Int) (r : List (Bool)) : Value := match r with
 | o0 => (bO true)
def R_tS_111010y1 (a0 : List (Bool)) (a1 : Nat) (a2 : Nat) (a3 : Int) (a4 : Int) (a5 : Int) (a6 : Int) (a7 : Int) (a8 : Int) (a9 : Int) (a10 : NL) (a11 : Int) (r : List (Bool)) : AH := match r with
 | o0 => ⟨sB [(0, (some (rblk P 17 [false, true, false, true, true, true] .ready none [(3, (pN 2 0)), (13, (Value.func (.func 42) #[] #[(pN 4 0)]))] 1))), (1, (some (.marks true))), (2, (some (.cells (layT [(sN 3 0 a1 a2)]) 43))), (3, (some (.cells (layT (rows rw_b o0)) 4))), (4, (some (.cells (layT [(sW 0 0 (Args.A).length Args.cA)]) 22)))], 5, 0⟩
abbrev G_tS_111010y1 (a0 : List (Bool)) (a1 : Nat) (a2 : Nat) (a3 : Int) (a4 : Int) (a5 : Int) (a6 : Int) (a7 : Int) (a8 : Int) (a9 : Int) (a10 : NL) (a11 : Int) (r : List (Bool)) : Prop := Gv P (.yield 0) (A_tS_111010y1 a0 a1 a2 a3 a4 a5 a6 a7 a8 a9 a10 a11) (H_tS_111010y1 a0 a1 a2 a3 a4 a5 a6 a7 a8 a9 a10 a11) (V_tS_111010y1 a0 a1 a2 a3 a4 a5 a6 a7 a8 a9 a10 a11 r) (R_tS_111010y1 a0 a1 a2 a3 a4 a5 a6 a7 a8 a9 a10 a11 r)
abbrev C_tS_111010y1 (a0 : List (Bool)) (a1 : Nat) (a2 : Nat) (a3 : Int) (a4 : Int) (a5 : Int) (a6 : Int) (a7 : Int) (a8 : Int) (a9 : Int) (a10 : NL) (a11 : Int) (r : List (Bool)) (ins outs : BL) : CallA := ⟨5, ins, V_tS_111010y1 a0 a1 a2 a3 a4 a5 a6 a7 a8 a9 a10 a11 r, R_tS_111010y1 a0 a1 a2 a3 a4 a5 a6 a7 a8 a9 a10 a11 r, outs⟩
def m_tS_111010y1 (n : Nat) (a0 : List (Bool)) (a1 : Nat) (a2 : Nat) (a3 : Int) (a4 : Int) (a5 : Int) (a6 : Int) (a7 : Int) (a8 : Int) (a9 : Int) (a10 : NL) (a11 : Int) : Option (List (Bool)) :=
 if a11 = (0 : Int) then
  (m_cFq1 n a10 a0 a1 a2).bind fun c2_ =>
  if 0 ≤ a3 ∧ a3 < ((a1 : Nat) : Int) then
   if (a3).toNat < (a0).length then
    some ((a0).set (a3).toNat c2_)
   else none
  else none
 else
  if 0 ≤ a3 ∧ a3 < ((a1 : Nat) : Int) then
   if (a3).toNat < (a0).length then
    some ((a0).set (a3).toNat true)
   else none
  else none
theorem m_tS_111010y1_ok (n : Nat) (a0 : List (Bool)) (a1 : Nat) (a2 : Nat) (a3 : Int) (a4 : Int) (a5 : Int) (a6 : Int) (a7 : Int) (a8 : Int) (a9 : Int) (a10 : NL) (a11 : Int) (r : List (Bool)) (h : m_tS_111010y1 n a0 a1 a2 a3 a4 a5 a6 a7 a8 a9 a10 a11 = some r) : Gv P (.yield 0) (A_tS_111010y1 a0 a1 a2 a3 a4 a5 a6 a7 a8 a9 a10 a11) (H_tS_111010y1 a0 a1 a2 a3 a4 a5 a6 a7 a8 a9 a10 a11) (V_tS_111010y1 a0 a1 a2 a3 a4 a5 a6 a7 a8 a9 a10 a11 r) (R_tS_111010y1 a0 a1 a2 a3 a4 a5 a6 a7 a8 a9 a10 a11 r) := by
 unfold m_tS_111010y1 at h
 by_cases hc1 : a11 = (0 : Int)
 ·rw [if_pos hc1] at h
  obtain ⟨c2_, hc2, h⟩ := Option.bind_eq_some_iff.1 h
  by_cases hc3 : 0 ≤ a3 ∧ a3 < ((a1 : Nat) : Int)
  ·rw [if_pos hc3] at h
   by_cases hc4 : (a3).toNat < (a0).length
   ·rw [if_pos hc4] at h
    obtain rfl := oI h; exact runY_ok hm (A1 := aT []) (L1 := lT []) (A2 := aT [(5, vf), (10, .call (C_cFq1 a10 a0 a1 a2 c2_ [(0, 2, false), (1, 3, true)] [])), (12, .pur (pN 3 ((a3).toNat * 1))), (13, .sto (layT (rows rw_b ((a0).set (a3).toNat c2_))))]) (L2 := lT []) (wk := ⟨[], [(0, 0, false), (1, 1, false), (2, 2, false), (3, 3, true), (4, 4, false)], 5, 0, [], false, []⟩) (ps := [nF a11 0, G_cFq1 a10 a0 a1 a2 c2_, FlatB (.cells (layT (rows rw_b a0)) 4), xp19 3 a1 a2 a3, ∃ old, rdT (layT (rows rw_b a0)) 1 ((a3).toNat * 1) = some old, layL [(bO c2_)] ((a3).toNat * 1) (layT (rows rw_b a0)) = layT (rows rw_b ((a0).set (a3).toNat c2_)), FlatB (.cells (layT (rows rw_b ((a0).set (a3).toNat c2_))) 4)]) (by kernel_rfl) ⟨((xnF hc1).p), (m_cFq1_ok n a10 a0 a1 a2 c2_ hc2), (rows_flat rwf_b a0 4), ((xk19 3 a2 hc3).p), (Exists.elim (rows_st rwf_b (false) (i := (a3).toNat) (j := 0) (l := [(bO c2_)]) c2_ ((a3).toNat * 1) rfl (hc4) (Nat.le_of_ble_eq_true rfl) rfl) fun o h => ⟨o, h.1⟩), (Exists.elim (rows_st rwf_b (false) (i := (a3).toNat) (j := 0) (l := [(bO c2_)]) c2_ ((a3).toNat * 1) rfl (hc4) (Nat.le_of_ble_eq_true rfl) rfl) fun o h => h.2), (rows_flat rwf_b ((a0).set (a3).toNat c2_) 4), trivial⟩
   ·rw [if_neg hc4] at h; cases h
  ·rw [if_neg hc3] at h; cases h
 ·rw [if_neg hc1] at h
  by_cases hc2 : 0 ≤ a3 ∧ a3 < ((a1 : Nat) : Int)
  ·rw [if_pos hc2] at h
   by_cases hc3 : (a3).toNat < (a0).length
   ·rw [if_pos hc3] at h
    obtain rfl := oI h; exact runY_ok hm (A1 := aT []) (L1 := lT []) (A2 := aT [(5, vt), (12, .pur (pN 3 ((a3).toNat * 1))), (13, .sto (layT (rows rw_b ((a0).set (a3).toNat true))))]) (L2 := lT []) (wk := ⟨[], [(0, 0, false), (1, 1, false), (2, 2, false), (3, 3, true), (4, 4, false)], 5, 0, [], false, []⟩) (ps := [nT a11 0, xp19 3 a1 a2 a3, ∃ old, rdT (layT (rows rw_b a0)) 1 ((a3).toNat * 1) = some old, layL [(bO true)] ((a3).toNat * 1) (layT (rows rw_b a0)) = layT (rows rw_b ((a0).set (a3).toNat true)), FlatB (.cells (layT (rows rw_b ((a0).set (a3).toNat true))) 4)]) (by kernel_rfl) ⟨((xnT hc1).p), ((xk19 3 a2 hc2).p), (Exists.elim (rows_st rwf_b (false) (i := (a3).toNat) (j := 0) (l := [(bO true)]) true ((a3).toNat * 1) rfl (hc3) (Nat.le_of_ble_eq_true rfl) rfl) fun o h => ⟨o, h.1⟩), (Exists.elim (rows_st rwf_b (false) (i := (a3).toNat) (j := 0) (l := [(bO true)]) true ((a3).toNat * 1) rfl (hc3) (Nat.le_of_ble_eq_true rfl) rfl) fun o h => h.2), (rows_flat rwf_b ((a0).set (a3).toNat true) 4), trivial⟩
   ·rw [if_neg hc3] at h; cases h
  ·rw [if_neg hc2] at h; cases h

def A_bK1q1 (a0 : List (Bool)) (a1 : Nat) (a2 : Nat) : List Value := [(Value.func (.yield 0) #[] #[]), (pN 4 0)]
def H_bK1q1 (a0 : List (Bool)) (a1 : Nat) (a2 : Nat) : AH := ⟨sB [(0, (some (rblk P 17 [false, true, false, true, true, true] .ready none [(3, (pN 2 0)), (13, (Value.func (.func 42) #[] #[(pN 4 0)]))] 1))), (1, (some (.marks true))), (2, (some (.cells (layT [(sN 3 0 a1 a2)]) 43))), (3, (some (.cells (layT (rows rw_b a0)) 4))), (4, (some (.cells (layT [(sW 0 0 (Args.A).length Args.cA)]) 22)))], 5, 5⟩
def V_bK1q1 (a0 : List (Bool)) (a1 : Nat) (a2 : Nat) (r : List (Bool)) : Value := match r with
 | o0 => (Value.tuple #[])
def R_bK1q1 (a0 : List (Bool)) (a1 : Nat) (a2 : Nat) (r : List (Bool)) : AH := match r with
 | o0 => ⟨sB [(0, (some (rblk P 17 [false, true, false, true, true, true] .ready none [(3, (pN 2 0)), (13, (Value.func (.func 42) #[] #[(pN 4 0)]))] 1))), (1, (some (.marks true))), (2, (some (.cells (layT [(sN 3 0 a1 a2)]) 43))), (3, (some (.cells (layT (rows rw_b o0)) 4))), (4, (some (.cells (layT [(sW 0 0 (Args.A).length Args.cA)]) 22)))], 5, 0⟩
abbrev G_bK1q1 (a0 : List (Bool)) (a1 : Nat) (a2 : Nat) (r : List (Bool)) : Prop := Gv P (.func 42) (A_bK1q1 a0 a1 a2) (H_bK1q1 a0 a1 a2) (V_bK1q1 a0 a1 a2 r) (R_bK1q1 a0 a1 a2 r)
abbrev C_bK1q1 (a0 : List (Bool)) (a1 : Nat) (a2 : Nat) (r : List (Bool)) (ins outs : BL) : CallA := ⟨5, ins, V_bK1q1 a0 a1 a2 r, R_bK1q1 a0 a1 a2 r, outs⟩
def S_bK1q1_1 (x1_1 : Nat) (x1_2 : Nat) (st : List (Bool) × Int) : XSt := match st with
 | (x1_0, x1_3) => (sT 19 [(0, (Value.func (.yield 0) #[] #[])), (1, (pN 4 0)), (3, (i6 x1_3))], [], ⟨sB [(0, (some (rblk P 17 [false, true, false, true, true, true] .ready none [(3, (pN 2 0)), (13, (Value.func (.func 42) #[] #[(pN 4 0)]))] 1))), (1, (some (.marks true))), (2, (some (.cells (layT [(sN 3 0 x1_1 x1_2)]) 43))), (3, (some (.cells (layT (rows rw_b x1_0)) 4))), (4, (some (.cells (layT [(sW 0 0 (Args.A).length Args.cA)]) 22)))], 5, 0⟩)
def X_bK1q1_1 (x1_1 : Nat) (x1_2 : Nat) (r : List (Bool)) : Ex × XSt := match r with
 | z1_0 => (.exit 0, (sT 19 [], [], ⟨sB [(0, (some (rblk P 17 [false, true, false, true, true, true] .ready none [(3, (pN 2 0)), (13, (Value.func (.func 42) #[] #[(pN 4 0)]))] 1))), (1, (some (.marks true))), (2, (some (.cells (layT [(sN 3 0 x1_1 x1_2)]) 43))), (3, (some (.cells (layT (rows rw_b z1_0)) 4))), (4, (some (.cells (layT [(sW 0 0 (Args.A).length Args.cA)]) 22)))], 5, 0⟩))
abbrev Q_bK1q1_1 (rnd : Option Nat) (x1_1 : Nat) (x1_2 : Nat) (st : List (Bool) × Int) (c : Ex × XSt) : Prop := CG P rnd (fnN P 42) 5 (codeOf P 42 [false, false, true]) (S_bK1q1_1 x1_1 x1_2 st) c
abbrev U_bK1q1_1 (rd : Option Nat) (x1_1 : Nat) (x1_2 : Nat) (st : List (Bool) × Int) (r : List (Bool)) : Prop := CG P rd (fnN P 42) 5 (codeOf P 42 [false, true]) (S_bK1q1_1 x1_1 x1_2 st) (X_bK1q1_1 x1_1 x1_2 r)
def B_bK1q1_1 (n : Nat) (x1_1 : Nat) (x1_2 : Nat) (st : List (Bool) × Int) : Option ((List (Bool) × Int) ⊕ (List (Bool))) := match st with
 | (x1_0, x1_3) =>
  if x1_3 ≥ (0 : Int) then
   if 0 ≤ x1_3 ∧ x1_3 < (Args.A.length : Int) then
    ((some ((Args.A).getD (x1_3).toNat (0, 0, 0, 0, 0, 0, nl0, 0)))).bind fun y1_3_ =>
    (m_tS_111010y1 n x1_0 x1_1 x1_2 x1_3 (y1_3_.1) (y1_3_.2.1) (y1_3_.2.2.1) (y1_3_.2.2.2.1) (y1_3_.2.2.2.2.1) (y1_3_.2.2.2.2.2.1) (y1_3_.2.2.2.2.2.2.1) (y1_3_.2.2.2.2.2.2.2)).bind fun y1_4_ =>
    some (.inl (y1_4_, (w64 (x1_3 - (1 : Int)))))
   else none
  else
   some (.inr x1_0)
def m_bK1q1_1 (n : Nat) (x1_1 : Nat) (x1_2 : Nat) (st : List (Bool) × Int) : Option (List (Bool)) := iterM (B_bK1q1_1 n x1_1 x1_2) n st
theorem q_bK1q1_1_0 (n : Nat) {rnd : Option Nat} (x1_0 : List (Bool)) (x1_1 x1_2 : Nat) (x1_3 : Int) (hy1_1 : x1_3 ≥ (0 : Int)) (hy1_2 : 0 ≤ x1_3 ∧ x1_3 < (Args.A.length : Int)) (y1_3_ : R8) (hy1_3 : (some ((Args.A).getD (x1_3).toNat (0, 0, 0, 0, 0, 0, nl0, 0))) = some y1_3_) (y1_4_ : List (Bool)) (hy1_4 : m_tS_111010y1 n x1_0 x1_1 x1_2 x1_3 (y1_3_.1) (y1_3_.2.1) (y1_3_.2.2.1) (y1_3_.2.2.2.1) (y1_3_.2.2.2.2.1) (y1_3_.2.2.2.2.2.1) (y1_3_.2.2.2.2.2.2.1) (y1_3_.2.2.2.2.2.2.2) = some y1_4_) : Q_bK1q1_1 rnd x1_1 x1_2 (x1_0, x1_3) (.normal, S_bK1q1_1 x1_1 x1_2 (y1_4_, (w64 (x1_3 - (1 : Int))))) :=
 runC2 hm (L := lT []) ⟨[0, 1, 3], [(0, 0, false), (1, 1, false), (2, 2, false), (3, 3, true), (4, 4, false)], 5, 0, [], false, []⟩ (zz 3 (xdT hy1_1) <|
zz 12 (xk1 0 Args.cA hy1_2) <|
zz 13 (lk2 hy1_3 (toNatLt hy1_2)) <|
yy 14 (.call (C_tS_111010y1 x1_0 x1_1 x1_2 x1_3 (y1_3_.1) (y1_3_.2.1) (y1_3_.2.2.1) (y1_3_.2.2.2.1) (y1_3_.2.2.2.2.1) (y1_3_.2.2.2.2.2.1) (y1_3_.2.2.2.2.2.2.1) (y1_3_.2.2.2.2.2.2.2) y1_4_ [(0, 0, false), (1, 1, false), (2, 2, false), (3, 3, true), (4, 4, false)] [(0, 0, false), (1, 1, false), (2, 2, false), (3, 3, true), (4, 4, false)])) <|
ww (m_tS_111010y1_ok n x1_0 x1_1 x1_2 x1_3 (y1_3_.1) (y1_3_.2.1) (y1_3_.2.2.1) (y1_3_.2.2.2.1) (y1_3_.2.2.2.2.1) (y1_3_.2.2.2.2.2.1) (y1_3_.2.2.2.2.2.2.1) (y1_3_.2.2.2.2.2.2.2) y1_4_ hy1_4) <|
ww (rows_flat rwf_b x1_0 4) <|
ww (rows_flat rwf_b y1_4_ 4) <|
ww (rows_flat rwf_b y1_4_ 4) <|
ee) (by kernel_rfl)
theorem q_bK1q1_1_1 (n : Nat) {rnd : Option Nat} (x1_0 : List (Bool)) (x1_1 x1_2 : Nat) (x1_3 : Int) (hy1_1 : ¬ (x1_3 ≥ (0 : Int))) : Q_bK1q1_1 rnd x1_1 x1_2 (x1_0, x1_3) (X_bK1q1_1 x1_1 x1_2 x1_0) :=
 runC2 hm (L := lT []) ⟨[], [(0, 0, false), (1, 1, false), (2, 2, false), (3, 3, true), (4, 4, false)], 5, 0, [], false, []⟩ (zz 3 (xdF hy1_1) <|
ww (rows_flat rwf_b x1_0 4) <|
ee) (by kernel_rfl)
theorem m_bK1q1_1_ok (n : Nat) {rnd : Option Nat} (x1_1 : Nat) (x1_2 : Nat) (st : List (Bool) × Int) (r : List (Bool)) (h : m_bK1q1_1 n x1_1 x1_2 st = some r) : CG P rnd (fnN P 42) 5 (codeOf P 42 [false, true]) (S_bK1q1_1 x1_1 x1_2 st) (X_bK1q1_1 x1_1 x1_2 r) :=
 CG.iter (b := codeOf P 42 [false, false, true]) (by kernel_rfl) (body := B_bK1q1_1 n x1_1 x1_2) (S := S_bK1q1_1 x1_1 x1_2) (X := X_bK1q1_1 x1_1 x1_2)
  (fun s s' h => by
  obtain ⟨x1_0, x1_3⟩ := s
  unfold B_bK1q1_1 at h
  dsimp only at h
  by_cases hy1_1 : x1_3 ≥ (0 : Int)
  ·rw [if_pos hy1_1] at h
   by_cases hy1_2 : 0 ≤ x1_3 ∧ x1_3 < (Args.A.length : Int)
   ·rw [if_pos hy1_2] at h
    obtain ⟨y1_3_, hy1_3, h⟩ := Option.bind_eq_some_iff.1 h
    obtain ⟨y1_4_, hy1_4, h⟩ := Option.bind_eq_some_iff.1 h
    obtain rfl := Sum.inl.inj (oI h); exact q_bK1q1_1_0 n x1_0 x1_1 x1_2 x1_3 hy1_1 hy1_2 y1_3_ hy1_3 y1_4_ hy1_4
   ·rw [if_neg hy1_2] at h; cases h
  ·rw [if_neg hy1_1] at h
   cases h)
  (fun s r h => by
  obtain ⟨x1_0, x1_3⟩ := s
  unfold B_bK1q1_1 at h
  dsimp only at h
  by_cases hy1_1 : x1_3 ≥ (0 : Int)
  ·rw [if_pos hy1_1] at h
   by_cases hy1_2 : 0 ≤ x1_3 ∧ x1_3 < (Args.A.length : Int)
   ·rw [if_pos hy1_2] at h
    obtain ⟨y1_3_, hy1_3, h⟩ := Option.bind_eq_some_iff.1 h
    obtain ⟨y1_4_, hy1_4, h⟩ := Option.bind_eq_some_iff.1 h
    cases h
   ·rw [if_neg hy1_2] at h; cases h
  ·rw [if_neg hy1_1] at h
   obtain rfl := Sum.inr.inj (oI h); exact q_bK1q1_1_1 n x1_0 x1_1 x1_2 x1_3 hy1_1)
  (fun r => by intro hx; cases hx) h
def m_bK1q1 (n : Nat) (a0 : List (Bool)) (a1 : Nat) (a2 : Nat) : Option (List (Bool)) :=
 ((some (w64 ((Args.A.length : Int) - (1 : Int))))).bind fun c1_ =>
 (m_bK1q1_1 n a1 a2 (a0, c1_)).bind fun c2_ =>
 some c2_
theorem m_bK1q1_ok (n : Nat) (a0 : List (Bool)) (a1 : Nat) (a2 : Nat) (r : List (Bool)) (h : m_bK1q1 n a0 a1 a2 = some r) : Gv P (.func 42) (A_bK1q1 a0 a1 a2) (H_bK1q1 a0 a1 a2) (V_bK1q1 a0 a1 a2 r) (R_bK1q1 a0 a1 a2 r) := by
 unfold m_bK1q1 at h
 obtain ⟨c1_, hc1, h⟩ := Option.bind_eq_some_iff.1 h
 obtain ⟨c2_, hc2, h⟩ := Option.bind_eq_some_iff.1 h
 obtain rfl := oI h; exact runF2 hm (L := lT [(6, ⟨⟨[0, 1, 3], [(0, 0, false), (1, 1, false), (2, 2, false), (3, 3, true), (4, 4, false)], 5, 0, [], false, []⟩, (X_bK1q1_1 a1 a2 c2_).1, (X_bK1q1_1 a1 a2 c2_).2⟩)]) ⟨[], [(0, 0, false), (1, 1, false), (2, 2, false), (3, 3, true), (4, 4, false)], 5, 0, [], false, []⟩ (zz 3 (xnm hc1) <|
ww (p := U_bK1q1_1 none a1 a2 (a0, c1_) c2_) (m_bK1q1_1_ok n a1 a2 (a0, c1_) c2_ hc2) <|
ww (rows_flat rwf_b a0 4) <|
ww (rows_flat rwf_b c2_ 4) ee) (by kernel_rfl)

def A_tSq1 : List Value := [(sW 0 0 (Args.A).length Args.cA)]
def H_tSq1 : AH := ⟨sB [], 0, 0⟩
def V_tSq1 (r : List (Bool) × Nat) : Value := match r with
 | (o0, o1) => (sN 1 0 o1 o1)
def R_tSq1 (r : List (Bool) × Nat) : AH := match r with
 | (o0, o1) => ⟨sB [(0, (some (.marks false))), (1, (some (.cells (layT (rows rw_b o0)) 4)))], 2, 0⟩
abbrev G_tSq1 (r : List (Bool) × Nat) : Prop := Gv P (.func 17) A_tSq1 H_tSq1 (V_tSq1  r) (R_tSq1  r)
abbrev C_tSq1 (r : List (Bool) × Nat) (ins outs : BL) : CallA := ⟨0, ins, V_tSq1  r, R_tSq1  r, outs⟩
def m_tSq1 (n : Nat) : Option (List (Bool) × Nat) :=
 (m_tCq1 n).bind fun c1_ =>
 if c1_ = (0 : Int) then
  if 0 ≤ (Args.A.length : Int) then
   if ((Args.A.length : Int)).toNat * 1 ≤ 140737488355328 then
    (m_bKq1 n).bind fun _ =>
    (m_bK1q1 n (List.replicate ((Args.A.length : Int)).toNat (false)) (((Args.A.length : Int)).toNat) (((Args.A.length : Int)).toNat)).bind fun c6_ =>
    some (c6_, (((Args.A.length : Int)).toNat))
   else none
  else none
 else
  none
theorem m_tSq1_ok (n : Nat) (r : List (Bool) × Nat) (h : m_tSq1 n = some r) : Gv P (.func 17) A_tSq1 H_tSq1 (V_tSq1  r) (R_tSq1  r) := by
 unfold m_tSq1 at h
 obtain ⟨c1_, hc1, h⟩ := Option.bind_eq_some_iff.1 h
 by_cases hc2 : c1_ = (0 : Int)
 ·rw [if_pos hc2] at h
  by_cases hc3 : 0 ≤ (Args.A.length : Int)
  ·rw [if_pos hc3] at h
   by_cases hc4 : ((Args.A.length : Int)).toNat * 1 ≤ 140737488355328
   ·rw [if_pos hc4] at h
    obtain ⟨_, hc5, h⟩ := Option.bind_eq_some_iff.1 h
    obtain ⟨c6_, hc6, h⟩ := Option.bind_eq_some_iff.1 h
    obtain rfl := oI h; exact runF2 hm (L := lT []) ⟨[2], [(0, 3, false), (1, 0, true)], 2, 0, [], false, []⟩ (yy 5 (.call (C_tCq1  c1_ [] [])) <|
ww (m_tCq1_ok n  c1_ hc1) <|
zz 6 (xnF hc2) <|
yy 11 (.mk ((Args.A.length : Int)).toNat (rows rw_b (List.replicate ((Args.A.length : Int)).toNat (false)))) <|
ww (p := natOf (i6 (Args.A.length : Int)) = some ((Args.A.length : Int)).toNat) (natOf_toNat hc3) <|
ww (p := natOf (i6 (Args.A.length : Int)) = some ((Args.A.length : Int)).toNat) (natOf_toNat hc3) <|
ww (p := fits ((Args.A.length : Int)).toNat 1 = true) (fits_ok hc4 (by omega)) <|
ww (p := isZ8 [(bO false)] = false) (rfl) <|
ww (p := reps [(bO false)] ((Args.A.length : Int)).toNat = (rows rw_b (List.replicate ((Args.A.length : Int)).toNat (false)))) (reps_rows rw_b (false) _ rfl _) <|
yy 17 (.call (C_bKq1  () [] [(2, 0, false)])) <|
ww (m_bKq1_ok n  () hc5) <|
yy 19 (.rng (C_bK1q1 (List.replicate ((Args.A.length : Int)).toNat (false)) (((Args.A.length : Int)).toNat) (((Args.A.length : Int)).toNat) c6_ [(0, 4, false), (1, 3, false), (2, 1, false), (3, 0, true), (4, 2, false)] [(4, 0, false), (3, 1, false), (1, 2, false), (0, 3, true), (2, 4, false)]) [3, 13]) <|
ww (m_bK1q1_ok n (List.replicate ((Args.A.length : Int)).toNat (false)) (((Args.A.length : Int)).toNat) (((Args.A.length : Int)).toNat) c6_ hc6) <|
ww (rows_flat rwf_b (List.replicate ((Args.A.length : Int)).toNat (false)) 4) <|
ww (rows_flat rwf_b c6_ 4) <|
ww (rows_flat rwf_b c6_ 4) ee) (by kernel_rfl)
   ·rw [if_neg hc4] at h; cases h
  ·rw [if_neg hc3] at h; cases h
 ·rw [if_neg hc2] at h
  cases h

def A_rRq1 (a0 : List (Bool)) (a1 : Nat) (a2 : Nat) (a3 : Int) : List Value := [(sW 0 0 (Args.A).length Args.cA), (sN 0 0 a1 a2), (i6 a3)]
def H_rRq1 (a0 : List (Bool)) (a1 : Nat) (a2 : Nat) (a3 : Int) : AH := ⟨sB [(0, (some (.cells (layT (rows rw_b a0)) 4)))], 1, 1⟩
def V_rRq1 (a0 : List (Bool)) (a1 : Nat) (a2 : Nat) (a3 : Int) (r : Bool) : Value := match r with
 | o0 => (bO o0)
def R_rRq1 (a0 : List (Bool)) (a1 : Nat) (a2 : Nat) (a3 : Int) (r : Bool) : AH := match r with
 | o0 => ⟨sB [], 1, 1⟩
abbrev G_rRq1 (a0 : List (Bool)) (a1 : Nat) (a2 : Nat) (a3 : Int) (r : Bool) : Prop := Gv P (.func 16) (A_rRq1 a0 a1 a2 a3) (H_rRq1 a0 a1 a2 a3) (V_rRq1 a0 a1 a2 a3 r) (R_rRq1 a0 a1 a2 a3 r)
abbrev C_rRq1 (a0 : List (Bool)) (a1 : Nat) (a2 : Nat) (a3 : Int) (r : Bool) (ins outs : BL) : CallA := ⟨1, ins, V_rRq1 a0 a1 a2 a3 r, R_rRq1 a0 a1 a2 a3 r, outs⟩
def m_rRq1 (n : Nat) (a0 : List (Bool)) (a1 : Nat) (a2 : Nat) (a3 : Int) : Option (Bool) :=
 if 0 ≤ a3 ∧ a3 < (Args.A.length : Int) then
  ((some ((Args.A).getD (a3).toNat (0, 0, 0, 0, 0, 0, nl0, 0)))).bind fun c2_ =>
  if (c2_.2.1) = (2 : Int) then
   if 0 ≤ a3 ∧ a3 < ((a1 : Nat) : Int) then
    if (a3).toNat < (a0).length then
     ((some ((a0).getD (a3).toNat (false)))).bind fun c6_ =>
     if c6_ = true then
      some false
     else
      some true
    else none
   else none
  else
   some false
 else none
theorem m_rRq1_ok (n : Nat) (a0 : List (Bool)) (a1 : Nat) (a2 : Nat) (a3 : Int) (r : Bool) (h : m_rRq1 n a0 a1 a2 a3 = some r) : Gv P (.func 16) (A_rRq1 a0 a1 a2 a3) (H_rRq1 a0 a1 a2 a3) (V_rRq1 a0 a1 a2 a3 r) (R_rRq1 a0 a1 a2 a3 r) := by
 unfold m_rRq1 at h
 by_cases hc1 : 0 ≤ a3 ∧ a3 < (Args.A.length : Int)
 ·rw [if_pos hc1] at h
  obtain ⟨c2_, hc2, h⟩ := Option.bind_eq_some_iff.1 h
  by_cases hc3 : (c2_.2.1) = (2 : Int)
  ·rw [if_pos hc3] at h
   by_cases hc4 : 0 ≤ a3 ∧ a3 < ((a1 : Nat) : Int)
   ·rw [if_pos hc4] at h
    by_cases hc5 : (a3).toNat < (a0).length
    ·rw [if_pos hc5] at h
     obtain ⟨c6_, hc6, h⟩ := Option.bind_eq_some_iff.1 h
     by_cases hc7 : c6_ = true
     ·rw [if_pos hc7] at h
      obtain rfl := oI h; exact runF2 hm (L := lT []) ⟨[6], [], 1, 1, [], false, []⟩ (zz 5 (xk1 0 Args.cA hc1) <|
zz 6 (fk3 ((a3).toNat * 8)) <|
zz 7 (lk4 hc2 (toNatLt hc1)) <|
zz 8 (xeT hc3) <|
zz 12 (xk19 0 a2 hc4) <|
zz 13 (ok20 hc6 (hc5)) <|
yy 14 (vf) <|
ww (p := (Value.bool (!c6_)) = (Value.bool false)) (vBn hc7) ee) (by kernel_rfl)
     ·rw [if_neg hc7] at h
      obtain rfl := oI h; exact runF2 hm (L := lT []) ⟨[6], [], 1, 1, [], false, []⟩ (zz 5 (xk1 0 Args.cA hc1) <|
zz 6 (fk3 ((a3).toNat * 8)) <|
zz 7 (lk4 hc2 (toNatLt hc1)) <|
zz 8 (xeT hc3) <|
zz 12 (xk19 0 a2 hc4) <|
zz 13 (ok20 hc6 (hc5)) <|
yy 14 (vt) <|
ww (p := (Value.bool (!c6_)) = (Value.bool true)) (vBn (Bool.eq_false_iff.2 hc7)) ee) (by kernel_rfl)
    ·rw [if_neg hc5] at h; cases h
   ·rw [if_neg hc4] at h; cases h
  ·rw [if_neg hc3] at h
   obtain rfl := oI h; exact runF2 hm (L := lT []) ⟨[6], [], 1, 1, [], false, []⟩ (zz 5 (xk1 0 Args.cA hc1) <|
zz 6 (fk3 ((a3).toNat * 8)) <|
zz 7 (lk4 hc2 (toNatLt hc1)) <|
zz 8 (xeF hc3) ee) (by kernel_rfl)
 ·rw [if_neg hc1] at h; cases h

def A_treehasq1 (a0 : Int) : List Value := [(sW 0 0 (Args.A).length Args.cA), (i6 a0)]
def H_treehasq1 (a0 : Int) : AH := ⟨sB [], 0, 0⟩
def V_treehasq1 (a0 : Int) (r : Bool) : Value := match r with
 | o0 => (bO o0)
def R_treehasq1 (a0 : Int) (r : Bool) : AH := match r with
 | o0 => ⟨sB [], 0, 0⟩
abbrev G_treehasq1 (a0 : Int) (r : Bool) : Prop := Gv P (.func 31) (A_treehasq1 a0) (H_treehasq1 a0) (V_treehasq1 a0 r) (R_treehasq1 a0 r)
abbrev C_treehasq1 (a0 : Int) (r : Bool) (ins outs : BL) : CallA := ⟨0, ins, V_treehasq1 a0 r, R_treehasq1 a0 r, outs⟩
def m_treehasq1 (n : Nat) (a0 : Int) : Option (Bool) :=
 if a0 ≥ (0 : Int) then
  if a0 < (Args.A.length : Int) then
   (m_tCq1 n).bind fun c3_ =>
   if c3_ = (0 : Int) then
    some true
   else
    some false
  else
   some false
 else
  some false
theorem m_treehasq1_ok (n : Nat) (a0 : Int) (r : Bool) (h : m_treehasq1 n a0 = some r) : Gv P (.func 31) (A_treehasq1 a0) (H_treehasq1 a0) (V_treehasq1 a0 r) (R_treehasq1 a0 r) := by
 unfold m_treehasq1 at h
 by_cases hc1 : a0 ≥ (0 : Int)
 ·rw [if_pos hc1] at h
  by_cases hc2 : a0 < (Args.A.length : Int)
  ·rw [if_pos hc2] at h
   obtain ⟨c3_, hc3, h⟩ := Option.bind_eq_some_iff.1 h
   by_cases hc4 : c3_ = (0 : Int)
   ·rw [if_pos hc4] at h
    obtain rfl := oI h; exact runF2 hm (L := lT []) ⟨[4], [], 0, 0, [], false, []⟩ (zz 4 (xdT hc1) <|
zz 9 (xdT hc2) <|
yy 13 (.call (C_tCq1  c3_ [] [])) <|
ww (m_tCq1_ok n  c3_ hc3) <|
zz 14 (xeT hc4) ee) (by kernel_rfl)
   ·rw [if_neg hc4] at h
    obtain rfl := oI h; exact runF2 hm (L := lT []) ⟨[4], [], 0, 0, [], false, []⟩ (zz 4 (xdT hc1) <|
zz 9 (xdT hc2) <|
yy 13 (.call (C_tCq1  c3_ [] [])) <|
ww (m_tCq1_ok n  c3_ hc3) <|
zz 14 (xeF hc4) ee) (by kernel_rfl)
  ·rw [if_neg hc2] at h
   obtain rfl := oI h; exact runF2 hm (L := lT []) ⟨[4], [], 0, 0, [], false, []⟩ (zz 4 (xdT hc1) <|
zz 9 (xdF hc2) ee) (by kernel_rfl)
 ·rw [if_neg hc1] at h
  obtain rfl := oI h; exact runF2 hm (L := lT []) ⟨[4], [], 0, 0, [], false, []⟩ (zz 4 (xdF hc1) ee) (by kernel_rfl)

def A_treeSub1q1 (a0 : Int) (a1 : Int) : List Value := [(i6 a0), (pN 0 0)]
def H_treeSub1q1 (a0 : Int) (a1 : Int) : AH := ⟨sB [(0, (some (.cells (layT [(i6 a1)]) 3)))], 1, 1⟩
def V_treeSub1q1 (a0 : Int) (a1 : Int) (r : Unit) : Value := match r with
 | _ => (i6 (w64 (a0 - a1)))
def R_treeSub1q1 (a0 : Int) (a1 : Int) (r : Unit) : AH := match r with
 | _ => ⟨sB [], 1, 1⟩
abbrev G_treeSub1q1 (a0 : Int) (a1 : Int) (r : Unit) : Prop := Gv P (.func 33) (A_treeSub1q1 a0 a1) (H_treeSub1q1 a0 a1) (V_treeSub1q1 a0 a1 r) (R_treeSub1q1 a0 a1 r)
abbrev C_treeSub1q1 (a0 : Int) (a1 : Int) (r : Unit) (ins outs : BL) : CallA := ⟨1, ins, V_treeSub1q1 a0 a1 r, R_treeSub1q1 a0 a1 r, outs⟩
def m_treeSub1q1 (n : Nat) (a0 : Int) (a1 : Int) : Option (Unit) :=
 some ()
theorem m_treeSub1q1_ok (n : Nat) (a0 : Int) (a1 : Int) (r : Unit) (h : m_treeSub1q1 n a0 a1 = some r) : Gv P (.func 33) (A_treeSub1q1 a0 a1) (H_treeSub1q1 a0 a1) (V_treeSub1q1 a0 a1 r) (R_treeSub1q1 a0 a1 r) := by
 unfold m_treeSub1q1 at h
 obtain rfl := oI h; exact runF2 hm (L := lT []) ⟨[3], [], 1, 1, [], false, []⟩ (ee) (by kernel_rfl)

def A_treeSub1q2 (a0 : Int) (a1 : List Int) : List Value := [(i6 a0), (pN 0 0)]
def H_treeSub1q2 (a0 : Int) (a1 : List Int) : AH := ⟨sB [(0, (some (.cells (layT (iv a1)) 3)))], 1, 1⟩
def V_treeSub1q2 (a0 : Int) (a1 : List Int) (r : Int) : Value := match r with
 | o0 => (i6 o0)
def R_treeSub1q2 (a0 : Int) (a1 : List Int) (r : Int) : AH := match r with
 | o0 => ⟨sB [], 1, 1⟩
abbrev G_treeSub1q2 (a0 : Int) (a1 : List Int) (r : Int) : Prop := Gv P (.func 33) (A_treeSub1q2 a0 a1) (H_treeSub1q2 a0 a1) (V_treeSub1q2 a0 a1 r) (R_treeSub1q2 a0 a1 r)
abbrev C_treeSub1q2 (a0 : Int) (a1 : List Int) (r : Int) (ins outs : BL) : CallA := ⟨1, ins, V_treeSub1q2 a0 a1 r, R_treeSub1q2 a0 a1 r, outs⟩
def m_treeSub1q2 (n : Nat) (a0 : Int) (a1 : List Int) : Option (Int) :=
 if 0 < (a1).length then
  ((some ((a1).getD 0 0))).bind fun c2_ =>
  some (w64 (a0 - c2_))
 else none
theorem m_treeSub1q2_ok (n : Nat) (a0 : Int) (a1 : List Int) (r : Int) (h : m_treeSub1q2 n a0 a1 = some r) : Gv P (.func 33) (A_treeSub1q2 a0 a1) (H_treeSub1q2 a0 a1) (V_treeSub1q2 a0 a1 r) (R_treeSub1q2 a0 a1 r) := by
 unfold m_treeSub1q2 at h
 by_cases hc1 : 0 < (a1).length
 ·rw [if_pos hc1] at h
  obtain ⟨c2_, hc2, h⟩ := Option.bind_eq_some_iff.1 h
  obtain rfl := oI h; exact runF2 hm (L := lT []) ⟨[3], [], 1, 1, [], false, []⟩ (zz 4 (xivN hc2 (hc1)) ee) (by kernel_rfl)
 ·rw [if_neg hc1] at h; cases h

def A_eIq1 (a0 : NL) (a1 : Int) : List Value := [(nlV a0), (Value.func (.func 33) #[] #[(pN 0 0)])]
def H_eIq1 (a0 : NL) (a1 : Int) : AH := ⟨sB [(0, (some (.cells (layT [(i6 a1)]) 3)))], 1, 1⟩
def V_eIq1 (a0 : NL) (a1 : Int) (r : (Unit) ⊕ (List Int × Nat)) : Value := match r with
 | .inl _ => (Value.slice none 0 0)
 | .inr (o0, o1) => (sN 1 0 o1 o1)
def R_eIq1 (a0 : NL) (a1 : Int) (r : (Unit) ⊕ (List Int × Nat)) : AH := match r with
 | .inl _ => ⟨sB [], 1, 1⟩
 | .inr (o0, o1) => ⟨sB [(1, (some (.cells (layT (iv o0)) 3)))], 2, 1⟩
abbrev G_eIq1 (a0 : NL) (a1 : Int) (r : (Unit) ⊕ (List Int × Nat)) : Prop := Gv P (.func 44) (A_eIq1 a0 a1) (H_eIq1 a0 a1) (V_eIq1 a0 a1 r) (R_eIq1 a0 a1 r)
abbrev C_eIq1 (a0 : NL) (a1 : Int) (r : (Unit) ⊕ (List Int × Nat)) (ins outs : BL) : CallA := ⟨1, ins, V_eIq1 a0 a1 r, R_eIq1 a0 a1 r, outs⟩
def S_eIq1_1 (x1_0 : List Int) (x1_2 : Nat) (x1_3 : NL) (x1_4 : Int) (st : List Int × Int) : XSt := match st with
 | (x1_1, x1_5) => (sT 29 [(1, (Value.func (.func 33) #[] #[(pN 0 0)])), (5, (sN 1 0 x1_2 x1_2)), (14, (nlV x1_3)), (15, (i6 x1_4)), (16, (i6 x1_5))], [], ⟨sB [(0, (some (.cells (layT (iv x1_0)) 3))), (1, (some (.cells (layT (iv x1_1)) 3)))], 2, 1⟩)
def X_eIq1_1 (x1_0 : List Int) (x1_2 : Nat) (x1_3 : NL) (x1_4 : Int) (r : List Int) : Ex × XSt := match r with
 | z1_0 => (.exit 0, (sT 29 [(5, (sN 1 0 x1_2 x1_2))], [], ⟨sB [(0, (some (.cells (layT (iv x1_0)) 3))), (1, (some (.cells (layT (iv z1_0)) 3)))], 2, 1⟩))
abbrev Q_eIq1_1 (rnd : Option Nat) (x1_0 : List Int) (x1_2 : Nat) (x1_3 : NL) (x1_4 : Int) (st : List Int × Int) (c : Ex × XSt) : Prop := CG P rnd (fnN P 44) 1 (codeOf P 44 [false, false, true, false, true, true, true]) (S_eIq1_1 x1_0 x1_2 x1_3 x1_4 st) c
abbrev U_eIq1_1 (rd : Option Nat) (x1_0 : List Int) (x1_2 : Nat) (x1_3 : NL) (x1_4 : Int) (st : List Int × Int) (r : List Int) : Prop := CG P rd (fnN P 44) 1 (codeOf P 44 [false, true, false, true, true, true]) (S_eIq1_1 x1_0 x1_2 x1_3 x1_4 st) (X_eIq1_1 x1_0 x1_2 x1_3 x1_4 r)
def B_eIq1_1 (n : Nat) (x1_0 : List Int) (x1_2 : Nat) (x1_3 : NL) (x1_4 : Int) (st : List Int × Int) : Option ((List Int × Int) ⊕ (List Int)) := match st with
 | (x1_1, x1_5) =>
  if x1_5 < x1_4 then
   if 0 ≤ x1_5 ∧ x1_5 < (x1_3.l.length : Int) then
    if (x1_5).toNat < ((x1_3).l).length then
     ((some (((x1_3).l).getD (x1_5).toNat 0))).bind fun y1_4_ =>
     (m_treeSub1q2 n y1_4_ x1_0).bind fun y1_5_ =>
     if 0 ≤ x1_5 ∧ x1_5 < ((x1_2 : Nat) : Int) then
      if (x1_5).toNat < (x1_1).length then
       some (.inl (((x1_1).set (x1_5).toNat y1_5_), (w64 (x1_5 + (1 : Int)))))
      else none
     else none
    else none
   else none
  else
   some (.inr x1_1)
def m_eIq1_1 (n : Nat) (x1_0 : List Int) (x1_2 : Nat) (x1_3 : NL) (x1_4 : Int) (st : List Int × Int) : Option (List Int) := iterM (B_eIq1_1 n x1_0 x1_2 x1_3 x1_4) n st
theorem q_eIq1_1_0 (n : Nat) {rnd : Option Nat} (x1_0 x1_1 : List Int) (x1_2 : Nat) (x1_3 : NL) (x1_4 x1_5 : Int) (hy1_1 : x1_5 < x1_4) (hy1_2 : 0 ≤ x1_5 ∧ x1_5 < (x1_3.l.length : Int)) (hy1_3 : (x1_5).toNat < ((x1_3).l).length) (y1_4_ : Int) (hy1_4 : (some (((x1_3).l).getD (x1_5).toNat 0)) = some y1_4_) (y1_5_ : Int) (hy1_5 : m_treeSub1q2 n y1_4_ x1_0 = some y1_5_) (hy1_6 : 0 ≤ x1_5 ∧ x1_5 < ((x1_2 : Nat) : Int)) (hy1_7 : (x1_5).toNat < (x1_1).length) : Q_eIq1_1 rnd x1_0 x1_2 x1_3 x1_4 (x1_1, x1_5) (.normal, S_eIq1_1 x1_0 x1_2 x1_3 x1_4 (((x1_1).set (x1_5).toNat y1_5_), (w64 (x1_5 + (1 : Int))))) :=
 runC2 hm (L := lT []) ⟨[1, 5, 14, 15, 16], [(0, 0, true), (1, 1, true)], 2, 1, [], false, []⟩ (zz 1 (xdT hy1_1) <|
zz 8 (xk9 (Nat.add (x1_3).num 64) (x1_3).cap hy1_2) <|
zz 9 (nk10 hy1_4 hy1_3) <|
yy 16 (.call (C_treeSub1q2 y1_4_ x1_0 y1_5_ [(0, 0, true)] [])) <|
ww (m_treeSub1q2_ok n y1_4_ x1_0 y1_5_ hy1_5) <|
ww (iv_flat x1_0 3) <|
zz 17 (xk21 1 x1_2 hy1_6) <|
yy 18 (.sto (layT (iv ((x1_1).set (x1_5).toNat y1_5_)))) <|
ww (p := ∃ old, rdT (layT (iv x1_1)) 1 (x1_5).toNat = some old) (Exists.elim (iv_st (x1_1) ((x1_5).toNat) (y1_5_) hy1_7) fun o h => ⟨o, h.1⟩) <|
ww (p := layL [(i6 y1_5_)] (x1_5).toNat (layT (iv x1_1)) = layT (iv ((x1_1).set (x1_5).toNat y1_5_))) (Exists.elim (iv_st (x1_1) ((x1_5).toNat) (y1_5_) hy1_7) fun o h => h.2) <|
ww (iv_flat x1_0 3) <|
ww (iv_flat ((x1_1).set (x1_5).toNat y1_5_) 3) <|
ee) (by kernel_rfl)
theorem q_eIq1_1_1 (n : Nat) {rnd : Option Nat} (x1_0 x1_1 : List Int) (x1_2 : Nat) (x1_3 : NL) (x1_4 x1_5 : Int) (hy1_1 : ¬ (x1_5 < x1_4)) : Q_eIq1_1 rnd x1_0 x1_2 x1_3 x1_4 (x1_1, x1_5) (X_eIq1_1 x1_0 x1_2 x1_3 x1_4 x1_1) :=
 runC2 hm (L := lT []) ⟨[5], [(0, 0, true), (1, 1, true)], 2, 1, [], false, []⟩ (zz 1 (xdF hy1_1) <|
ww (iv_flat x1_0 3) <|
ww (iv_flat x1_1 3) <|
ee) (by kernel_rfl)
theorem m_eIq1_1_ok (n : Nat) {rnd : Option Nat} (x1_0 : List Int) (x1_2 : Nat) (x1_3 : NL) (x1_4 : Int) (st : List Int × Int) (r : List Int) (h : m_eIq1_1 n x1_0 x1_2 x1_3 x1_4 st = some r) : CG P rnd (fnN P 44) 1 (codeOf P 44 [false, true, false, true, true, true]) (S_eIq1_1 x1_0 x1_2 x1_3 x1_4 st) (X_eIq1_1 x1_0 x1_2 x1_3 x1_4 r) :=
 CG.iter (b := codeOf P 44 [false, false, true, false, true, true, true]) (by kernel_rfl) (body := B_eIq1_1 n x1_0 x1_2 x1_3 x1_4) (S := S_eIq1_1 x1_0 x1_2 x1_3 x1_4) (X := X_eIq1_1 x1_0 x1_2 x1_3 x1_4)
  (fun s s' h => by
  obtain ⟨x1_1, x1_5⟩ := s
  unfold B_eIq1_1 at h
  dsimp only at h
  by_cases hy1_1 : x1_5 < x1_4
  ·rw [if_pos hy1_1] at h
   by_cases hy1_2 : 0 ≤ x1_5 ∧ x1_5 < (x1_3.l.length : Int)
   ·rw [if_pos hy1_2] at h
    by_cases hy1_3 : (x1_5).toNat < ((x1_3).l).length
    ·rw [if_pos hy1_3] at h
     obtain ⟨y1_4_, hy1_4, h⟩ := Option.bind_eq_some_iff.1 h
     obtain ⟨y1_5_, hy1_5, h⟩ := Option.bind_eq_some_iff.1 h
     by_cases hy1_6 : 0 ≤ x1_5 ∧ x1_5 < ((x1_2 : Nat) : Int)
     ·rw [if_pos hy1_6] at h
      by_cases hy1_7 : (x1_5).toNat < (x1_1).length
      ·rw [if_pos hy1_7] at h
       obtain rfl := Sum.inl.inj (oI h); exact q_eIq1_1_0 n x1_0 x1_1 x1_2 x1_3 x1_4 x1_5 hy1_1 hy1_2 hy1_3 y1_4_ hy1_4 y1_5_ hy1_5 hy1_6 hy1_7
      ·rw [if_neg hy1_7] at h; cases h
     ·rw [if_neg hy1_6] at h; cases h
    ·rw [if_neg hy1_3] at h; cases h
   ·rw [if_neg hy1_2] at h; cases h
  ·rw [if_neg hy1_1] at h
   cases h)
  (fun s r h => by
  obtain ⟨x1_1, x1_5⟩ := s
  unfold B_eIq1_1 at h
  dsimp only at h
  by_cases hy1_1 : x1_5 < x1_4
  ·rw [if_pos hy1_1] at h
   by_cases hy1_2 : 0 ≤ x1_5 ∧ x1_5 < (x1_3.l.length : Int)
   ·rw [if_pos hy1_2] at h
    by_cases hy1_3 : (x1_5).toNat < ((x1_3).l).length
    ·rw [if_pos hy1_3] at h
     obtain ⟨y1_4_, hy1_4, h⟩ := Option.bind_eq_some_iff.1 h
     obtain ⟨y1_5_, hy1_5, h⟩ := Option.bind_eq_some_iff.1 h
     by_cases hy1_6 : 0 ≤ x1_5 ∧ x1_5 < ((x1_2 : Nat) : Int)
     ·rw [if_pos hy1_6] at h
      by_cases hy1_7 : (x1_5).toNat < (x1_1).length
      ·rw [if_pos hy1_7] at h
       cases h
      ·rw [if_neg hy1_7] at h; cases h
     ·rw [if_neg hy1_6] at h; cases h
    ·rw [if_neg hy1_3] at h; cases h
   ·rw [if_neg hy1_2] at h; cases h
  ·rw [if_neg hy1_1] at h
   obtain rfl := Sum.inr.inj (oI h); exact q_eIq1_1_1 n x1_0 x1_1 x1_2 x1_3 x1_4 x1_5 hy1_1)
  (fun r => by intro hx; cases hx) h
def m_eIq1 (n : Nat) (a0 : NL) (a1 : Int) : Option ((Unit) ⊕ (List Int × Nat)) :=
 if (a0.l.length : Int) = (0 : Int) then
  some (.inl ())
 else
  if 0 ≤ (a0.l.length : Int) then
   if ((a0.l.length : Int)).toNat * 8 ≤ 140737488355328 then
    (m_eIq1_1 n [a1] (((a0.l.length : Int)).toNat) a0 (a0.l.length : Int) ((List.replicate ((a0.l.length : Int)).toNat (0 : Int)), 0)).bind fun c4_ =>
    some (.inr (c4_, (((a0.l.length : Int)).toNat)))
   else none
  else none
theorem m_eIq1_ok (n : Nat) (a0 : NL) (a1 : Int) (r : (Unit) ⊕ (List Int × Nat)) (h : m_eIq1 n a0 a1 = some r) : Gv P (.func 44) (A_eIq1 a0 a1) (H_eIq1 a0 a1) (V_eIq1 a0 a1 r) (R_eIq1 a0 a1 r) := by
 unfold m_eIq1 at h
 by_cases hc1 : (a0.l.length : Int) = (0 : Int)
 ·rw [if_pos hc1] at h
  obtain rfl := oI h; exact runF2 hm (L := lT []) ⟨[4], [], 1, 1, [], false, []⟩ (zz 6 (xeT hc1) ee) (by kernel_rfl)
 ·rw [if_neg hc1] at h
  by_cases hc2 : 0 ≤ (a0.l.length : Int)
  ·rw [if_pos hc2] at h
   by_cases hc3 : ((a0.l.length : Int)).toNat * 8 ≤ 140737488355328
   ·rw [if_pos hc3] at h
    obtain ⟨c4_, hc4, h⟩ := Option.bind_eq_some_iff.1 h
    obtain rfl := oI h; exact runF2 hm (L := lT [(19, ⟨⟨[1, 5, 14, 15, 16], [(0, 0, false), (1, 1, true)], 2, 1, [], false, []⟩, (X_eIq1_1 [a1] (((a0.l.length : Int)).toNat) a0 (a0.l.length : Int) c4_).1, (X_eIq1_1 [a1] (((a0.l.length : Int)).toNat) a0 (a0.l.length : Int) c4_).2⟩)]) ⟨[4], [(1, 1, true)], 2, 1, [], false, []⟩ (zz 6 (xeF hc1) <|
yy 11 (.mk ((a0.l.length : Int)).toNat (iv (List.replicate ((a0.l.length : Int)).toNat (0 : Int)))) <|
ww (p := natOf (i6 (a0.l.length : Int)) = some ((a0.l.length : Int)).toNat) (natOf_toNat hc2) <|
ww (p := natOf (i6 (a0.l.length : Int)) = some ((a0.l.length : Int)).toNat) (natOf_toNat hc2) <|
ww (p := fits ((a0.l.length : Int)).toNat 8 = true) (fits_ok hc3 (by omega)) <|
ww (p := isZ8 [(i6 (0 : Int))] = false) (rfl) <|
ww (p := reps [(i6 (0 : Int))] ((a0.l.length : Int)).toNat = (iv (List.replicate ((a0.l.length : Int)).toNat (0 : Int)))) (reps_iv _) <|
ww (p := U_eIq1_1 none [a1] (((a0.l.length : Int)).toNat) a0 (a0.l.length : Int) ((List.replicate ((a0.l.length : Int)).toNat (0 : Int)), 0) c4_) (m_eIq1_1_ok n [a1] (((a0.l.length : Int)).toNat) a0 (a0.l.length : Int) ((List.replicate ((a0.l.length : Int)).toNat (0 : Int)), 0) c4_ hc4) <|
ww (iv_flat (List.replicate ((a0.l.length : Int)).toNat (0 : Int)) 3) <|
ww (iv_flat c4_ 3) ee) (by kernel_rfl)
   ·rw [if_neg hc3] at h; cases h
  ·rw [if_neg hc2] at h; cases h

def A_treemovedq1 (a0 : Int) (a1 : Int) (a2 : Int) (a3 : Int) (a4 : Int) (a5 : Int) (a6 : NL) (a7 : Int) (a8 : Int) : List Value := [(Value.agg #[(i6 a0), (i6 a1), (i6 a2), (i6 a3), (i6 a4), (i6 a5), (nlV a6), (Value.int .u64 a7)]), (Value.func (.func 33) #[] #[(pN 0 0)])]
def H_treemovedq1 (a0 : Int) (a1 : Int) (a2 : Int) (a3 : Int) (a4 : Int) (a5 : Int) (a6 : NL) (a7 : Int) (a8 : Int) : AH := ⟨sB [(0, (some (.cells (layT [(i6 a8)]) 3)))], 1, 1⟩
def V_treemovedq1 (a0 : Int) (a1 : Int) (a2 : Int) (a3 : Int) (a4 : Int) (a5 : Int) (a6 : NL) (a7 : Int) (a8 : Int) (r : NL) : Value := match r with
 | o0 => (Value.agg #[(i6 a0), (i6 a1), (i6 a2), (i6 a3), (i6 a4), (i6 a5), (nlV o0), (Value.int .u64 a7)])
def R_treemovedq1 (a0 : Int) (a1 : Int) (a2 : Int) (a3 : Int) (a4 : Int) (a5 : Int) (a6 : NL) (a7 : Int) (a8 : Int) (r : NL) : AH := match r with
 | o0 => ⟨sB [(1, (some (.cells (layT [(i6 a0), (i6 a1), (i6 a2), (i6 a3), (i6 a4), (i6 a5), (nlV o0), (Value.int .u64 a7)]) 33)))], 2, 1⟩
abbrev G_treemovedq1 (a0 : Int) (a1 : Int) (a2 : Int) (a3 : Int) (a4 : Int) (a5 : Int) (a6 : NL) (a7 : Int) (a8 : Int) (r : NL) : Prop := Gv P (.func 32) (A_treemovedq1 a0 a1 a2 a3 a4 a5 a6 a7 a8) (H_treemovedq1 a0 a1 a2 a3 a4 a5 a6 a7 a8) (V_treemovedq1 a0 a1 a2 a3 a4 a5 a6 a7 a8 r) (R_treemovedq1 a0 a1 a2 a3 a4 a5 a6 a7 a8 r)
abbrev C_treemovedq1 (a0 : Int) (a1 : Int) (a2 : Int) (a3 : Int) (a4 : Int) (a5 : Int) (a6 : NL) (a7 : Int) (a8 : Int) (r : NL) (ins outs : BL) : CallA := ⟨1, ins, V_treemovedq1 a0 a1 a2 a3 a4 a5 a6 a7 a8 r, R_treemovedq1 a0 a1 a2 a3 a4 a5 a6 a7 a8 r, outs⟩
def m_treemovedq1 (n : Nat) (a0 : Int) (a1 : Int) (a2 : Int) (a3 : Int) (a4 : Int) (a5 : Int) (a6 : NL) (a7 : Int) (a8 : Int) : Option (NL) :=
 match m_eIq1 n a6 a8 with
 | none => none
 | some (.inl _) =>
  some nl0
 | some (.inr (c1_0, c1_1)) =>
  if c1_1 = c1_0.length then
   if hc3 : c1_0.length ≤ 9223372036854775807 then
    some (frzL c1_0 hc3)
   else none
  else none
theorem m_treemovedq1_ok (n : Nat) (a0 : Int) (a1 : Int) (a2 : Int) (a3 : Int) (a4 : Int) (a5 : Int) (a6 : NL) (a7 : Int) (a8 : Int) (r : NL) (h : m_treemovedq1 n a0 a1 a2 a3 a4 a5 a6 a7 a8 = some r) : Gv P (.func 32) (A_treemovedq1 a0 a1 a2 a3 a4 a5 a6 a7 a8) (H_treemovedq1 a0 a1 a2 a3 a4 a5 a6 a7 a8) (V_treemovedq1 a0 a1 a2 a3 a4 a5 a6 a7 a8 r) (R_treemovedq1 a0 a1 a2 a3 a4 a5 a6 a7 a8 r) := by
 unfold m_treemovedq1 at h
 rcases hc1 : m_eIq1 n a6 a8 with _ | (⟨⟩ | ⟨c1_0, c1_1⟩)
 ·rw [hc1] at h; cases h
 ·rw [hc1] at h
  dsimp only at h
  obtain rfl := oI h; exact runF2 hm (L := lT []) ⟨[4], [(1, 2, false)], 2, 1, [], true, [33]⟩ (yy 7 (.call (C_eIq1 a6 a8 (.inl ()) [(0, 0, false)] [])) <|
ww (m_eIq1_ok n a6 a8 (.inl ()) hc1) ee) (by kernel_rfl)
 ·rw [hc1] at h
  dsimp only at h
  by_cases hc2 : c1_1 = c1_0.length
  ·rw [if_pos hc2] at h
   by_cases hc3 : c1_0.length ≤ 9223372036854775807
   ·rw [dif_pos hc3] at h
    obtain rfl := oI h; subst hc2; exact runF2 hm (L := lT []) ⟨[4], [(1, 2, false)], 2, 1, [(3, Nat.add (2 * cod c1_0 + 1) 64)], true, []⟩ (yy 7 (.call (C_eIq1 a6 a8 (.inr (c1_0, ((c1_0).length))) [(0, 0, false)] [(3, 1, true)])) <|
ww (m_eIq1_ok n a6 a8 (.inr (c1_0, ((c1_0).length))) hc1) <|
ww (iv_flat c1_0 3) <|
ww (frz_ok wins_nest wins_odd c1_0) ee) (by kernel_rfl)
   ·rw [dif_neg hc3] at h; cases h
  ·rw [if_neg hc2] at h; cases h

def A_treeSub_111010y1 (a0 : Int) (a1 : Int) (a2 : Int) : List Value := [(i6 a2)]
def H_treeSub_111010y1 (a0 : Int) (a1 : Int) (a2 : Int) : AH := ⟨sB [(0, (some (rblk P 18 [false, true, false, true, true, true] .ready none [(2, (pN 2 0)), (3, (pN 3 0)), (5, (pN 4 0)), (13, (Value.func (.func 40) #[] #[(pN 5 0), (pN 6 0)]))] 1))), (1, (some (.marks true))), (2, (some (.cells (layT [(sW 0 0 (Args.A).length Args.cA)]) 22))), (3, (some (.cells (layT [(i6 a0)]) 3))), (4, (some (.cells (layT [(Value.slice none 0 0)]) 22))), (5, (some (.cells (layT [(sW 0 0 (Args.A).length Args.cA)]) 22))), (6, (some (.cells (layT [(i6 a1)]) 3)))], 7, 7⟩
def V_treeSub_111010y1 (a0 : Int) (a1 : Int) (a2 : Int) (r : R8) : Value := match r with
 | (o0, o1, o2, o3, o4, o5, o6, o7) => (bO true)
def R_treeSub_111010y1 (a0 : Int) (a1 : Int) (a2 : Int) (r : R8) : AH := match r with
 | (o0, o1, o2, o3, o4, o5, o6, o7) => ⟨sB [(0, (some (rblk P 18 [false, true, false, true, true, true] .ready none [(2, (pN 2 0)), (3, (pN 3 0)), (5, (pN 4 0)), (13, (Value.func (.func 40) #[] #[(pN 5 0), (pN 6 0)]))] 1))), (1, (some (.marks true))), (2, (some (.cells (layT [(sW 0 0 (Args.A).length Args.cA)]) 22))), (3, (some (.cells (layT [(i6 a0)]) 3))), (4, (some (.cells (layT [(sN 7 0 1 (Nat.add big 8))]) 22))), (5, (some (.cells (layT [(sW 0 0 (Args.A).length Args.cA)]) 22))), (6, (some (.cells (layT [(i6 a1)]) 3))), (7, (some (.cells (layT [(i6 o0), (i6 o1), (i6 o2), (i6 o3), (i6 o4), (i6 o5), (nlV o6), (Value.int .u64 o7)]) 33)))], 8, 0⟩
abbrev G_treeSub_111010y1 (a0 : Int) (a1 : Int) (a2 : Int) (r : R8) : Prop := Gv P (.yield 0) (A_treeSub_111010y1 a0 a1 a2) (H_treeSub_111010y1 a0 a1 a2) (V_treeSub_111010y1 a0 a1 a2 r) (R_treeSub_111010y1 a0 a1 a2 r)
abbrev C_treeSub_111010y1 (a0 : Int) (a1 : Int) (a2 : Int) (r : R8) (ins outs : BL) : CallA := ⟨7, ins, V_treeSub_111010y1 a0 a1 a2 r, R_treeSub_111010y1 a0 a1 a2 r, outs⟩
def m_treeSub_111010y1 (n : Nat) (a0 : Int) (a1 : Int) (a2 : Int) : Option R8 :=
 if 0 ≤ a2 ∧ a2 < (Args.A.length : Int) then
  ((some ((Args.A).getD (a2).toNat (0, 0, 0, 0, 0, 0, nl0, 0)))).bind fun c2_ =>
  (m_treemovedq1 n (c2_.1) (c2_.2.1) (c2_.2.2.1) (c2_.2.2.2.1) (c2_.2.2.2.2.1) (c2_.2.2.2.2.2.1) (c2_.2.2.2.2.2.2.1) (c2_.2.2.2.2.2.2.2) a0).bind fun c3_ =>
  some ((c2_.1), (c2_.2.1), (c2_.2.2.1), (c2_.2.2.2.1), (c2_.2.2.2.2.1), (c2_.2.2.2.2.2.1), c3_, (c2_.2.2.2.2.2.2.2))
 else none
theorem m_treeSub_111010y1_ok (n : Nat) (a0 : Int) (a1 : Int) (a2 : Int) (r : R8) (h : m_treeSub_111010y1 n a0 a1 a2 = some r) : Gv P (.yield 0) (A_treeSub_111010y1 a0 a1 a2) (H_treeSub_111010y1 a0 a1 a2) (V_treeSub_111010y1 a0 a1 a2 r) (R_treeSub_111010y1 a0 a1 a2 r) := by
 unfold m_treeSub_111010y1 at h
 by_cases hc1 : 0 ≤ a2 ∧ a2 < (Args.A.length : Int)
 ·rw [if_pos hc1] at h
  obtain ⟨c2_, hc2, h⟩ := Option.bind_eq_some_iff.1 h
  obtain ⟨c3_, hc3, h⟩ := Option.bind_eq_some_iff.1 h
  obtain rfl := oI h; exact runY_ok hm (A1 := aT []) (L1 := lT []) (A2 := aT [(4, .pur (pW 0 ((a2).toNat * 8))), (5, .ld (Value.agg #[(i6 (c2_.1)), (i6 (c2_.2.1)), (i6 (c2_.2.2.1)), (i6 (c2_.2.2.2.1)), (i6 (c2_.2.2.2.2.1)), (i6 (c2_.2.2.2.2.2.1)), (nlV (c2_.2.2.2.2.2.2.1)), (Value.int .u64 (c2_.2.2.2.2.2.2.2))])), (7, .call (C_treemovedq1 (c2_.1) (c2_.2.1) (c2_.2.2.1) (c2_.2.2.2.1) (c2_.2.2.2.2.1) (c2_.2.2.2.2.2.1) (c2_.2.2.2.2.2.2.1) (c2_.2.2.2.2.2.2.2) a0 c3_ [(0, 3, false)] [(15, 1, false)]))]) (L2 := lT []) (wk := ⟨[], [(0, 0, false), (1, 1, false), (2, 2, false), (3, 3, false), (4, 4, false), (5, 5, false), (6, 6, false), (7, 16, false)], 8, 0, [], false, []⟩) (ps := [xp1 0 (Args.A).length Args.cA a2, lp2 (a2).toNat c2_, G_treemovedq1 (c2_.1) (c2_.2.1) (c2_.2.2.1) (c2_.2.2.2.1) (c2_.2.2.2.2.1) (c2_.2.2.2.2.2.1) (c2_.2.2.2.2.2.2.1) (c2_.2.2.2.2.2.2.2) a0 c3_]) (by kernel_rfl) ⟨((xk1 0 Args.cA hc1).p), ((lk2 hc2 (toNatLt hc1)).p), (m_treemovedq1_ok n (c2_.1) (c2_.2.1) (c2_.2.2.1) (c2_.2.2.2.1) (c2_.2.2.2.2.1) (c2_.2.2.2.2.2.1) (c2_.2.2.2.2.2.2.1) (c2_.2.2.2.2.2.2.2) a0 c3_ hc3), trivial⟩
 ·rw [if_neg hc1] at h; cases h

def A_treeSub_111010y2 (a0 : Int) (a1 : List R8) (a2 : Int) (a3 : Int) : List Value := [(i6 a3)]
def H_treeSub_111010y2 (a0 : Int) (a1 : List R8) (a2 : Int) (a3 : Int) : AH := ⟨sB [(0, (some (rblk P 18 [false, true, false, true, true, true] .ready none [(2, (pN 2 0)), (3, (pN 3 0)), (5, (pN 4 0)), (13, (Value.func (.func 40) #[] #[(pN 6 0), (pN 7 0)]))] 1))), (1, (some (.marks true))), (2, (some (.cells (layT [(sW 0 0 (Args.A).length Args.cA)]) 22))), (3, (some (.cells (layT [(i6 a0)]) 3))), (4, (some (.cells (layT [(sN 5 0 (a1).length (Nat.add big 8))]) 22))), (5, (some (.cells (layT (rows rw_iiiiiiLu a1)) 33))), (6, (some (.cells (layT [(sW 0 0 (Args.A).length Args.cA)]) 22))), (7, (some (.cells (layT [(i6 a2)]) 3)))], 8, 8⟩
def V_treeSub_111010y2 (a0 : Int) (a1 : List R8) (a2 : Int) (a3 : Int) (r : List R8) : Value := match r with
 | o0 => (bO true)
def R_treeSub_111010y2 (a0 : Int) (a1 : List R8) (a2 : Int) (a3 : Int) (r : List R8) : AH := match r with
 | o0 => ⟨sB [(0, (some (rblk P 18 [false, true, false, true, true, true] .ready none [(2, (pN 2 0)), (3, (pN 3 0)), (5, (pN 4 0)), (13, (Value.func (.func 40) #[] #[(pN 6 0), (pN 7 0)]))] 1))), (1, (some (.marks true))), (2, (some (.cells (layT [(sW 0 0 (Args.A).length Args.cA)]) 22))), (3, (some (.cells (layT [(i6 a0)]) 3))), (4, (some (.cells (layT [(sN 8 0 (o0).length (Nat.add big 8))]) 22))), (6, (some (.cells (layT [(sW 0 0 (Args.A).length Args.cA)]) 22))), (7, (some (.cells (layT [(i6 a2)]) 3))), (8, (some (.cells (layT (rows rw_iiiiiiLu o0)) 33)))], 9, 0⟩
abbrev G_treeSub_111010y2 (a0 : Int) (a1 : List R8) (a2 : Int) (a3 : Int) (r : List R8) : Prop := Gv P (.yield 0) (A_treeSub_111010y2 a0 a1 a2 a3) (H_treeSub_111010y2 a0 a1 a2 a3) (V_treeSub_111010y2 a0 a1 a2 a3 r) (R_treeSub_111010y2 a0 a1 a2 a3 r)
abbrev C_treeSub_111010y2 (a0 : Int) (a1 : List R8) (a2 : Int) (a3 : Int) (r : List R8) (ins outs : BL) : CallA := ⟨8, ins, V_treeSub_111010y2 a0 a1 a2 a3 r, R_treeSub_111010y2 a0 a1 a2 a3 r, outs⟩
def m_treeSub_111010y2 (n : Nat) (a0 : Int) (a1 : List R8) (a2 : Int) (a3 : Int) : Option (List R8) :=
 if 0 ≤ a3 ∧ a3 < (Args.A.length : Int) then
  ((some ((Args.A).getD (a3).toNat (0, 0, 0, 0, 0, 0, nl0, 0)))).bind fun c2_ =>
  (m_treemovedq1 n (c2_.1) (c2_.2.1) (c2_.2.2.1) (c2_.2.2.2.1) (c2_.2.2.2.2.1) (c2_.2.2.2.2.2.1) (c2_.2.2.2.2.2.2.1) (c2_.2.2.2.2.2.2.2) a0).bind fun c3_ =>
  if ((a1).length + 1) * 80 ≤ 140737488355328 then
   some (a1 ++ [((c2_.1), (c2_.2.1), (c2_.2.2.1), (c2_.2.2.2.1), (c2_.2.2.2.2.1), (c2_.2.2.2.2.2.1), c3_, (c2_.2.2.2.2.2.2.2))])
  else none
 else none
theorem m_treeSub_111010y2_ok (n : Nat) (a0 : Int) (a1 : List R8) (a2 : Int) (a3 : Int) (r : List R8) (h : m_treeSub_111010y2 n a0 a1 a2 a3 = some r) : Gv P (.yield 0) (A_treeSub_111010y2 a0 a1 a2 a3) (H_treeSub_111010y2 a0 a1 a2 a3) (V_treeSub_111010y2 a0 a1 a2 a3 r) (R_treeSub_111010y2 a0 a1 a2 a3 r) := by
 unfold m_treeSub_111010y2 at h
 by_cases hc1 : 0 ≤ a3 ∧ a3 < (Args.A.length : Int)
 ·rw [if_pos hc1] at h
  obtain ⟨c2_, hc2, h⟩ := Option.bind_eq_some_iff.1 h
  obtain ⟨c3_, hc3, h⟩ := Option.bind_eq_some_iff.1 h
  by_cases hc4 : ((a1).length + 1) * 80 ≤ 140737488355328
  ·rw [if_pos hc4] at h
   obtain rfl := oI h; exact runY_ok hm (A1 := aT []) (L1 := lT []) (A2 := aT [(4, .pur (pW 0 ((a3).toNat * 8))), (5, .ld (Value.agg #[(i6 (c2_.1)), (i6 (c2_.2.1)), (i6 (c2_.2.2.1)), (i6 (c2_.2.2.2.1)), (i6 (c2_.2.2.2.2.1)), (i6 (c2_.2.2.2.2.2.1)), (nlV (c2_.2.2.2.2.2.2.1)), (Value.int .u64 (c2_.2.2.2.2.2.2.2))])), (7, .call (C_treemovedq1 (c2_.1) (c2_.2.1) (c2_.2.2.1) (c2_.2.2.2.1) (c2_.2.2.2.2.1) (c2_.2.2.2.2.2.1) (c2_.2.2.2.2.2.2.1) (c2_.2.2.2.2.2.2.2) a0 c3_ [(0, 3, false)] [(16, 1, false)])), (9, .app ⟨none, rows rw_iiiiiiLu a1, (rows rw_iiiiiiLu (a1 ++ [((c2_.1), (c2_.2.1), (c2_.2.2.1), (c2_.2.2.2.1), (c2_.2.2.2.2.1), (c2_.2.2.2.2.2.1), c3_, (c2_.2.2.2.2.2.2.2))])), ((a1 ++ [((c2_.1), (c2_.2.1), (c2_.2.2.1), (c2_.2.2.2.1), (c2_.2.2.2.2.1), (c2_.2.2.2.2.2.1), c3_, (c2_.2.2.2.2.2.2.2))])).length, false⟩)]) (L2 := lT []) (wk := ⟨[], [(0, 0, false), (1, 1, false), (2, 2, false), (3, 3, false), (4, 4, false), (6, 6, false), (7, 7, false), (8, 17, true)], 9, 0, [], false, []⟩) (ps := [xp1 0 (Args.A).length Args.cA a3, lp2 (a3).toNat c2_, G_treemovedq1 (c2_.1) (c2_.2.1) (c2_.2.2.1) (c2_.2.2.2.1) (c2_.2.2.2.2.1) (c2_.2.2.2.2.2.1) (c2_.2.2.2.2.2.2.1) (c2_.2.2.2.2.2.2.2) a0 c3_, 0 < 1, rdT (layT (rows rw_iiiiiiLu a1)) (Nat.mul (a1).length 8) 0 = some (rows rw_iiiiiiLu a1), fits (Nat.add (a1).length 1) 80 = true, allCells [(i6 (c2_.1)), (i6 (c2_.2.1)), (i6 (c2_.2.2.1)), (i6 (c2_.2.2.2.1)), (i6 (c2_.2.2.2.2.1)), (i6 (c2_.2.2.2.2.2.1)), (nlV c3_), (Value.int .u64 (c2_.2.2.2.2.2.2.2))] = true, allCells (rows rw_iiiiiiLu a1) = true, rows rw_iiiiiiLu a1 ++ [(i6 (c2_.1)), (i6 (c2_.2.1)), (i6 (c2_.2.2.1)), (i6 (c2_.2.2.2.1)), (i6 (c2_.2.2.2.2.1)), (i6 (c2_.2.2.2.2.2.1)), (nlV c3_), (Value.int .u64 (c2_.2.2.2.2.2.2.2))] = (rows rw_iiiiiiLu (a1 ++ [((c2_.1), (c2_.2.1), (c2_.2.2.1), (c2_.2.2.2.1), (c2_.2.2.2.2.1), (c2_.2.2.2.2.2.1), c3_, (c2_.2.2.2.2.2.2.2))])), Nat.add (a1).length 1 = ((a1 ++ [((c2_.1), (c2_.2.1), (c2_.2.2.1), (c2_.2.2.2.1), (c2_.2.2.2.2.1), (c2_.2.2.2.2.2.1), c3_, (c2_.2.2.2.2.2.2.2))])).length, FlatB (.cells (layT (rows rw_iiiiiiLu (a1 ++ [((c2_.1), (c2_.2.1), (c2_.2.2.1), (c2_.2.2.2.1), (c2_.2.2.2.2.1), (c2_.2.2.2.2.2.1), c3_, (c2_.2.2.2.2.2.2.2))]))) 33)]) (by kernel_rfl) ⟨((xk1 0 Args.cA hc1).p), ((lk2 hc2 (toNatLt hc1)).p), (m_treemovedq1_ok n (c2_.1) (c2_.2.1) (c2_.2.2.1) (c2_.2.2.2.1) (c2_.2.2.2.2.1) (c2_.2.2.2.2.2.1) (c2_.2.2.2.2.2.2.1) (c2_.2.2.2.2.2.2.2) a0 c3_ hc3), ((by decide)), (rows_rd rwf_iiiiiiLu _ _ rfl), (fits_ok hc4 (by have := hc4; show (_ : Nat) + _ ≤ _; omega)), (rfl), (rows_cells rwf_iiiiiiLu _), (rows_app rw_iiiiiiLu a1 [((c2_.1), (c2_.2.1), (c2_.2.2.1), (c2_.2.2.2.1), (c2_.2.2.2.2.1), (c2_.2.2.2.2.2.1), c3_, (c2_.2.2.2.2.2.2.2))]), (by simp), (rows_flat rwf_iiiiiiLu (a1 ++ [((c2_.1), (c2_.2.1), (c2_.2.2.1), (c2_.2.2.2.1), (c2_.2.2.2.2.1), (c2_.2.2.2.2.2.1), c3_, (c2_.2.2.2.2.2.2.2))]) 33), trivial⟩
  ·rw [if_neg hc4] at h; cases h
 ·rw [if_neg hc1] at h; cases h

def A_viq3 (a0 : Int) (a1 : Int) (a2 : List R8) (a3 : Int) : List Value := [(sW 0 0 (Args.A).length Args.cA), (i6 a0), (Value.func (.yield 0) #[] #[])]
def H_viq3 (a0 : Int) (a1 : Int) (a2 : List R8) (a3 : Int) : AH := ⟨sB [(0, (some (rblk P 18 [false, true, false, true, true, true] .ready none [(2, (pN 2 0)), (3, (pN 3 0)), (5, (pN 4 0)), (13, (Value.func (.func 40) #[] #[(pN 6 0), (pN 7 0)]))] 1))), (1, (some (.marks true))), (2, (some (.cells (layT [(sW 0 0 (Args.A).length Args.cA)]) 22))), (3, (some (.cells (layT [(i6 a1)]) 3))), (4, (some (.cells (layT [(sN 5 0 (a2).length (Nat.add big 8))]) 22))), (5, (some (.cells (layT (rows rw_iiiiiiLu a2)) 33))), (6, (some (.cells (layT [(sW 0 0 (Args.A).length Args.cA)]) 22))), (7, (some (.cells (layT [(i6 a3)]) 3)))], 8, 8⟩
def V_viq3 (a0 : Int) (a1 : Int) (a2 : List R8) (a3 : Int) (r : List R8) : Value := match r with
 | o0 => (bO true)
def R_viq3 (a0 : Int) (a1 : Int) (a2 : List R8) (a3 : Int) (r : List R8) : AH := match r with
 | o0 => ⟨sB [(0, (some (rblk P 18 [false, true, false, true, true, true] .ready none [(2, (pN 2 0)), (3, (pN 3 0)), (5, (pN 4 0)), (13, (Value.func (.func 40) #[] #[(pN 6 0), (pN 7 0)]))] 1))), (1, (some (.marks true))), (2, (some (.cells (layT [(sW 0 0 (Args.A).length Args.cA)]) 22))), (3, (some (.cells (layT [(i6 a1)]) 3))), (4, (some (.cells (layT [(sN 8 0 (o0).length (Nat.add big 8))]) 22))), (6, (some (.cells (layT [(sW 0 0 (Args.A).length Args.cA)]) 22))), (7, (some (.cells (layT [(i6 a3)]) 3))), (8, (some (.cells (layT (rows rw_iiiiiiLu o0)) 33)))], 9, 0⟩
abbrev G_viq3 (a0 : Int) (a1 : Int) (a2 : List R8) (a3 : Int) (r : List R8) : Prop := Gv P (.func 41) (A_viq3 a0 a1 a2 a3) (H_viq3 a0 a1 a2 a3) (V_viq3 a0 a1 a2 a3 r) (R_viq3 a0 a1 a2 a3 r)
abbrev C_viq3 (a0 : Int) (a1 : Int) (a2 : List R8) (a3 : Int) (r : List R8) (ins outs : BL) : CallA := ⟨8, ins, V_viq3 a0 a1 a2 a3 r, R_viq3 a0 a1 a2 a3 r, outs⟩
def S_viq3_1 (x1_0 : Int) (x1_2 : Int) (x1_3 : NL) (x1_4 : Int) (st : List R8 × Int) : XSt := match st with
 | (x1_1, x1_5) => (sT 29 [(0, (sW 0 0 (Args.A).length Args.cA)), (2, (Value.func (.yield 0) #[] #[])), (17, (nlV x1_3)), (18, (i6 x1_4)), (19, (i6 x1_5))], [], ⟨sB [(0, (some (rblk P 18 [false, true, false, true, true, true] .ready none [(2, (pN 2 0)), (3, (pN 3 0)), (5, (pN 4 0)), (13, (Value.func (.func 40) #[] #[(pN 6 0), (pN 7 0)]))] 1))), (1, (some (.marks true))), (2, (some (.cells (layT [(sW 0 0 (Args.A).length Args.cA)]) 22))), (3, (some (.cells (layT [(i6 x1_0)]) 3))), (4, (some (.cells (layT [(sN 8 0 (x1_1).length (Nat.add big 8))]) 22))), (6, (some (.cells (layT [(sW 0 0 (Args.A).length Args.cA)]) 22))), (7, (some (.cells (layT [(i6 x1_2)]) 3))), (8, (some (.cells (layT (rows rw_iiiiiiLu x1_1)) 33)))], 9, 0⟩)
def X_viq3_1 (x1_0 : Int) (x1_2 : Int) (x1_3 : NL) (x1_4 : Int) (r : List R8) : Ex × XSt := match r with
 | z1_0 => (.exit 0, (sT 29 [], [], ⟨sB [(0, (some (rblk P 18 [false, true, false, true, true, true] .ready none [(2, (pN 2 0)), (3, (pN 3 0)), (5, (pN 4 0)), (13, (Value.func (.func 40) #[] #[(pN 6 0), (pN 7 0)]))] 1))), (1, (some (.marks true))), (2, (some (.cells (layT [(sW 0 0 (Args.A).length Args.cA)]) 22))), (3, (some (.cells (layT [(i6 x1_0)]) 3))), (4, (some (.cells (layT [(sN 8 0 (z1_0).length (Nat.add big 8))]) 22))), (6, (some (.cells (layT [(sW 0 0 (Args.A).length Args.cA)]) 22))), (7, (some (.cells (layT [(i6 x1_2)]) 3))), (8, (some (.cells (layT (rows rw_iiiiiiLu z1_0)) 33)))], 9, 0⟩))
abbrev Q_viq3_1 (rnd : Option Nat) (x1_0 : Int) (x1_2 : Int) (x1_3 : NL) (x1_4 : Int) (st : List R8 × Int) (c : Ex × XSt) : Prop := CG P rnd (fnN P 41) 8 (codeOf P 41 [false, false, true, false, true, true]) (S_viq3_1 x1_0 x1_2 x1_3 x1_4 st) c
abbrev U_viq3_1 (rd : Option Nat) (x1_0 : Int) (x1_2 : Int) (x1_3 : NL) (x1_4 : Int) (st : List R8 × Int) (r : List R8) : Prop := CG P rd (fnN P 41) 8 (codeOf P 41 [false, true, false, true, true]) (S_viq3_1 x1_0 x1_2 x1_3 x1_4 st) (X_viq3_1 x1_0 x1_2 x1_3 x1_4 r)
def B_viq3_1 (rec_viq3 : (Int) → (Int) → (List R8) → (Int) → Option (List R8)) (n : Nat) (x1_0 : Int) (x1_2 : Int) (x1_3 : NL) (x1_4 : Int) (st : List R8 × Int) : Option ((List R8 × Int) ⊕ (List R8)) := match st with
 | (x1_1, x1_5) =>
  if x1_5 < x1_4 then
   if 0 ≤ x1_5 ∧ x1_5 < (x1_3.l.length : Int) then
    if (x1_5).toNat < ((x1_3).l).length then
     ((some (((x1_3).l).getD (x1_5).toNat 0))).bind fun y1_4_ =>
     (rec_viq3 y1_4_ x1_0 x1_1 x1_2).bind fun y1_5_ =>
     some (.inl (y1_5_, (w64 (x1_5 + (1 : Int)))))
    else none
   else none
  else
   some (.inr x1_1)
def m_viq3_1 (rec_viq3 : (Int) → (Int) → (List R8) → (Int) → Option (List R8)) (n : Nat) (x1_0 : Int) (x1_2 : Int) (x1_3 : NL) (x1_4 : Int) (st : List R8 × Int) : Option (List R8) := iterM (B_viq3_1 rec_viq3 n x1_0 x1_2 x1_3 x1_4) n st
theorem q_viq3_1_0 (rec_viq3 : (Int) → (Int) → (List R8) → (Int) → Option (List R8)) (hrec_viq3 : ∀ (a0 : Int) (a1 : Int) (a2 : List R8) (a3 : Int) (r : List R8), rec_viq3 a0 a1 a2 a3 = some r → Gv P (.func 41) (A_viq3 a0 a1 a2 a3) (H_viq3 a0 a1 a2 a3) (V_viq3 a0 a1 a2 a3 r) (R_viq3 a0 a1 a2 a3 r)) (n : Nat) {rnd : Option Nat} (x1_0 : Int) (x1_1 : List R8) (x1_2 : Int) (x1_3 : NL) (x1_4 x1_5 : Int) (hy1_1 : x1_5 < x1_4) (hy1_2 : 0 ≤ x1_5 ∧ x1_5 < (x1_3.l.length : Int)) (hy1_3 : (x1_5).toNat < ((x1_3).l).length) (y1_4_ : Int) (hy1_4 : (some (((x1_3).l).getD (x1_5).toNat 0)) = some y1_4_) (y1_5_ : List R8) (hy1_5 : rec_viq3 y1_4_ x1_0 x1_1 x1_2 = some y1_5_) : Q_viq3_1 rnd x1_0 x1_2 x1_3 x1_4 (x1_1, x1_5) (.normal, S_viq3_1 x1_0 x1_2 x1_3 x1_4 (y1_5_, (w64 (x1_5 + (1 : Int))))) :=
 runC2 hm (L := lT []) ⟨[0, 2, 17, 18, 19], [(0, 0, false), (1, 1, false), (2, 2, false), (3, 3, false), (4, 4, false), (6, 6, false), (7, 7, false), (8, 9, true)], 9, 0, [], false, []⟩ (zz 1 (xdT hy1_1) <|
zz 7 (xk9 (Nat.add (x1_3).num 64) (x1_3).cap hy1_2) <|
zz 8 (nk10 hy1_4 hy1_3) <|
yy 14 (.call (C_viq3 y1_4_ x1_0 x1_1 x1_2 y1_5_ [(0, 0, false), (1, 1, false), (2, 2, false), (3, 3, false), (4, 4, false), (5, 8, true), (6, 6, false), (7, 7, false)] [(0, 0, false), (1, 1, false), (2, 2, false), (3, 3, false), (4, 4, false), (6, 6, false), (7, 7, false), (9, 8, true)])) <|
ww (hrec_viq3 y1_4_ x1_0 x1_1 x1_2 y1_5_ hy1_5) <|
ww (rows_flat rwf_iiiiiiLu x1_1 33) <|
ww (rows_flat rwf_iiiiiiLu y1_5_ 33) <|
ww (rows_flat rwf_iiiiiiLu y1_5_ 33) <|
ee) (by kernel_rfl)
theorem q_viq3_1_1 (rec_viq3 : (Int) → (Int) → (List R8) → (Int) → Option (List R8)) (hrec_viq3 : ∀ (a0 : Int) (a1 : Int) (a2 : List R8) (a3 : Int) (r : List R8), rec_viq3 a0 a1 a2 a3 = some r → Gv P (.func 41) (A_viq3 a0 a1 a2 a3) (H_viq3 a0 a1 a2 a3) (V_viq3 a0 a1 a2 a3 r) (R_viq3 a0 a1 a2 a3 r)) (n : Nat) {rnd : Option Nat} (x1_0 : Int) (x1_1 : List R8) (x1_2 : Int) (x1_3 : NL) (x1_4 x1_5 : Int) (hy1_1 : ¬ (x1_5 < x1_4)) : Q_viq3_1 rnd x1_0 x1_2 x1_3 x1_4 (x1_1, x1_5) (X_viq3_1 x1_0 x1_2 x1_3 x1_4 x1_1) :=
 runC2 hm (L := lT []) ⟨[], [(0, 0, false), (1, 1, false), (2, 2, false), (3, 3, false), (4, 4, false), (6, 6, false), (7, 7, false), (8, 8, true)], 9, 0, [], false, []⟩ (zz 1 (xdF hy1_1) <|
ww (rows_flat rwf_iiiiiiLu x1_1 33) <|
ee) (by kernel_rfl)
theorem m_viq3_1_ok (rec_viq3 : (Int) → (Int) → (List R8) → (Int) → Option (List R8)) (hrec_viq3 : ∀ (a0 : Int) (a1 : Int) (a2 : List R8) (a3 : Int) (r : List R8), rec_viq3 a0 a1 a2 a3 = some r → Gv P (.func 41) (A_viq3 a0 a1 a2 a3) (H_viq3 a0 a1 a2 a3) (V_viq3 a0 a1 a2 a3 r) (R_viq3 a0 a1 a2 a3 r)) (n : Nat) {rnd : Option Nat} (x1_0 : Int) (x1_2 : Int) (x1_3 : NL) (x1_4 : Int) (st : List R8 × Int) (r : List R8) (h : m_viq3_1 rec_viq3 n x1_0 x1_2 x1_3 x1_4 st = some r) : CG P rnd (fnN P 41) 8 (codeOf P 41 [false, true, false, true, true]) (S_viq3_1 x1_0 x1_2 x1_3 x1_4 st) (X_viq3_1 x1_0 x1_2 x1_3 x1_4 r) :=
 CG.iter (b := codeOf P 41 [false, false, true, false, true, true]) (by kernel_rfl) (body := B_viq3_1 rec_viq3 n x1_0 x1_2 x1_3 x1_4) (S := S_viq3_1 x1_0 x1_2 x1_3 x1_4) (X := X_viq3_1 x1_0 x1_2 x1_3 x1_4)
  (fun s s' h => by
  obtain ⟨x1_1, x1_5⟩ := s
  unfold B_viq3_1 at h
  dsimp only at h
  by_cases hy1_1 : x1_5 < x1_4
  ·rw [if_pos hy1_1] at h
   by_cases hy1_2 : 0 ≤ x1_5 ∧ x1_5 < (x1_3.l.length : Int)
   ·rw [if_pos hy1_2] at h
    by_cases hy1_3 : (x1_5).toNat < ((x1_3).l).length
    ·rw [if_pos hy1_3] at h
     obtain ⟨y1_4_, hy1_4, h⟩ := Option.bind_eq_some_iff.1 h
     obtain ⟨y1_5_, hy1_5, h⟩ := Option.bind_eq_some_iff.1 h
     obtain rfl := Sum.inl.inj (oI h); exact q_viq3_1_0 rec_viq3 hrec_viq3 n x1_0 x1_1 x1_2 x1_3 x1_4 x1_5 hy1_1 hy1_2 hy1_3 y1_4_ hy1_4 y1_5_ hy1_5
    ·rw [if_neg hy1_3] at h; cases h
   ·rw [if_neg hy1_2] at h; cases h
  ·rw [if_neg hy1_1] at h
   cases h)
  (fun s r h => by
  obtain ⟨x1_1, x1_5⟩ := s
  unfold B_viq3_1 at h
  dsimp only at h
  by_cases hy1_1 : x1_5 < x1_4
  ·rw [if_pos hy1_1] at h
   by_cases hy1_2 : 0 ≤ x1_5 ∧ x1_5 < (x1_3.l.length : Int)
   ·rw [if_pos hy1_2] at h
    by_cases hy1_3 : (x1_5).toNat < ((x1_3).l).length
    ·rw [if_pos hy1_3] at h
     obtain ⟨y1_4_, hy1_4, h⟩ := Option.bind_eq_some_iff.1 h
     obtain ⟨y1_5_, hy1_5, h⟩ := Option.bind_eq_some_iff.1 h
     cases h
    ·rw [if_neg hy1_3] at h; cases h
   ·rw [if_neg hy1_2] at h; cases h
  ·rw [if_neg hy1_1] at h
   obtain rfl := Sum.inr.inj (oI h); exact q_viq3_1_1 rec_viq3 hrec_viq3 n x1_0 x1_1 x1_2 x1_3 x1_4 x1_5 hy1_1)
  (fun r => by intro hx; cases hx) h
def s_viq3 (rec_viq3 : (Int) → (Int) → (List R8) → (Int) → Option (List R8)) (n : Nat) (a0 : Int) (a1 : Int) (a2 : List R8) (a3 : Int) : Option (List R8) :=
 (m_treeSub_111010y2 n a1 a2 a3 a0).bind fun c1_ =>
 if 0 ≤ a0 ∧ a0 < (Args.A.length : Int) then
  ((some ((Args.A).getD (a0).toNat (0, 0, 0, 0, 0, 0, nl0, 0)))).bind fun c3_ =>
  (m_viq3_1 rec_viq3 n a1 a3 (c3_.2.2.2.2.2.2.1) (c3_.2.2.2.2.2.2.1.l.length : Int) (c1_, 0)).bind fun c4_ =>
  some c4_
 else none
theorem s_viq3_ok (rec_viq3 : (Int) → (Int) → (List R8) → (Int) → Option (List R8)) (hrec_viq3 : ∀ (a0 : Int) (a1 : Int) (a2 : List R8) (a3 : Int) (r : List R8), rec_viq3 a0 a1 a2 a3 = some r → Gv P (.func 41) (A_viq3 a0 a1 a2 a3) (H_viq3 a0 a1 a2 a3) (V_viq3 a0 a1 a2 a3 r) (R_viq3 a0 a1 a2 a3 r)) (n : Nat) (a0 : Int) (a1 : Int) (a2 : List R8) (a3 : Int) (r : List R8) (h : s_viq3 rec_viq3 n a0 a1 a2 a3 = some r) : Gv P (.func 41) (A_viq3 a0 a1 a2 a3) (H_viq3 a0 a1 a2 a3) (V_viq3 a0 a1 a2 a3 r) (R_viq3 a0 a1 a2 a3 r) := by
 unfold s_viq3 at h
 obtain ⟨c1_, hc1, h⟩ := Option.bind_eq_some_iff.1 h
 by_cases hc2 : 0 ≤ a0 ∧ a0 < (Args.A.length : Int)
 ·rw [if_pos hc2] at h
  obtain ⟨c3_, hc3, h⟩ := Option.bind_eq_some_iff.1 h
  obtain ⟨c4_, hc4, h⟩ := Option.bind_eq_some_iff.1 h
  obtain rfl := oI h; exact runF2 hm (L := lT [(19, ⟨⟨[0, 2, 17, 18, 19], [(0, 0, false), (1, 1, false), (2, 2, false), (3, 3, false), (4, 4, false), (6, 6, false), (7, 7, false), (8, 8, true)], 9, 0, [], false, []⟩, (X_viq3_1 a1 a3 (c3_.2.2.2.2.2.2.1) (c3_.2.2.2.2.2.2.1.l.length : Int) c4_).1, (X_viq3_1 a1 a3 (c3_.2.2.2.2.2.2.1) (c3_.2.2.2.2.2.2.1.l.length : Int) c4_).2⟩)]) ⟨[6], [(0, 0, false), (1, 1, false), (2, 2, false), (3, 3, false), (4, 4, false), (6, 6, false), (7, 7, false), (8, 8, true)], 9, 0, [], false, []⟩ (yy 6 (.call (C_treeSub_111010y2 a1 a2 a3 a0 c1_ [(0, 0, false), (1, 1, false), (2, 2, false), (3, 3, false), (4, 4, false), (5, 5, true), (6, 6, false), (7, 7, false)] [(0, 0, false), (1, 1, false), (2, 2, false), (3, 3, false), (4, 4, false), (6, 6, false), (7, 7, false), (8, 8, true)])) <|
ww (m_treeSub_111010y2_ok n a1 a2 a3 a0 c1_ hc1) <|
ww (rows_flat rwf_iiiiiiLu a2 33) <|
ww (rows_flat rwf_iiiiiiLu c1_ 33) <|
zz 13 (xk1 0 Args.cA hc2) <|
zz 14 (fk7 ((a0).toNat * 8)) <|
zz 15 (lk8 hc3 (toNatLt hc2)) <|
ww (p := U_viq3_1 none a1 a3 (c3_.2.2.2.2.2.2.1) (c3_.2.2.2.2.2.2.1.l.length : Int) (c1_, 0) c4_) (m_viq3_1_ok rec_viq3 hrec_viq3 n a1 a3 (c3_.2.2.2.2.2.2.1) (c3_.2.2.2.2.2.2.1.l.length : Int) (c1_, 0) c4_ hc4) <|
ww (rows_flat rwf_iiiiiiLu c1_ 33) <|
ww (rows_flat rwf_iiiiiiLu c4_ 33) ee) (by kernel_rfl)
 ·rw [if_neg hc2] at h; cases h
def m_viq3 : Nat → (Int) → (Int) → (List R8) → (Int) → Option (List R8)
 | 0 => fun _ _ _ _ => none
 | n + 1 => fun a0 a1 a2 a3 => s_viq3 (m_viq3 n) n a0 a1 a2 a3
theorem m_viq3_ok : ∀ (n : Nat) (a0 : Int) (a1 : Int) (a2 : List R8) (a3 : Int) (r : List R8) (h : m_viq3 n a0 a1 a2 a3 = some r), Gv P (.func 41) (A_viq3 a0 a1 a2 a3) (H_viq3 a0 a1 a2 a3) (V_viq3 a0 a1 a2 a3 r) (R_viq3 a0 a1 a2 a3 r)
 | 0, _, _, _, _, _, h => nomatch h
 | n + 1, a0, a1, a2, a3, r, h => s_viq3_ok (m_viq3 n) (m_viq3_ok n) n a0 a1 a2 a3 r h

def A_viq2 (a0 : Int) (a1 : Int) (a2 : Int) : List Value := [(sW 0 0 (Args.A).length Args.cA), (i6 a0), (Value.func (.yield 0) #[] #[])]
def H_viq2 (a0 : Int) (a1 : Int) (a2 : Int) : AH := ⟨sB [(0, (some (rblk P 18 [false, true, false, true, true, true] .ready none [(2, (pN 2 0)), (3, (pN 3 0)), (5, (pN 4 0)), (13, (Value.func (.func 40) #[] #[(pN 5 0), (pN 6 0)]))] 1))), (1, (some (.marks true))), (2, (some (.cells (layT [(sW 0 0 (Args.A).length Args.cA)]) 22))), (3, (some (.cells (layT [(i6 a1)]) 3))), (4, (some (.cells (layT [(Value.slice none 0 0)]) 22))), (5, (some (.cells (layT [(sW 0 0 (Args.A).length Args.cA)]) 22))), (6, (some (.cells (layT [(i6 a2)]) 3)))], 7, 7⟩
def V_viq2 (a0 : Int) (a1 : Int) (a2 : Int) (r : List R8) : Value := match r with
 | o0 => (bO true)
def R_viq2 (a0 : Int) (a1 : Int) (a2 : Int) (r : List R8) : AH := match r with
 | o0 => ⟨sB [(0, (some (rblk P 18 [false, true, false, true, true, true] .ready none [(2, (pN 2 0)), (3, (pN 3 0)), (5, (pN 4 0)), (13, (Value.func (.func 40) #[] #[(pN 5 0), (pN 6 0)]))] 1))), (1, (some (.marks true))), (2, (some (.cells (layT [(sW 0 0 (Args.A).length Args.cA)]) 22))), (3, (some (.cells (layT [(i6 a1)]) 3))), (4, (some (.cells (layT [(sN 7 0 (o0).length (Nat.add big 8))]) 22))), (5, (some (.cells (layT [(sW 0 0 (Args.A).length Args.cA)]) 22))), (6, (some (.cells (layT [(i6 a2)]) 3))), (7, (some (.cells (layT (rows rw_iiiiiiLu o0)) 33)))], 8, 0⟩
abbrev G_viq2 (a0 : Int) (a1 : Int) (a2 : Int) (r : List R8) : Prop := Gv P (.func 41) (A_viq2 a0 a1 a2) (H_viq2 a0 a1 a2) (V_viq2 a0 a1 a2 r) (R_viq2 a0 a1 a2 r)
abbrev C_viq2 (a0 : Int) (a1 : Int) (a2 : Int) (r : List R8) (ins outs : BL) : CallA := ⟨7, ins, V_viq2 a0 a1 a2 r, R_viq2 a0 a1 a2 r, outs⟩
def S_viq2_1 (x1_0 : Int) (x1_2 : Int) (x1_3 : NL) (x1_4 : Int) (st : List R8 × Int) : XSt := match st with
 | (x1_1, x1_5) => (sT 29 [(0, (sW 0 0 (Args.A).length Args.cA)), (2, (Value.func (.yield 0) #[] #[])), (17, (nlV x1_3)), (18, (i6 x1_4)), (19, (i6 x1_5))], [], ⟨sB [(0, (some (rblk P 18 [false, true, false, true, true, true] .ready none [(2, (pN 2 0)), (3, (pN 3 0)), (5, (pN 4 0)), (13, (Value.func (.func 40) #[] #[(pN 5 0), (pN 6 0)]))] 1))), (1, (some (.marks true))), (2, (some (.cells (layT [(sW 0 0 (Args.A).length Args.cA)]) 22))), (3, (some (.cells (layT [(i6 x1_0)]) 3))), (4, (some (.cells (layT [(sN 7 0 (x1_1).length (Nat.add big 8))]) 22))), (5, (some (.cells (layT [(sW 0 0 (Args.A).length Args.cA)]) 22))), (6, (some (.cells (layT [(i6 x1_2)]) 3))), (7, (some (.cells (layT (rows rw_iiiiiiLu x1_1)) 33)))], 8, 0⟩)
def X_viq2_1 (x1_0 : Int) (x1_2 : Int) (x1_3 : NL) (x1_4 : Int) (r : List R8) : Ex × XSt := match r with
 | z1_0 => (.exit 0, (sT 29 [], [], ⟨sB [(0, (some (rblk P 18 [false, true, false, true, true, true] .ready none [(2, (pN 2 0)), (3, (pN 3 0)), (5, (pN 4 0)), (13, (Value.func (.func 40) #[] #[(pN 5 0), (pN 6 0)]))] 1))), (1, (some (.marks true))), (2, (some (.cells (layT [(sW 0 0 (Args.A).length Args.cA)]) 22))), (3, (some (.cells (layT [(i6 x1_0)]) 3))), (4, (some (.cells (layT [(sN 7 0 (z1_0).length (Nat.add big 8))]) 22))), (5, (some (.cells (layT [(sW 0 0 (Args.A).length Args.cA)]) 22))), (6, (some (.cells (layT [(i6 x1_2)]) 3))), (7, (some (.cells (layT (rows rw_iiiiiiLu z1_0)) 33)))], 8, 0⟩))
abbrev Q_viq2_1 (rnd : Option Nat) (x1_0 : Int) (x1_2 : Int) (x1_3 : NL) (x1_4 : Int) (st : List R8 × Int) (c : Ex × XSt) : Prop := CG P rnd (fnN P 41) 7 (codeOf P 41 [false, false, true, false, true, true]) (S_viq2_1 x1_0 x1_2 x1_3 x1_4 st) c
abbrev U_viq2_1 (rd : Option Nat) (x1_0 : Int) (x1_2 : Int) (x1_3 : NL) (x1_4 : Int) (st : List R8 × Int) (r : List R8) : Prop := CG P rd (fnN P 41) 7 (codeOf P 41 [false, true, false, true, true]) (S_viq2_1 x1_0 x1_2 x1_3 x1_4 st) (X_viq2_1 x1_0 x1_2 x1_3 x1_4 r)
def B_viq2_1 (n : Nat) (x1_0 : Int) (x1_2 : Int) (x1_3 : NL) (x1_4 : Int) (st : List R8 × Int) : Option ((List R8 × Int) ⊕ (List R8)) := match st with
 | (x1_1, x1_5) =>
  if x1_5 < x1_4 then
   if 0 ≤ x1_5 ∧ x1_5 < (x1_3.l.length : Int) then
    if (x1_5).toNat < ((x1_3).l).length then
     ((some (((x1_3).l).getD (x1_5).toNat 0))).bind fun y1_4_ =>
     (m_viq3 n y1_4_ x1_0 x1_1 x1_2).bind fun y1_5_ =>
     some (.inl (y1_5_, (w64 (x1_5 + (1 : Int)))))
    else none
   else none
  else
   some (.inr x1_1)
def m_viq2_1 (n : Nat) (x1_0 : Int) (x1_2 : Int) (x1_3 : NL) (x1_4 : Int) (st : List R8 × Int) : Option (List R8) := iterM (B_viq2_1 n x1_0 x1_2 x1_3 x1_4) n st
theorem q_viq2_1_0 (n : Nat) {rnd : Option Nat} (x1_0 : Int) (x1_1 : List R8) (x1_2 : Int) (x1_3 : NL) (x1_4 x1_5 : Int) (hy1_1 : x1_5 < x1_4) (hy1_2 : 0 ≤ x1_5 ∧ x1_5 < (x1_3.l.length : Int)) (hy1_3 : (x1_5).toNat < ((x1_3).l).length) (y1_4_ : Int) (hy1_4 : (some (((x1_3).l).getD (x1_5).toNat 0)) = some y1_4_) (y1_5_ : List R8) (hy1_5 : m_viq3 n y1_4_ x1_0 x1_1 x1_2 = some y1_5_) : Q_viq2_1 rnd x1_0 x1_2 x1_3 x1_4 (x1_1, x1_5) (.normal, S_viq2_1 x1_0 x1_2 x1_3 x1_4 (y1_5_, (w64 (x1_5 + (1 : Int))))) :=
 runC2 hm (L := lT []) ⟨[0, 2, 17, 18, 19], [(0, 0, false), (1, 1, false), (2, 2, false), (3, 3, false), (4, 4, false), (5, 5, false), (6, 6, false), (7, 8, true)], 8, 0, [], false, []⟩ (zz 1 (xdT hy1_1) <|
zz 7 (xk9 (Nat.add (x1_3).num 64) (x1_3).cap hy1_2) <|
zz 8 (nk10 hy1_4 hy1_3) <|
yy 14 (.call (C_viq3 y1_4_ x1_0 x1_1 x1_2 y1_5_ [(0, 0, false), (1, 1, false), (2, 2, false), (3, 3, false), (4, 4, false), (5, 7, true), (6, 5, false), (7, 6, false)] [(0, 0, false), (1, 1, false), (2, 2, false), (3, 3, false), (4, 4, false), (5, 6, false), (6, 7, false), (8, 8, true)])) <|
ww (m_viq3_ok n y1_4_ x1_0 x1_1 x1_2 y1_5_ hy1_5) <|
ww (rows_flat rwf_iiiiiiLu x1_1 33) <|
ww (rows_flat rwf_iiiiiiLu y1_5_ 33) <|
ww (rows_flat rwf_iiiiiiLu y1_5_ 33) <|
ee) (by kernel_rfl)
theorem q_viq2_1_1 (n : Nat) {rnd : Option Nat} (x1_0 : Int) (x1_1 : List R8) (x1_2 : Int) (x1_3 : NL) (x1_4 x1_5 : Int) (hy1_1 : ¬ (x1_5 < x1_4)) : Q_viq2_1 rnd x1_0 x1_2 x1_3 x1_4 (x1_1, x1_5) (X_viq2_1 x1_0 x1_2 x1_3 x1_4 x1_1) :=
 runC2 hm (L := lT []) ⟨[], [(0, 0, false), (1, 1, false), (2, 2, false), (3, 3, false), (4, 4, false), (5, 5, false), (6, 6, false), (7, 7, true)], 8, 0, [], false, []⟩ (zz 1 (xdF hy1_1) <|
ww (rows_flat rwf_iiiiiiLu x1_1 33) <|
ee) (by kernel_rfl)
theorem m_viq2_1_ok (n : Nat) {rnd : Option Nat} (x1_0 : Int) (x1_2 : Int) (x1_3 : NL) (x1_4 : Int) (st : List R8 × Int) (r : List R8) (h : m_viq2_1 n x1_0 x1_2 x1_3 x1_4 st = some r) : CG P rnd (fnN P 41) 7 (codeOf P 41 [false, true, false, true, true]) (S_viq2_1 x1_0 x1_2 x1_3 x1_4 st) (X_viq2_1 x1_0 x1_2 x1_3 x1_4 r) :=
 CG.iter (b := codeOf P 41 [false, false, true, false, true, true]) (by kernel_rfl) (body := B_viq2_1 n x1_0 x1_2 x1_3 x1_4) (S := S_viq2_1 x1_0 x1_2 x1_3 x1_4) (X := X_viq2_1 x1_0 x1_2 x1_3 x1_4)
  (fun s s' h => by
  obtain ⟨x1_1, x1_5⟩ := s
  unfold B_viq2_1 at h
  dsimp only at h
  by_cases hy1_1 : x1_5 < x1_4
  ·rw [if_pos hy1_1] at h
   by_cases hy1_2 : 0 ≤ x1_5 ∧ x1_5 < (x1_3.l.length : Int)
   ·rw [if_pos hy1_2] at h
    by_cases hy1_3 : (x1_5).toNat < ((x1_3).l).length
    ·rw [if_pos hy1_3] at h
     obtain ⟨y1_4_, hy1_4, h⟩ := Option.bind_eq_some_iff.1 h
     obtain ⟨y1_5_, hy1_5, h⟩ := Option.bind_eq_some_iff.1 h
     obtain rfl := Sum.inl.inj (oI h); exact q_viq2_1_0 n x1_0 x1_1 x1_2 x1_3 x1_4 x1_5 hy1_1 hy1_2 hy1_3 y1_4_ hy1_4 y1_5_ hy1_5
    ·rw [if_neg hy1_3] at h; cases h
   ·rw [if_neg hy1_2] at h; cases h
  ·rw [if_neg hy1_1] at h
   cases h)
  (fun s r h => by
  obtain ⟨x1_1, x1_5⟩ := s
  unfold B_viq2_1 at h
  dsimp only at h
  by_cases hy1_1 : x1_5 < x1_4
  ·rw [if_pos hy1_1] at h
   by_cases hy1_2 : 0 ≤ x1_5 ∧ x1_5 < (x1_3.l.length : Int)
   ·rw [if_pos hy1_2] at h
    by_cases hy1_3 : (x1_5).toNat < ((x1_3).l).length
    ·rw [if_pos hy1_3] at h
     obtain ⟨y1_4_, hy1_4, h⟩ := Option.bind_eq_some_iff.1 h
     obtain ⟨y1_5_, hy1_5, h⟩ := Option.bind_eq_some_iff.1 h
     cases h
    ·rw [if_neg hy1_3] at h; cases h
   ·rw [if_neg hy1_2] at h; cases h
  ·rw [if_neg hy1_1] at h
   obtain rfl := Sum.inr.inj (oI h); exact q_viq2_1_1 n x1_0 x1_1 x1_2 x1_3 x1_4 x1_5 hy1_1)
  (fun r => by intro hx; cases hx) h
def m_viq2 (n : Nat) (a0 : Int) (a1 : Int) (a2 : Int) : Option (List R8) :=
 (m_treeSub_111010y1 n a1 a2 a0).bind fun t => match t with
 | (c1_0, c1_1, c1_2, c1_3, c1_4, c1_5, c1_6, c1_7) =>
  if 0 ≤ a0 ∧ a0 < (Args.A.length : Int) then
   ((some ((Args.A).getD (a0).toNat (0, 0, 0, 0, 0, 0, nl0, 0)))).bind fun c3_ =>
   (m_viq2_1 n a1 a2 (c3_.2.2.2.2.2.2.1) (c3_.2.2.2.2.2.2.1.l.length : Int) ([(c1_0, c1_1, c1_2, c1_3, c1_4, c1_5, c1_6, c1_7)], 0)).bind fun c4_ =>
   some c4_
  else none
theorem m_viq2_ok (n : Nat) (a0 : Int) (a1 : Int) (a2 : Int) (r : List R8) (h : m_viq2 n a0 a1 a2 = some r) : Gv P (.func 41) (A_viq2 a0 a1 a2) (H_viq2 a0 a1 a2) (V_viq2 a0 a1 a2 r) (R_viq2 a0 a1 a2 r) := by
 unfold m_viq2 at h
 obtain ⟨⟨c1_0, c1_1, c1_2, c1_3, c1_4, c1_5, c1_6, c1_7⟩, hc1, h⟩ := Option.bind_eq_some_iff.1 h
 dsimp only at h
 by_cases hc2 : 0 ≤ a0 ∧ a0 < (Args.A.length : Int)
 ·rw [if_pos hc2] at h
  obtain ⟨c3_, hc3, h⟩ := Option.bind_eq_some_iff.1 h
  obtain ⟨c4_, hc4, h⟩ := Option.bind_eq_some_iff.1 h
  obtain rfl := oI h; exact runF2 hm (L := lT [(19, ⟨⟨[0, 2, 17, 18, 19], [(0, 0, false), (1, 1, false), (2, 2, false), (3, 3, false), (4, 4, false), (5, 5, false), (6, 6, false), (7, 7, false)], 8, 0, [], false, []⟩, (X_viq2_1 a1 a2 (c3_.2.2.2.2.2.2.1) (c3_.2.2.2.2.2.2.1.l.length : Int) c4_).1, (X_viq2_1 a1 a2 (c3_.2.2.2.2.2.2.1) (c3_.2.2.2.2.2.2.1.l.length : Int) c4_).2⟩)]) ⟨[6], [(0, 0, false), (1, 1, false), (2, 2, false), (3, 3, false), (4, 4, false), (5, 5, false), (6, 6, false), (7, 7, true)], 8, 0, [], false, []⟩ (yy 6 (.call (C_treeSub_111010y1 a1 a2 a0 (c1_0, c1_1, c1_2, c1_3, c1_4, c1_5, c1_6, c1_7) [(0, 0, false), (1, 1, false), (2, 2, false), (3, 3, false), (4, 4, false), (5, 5, false), (6, 6, false)] [(0, 0, false), (1, 1, false), (2, 2, false), (3, 3, false), (4, 4, false), (5, 5, false), (6, 6, false), (7, 7, false)])) <|
ww (m_treeSub_111010y1_ok n a1 a2 a0 (c1_0, c1_1, c1_2, c1_3, c1_4, c1_5, c1_6, c1_7) hc1) <|
zz 13 (xk1 0 Args.cA hc2) <|
zz 14 (fk7 ((a0).toNat * 8)) <|
zz 15 (lk8 hc3 (toNatLt hc2)) <|
ww (p := U_viq2_1 none a1 a2 (c3_.2.2.2.2.2.2.1) (c3_.2.2.2.2.2.2.1.l.length : Int) ([(c1_0, c1_1, c1_2, c1_3, c1_4, c1_5, c1_6, c1_7)], 0) c4_) (m_viq2_1_ok n a1 a2 (c3_.2.2.2.2.2.2.1) (c3_.2.2.2.2.2.2.1.l.length : Int) ([(c1_0, c1_1, c1_2, c1_3, c1_4, c1_5, c1_6, c1_7)], 0) c4_ hc4) <|
ww (rows_flat rwf_iiiiiiLu c4_ 33) ee) (by kernel_rfl)
 ·rw [if_neg hc2] at h; cases h

def A_pl1q2 (a0 : Int) (a1 : Int) : List Value := [(Value.func (.yield 0) #[] #[]), (pN 5 0), (pN 6 0)]
def H_pl1q2 (a0 : Int) (a1 : Int) : AH := ⟨sB [(0, (some (rblk P 18 [false, true, false, true, true, true] .ready none [(2, (pN 2 0)), (3, (pN 3 0)), (5, (pN 4 0)), (13, (Value.func (.func 40) #[] #[(pN 5 0), (pN 6 0)]))] 1))), (1, (some (.marks true))), (2, (some (.cells (layT [(sW 0 0 (Args.A).length Args.cA)]) 22))), (3, (some (.cells (layT [(i6 a0)]) 3))), (4, (some (.cells (layT [(Value.slice none 0 0)]) 22))), (5, (some (.cells (layT [(sW 0 0 (Args.A).length Args.cA)]) 22))), (6, (some (.cells (layT [(i6 a1)]) 3)))], 7, 7⟩
def V_pl1q2 (a0 : Int) (a1 : Int) (r : List R8) : Value := match r with
 | o0 => (Value.tuple #[])
def R_pl1q2 (a0 : Int) (a1 : Int) (r : List R8) : AH := match r with
 | o0 => ⟨sB [(0, (some (rblk P 18 [false, true, false, true, true, true] .ready none [(2, (pN 2 0)), (3, (pN 3 0)), (5, (pN 4 0)), (13, (Value.func (.func 40) #[] #[(pN 5 0), (pN 6 0)]))] 1))), (1, (some (.marks true))), (2, (some (.cells (layT [(sW 0 0 (Args.A).length Args.cA)]) 22))), (3, (some (.cells (layT [(i6 a0)]) 3))), (4, (some (.cells (layT [(sN 7 0 (o0).length (Nat.add big 8))]) 22))), (5, (some (.cells (layT [(sW 0 0 (Args.A).length Args.cA)]) 22))), (6, (some (.cells (layT [(i6 a1)]) 3))), (7, (some (.cells (layT (rows rw_iiiiiiLu o0)) 33)))], 8, 0⟩
abbrev G_pl1q2 (a0 : Int) (a1 : Int) (r : List R8) : Prop := Gv P (.func 40) (A_pl1q2 a0 a1) (H_pl1q2 a0 a1) (V_pl1q2 a0 a1 r) (R_pl1q2 a0 a1 r)
abbrev C_pl1q2 (a0 : Int) (a1 : Int) (r : List R8) (ins outs : BL) : CallA := ⟨7, ins, V_pl1q2 a0 a1 r, R_pl1q2 a0 a1 r, outs⟩
def m_pl1q2 (n : Nat) (a0 : Int) (a1 : Int) : Option (List R8) :=
 (m_viq2 n a1 a0 a1).bind fun c1_ =>
 some c1_
theorem m_pl1q2_ok (n : Nat) (a0 : Int) (a1 : Int) (r : List R8) (h : m_pl1q2 n a0 a1 = some r) : Gv P (.func 40) (A_pl1q2 a0 a1) (H_pl1q2 a0 a1) (V_pl1q2 a0 a1 r) (R_pl1q2 a0 a1 r) := by
 unfold m_pl1q2 at h
 obtain ⟨c1_, hc1, h⟩ := Option.bind_eq_some_iff.1 h
 obtain rfl := oI h; exact runF2 hm (L := lT []) ⟨[], [(0, 0, false), (1, 1, false), (2, 2, false), (3, 3, false), (4, 4, false), (5, 5, false), (6, 6, false), (7, 7, true)], 8, 0, [], false, []⟩ (yy 3 (.call (C_viq2 a1 a0 a1 c1_ [(0, 0, false), (1, 1, false), (2, 2, false), (3, 3, false), (4, 4, false), (5, 5, false), (6, 6, false)] [(0, 0, false), (1, 1, false), (2, 2, false), (3, 3, false), (4, 4, false), (5, 5, false), (6, 6, false), (7, 7, true)])) <|
ww (m_viq2_ok n a1 a0 a1 c1_ hc1) <|
ww (rows_flat rwf_iiiiiiLu c1_ 33) <|
ww (rows_flat rwf_iiiiiiLu c1_ 33) ee) (by kernel_rfl)

def A_treeSubq1 (a0 : Int) : List Value := [(sW 0 0 (Args.A).length Args.cA), (i6 a0)]
def H_treeSubq1 (a0 : Int) : AH := ⟨sB [], 0, 0⟩
def V_treeSubq1 (a0 : Int) (r : List R8) : Value := match r with
 | o0 => (sN 1 0 (o0).length (Nat.add big 8))
def R_treeSubq1 (a0 : Int) (r : List R8) : AH := match r with
 | o0 => ⟨sB [(0, (some (.marks false))), (1, (some (.cells (layT (rows rw_iiiiiiLu o0)) 33)))], 2, 0⟩
abbrev G_treeSubq1 (a0 : Int) (r : List R8) : Prop := Gv P (.func 18) (A_treeSubq1 a0) (H_treeSubq1 a0) (V_treeSubq1 a0 r) (R_treeSubq1 a0 r)
abbrev C_treeSubq1 (a0 : Int) (r : List R8) (ins outs : BL) : CallA := ⟨0, ins, V_treeSubq1 a0 r, R_treeSubq1 a0 r, outs⟩
def m_treeSubq1 (n : Nat) (a0 : Int) : Option (List R8) :=
 (m_treehasq1 n a0).bind fun c1_ =>
 if c1_ = true then
  (m_plq1 n a0).bind fun _ =>
  (m_pl1q2 n a0 a0).bind fun c4_ =>
  some c4_
 else
  none
theorem m_treeSubq1_ok (n : Nat) (a0 : Int) (r : List R8) (h : m_treeSubq1 n a0 = some r) : Gv P (.func 18) (A_treeSubq1 a0) (H_treeSubq1 a0) (V_treeSubq1 a0 r) (R_treeSubq1 a0 r) := by
 unfold m_treeSubq1 at h
 obtain ⟨c1_, hc1, h⟩ := Option.bind_eq_some_iff.1 h
 by_cases hc2 : c1_ = true
 ·rw [if_pos hc2] at h
  obtain ⟨_, hc3, h⟩ := Option.bind_eq_some_iff.1 h
  obtain ⟨c4_, hc4, h⟩ := Option.bind_eq_some_iff.1 h
  obtain rfl := oI h; exact runF2 hm (L := lT []) ⟨[4], [(0, 5, false), (1, 7, true)], 2, 0, [], false, []⟩ (yy 8 (.call (C_treehasq1 a0 c1_ [] [])) <|
ww (m_treehasq1_ok n a0 c1_ hc1) <|
yy 9 (vf) <|
ww (p := (Value.bool (!c1_)) = (Value.bool false)) (vBn hc2) <|
yy 17 (.call (C_plq1 a0 () [] [(3, 0, false), (4, 1, false)])) <|
ww (m_plq1_ok n a0 () hc3) <|
yy 19 (.rng (C_pl1q2 a0 a0 c4_ [(0, 6, false), (1, 5, false), (2, 0, false), (3, 1, false), (4, 2, false), (5, 3, false), (6, 4, false)] [(6, 0, false), (5, 1, false), (0, 2, false), (1, 3, false), (2, 4, false), (3, 5, false), (4, 6, false), (7, 7, true)]) [2, 3, 5, 13]) <|
ww (m_pl1q2_ok n a0 a0 c4_ hc4) <|
ww (rows_flat rwf_iiiiiiLu c4_ 33) <|
ww (rows_flat rwf_iiiiiiLu c4_ 33) ee) (by kernel_rfl)
 ·rw [if_neg hc2] at h
  cases h


end Go.Proofs.Yteefneejedljmaa.rtk
