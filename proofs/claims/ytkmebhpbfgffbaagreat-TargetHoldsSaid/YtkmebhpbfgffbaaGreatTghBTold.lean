/-
  What functions do, told by pure functions. No condition.
-/
import Derived.Test.YtkmebhpbfgffbaaGreatTghATold
set_option linter.unusedSimpArgs false
set_option linter.unusedVariables false
set_option linter.unusedSectionVars false
set_option linter.unnecessarySimpa false
set_option maxRecDepth 100000
namespace Go.Proofs.YtkmebhpbfgffbaaGreat.tghw
open Go Go.Proofs.YtkmebhpbfgffbaaGreat Ax
variable [Args]
noncomputable def A_treesoundq1 (a0 : Int) (a1 : Int) (a2 : Int) (a3 : Int) (a4 : Int) (a5 : Int) (a6 : NL) (a7 : Int) : List Value := [(Value.agg #[(i6 a0), (i6 a1), (i6 a2), (i6 a3), (i6 a4), (i6 a5), (nlV a6), (Value.int .u64 a7)])]
noncomputable def H_treesoundq1 (a0 : Int) (a1 : Int) (a2 : Int) (a3 : Int) (a4 : Int) (a5 : Int) (a6 : NL) (a7 : Int) : AH := ⟨sB [], 0, 0⟩
noncomputable def V_treesoundq1 (a0 : Int) (a1 : Int) (a2 : Int) (a3 : Int) (a4 : Int) (a5 : Int) (a6 : NL) (a7 : Int) (r : Bool) : Value := match r with
 | o0 => (bO o0)
noncomputable def R_treesoundq1 (a0 : Int) (a1 : Int) (a2 : Int) (a3 : Int) (a4 : Int) (a5 : Int) (a6 : NL) (a7 : Int) (r : Bool) : AH := match r with
 | o0 => ⟨sB [], 0, 0⟩
noncomputable abbrev G_treesoundq1 (a0 : Int) (a1 : Int) (a2 : Int) (a3 : Int) (a4 : Int) (a5 : Int) (a6 : NL) (a7 : Int) (r : Bool) : Prop := Gv P (.func 44) (A_treesoundq1 a0 a1 a2 a3 a4 a5 a6 a7) (H_treesoundq1 a0 a1 a2 a3 a4 a5 a6 a7) (V_treesoundq1 a0 a1 a2 a3 a4 a5 a6 a7 r) (R_treesoundq1 a0 a1 a2 a3 a4 a5 a6 a7 r)
noncomputable abbrev C_treesoundq1 (a0 : Int) (a1 : Int) (a2 : Int) (a3 : Int) (a4 : Int) (a5 : Int) (a6 : NL) (a7 : Int) (r : Bool) (ins outs : BL) : CallA := ⟨0, ins, V_treesoundq1 a0 a1 a2 a3 a4 a5 a6 a7 r, R_treesoundq1 a0 a1 a2 a3 a4 a5 a6 a7 r, outs⟩
def m_treesoundq1 (n : Nat) (a0 : Int) (a1 : Int) (a2 : Int) (a3 : Int) (a4 : Int) (a5 : Int) (a6 : NL) (a7 : Int) : Option (Bool) :=
 if a2 < (0 : Int) then
  some false
 else
  if a2 > a4 then
   some false
  else
   if a5 ≤ a2 then
    some false
   else
    if a1 = (1 : Int) then
     if a3 = a2 then
      some true
     else
      some false
    else
     if a1 = (2 : Int) then
      if a3 = a2 then
       some true
      else
       some false
     else
      if a1 = (4 : Int) then
       if a3 = a2 then
        if a4 = a2 then
         if (((a6).l.length : Nat) : Int) = (0 : Int) then
          some true
         else
          some false
        else
         some false
       else
        some false
      else
       if a1 = (3 : Int) then
        if a3 ≥ a2 then
         if a3 ≤ a4 then
          if (((a6).l.length : Nat) : Int) = (0 : Int) then
           some true
          else
           some false
         else
          some false
        else
         some false
       else
        if a1 = (5 : Int) then
         if a3 ≥ a2 then
          if a3 ≤ a4 then
           if (((a6).l.length : Nat) : Int) = (0 : Int) then
            some true
           else
            some false
          else
           some false
         else
          some false
        else
         if a1 = (6 : Int) then
          if a3 ≥ a2 then
           if a3 ≤ a4 then
            if (((a6).l.length : Nat) : Int) = (0 : Int) then
             some true
            else
             some false
           else
            some false
          else
           some false
         else
          some false
theorem p_treesoundq1_0 (n : Nat) (a0 a1 a2 a3 a4 a5 : Int) (a6 : NL) (a7 : Int) (hc1 : a2 < (0 : Int)) : G_treesoundq1 a0 a1 a2 a3 a4 a5 a6 a7 false :=
 runF2 hm (L := lT []) ⟨[2], [], 0, 0⟩ (zz 7 (xdT hc1) <|
ee) (by kernel_rfl)
theorem p_treesoundq1_1 (n : Nat) (a0 a1 a2 a3 a4 a5 : Int) (a6 : NL) (a7 : Int) (hc1 : ¬ (a2 < (0 : Int))) (hc2 : a2 > a4) : G_treesoundq1 a0 a1 a2 a3 a4 a5 a6 a7 false :=
 runF2 hm (L := lT []) ⟨[2], [], 0, 0⟩ (zz 7 (xdF hc1) <|
zz 13 (xdT hc2) <|
ee) (by kernel_rfl)
theorem p_treesoundq1_2 (n : Nat) (a0 a1 a2 a3 a4 a5 : Int) (a6 : NL) (a7 : Int) (hc1 : ¬ (a2 < (0 : Int))) (hc2 : ¬ (a2 > a4)) (hc3 : a5 ≤ a2) : G_treesoundq1 a0 a1 a2 a3 a4 a5 a6 a7 false :=
 runF2 hm (L := lT []) ⟨[2], [], 0, 0⟩ (zz 7 (xdF hc1) <|
zz 13 (xdF hc2) <|
zz 20 (xdT hc3) <|
ee) (by kernel_rfl)
theorem p_treesoundq1_3 (n : Nat) (a0 a1 a2 a3 a4 a5 : Int) (a6 : NL) (a7 : Int) (hc1 : ¬ (a2 < (0 : Int))) (hc2 : ¬ (a2 > a4)) (hc3 : ¬ (a5 ≤ a2)) (hc4 : a1 = (1 : Int)) (hc5 : a3 = a2) : G_treesoundq1 a0 a1 a2 a3 a4 a5 a6 a7 true :=
 runF2 hm (L := lT []) ⟨[2], [], 0, 0⟩ (zz 7 (xdF hc1) <|
zz 13 (xdF hc2) <|
zz 20 (xdF hc3) <|
zz 30 (xeT hc4) <|
zz 39 (xeT hc5) <|
ee) (by kernel_rfl)
theorem p_treesoundq1_4 (n : Nat) (a0 a1 a2 a3 a4 a5 : Int) (a6 : NL) (a7 : Int) (hc1 : ¬ (a2 < (0 : Int))) (hc2 : ¬ (a2 > a4)) (hc3 : ¬ (a5 ≤ a2)) (hc4 : a1 = (1 : Int)) (hc5 : ¬ (a3 = a2)) : G_treesoundq1 a0 a1 a2 a3 a4 a5 a6 a7 false :=
 runF2 hm (L := lT []) ⟨[2], [], 0, 0⟩ (zz 7 (xdF hc1) <|
zz 13 (xdF hc2) <|
zz 20 (xdF hc3) <|
zz 30 (xeT hc4) <|
zz 39 (xeF hc5) <|
ee) (by kernel_rfl)
theorem p_treesoundq1_5 (n : Nat) (a0 a1 a2 a3 a4 a5 : Int) (a6 : NL) (a7 : Int) (hc1 : ¬ (a2 < (0 : Int))) (hc2 : ¬ (a2 > a4)) (hc3 : ¬ (a5 ≤ a2)) (hc4 : ¬ (a1 = (1 : Int))) (hc5 : a1 = (2 : Int)) (hc6 : a3 = a2) : G_treesoundq1 a0 a1 a2 a3 a4 a5 a6 a7 true :=
 runF2 hm (L := lT []) ⟨[2], [], 0, 0⟩ (zz 7 (xdF hc1) <|
zz 13 (xdF hc2) <|
zz 20 (xdF hc3) <|
zz 30 (xeF hc4) <|
zz 33 (xeT hc5) <|
zz 41 (xeT hc6) <|
ee) (by kernel_rfl)
theorem p_treesoundq1_6 (n : Nat) (a0 a1 a2 a3 a4 a5 : Int) (a6 : NL) (a7 : Int) (hc1 : ¬ (a2 < (0 : Int))) (hc2 : ¬ (a2 > a4)) (hc3 : ¬ (a5 ≤ a2)) (hc4 : ¬ (a1 = (1 : Int))) (hc5 : a1 = (2 : Int)) (hc6 : ¬ (a3 = a2)) : G_treesoundq1 a0 a1 a2 a3 a4 a5 a6 a7 false :=
 runF2 hm (L := lT []) ⟨[2], [], 0, 0⟩ (zz 7 (xdF hc1) <|
zz 13 (xdF hc2) <|
zz 20 (xdF hc3) <|
zz 30 (xeF hc4) <|
zz 33 (xeT hc5) <|
zz 41 (xeF hc6) <|
ee) (by kernel_rfl)
theorem p_treesoundq1_7 (n : Nat) (a0 a1 a2 a3 a4 a5 : Int) (a6 : NL) (a7 : Int) (hc1 : ¬ (a2 < (0 : Int))) (hc2 : ¬ (a2 > a4)) (hc3 : ¬ (a5 ≤ a2)) (hc4 : ¬ (a1 = (1 : Int))) (hc5 : ¬ (a1 = (2 : Int))) (hc6 : a1 = (4 : Int)) (hc7 : a3 = a2) (hc8 : a4 = a2) (hc9 : (((a6).l.length : Nat) : Int) = (0 : Int)) : G_treesoundq1 a0 a1 a2 a3 a4 a5 a6 a7 true :=
 runF2 hm (L := lT []) ⟨[2], [], 0, 0⟩ (zz 7 (xdF hc1) <|
zz 13 (xdF hc2) <|
zz 20 (xdF hc3) <|
zz 30 (xeF hc4) <|
zz 33 (xeF hc5) <|
zz 37 (xeT hc6) <|
zz 45 (xeT hc7) <|
zz 51 (xeT hc8) <|
zz 57 (xeT hc9) <|
ee) (by kernel_rfl)
theorem p_treesoundq1_8 (n : Nat) (a0 a1 a2 a3 a4 a5 : Int) (a6 : NL) (a7 : Int) (hc1 : ¬ (a2 < (0 : Int))) (hc2 : ¬ (a2 > a4)) (hc3 : ¬ (a5 ≤ a2)) (hc4 : ¬ (a1 = (1 : Int))) (hc5 : ¬ (a1 = (2 : Int))) (hc6 : a1 = (4 : Int)) (hc7 : a3 = a2) (hc8 : a4 = a2) (hc9 : ¬ ((((a6).l.length : Nat) : Int) = (0 : Int))) : G_treesoundq1 a0 a1 a2 a3 a4 a5 a6 a7 false :=
 runF2 hm (L := lT []) ⟨[2], [], 0, 0⟩ (zz 7 (xdF hc1) <|
zz 13 (xdF hc2) <|
zz 20 (xdF hc3) <|
zz 30 (xeF hc4) <|
zz 33 (xeF hc5) <|
zz 37 (xeT hc6) <|
zz 45 (xeT hc7) <|
zz 51 (xeT hc8) <|
zz 57 (xeF hc9) <|
ee) (by kernel_rfl)
theorem p_treesoundq1_9 (n : Nat) (a0 a1 a2 a3 a4 a5 : Int) (a6 : NL) (a7 : Int) (hc1 : ¬ (a2 < (0 : Int))) (hc2 : ¬ (a2 > a4)) (hc3 : ¬ (a5 ≤ a2)) (hc4 : ¬ (a1 = (1 : Int))) (hc5 : ¬ (a1 = (2 : Int))) (hc6 : a1 = (4 : Int)) (hc7 : a3 = a2) (hc8 : ¬ (a4 = a2)) : G_treesoundq1 a0 a1 a2 a3 a4 a5 a6 a7 false :=
 runF2 hm (L := lT []) ⟨[2], [], 0, 0⟩ (zz 7 (xdF hc1) <|
zz 13 (xdF hc2) <|
zz 20 (xdF hc3) <|
zz 30 (xeF hc4) <|
zz 33 (xeF hc5) <|
zz 37 (xeT hc6) <|
zz 45 (xeT hc7) <|
zz 51 (xeF hc8) <|
ee) (by kernel_rfl)
theorem p_treesoundq1_10 (n : Nat) (a0 a1 a2 a3 a4 a5 : Int) (a6 : NL) (a7 : Int) (hc1 : ¬ (a2 < (0 : Int))) (hc2 : ¬ (a2 > a4)) (hc3 : ¬ (a5 ≤ a2)) (hc4 : ¬ (a1 = (1 : Int))) (hc5 : ¬ (a1 = (2 : Int))) (hc6 : a1 = (4 : Int)) (hc7 : ¬ (a3 = a2)) : G_treesoundq1 a0 a1 a2 a3 a4 a5 a6 a7 false :=
 runF2 hm (L := lT []) ⟨[2], [], 0, 0⟩ (zz 7 (xdF hc1) <|
zz 13 (xdF hc2) <|
zz 20 (xdF hc3) <|
zz 30 (xeF hc4) <|
zz 33 (xeF hc5) <|
zz 37 (xeT hc6) <|
zz 45 (xeF hc7) <|
ee) (by kernel_rfl)
theorem p_treesoundq1_11 (n : Nat) (a0 a1 a2 a3 a4 a5 : Int) (a6 : NL) (a7 : Int) (hc1 : ¬ (a2 < (0 : Int))) (hc2 : ¬ (a2 > a4)) (hc3 : ¬ (a5 ≤ a2)) (hc4 : ¬ (a1 = (1 : Int))) (hc5 : ¬ (a1 = (2 : Int))) (hc6 : ¬ (a1 = (4 : Int))) (hc7 : a1 = (3 : Int)) (hc8 : a3 ≥ a2) (hc9 : a3 ≤ a4) (hc10 : (((a6).l.length : Nat) : Int) = (0 : Int)) : G_treesoundq1 a0 a1 a2 a3 a4 a5 a6 a7 true :=
 runF2 hm (L := lT []) ⟨[2], [], 0, 0⟩ (zz 7 (xdF hc1) <|
zz 13 (xdF hc2) <|
zz 20 (xdF hc3) <|
zz 30 (xeF hc4) <|
zz 33 (xeF hc5) <|
zz 37 (xeF hc6) <|
zz 42 (xeT hc7) <|
zz 51 (xdT hc8) <|
zz 57 (xdT hc9) <|
zz 63 (xeT hc10) <|
ee) (by kernel_rfl)
theorem p_treesoundq1_12 (n : Nat) (a0 a1 a2 a3 a4 a5 : Int) (a6 : NL) (a7 : Int) (hc1 : ¬ (a2 < (0 : Int))) (hc2 : ¬ (a2 > a4)) (hc3 : ¬ (a5 ≤ a2)) (hc4 : ¬ (a1 = (1 : Int))) (hc5 : ¬ (a1 = (2 : Int))) (hc6 : ¬ (a1 = (4 : Int))) (hc7 : a1 = (3 : Int)) (hc8 : a3 ≥ a2) (hc9 : a3 ≤ a4) (hc10 : ¬ ((((a6).l.length : Nat) : Int) = (0 : Int))) : G_treesoundq1 a0 a1 a2 a3 a4 a5 a6 a7 false :=
 runF2 hm (L := lT []) ⟨[2], [], 0, 0⟩ (zz 7 (xdF hc1) <|
zz 13 (xdF hc2) <|
zz 20 (xdF hc3) <|
zz 30 (xeF hc4) <|
zz 33 (xeF hc5) <|
zz 37 (xeF hc6) <|
zz 42 (xeT hc7) <|
zz 51 (xdT hc8) <|
zz 57 (xdT hc9) <|
zz 63 (xeF hc10) <|
ee) (by kernel_rfl)
theorem p_treesoundq1_13 (n : Nat) (a0 a1 a2 a3 a4 a5 : Int) (a6 : NL) (a7 : Int) (hc1 : ¬ (a2 < (0 : Int))) (hc2 : ¬ (a2 > a4)) (hc3 : ¬ (a5 ≤ a2)) (hc4 : ¬ (a1 = (1 : Int))) (hc5 : ¬ (a1 = (2 : Int))) (hc6 : ¬ (a1 = (4 : Int))) (hc7 : a1 = (3 : Int)) (hc8 : a3 ≥ a2) (hc9 : ¬ (a3 ≤ a4)) : G_treesoundq1 a0 a1 a2 a3 a4 a5 a6 a7 false :=
 runF2 hm (L := lT []) ⟨[2], [], 0, 0⟩ (zz 7 (xdF hc1) <|
zz 13 (xdF hc2) <|
zz 20 (xdF hc3) <|
zz 30 (xeF hc4) <|
zz 33 (xeF hc5) <|
zz 37 (xeF hc6) <|
zz 42 (xeT hc7) <|
zz 51 (xdT hc8) <|
zz 57 (xdF hc9) <|
ee) (by kernel_rfl)
theorem p_treesoundq1_14 (n : Nat) (a0 a1 a2 a3 a4 a5 : Int) (a6 : NL) (a7 : Int) (hc1 : ¬ (a2 < (0 : Int))) (hc2 : ¬ (a2 > a4)) (hc3 : ¬ (a5 ≤ a2)) (hc4 : ¬ (a1 = (1 : Int))) (hc5 : ¬ (a1 = (2 : Int))) (hc6 : ¬ (a1 = (4 : Int))) (hc7 : a1 = (3 : Int)) (hc8 : ¬ (a3 ≥ a2)) : G_treesoundq1 a0 a1 a2 a3 a4 a5 a6 a7 false :=
 runF2 hm (L := lT []) ⟨[2], [], 0, 0⟩ (zz 7 (xdF hc1) <|
zz 13 (xdF hc2) <|
zz 20 (xdF hc3) <|
zz 30 (xeF hc4) <|
zz 33 (xeF hc5) <|
zz 37 (xeF hc6) <|
zz 42 (xeT hc7) <|
zz 51 (xdF hc8) <|
ee) (by kernel_rfl)
theorem p_treesoundq1_15 (n : Nat) (a0 a1 a2 a3 a4 a5 : Int) (a6 : NL) (a7 : Int) (hc1 : ¬ (a2 < (0 : Int))) (hc2 : ¬ (a2 > a4)) (hc3 : ¬ (a5 ≤ a2)) (hc4 : ¬ (a1 = (1 : Int))) (hc5 : ¬ (a1 = (2 : Int))) (hc6 : ¬ (a1 = (4 : Int))) (hc7 : ¬ (a1 = (3 : Int))) (hc8 : a1 = (5 : Int)) (hc9 : a3 ≥ a2) (hc10 : a3 ≤ a4) (hc11 : (((a6).l.length : Nat) : Int) = (0 : Int)) : G_treesoundq1 a0 a1 a2 a3 a4 a5 a6 a7 true :=
 runF2 hm (L := lT []) ⟨[2], [], 0, 0⟩ (zz 7 (xdF hc1) <|
zz 13 (xdF hc2) <|
zz 20 (xdF hc3) <|
zz 30 (xeF hc4) <|
zz 33 (xeF hc5) <|
zz 37 (xeF hc6) <|
zz 42 (xeF hc7) <|
zz 46 (xeT hc8) <|
zz 55 (xdT hc9) <|
zz 61 (xdT hc10) <|
zz 67 (xeT hc11) <|
ee) (by kernel_rfl)
theorem p_treesoundq1_16 (n : Nat) (a0 a1 a2 a3 a4 a5 : Int) (a6 : NL) (a7 : Int) (hc1 : ¬ (a2 < (0 : Int))) (hc2 : ¬ (a2 > a4)) (hc3 : ¬ (a5 ≤ a2)) (hc4 : ¬ (a1 = (1 : Int))) (hc5 : ¬ (a1 = (2 : Int))) (hc6 : ¬ (a1 = (4 : Int))) (hc7 : ¬ (a1 = (3 : Int))) (hc8 : a1 = (5 : Int)) (hc9 : a3 ≥ a2) (hc10 : a3 ≤ a4) (hc11 : ¬ ((((a6).l.length : Nat) : Int) = (0 : Int))) : G_treesoundq1 a0 a1 a2 a3 a4 a5 a6 a7 false :=
 runF2 hm (L := lT []) ⟨[2], [], 0, 0⟩ (zz 7 (xdF hc1) <|
zz 13 (xdF hc2) <|
zz 20 (xdF hc3) <|
zz 30 (xeF hc4) <|
zz 33 (xeF hc5) <|
zz 37 (xeF hc6) <|
zz 42 (xeF hc7) <|
zz 46 (xeT hc8) <|
zz 55 (xdT hc9) <|
zz 61 (xdT hc10) <|
zz 67 (xeF hc11) <|
ee) (by kernel_rfl)
theorem p_treesoundq1_17 (n : Nat) (a0 a1 a2 a3 a4 a5 : Int) (a6 : NL) (a7 : Int) (hc1 : ¬ (a2 < (0 : Int))) (hc2 : ¬ (a2 > a4)) (hc3 : ¬ (a5 ≤ a2)) (hc4 : ¬ (a1 = (1 : Int))) (hc5 : ¬ (a1 = (2 : Int))) (hc6 : ¬ (a1 = (4 : Int))) (hc7 : ¬ (a1 = (3 : Int))) (hc8 : a1 = (5 : Int)) (hc9 : a3 ≥ a2) (hc10 : ¬ (a3 ≤ a4)) : G_treesoundq1 a0 a1 a2 a3 a4 a5 a6 a7 false :=
 runF2 hm (L := lT []) ⟨[2], [], 0, 0⟩ (zz 7 (xdF hc1) <|
zz 13 (xdF hc2) <|
zz 20 (xdF hc3) <|
zz 30 (xeF hc4) <|
zz 33 (xeF hc5) <|
zz 37 (xeF hc6) <|
zz 42 (xeF hc7) <|
zz 46 (xeT hc8) <|
zz 55 (xdT hc9) <|
zz 61 (xdF hc10) <|
ee) (by kernel_rfl)
theorem p_treesoundq1_18 (n : Nat) (a0 a1 a2 a3 a4 a5 : Int) (a6 : NL) (a7 : Int) (hc1 : ¬ (a2 < (0 : Int))) (hc2 : ¬ (a2 > a4)) (hc3 : ¬ (a5 ≤ a2)) (hc4 : ¬ (a1 = (1 : Int))) (hc5 : ¬ (a1 = (2 : Int))) (hc6 : ¬ (a1 = (4 : Int))) (hc7 : ¬ (a1 = (3 : Int))) (hc8 : a1 = (5 : Int)) (hc9 : ¬ (a3 ≥ a2)) : G_treesoundq1 a0 a1 a2 a3 a4 a5 a6 a7 false :=
 runF2 hm (L := lT []) ⟨[2], [], 0, 0⟩ (zz 7 (xdF hc1) <|
zz 13 (xdF hc2) <|
zz 20 (xdF hc3) <|
zz 30 (xeF hc4) <|
zz 33 (xeF hc5) <|
zz 37 (xeF hc6) <|
zz 42 (xeF hc7) <|
zz 46 (xeT hc8) <|
zz 55 (xdF hc9) <|
ee) (by kernel_rfl)
theorem p_treesoundq1_19 (n : Nat) (a0 a1 a2 a3 a4 a5 : Int) (a6 : NL) (a7 : Int) (hc1 : ¬ (a2 < (0 : Int))) (hc2 : ¬ (a2 > a4)) (hc3 : ¬ (a5 ≤ a2)) (hc4 : ¬ (a1 = (1 : Int))) (hc5 : ¬ (a1 = (2 : Int))) (hc6 : ¬ (a1 = (4 : Int))) (hc7 : ¬ (a1 = (3 : Int))) (hc8 : ¬ (a1 = (5 : Int))) (hc9 : a1 = (6 : Int)) (hc10 : a3 ≥ a2) (hc11 : a3 ≤ a4) (hc12 : (((a6).l.length : Nat) : Int) = (0 : Int)) : G_treesoundq1 a0 a1 a2 a3 a4 a5 a6 a7 true :=
 runF2 hm (L := lT []) ⟨[2], [], 0, 0⟩ (zz 7 (xdF hc1) <|
zz 13 (xdF hc2) <|
zz 20 (xdF hc3) <|
zz 30 (xeF hc4) <|
zz 33 (xeF hc5) <|
zz 37 (xeF hc6) <|
zz 42 (xeF hc7) <|
zz 46 (xeF hc8) <|
zz 49 (xeT hc9) <|
zz 57 (xdT hc10) <|
zz 63 (xdT hc11) <|
zz 69 (xeT hc12) <|
ee) (by kernel_rfl)
theorem p_treesoundq1_20 (n : Nat) (a0 a1 a2 a3 a4 a5 : Int) (a6 : NL) (a7 : Int) (hc1 : ¬ (a2 < (0 : Int))) (hc2 : ¬ (a2 > a4)) (hc3 : ¬ (a5 ≤ a2)) (hc4 : ¬ (a1 = (1 : Int))) (hc5 : ¬ (a1 = (2 : Int))) (hc6 : ¬ (a1 = (4 : Int))) (hc7 : ¬ (a1 = (3 : Int))) (hc8 : ¬ (a1 = (5 : Int))) (hc9 : a1 = (6 : Int)) (hc10 : a3 ≥ a2) (hc11 : a3 ≤ a4) (hc12 : ¬ ((((a6).l.length : Nat) : Int) = (0 : Int))) : G_treesoundq1 a0 a1 a2 a3 a4 a5 a6 a7 false :=
 runF2 hm (L := lT []) ⟨[2], [], 0, 0⟩ (zz 7 (xdF hc1) <|
zz 13 (xdF hc2) <|
zz 20 (xdF hc3) <|
zz 30 (xeF hc4) <|
zz 33 (xeF hc5) <|
zz 37 (xeF hc6) <|
zz 42 (xeF hc7) <|
zz 46 (xeF hc8) <|
zz 49 (xeT hc9) <|
zz 57 (xdT hc10) <|
zz 63 (xdT hc11) <|
zz 69 (xeF hc12) <|
ee) (by kernel_rfl)
theorem p_treesoundq1_21 (n : Nat) (a0 a1 a2 a3 a4 a5 : Int) (a6 : NL) (a7 : Int) (hc1 : ¬ (a2 < (0 : Int))) (hc2 : ¬ (a2 > a4)) (hc3 : ¬ (a5 ≤ a2)) (hc4 : ¬ (a1 = (1 : Int))) (hc5 : ¬ (a1 = (2 : Int))) (hc6 : ¬ (a1 = (4 : Int))) (hc7 : ¬ (a1 = (3 : Int))) (hc8 : ¬ (a1 = (5 : Int))) (hc9 : a1 = (6 : Int)) (hc10 : a3 ≥ a2) (hc11 : ¬ (a3 ≤ a4)) : G_treesoundq1 a0 a1 a2 a3 a4 a5 a6 a7 false :=
 runF2 hm (L := lT []) ⟨[2], [], 0, 0⟩ (zz 7 (xdF hc1) <|
zz 13 (xdF hc2) <|
zz 20 (xdF hc3) <|
zz 30 (xeF hc4) <|
zz 33 (xeF hc5) <|
zz 37 (xeF hc6) <|
zz 42 (xeF hc7) <|
zz 46 (xeF hc8) <|
zz 49 (xeT hc9) <|
zz 57 (xdT hc10) <|
zz 63 (xdF hc11) <|
ee) (by kernel_rfl)
theorem p_treesoundq1_22 (n : Nat) (a0 a1 a2 a3 a4 a5 : Int) (a6 : NL) (a7 : Int) (hc1 : ¬ (a2 < (0 : Int))) (hc2 : ¬ (a2 > a4)) (hc3 : ¬ (a5 ≤ a2)) (hc4 : ¬ (a1 = (1 : Int))) (hc5 : ¬ (a1 = (2 : Int))) (hc6 : ¬ (a1 = (4 : Int))) (hc7 : ¬ (a1 = (3 : Int))) (hc8 : ¬ (a1 = (5 : Int))) (hc9 : a1 = (6 : Int)) (hc10 : ¬ (a3 ≥ a2)) : G_treesoundq1 a0 a1 a2 a3 a4 a5 a6 a7 false :=
 runF2 hm (L := lT []) ⟨[2], [], 0, 0⟩ (zz 7 (xdF hc1) <|
zz 13 (xdF hc2) <|
zz 20 (xdF hc3) <|
zz 30 (xeF hc4) <|
zz 33 (xeF hc5) <|
zz 37 (xeF hc6) <|
zz 42 (xeF hc7) <|
zz 46 (xeF hc8) <|
zz 49 (xeT hc9) <|
zz 57 (xdF hc10) <|
ee) (by kernel_rfl)
theorem p_treesoundq1_23 (n : Nat) (a0 a1 a2 a3 a4 a5 : Int) (a6 : NL) (a7 : Int) (hc1 : ¬ (a2 < (0 : Int))) (hc2 : ¬ (a2 > a4)) (hc3 : ¬ (a5 ≤ a2)) (hc4 : ¬ (a1 = (1 : Int))) (hc5 : ¬ (a1 = (2 : Int))) (hc6 : ¬ (a1 = (4 : Int))) (hc7 : ¬ (a1 = (3 : Int))) (hc8 : ¬ (a1 = (5 : Int))) (hc9 : ¬ (a1 = (6 : Int))) : G_treesoundq1 a0 a1 a2 a3 a4 a5 a6 a7 false :=
 runF2 hm (L := lT []) ⟨[2], [], 0, 0⟩ (zz 7 (xdF hc1) <|
zz 13 (xdF hc2) <|
zz 20 (xdF hc3) <|
zz 30 (xeF hc4) <|
zz 33 (xeF hc5) <|
zz 37 (xeF hc6) <|
zz 42 (xeF hc7) <|
zz 46 (xeF hc8) <|
zz 49 (xeF hc9) <|
ee) (by kernel_rfl)
theorem m_treesoundq1_ok (n : Nat) (a0 : Int) (a1 : Int) (a2 : Int) (a3 : Int) (a4 : Int) (a5 : Int) (a6 : NL) (a7 : Int) (r : Bool) (h : m_treesoundq1 n a0 a1 a2 a3 a4 a5 a6 a7 = some r) : Gv P (.func 44) (A_treesoundq1 a0 a1 a2 a3 a4 a5 a6 a7) (H_treesoundq1 a0 a1 a2 a3 a4 a5 a6 a7) (V_treesoundq1 a0 a1 a2 a3 a4 a5 a6 a7 r) (R_treesoundq1 a0 a1 a2 a3 a4 a5 a6 a7 r) := by
 unfold m_treesoundq1 at h
 by_cases hc1 : a2 < (0 : Int)
 ·rw [if_pos hc1] at h
  obtain rfl := Option.some.inj h; exact p_treesoundq1_0 n a0 a1 a2 a3 a4 a5 a6 a7 hc1
 ·rw [if_neg hc1] at h
  by_cases hc2 : a2 > a4
  ·rw [if_pos hc2] at h
   obtain rfl := Option.some.inj h; exact p_treesoundq1_1 n a0 a1 a2 a3 a4 a5 a6 a7 hc1 hc2
  ·rw [if_neg hc2] at h
   by_cases hc3 : a5 ≤ a2
   ·rw [if_pos hc3] at h
    obtain rfl := Option.some.inj h; exact p_treesoundq1_2 n a0 a1 a2 a3 a4 a5 a6 a7 hc1 hc2 hc3
   ·rw [if_neg hc3] at h
    by_cases hc4 : a1 = (1 : Int)
    ·rw [if_pos hc4] at h
     by_cases hc5 : a3 = a2
     ·rw [if_pos hc5] at h
      obtain rfl := Option.some.inj h; exact p_treesoundq1_3 n a0 a1 a2 a3 a4 a5 a6 a7 hc1 hc2 hc3 hc4 hc5
     ·rw [if_neg hc5] at h
      obtain rfl := Option.some.inj h; exact p_treesoundq1_4 n a0 a1 a2 a3 a4 a5 a6 a7 hc1 hc2 hc3 hc4 hc5
    ·rw [if_neg hc4] at h
     by_cases hc5 : a1 = (2 : Int)
     ·rw [if_pos hc5] at h
      by_cases hc6 : a3 = a2
      ·rw [if_pos hc6] at h
       obtain rfl := Option.some.inj h; exact p_treesoundq1_5 n a0 a1 a2 a3 a4 a5 a6 a7 hc1 hc2 hc3 hc4 hc5 hc6
      ·rw [if_neg hc6] at h
       obtain rfl := Option.some.inj h; exact p_treesoundq1_6 n a0 a1 a2 a3 a4 a5 a6 a7 hc1 hc2 hc3 hc4 hc5 hc6
     ·rw [if_neg hc5] at h
      by_cases hc6 : a1 = (4 : Int)
      ·rw [if_pos hc6] at h
       by_cases hc7 : a3 = a2
       ·rw [if_pos hc7] at h
        by_cases hc8 : a4 = a2
        ·rw [if_pos hc8] at h
         by_cases hc9 : (((a6).l.length : Nat) : Int) = (0 : Int)
         ·rw [if_pos hc9] at h
          obtain rfl := Option.some.inj h; exact p_treesoundq1_7 n a0 a1 a2 a3 a4 a5 a6 a7 hc1 hc2 hc3 hc4 hc5 hc6 hc7 hc8 hc9
         ·rw [if_neg hc9] at h
          obtain rfl := Option.some.inj h; exact p_treesoundq1_8 n a0 a1 a2 a3 a4 a5 a6 a7 hc1 hc2 hc3 hc4 hc5 hc6 hc7 hc8 hc9
        ·rw [if_neg hc8] at h
         obtain rfl := Option.some.inj h; exact p_treesoundq1_9 n a0 a1 a2 a3 a4 a5 a6 a7 hc1 hc2 hc3 hc4 hc5 hc6 hc7 hc8
       ·rw [if_neg hc7] at h
        obtain rfl := Option.some.inj h; exact p_treesoundq1_10 n a0 a1 a2 a3 a4 a5 a6 a7 hc1 hc2 hc3 hc4 hc5 hc6 hc7
      ·rw [if_neg hc6] at h
       by_cases hc7 : a1 = (3 : Int)
       ·rw [if_pos hc7] at h
        by_cases hc8 : a3 ≥ a2
        ·rw [if_pos hc8] at h
         by_cases hc9 : a3 ≤ a4
         ·rw [if_pos hc9] at h
          by_cases hc10 : (((a6).l.length : Nat) : Int) = (0 : Int)
          ·rw [if_pos hc10] at h
           obtain rfl := Option.some.inj h; exact p_treesoundq1_11 n a0 a1 a2 a3 a4 a5 a6 a7 hc1 hc2 hc3 hc4 hc5 hc6 hc7 hc8 hc9 hc10
          ·rw [if_neg hc10] at h
           obtain rfl := Option.some.inj h; exact p_treesoundq1_12 n a0 a1 a2 a3 a4 a5 a6 a7 hc1 hc2 hc3 hc4 hc5 hc6 hc7 hc8 hc9 hc10
         ·rw [if_neg hc9] at h
          obtain rfl := Option.some.inj h; exact p_treesoundq1_13 n a0 a1 a2 a3 a4 a5 a6 a7 hc1 hc2 hc3 hc4 hc5 hc6 hc7 hc8 hc9
        ·rw [if_neg hc8] at h
         obtain rfl := Option.some.inj h; exact p_treesoundq1_14 n a0 a1 a2 a3 a4 a5 a6 a7 hc1 hc2 hc3 hc4 hc5 hc6 hc7 hc8
       ·rw [if_neg hc7] at h
        by_cases hc8 : a1 = (5 : Int)
        ·rw [if_pos hc8] at h
         by_cases hc9 : a3 ≥ a2
         ·rw [if_pos hc9] at h
          by_cases hc10 : a3 ≤ a4
          ·rw [if_pos hc10] at h
           by_cases hc11 : (((a6).l.length : Nat) : Int) = (0 : Int)
           ·rw [if_pos hc11] at h
            obtain rfl := Option.some.inj h; exact p_treesoundq1_15 n a0 a1 a2 a3 a4 a5 a6 a7 hc1 hc2 hc3 hc4 hc5 hc6 hc7 hc8 hc9 hc10 hc11
           ·rw [if_neg hc11] at h
            obtain rfl := Option.some.inj h; exact p_treesoundq1_16 n a0 a1 a2 a3 a4 a5 a6 a7 hc1 hc2 hc3 hc4 hc5 hc6 hc7 hc8 hc9 hc10 hc11
          ·rw [if_neg hc10] at h
           obtain rfl := Option.some.inj h; exact p_treesoundq1_17 n a0 a1 a2 a3 a4 a5 a6 a7 hc1 hc2 hc3 hc4 hc5 hc6 hc7 hc8 hc9 hc10
         ·rw [if_neg hc9] at h
          obtain rfl := Option.some.inj h; exact p_treesoundq1_18 n a0 a1 a2 a3 a4 a5 a6 a7 hc1 hc2 hc3 hc4 hc5 hc6 hc7 hc8 hc9
        ·rw [if_neg hc8] at h
         by_cases hc9 : a1 = (6 : Int)
         ·rw [if_pos hc9] at h
          by_cases hc10 : a3 ≥ a2
          ·rw [if_pos hc10] at h
           by_cases hc11 : a3 ≤ a4
           ·rw [if_pos hc11] at h
            by_cases hc12 : (((a6).l.length : Nat) : Int) = (0 : Int)
            ·rw [if_pos hc12] at h
             obtain rfl := Option.some.inj h; exact p_treesoundq1_19 n a0 a1 a2 a3 a4 a5 a6 a7 hc1 hc2 hc3 hc4 hc5 hc6 hc7 hc8 hc9 hc10 hc11 hc12
            ·rw [if_neg hc12] at h
             obtain rfl := Option.some.inj h; exact p_treesoundq1_20 n a0 a1 a2 a3 a4 a5 a6 a7 hc1 hc2 hc3 hc4 hc5 hc6 hc7 hc8 hc9 hc10 hc11 hc12
           ·rw [if_neg hc11] at h
            obtain rfl := Option.some.inj h; exact p_treesoundq1_21 n a0 a1 a2 a3 a4 a5 a6 a7 hc1 hc2 hc3 hc4 hc5 hc6 hc7 hc8 hc9 hc10 hc11
          ·rw [if_neg hc10] at h
           obtain rfl := Option.some.inj h; exact p_treesoundq1_22 n a0 a1 a2 a3 a4 a5 a6 a7 hc1 hc2 hc3 hc4 hc5 hc6 hc7 hc8 hc9 hc10
         ·rw [if_neg hc9] at h
          obtain rfl := Option.some.inj h; exact p_treesoundq1_23 n a0 a1 a2 a3 a4 a5 a6 a7 hc1 hc2 hc3 hc4 hc5 hc6 hc7 hc8 hc9

noncomputable def A_treeCheckq1 : List Value := [(sW 0 0 (Args.A).length Args.cA)]
noncomputable def H_treeCheckq1 : AH := ⟨sB [], 0, 0⟩
noncomputable def V_treeCheckq1 (r : Int) : Value := match r with
 | o0 => (i6 o0)
noncomputable def R_treeCheckq1 (r : Int) : AH := match r with
 | o0 => ⟨sB [], 0, 0⟩
noncomputable abbrev G_treeCheckq1 (r : Int) : Prop := Gv P (.func 30) A_treeCheckq1 H_treeCheckq1 (V_treeCheckq1  r) (R_treeCheckq1  r)
noncomputable abbrev C_treeCheckq1 (r : Int) (ins outs : BL) : CallA := ⟨0, ins, V_treeCheckq1  r, R_treeCheckq1  r, outs⟩
noncomputable def S_treeCheckq1_1 (x1_0 : Int) (st : Int) : XSt := match st with
 | x1_1 => (sT 36 [(16, (sW 0 0 (Args.A).length Args.cA)), (17, (i6 x1_0)), (18, (i6 x1_1))], [], ⟨sB [], 0, 0⟩)
noncomputable def X_treeCheckq1_1 (x1_0 : Int) (r : (Unit) ⊕ (Unit)) : Ex × XSt := match r with
 | .inl _ => (.ret, (sT 36 [(2, (i6 (2 : Int)))], [], ⟨sB [], 0, 0⟩))
 | .inr _ => (.exit 0, (sT 36 [], [], ⟨sB [], 0, 0⟩))
noncomputable abbrev Q_treeCheckq1_1 (rnd : Option Nat) (x1_0 : Int) (st : Int) (c : Ex × XSt) : Prop := CG P rnd (fnN P 30) 0 (codeOf P 30 [false, false, true, false, true, true, true]) (S_treeCheckq1_1 x1_0 st) c
noncomputable abbrev U_treeCheckq1_1 (rd : Option Nat) (x1_0 : Int) (st : Int) (r : (Unit) ⊕ (Unit)) : Prop := CG P rd (fnN P 30) 0 (codeOf P 30 [false, true, false, true, true, true]) (S_treeCheckq1_1 x1_0 st) (X_treeCheckq1_1 x1_0 r)
def B_treeCheckq1_1 (n : Nat) (x1_0 : Int) (st : Int) : Option ((Int) ⊕ ((Unit) ⊕ (Unit))) := match st with
 | x1_1 =>
  if x1_1 < x1_0 then
   if 0 ≤ x1_1 ∧ x1_1 < (((Args.A).length : Nat) : Int) then
    ((some ((Args.A).getD (x1_1).toNat (0, 0, 0, 0, 0, 0, nl0, 0)))).bind fun y1_3_ =>
    (m_treesoundq1 n (y1_3_.1) (y1_3_.2.1) (y1_3_.2.2.1) (y1_3_.2.2.2.1) (y1_3_.2.2.2.2.1) (y1_3_.2.2.2.2.2.1) (y1_3_.2.2.2.2.2.2.1) (y1_3_.2.2.2.2.2.2.2)).bind fun y1_4_ =>
    if y1_4_ = true then
     if (y1_3_.2.1) = (1 : Int) then
      if x1_1 > (0 : Int) then
       some (.inr (.inl ()))
      else
       some (.inl (w64 (x1_1 + (1 : Int))))
     else
      some (.inl (w64 (x1_1 + (1 : Int))))
    else
     some (.inr (.inl ()))
   else none
  else
   some (.inr (.inr ()))
def m_treeCheckq1_1 (n : Nat) (x1_0 : Int) (st : Int) : Option ((Unit) ⊕ (Unit)) := iterM (B_treeCheckq1_1 n x1_0) n st
theorem q_treeCheckq1_1_0 (n : Nat) {rnd : Option Nat} (x1_0 x1_1 : Int) (hy1_1 : x1_1 < x1_0) (hy1_2 : 0 ≤ x1_1 ∧ x1_1 < (((Args.A).length : Nat) : Int)) (y1_3_ : Int × Int × Int × Int × Int × Int × NL × Int) (hy1_3 : (some ((Args.A).getD (x1_1).toNat (0, 0, 0, 0, 0, 0, nl0, 0))) = some y1_3_) (y1_4_ : Bool) (hy1_4 : m_treesoundq1 n (y1_3_.1) (y1_3_.2.1) (y1_3_.2.2.1) (y1_3_.2.2.2.1) (y1_3_.2.2.2.2.1) (y1_3_.2.2.2.2.2.1) (y1_3_.2.2.2.2.2.2.1) (y1_3_.2.2.2.2.2.2.2) = some y1_4_) (hy1_5 : y1_4_ = true) (hy1_6 : (y1_3_.2.1) = (1 : Int)) (hy1_7 : x1_1 > (0 : Int)) : Q_treeCheckq1_1 rnd x1_0 x1_1 (X_treeCheckq1_1 x1_0 (.inl ())) :=
 runC2 hm (L := lT []) ⟨[2], [], 0, 0⟩ (zz 1 (xdT hy1_1) <|
zz 8 (xk1 0 Args.cA hy1_2) <|
zz 9 (lk2 hy1_3 (toNatLt hy1_2)) <|
yy 15 (.call (C_treesoundq1 (y1_3_.1) (y1_3_.2.1) (y1_3_.2.2.1) (y1_3_.2.2.2.1) (y1_3_.2.2.2.2.1) (y1_3_.2.2.2.2.2.1) (y1_3_.2.2.2.2.2.2.1) (y1_3_.2.2.2.2.2.2.2) y1_4_ [] [])) <|
ww (m_treesoundq1_ok n (y1_3_.1) (y1_3_.2.1) (y1_3_.2.2.1) (y1_3_.2.2.2.1) (y1_3_.2.2.2.2.1) (y1_3_.2.2.2.2.2.1) (y1_3_.2.2.2.2.2.2.1) (y1_3_.2.2.2.2.2.2.2) y1_4_ hy1_4) <|
yy 16 (vf) <|
ww (p := (Value.bool (!y1_4_)) = (Value.bool false)) (vBn hy1_5) <|
zz 20 (xeT hy1_6) <|
zz 23 (xdT hy1_7) <|
ee) (by kernel_rfl)
theorem q_treeCheckq1_1_1 (n : Nat) {rnd : Option Nat} (x1_0 x1_1 : Int) (hy1_1 : x1_1 < x1_0) (hy1_2 : 0 ≤ x1_1 ∧ x1_1 < (((Args.A).length : Nat) : Int)) (y1_3_ : Int × Int × Int × Int × Int × Int × NL × Int) (hy1_3 : (some ((Args.A).getD (x1_1).toNat (0, 0, 0, 0, 0, 0, nl0, 0))) = some y1_3_) (y1_4_ : Bool) (hy1_4 : m_treesoundq1 n (y1_3_.1) (y1_3_.2.1) (y1_3_.2.2.1) (y1_3_.2.2.2.1) (y1_3_.2.2.2.2.1) (y1_3_.2.2.2.2.2.1) (y1_3_.2.2.2.2.2.2.1) (y1_3_.2.2.2.2.2.2.2) = some y1_4_) (hy1_5 : y1_4_ = true) (hy1_6 : (y1_3_.2.1) = (1 : Int)) (hy1_7 : ¬ (x1_1 > (0 : Int))) : Q_treeCheckq1_1 rnd x1_0 x1_1 (.normal, S_treeCheckq1_1 x1_0 (w64 (x1_1 + (1 : Int)))) :=
 runC2 hm (L := lT []) ⟨[16, 17, 18], [], 0, 0⟩ (zz 1 (xdT hy1_1) <|
zz 8 (xk1 0 Args.cA hy1_2) <|
zz 9 (lk2 hy1_3 (toNatLt hy1_2)) <|
yy 15 (.call (C_treesoundq1 (y1_3_.1) (y1_3_.2.1) (y1_3_.2.2.1) (y1_3_.2.2.2.1) (y1_3_.2.2.2.2.1) (y1_3_.2.2.2.2.2.1) (y1_3_.2.2.2.2.2.2.1) (y1_3_.2.2.2.2.2.2.2) y1_4_ [] [])) <|
ww (m_treesoundq1_ok n (y1_3_.1) (y1_3_.2.1) (y1_3_.2.2.1) (y1_3_.2.2.2.1) (y1_3_.2.2.2.2.1) (y1_3_.2.2.2.2.2.1) (y1_3_.2.2.2.2.2.2.1) (y1_3_.2.2.2.2.2.2.2) y1_4_ hy1_4) <|
yy 16 (vf) <|
ww (p := (Value.bool (!y1_4_)) = (Value.bool false)) (vBn hy1_5) <|
zz 20 (xeT hy1_6) <|
zz 23 (xdF hy1_7) <|
ee) (by kernel_rfl)
theorem q_treeCheckq1_1_2 (n : Nat) {rnd : Option Nat} (x1_0 x1_1 : Int) (hy1_1 : x1_1 < x1_0) (hy1_2 : 0 ≤ x1_1 ∧ x1_1 < (((Args.A).length : Nat) : Int)) (y1_3_ : Int × Int × Int × Int × Int × Int × NL × Int) (hy1_3 : (some ((Args.A).getD (x1_1).toNat (0, 0, 0, 0, 0, 0, nl0, 0))) = some y1_3_) (y1_4_ : Bool) (hy1_4 : m_treesoundq1 n (y1_3_.1) (y1_3_.2.1) (y1_3_.2.2.1) (y1_3_.2.2.2.1) (y1_3_.2.2.2.2.1) (y1_3_.2.2.2.2.2.1) (y1_3_.2.2.2.2.2.2.1) (y1_3_.2.2.2.2.2.2.2) = some y1_4_) (hy1_5 : y1_4_ = true) (hy1_6 : ¬ ((y1_3_.2.1) = (1 : Int))) : Q_treeCheckq1_1 rnd x1_0 x1_1 (.normal, S_treeCheckq1_1 x1_0 (w64 (x1_1 + (1 : Int)))) :=
 runC2 hm (L := lT []) ⟨[16, 17, 18], [], 0, 0⟩ (zz 1 (xdT hy1_1) <|
zz 8 (xk1 0 Args.cA hy1_2) <|
zz 9 (lk2 hy1_3 (toNatLt hy1_2)) <|
yy 15 (.call (C_treesoundq1 (y1_3_.1) (y1_3_.2.1) (y1_3_.2.2.1) (y1_3_.2.2.2.1) (y1_3_.2.2.2.2.1) (y1_3_.2.2.2.2.2.1) (y1_3_.2.2.2.2.2.2.1) (y1_3_.2.2.2.2.2.2.2) y1_4_ [] [])) <|
ww (m_treesoundq1_ok n (y1_3_.1) (y1_3_.2.1) (y1_3_.2.2.1) (y1_3_.2.2.2.1) (y1_3_.2.2.2.2.1) (y1_3_.2.2.2.2.2.1) (y1_3_.2.2.2.2.2.2.1) (y1_3_.2.2.2.2.2.2.2) y1_4_ hy1_4) <|
yy 16 (vf) <|
ww (p := (Value.bool (!y1_4_)) = (Value.bool false)) (vBn hy1_5) <|
zz 20 (xeF hy1_6) <|
ee) (by kernel_rfl)
theorem q_treeCheckq1_1_3 (n : Nat) {rnd : Option Nat} (x1_0 x1_1 : Int) (hy1_1 : x1_1 < x1_0) (hy1_2 : 0 ≤ x1_1 ∧ x1_1 < (((Args.A).length : Nat) : Int)) (y1_3_ : Int × Int × Int × Int × Int × Int × NL × Int) (hy1_3 : (some ((Args.A).getD (x1_1).toNat (0, 0, 0, 0, 0, 0, nl0, 0))) = some y1_3_) (y1_4_ : Bool) (hy1_4 : m_treesoundq1 n (y1_3_.1) (y1_3_.2.1) (y1_3_.2.2.1) (y1_3_.2.2.2.1) (y1_3_.2.2.2.2.1) (y1_3_.2.2.2.2.2.1) (y1_3_.2.2.2.2.2.2.1) (y1_3_.2.2.2.2.2.2.2) = some y1_4_) (hy1_5 : ¬ (y1_4_ = true)) : Q_treeCheckq1_1 rnd x1_0 x1_1 (X_treeCheckq1_1 x1_0 (.inl ())) :=
 runC2 hm (L := lT []) ⟨[2], [], 0, 0⟩ (zz 1 (xdT hy1_1) <|
zz 8 (xk1 0 Args.cA hy1_2) <|
zz 9 (lk2 hy1_3 (toNatLt hy1_2)) <|
yy 15 (.call (C_treesoundq1 (y1_3_.1) (y1_3_.2.1) (y1_3_.2.2.1) (y1_3_.2.2.2.1) (y1_3_.2.2.2.2.1) (y1_3_.2.2.2.2.2.1) (y1_3_.2.2.2.2.2.2.1) (y1_3_.2.2.2.2.2.2.2) y1_4_ [] [])) <|
ww (m_treesoundq1_ok n (y1_3_.1) (y1_3_.2.1) (y1_3_.2.2.1) (y1_3_.2.2.2.1) (y1_3_.2.2.2.2.1) (y1_3_.2.2.2.2.2.1) (y1_3_.2.2.2.2.2.2.1) (y1_3_.2.2.2.2.2.2.2) y1_4_ hy1_4) <|
yy 16 (vt) <|
ww (p := (Value.bool (!y1_4_)) = (Value.bool true)) (vBn (Bool.eq_false_iff.2 hy1_5)) <|
ee) (by kernel_rfl)
theorem q_treeCheckq1_1_4 (n : Nat) {rnd : Option Nat} (x1_0 x1_1 : Int) (hy1_1 : ¬ (x1_1 < x1_0)) : Q_treeCheckq1_1 rnd x1_0 x1_1 (X_treeCheckq1_1 x1_0 (.inr ())) :=
 runC2 hm (L := lT []) ⟨[], [], 0, 0⟩ (zz 1 (xdF hy1_1) <|
ee) (by kernel_rfl)
theorem m_treeCheckq1_1_ok (n : Nat) {rnd : Option Nat} (x1_0 : Int) (st : Int) (r : (Unit) ⊕ (Unit)) (h : m_treeCheckq1_1 n x1_0 st = some r) : CG P rnd (fnN P 30) 0 (codeOf P 30 [false, true, false, true, true, true]) (S_treeCheckq1_1 x1_0 st) (X_treeCheckq1_1 x1_0 r) :=
 CG.iter (b := codeOf P 30 [false, false, true, false, true, true, true]) (by kernel_rfl) (body := B_treeCheckq1_1 n x1_0) (S := S_treeCheckq1_1 x1_0) (X := X_treeCheckq1_1 x1_0)
  (fun x1_1 s' h => by
  unfold B_treeCheckq1_1 at h
  dsimp only at h
  by_cases hy1_1 : x1_1 < x1_0
  ·rw [if_pos hy1_1] at h
   by_cases hy1_2 : 0 ≤ x1_1 ∧ x1_1 < (((Args.A).length : Nat) : Int)
   ·rw [if_pos hy1_2] at h
    obtain ⟨y1_3_, hy1_3, h⟩ := Option.bind_eq_some_iff.1 h
    obtain ⟨y1_4_, hy1_4, h⟩ := Option.bind_eq_some_iff.1 h
    by_cases hy1_5 : y1_4_ = true
    ·rw [if_pos hy1_5] at h
     by_cases hy1_6 : (y1_3_.2.1) = (1 : Int)
     ·rw [if_pos hy1_6] at h
      by_cases hy1_7 : x1_1 > (0 : Int)
      ·rw [if_pos hy1_7] at h
       cases h
      ·rw [if_neg hy1_7] at h
       obtain rfl := Sum.inl.inj (Option.some.inj h); exact q_treeCheckq1_1_1 n x1_0 x1_1 hy1_1 hy1_2 y1_3_ hy1_3 y1_4_ hy1_4 hy1_5 hy1_6 hy1_7
     ·rw [if_neg hy1_6] at h
      obtain rfl := Sum.inl.inj (Option.some.inj h); exact q_treeCheckq1_1_2 n x1_0 x1_1 hy1_1 hy1_2 y1_3_ hy1_3 y1_4_ hy1_4 hy1_5 hy1_6
    ·rw [if_neg hy1_5] at h
     cases h
   ·rw [if_neg hy1_2] at h; cases h
  ·rw [if_neg hy1_1] at h
   cases h)
  (fun x1_1 r h => by
  unfold B_treeCheckq1_1 at h
  dsimp only at h
  by_cases hy1_1 : x1_1 < x1_0
  ·rw [if_pos hy1_1] at h
   by_cases hy1_2 : 0 ≤ x1_1 ∧ x1_1 < (((Args.A).length : Nat) : Int)
   ·rw [if_pos hy1_2] at h
    obtain ⟨y1_3_, hy1_3, h⟩ := Option.bind_eq_some_iff.1 h
    obtain ⟨y1_4_, hy1_4, h⟩ := Option.bind_eq_some_iff.1 h
    by_cases hy1_5 : y1_4_ = true
    ·rw [if_pos hy1_5] at h
     by_cases hy1_6 : (y1_3_.2.1) = (1 : Int)
     ·rw [if_pos hy1_6] at h
      by_cases hy1_7 : x1_1 > (0 : Int)
      ·rw [if_pos hy1_7] at h
       obtain rfl := Sum.inr.inj (Option.some.inj h); exact q_treeCheckq1_1_0 n x1_0 x1_1 hy1_1 hy1_2 y1_3_ hy1_3 y1_4_ hy1_4 hy1_5 hy1_6 hy1_7
      ·rw [if_neg hy1_7] at h
       cases h
     ·rw [if_neg hy1_6] at h
      cases h
    ·rw [if_neg hy1_5] at h
     obtain rfl := Sum.inr.inj (Option.some.inj h); exact q_treeCheckq1_1_3 n x1_0 x1_1 hy1_1 hy1_2 y1_3_ hy1_3 y1_4_ hy1_4 hy1_5
   ·rw [if_neg hy1_2] at h; cases h
  ·rw [if_neg hy1_1] at h
   obtain rfl := Sum.inr.inj (Option.some.inj h); exact q_treeCheckq1_1_4 n x1_0 x1_1 hy1_1)
  (fun r => by intro hx; rcases r with _ | _ <;> cases hx) h
def m_treeCheckq1 (n : Nat) : Option (Int) :=
 if (((Args.A).length : Nat) : Int) > (524288 : Int) then
  some 3
 else
  if (((Args.A).length : Nat) : Int) = (0 : Int) then
   some 2
  else
   (m_treeinOrderq1 n).bind fun c3_ =>
   if c3_ = true then
    match m_treeCheckq1_1 n (((Args.A).length : Nat) : Int) 0 with
    | none => none
    | some (.inl _) =>
     some 2
    | some (.inr _) =>
     some 0
   else
    some 2
theorem p_treeCheckq1_0 (n : Nat) (hc1 : (((Args.A).length : Nat) : Int) > (524288 : Int)) : G_treeCheckq1  3 :=
 runF2 hm (L := lT []) ⟨[2], [], 0, 0⟩ (zz 6 (xdT hc1) <|
ee) (by kernel_rfl)
theorem p_treeCheckq1_1 (n : Nat) (hc1 : ¬ ((((Args.A).length : Nat) : Int) > (524288 : Int))) (hc2 : (((Args.A).length : Nat) : Int) = (0 : Int)) : G_treeCheckq1  2 :=
 runF2 hm (L := lT []) ⟨[2], [], 0, 0⟩ (zz 6 (xdF hc1) <|
zz 12 (xeT hc2) <|
ee) (by kernel_rfl)
theorem p_treeCheckq1_2 (n : Nat) (hc1 : ¬ ((((Args.A).length : Nat) : Int) > (524288 : Int))) (hc2 : ¬ ((((Args.A).length : Nat) : Int) = (0 : Int))) (c3_ : Bool) (hc3 : m_treeinOrderq1 n = some c3_) (hc4 : c3_ = true) (hc5 : m_treeCheckq1_1 n (((Args.A).length : Nat) : Int) 0 = some (.inl ())) : G_treeCheckq1  2 :=
 runF2 hm (L := lT [(25, ⟨⟨[16, 17, 18], [], 0, 0⟩, (X_treeCheckq1_1 (((Args.A).length : Nat) : Int) (.inl ())).1, (X_treeCheckq1_1 (((Args.A).length : Nat) : Int) (.inl ())).2⟩)]) ⟨[2], [], 0, 0⟩ (zz 6 (xdF hc1) <|
zz 12 (xeF hc2) <|
yy 15 (.call (C_treeinOrderq1  c3_ [] [])) <|
ww (m_treeinOrderq1_ok n  c3_ hc3) <|
yy 16 (vf) <|
ww (p := (Value.bool (!c3_)) = (Value.bool false)) (vBn hc4) <|
ww (p := U_treeCheckq1_1 none (((Args.A).length : Nat) : Int) 0 (.inl ())) (m_treeCheckq1_1_ok n (((Args.A).length : Nat) : Int) 0 (.inl ()) hc5) <|
ee) (by kernel_rfl)
theorem p_treeCheckq1_3 (n : Nat) (hc1 : ¬ ((((Args.A).length : Nat) : Int) > (524288 : Int))) (hc2 : ¬ ((((Args.A).length : Nat) : Int) = (0 : Int))) (c3_ : Bool) (hc3 : m_treeinOrderq1 n = some c3_) (hc4 : c3_ = true) (hc5 : m_treeCheckq1_1 n (((Args.A).length : Nat) : Int) 0 = some (.inr ())) : G_treeCheckq1  0 :=
 runF2 hm (L := lT [(25, ⟨⟨[16, 17, 18], [], 0, 0⟩, (X_treeCheckq1_1 (((Args.A).length : Nat) : Int) (.inr ())).1, (X_treeCheckq1_1 (((Args.A).length : Nat) : Int) (.inr ())).2⟩)]) ⟨[2], [], 0, 0⟩ (zz 6 (xdF hc1) <|
zz 12 (xeF hc2) <|
yy 15 (.call (C_treeinOrderq1  c3_ [] [])) <|
ww (m_treeinOrderq1_ok n  c3_ hc3) <|
yy 16 (vf) <|
ww (p := (Value.bool (!c3_)) = (Value.bool false)) (vBn hc4) <|
ww (p := U_treeCheckq1_1 none (((Args.A).length : Nat) : Int) 0 (.inr ())) (m_treeCheckq1_1_ok n (((Args.A).length : Nat) : Int) 0 (.inr ()) hc5) <|
ee) (by kernel_rfl)
theorem p_treeCheckq1_4 (n : Nat) (hc1 : ¬ ((((Args.A).length : Nat) : Int) > (524288 : Int))) (hc2 : ¬ ((((Args.A).length : Nat) : Int) = (0 : Int))) (c3_ : Bool) (hc3 : m_treeinOrderq1 n = some c3_) (hc4 : ¬ (c3_ = true)) : G_treeCheckq1  2 :=
 runF2 hm (L := lT []) ⟨[2], [], 0, 0⟩ (zz 6 (xdF hc1) <|
zz 12 (xeF hc2) <|
yy 15 (.call (C_treeinOrderq1  c3_ [] [])) <|
ww (m_treeinOrderq1_ok n  c3_ hc3) <|
yy 16 (vt) <|
ww (p := (Value.bool (!c3_)) = (Value.bool true)) (vBn (Bool.eq_false_iff.2 hc4)) <|
ee) (by kernel_rfl)
theorem m_treeCheckq1_ok (n : Nat) (r : Int) (h : m_treeCheckq1 n = some r) : Gv P (.func 30) A_treeCheckq1 H_treeCheckq1 (V_treeCheckq1  r) (R_treeCheckq1  r) := by
 unfold m_treeCheckq1 at h
 by_cases hc1 : (((Args.A).length : Nat) : Int) > (524288 : Int)
 ·rw [if_pos hc1] at h
  obtain rfl := Option.some.inj h; exact p_treeCheckq1_0 n hc1
 ·rw [if_neg hc1] at h
  by_cases hc2 : (((Args.A).length : Nat) : Int) = (0 : Int)
  ·rw [if_pos hc2] at h
   obtain rfl := Option.some.inj h; exact p_treeCheckq1_1 n hc1 hc2
  ·rw [if_neg hc2] at h
   obtain ⟨c3_, hc3, h⟩ := Option.bind_eq_some_iff.1 h
   by_cases hc4 : c3_ = true
   ·rw [if_pos hc4] at h
    rcases hc5 : m_treeCheckq1_1 n (((Args.A).length : Nat) : Int) 0 with _ | (⟨⟩ | ⟨⟩)
    ·rw [hc5] at h; cases h
    ·rw [hc5] at h
     dsimp only at h
     obtain rfl := Option.some.inj h; exact p_treeCheckq1_2 n hc1 hc2 c3_ hc3 hc4 hc5
    ·rw [hc5] at h
     dsimp only at h
     obtain rfl := Option.some.inj h; exact p_treeCheckq1_3 n hc1 hc2 c3_ hc3 hc4 hc5
   ·rw [if_neg hc4] at h
    obtain rfl := Option.some.inj h; exact p_treeCheckq1_4 n hc1 hc2 c3_ hc3 hc4

noncomputable def A_targetrootedq1 : List Value := [(sW 0 0 (Args.A).length Args.cA)]
noncomputable def H_targetrootedq1 : AH := ⟨sB [], 0, 0⟩
noncomputable def V_targetrootedq1 (r : Bool) : Value := match r with
 | o0 => (bO o0)
noncomputable def R_targetrootedq1 (r : Bool) : AH := match r with
 | o0 => ⟨sB [], 0, 0⟩
noncomputable abbrev G_targetrootedq1 (r : Bool) : Prop := Gv P (.func 18) A_targetrootedq1 H_targetrootedq1 (V_targetrootedq1  r) (R_targetrootedq1  r)
noncomputable abbrev C_targetrootedq1 (r : Bool) (ins outs : BL) : CallA := ⟨0, ins, V_targetrootedq1  r, R_targetrootedq1  r, outs⟩
def m_targetrootedq1 (n : Nat) : Option (Bool) :=
 (m_treeCheckq1 n).bind fun c1_ =>
 if c1_ = (0 : Int) then
  if 0 ≤ (0 : Int) ∧ (0 : Int) < (((Args.A).length : Nat) : Int) then
   ((some ((Args.A).getD ((0 : Int)).toNat (0, 0, 0, 0, 0, 0, nl0, 0)))).bind fun c4_ =>
   if (c4_.2.1) = (1 : Int) then
    some true
   else
    some false
  else none
 else
  some false
theorem p_targetrootedq1_0 (n : Nat) (c1_ : Int) (hc1 : m_treeCheckq1 n = some c1_) (hc2 : c1_ = (0 : Int)) (hc3 : 0 ≤ (0 : Int) ∧ (0 : Int) < (((Args.A).length : Nat) : Int)) (c4_ : Int × Int × Int × Int × Int × Int × NL × Int) (hc4 : (some ((Args.A).getD ((0 : Int)).toNat (0, 0, 0, 0, 0, 0, nl0, 0))) = some c4_) (hc5 : (c4_.2.1) = (1 : Int)) : G_targetrootedq1  true :=
 runF2 hm (L := lT []) ⟨[2], [], 0, 0⟩ (yy 4 (.call (C_treeCheckq1  c1_ [] [])) <|
ww (m_treeCheckq1_ok n  c1_ hc1) <|
zz 5 (xeT hc2) <|
zz 8 (xk1 0 Args.cA hc3) <|
zz 9 (fk3 (((0 : Int)).toNat * 8)) <|
zz 10 (lk4 hc4 (toNatLt hc3)) <|
zz 11 (xeT hc5) <|
ee) (by kernel_rfl)
theorem p_targetrootedq1_1 (n : Nat) (c1_ : Int) (hc1 : m_treeCheckq1 n = some c1_) (hc2 : c1_ = (0 : Int)) (hc3 : 0 ≤ (0 : Int) ∧ (0 : Int) < (((Args.A).length : Nat) : Int)) (c4_ : Int × Int × Int × Int × Int × Int × NL × Int) (hc4 : (some ((Args.A).getD ((0 : Int)).toNat (0, 0, 0, 0, 0, 0, nl0, 0))) = some c4_) (hc5 : ¬ ((c4_.2.1) = (1 : Int))) : G_targetrootedq1  false :=
 runF2 hm (L := lT []) ⟨[2], [], 0, 0⟩ (yy 4 (.call (C_treeCheckq1  c1_ [] [])) <|
ww (m_treeCheckq1_ok n  c1_ hc1) <|
zz 5 (xeT hc2) <|
zz 8 (xk1 0 Args.cA hc3) <|
zz 9 (fk3 (((0 : Int)).toNat * 8)) <|
zz 10 (lk4 hc4 (toNatLt hc3)) <|
zz 11 (xeF hc5) <|
ee) (by kernel_rfl)
theorem p_targetrootedq1_2 (n : Nat) (c1_ : Int) (hc1 : m_treeCheckq1 n = some c1_) (hc2 : ¬ (c1_ = (0 : Int))) : G_targetrootedq1  false :=
 runF2 hm (L := lT []) ⟨[2], [], 0, 0⟩ (yy 4 (.call (C_treeCheckq1  c1_ [] [])) <|
ww (m_treeCheckq1_ok n  c1_ hc1) <|
zz 5 (xeF hc2) <|
ee) (by kernel_rfl)
theorem m_targetrootedq1_ok (n : Nat) (r : Bool) (h : m_targetrootedq1 n = some r) : Gv P (.func 18) A_targetrootedq1 H_targetrootedq1 (V_targetrootedq1  r) (R_targetrootedq1  r) := by
 unfold m_targetrootedq1 at h
 obtain ⟨c1_, hc1, h⟩ := Option.bind_eq_some_iff.1 h
 by_cases hc2 : c1_ = (0 : Int)
 ·rw [if_pos hc2] at h
  by_cases hc3 : 0 ≤ (0 : Int) ∧ (0 : Int) < (((Args.A).length : Nat) : Int)
  ·rw [if_pos hc3] at h
   obtain ⟨c4_, hc4, h⟩ := Option.bind_eq_some_iff.1 h
   by_cases hc5 : (c4_.2.1) = (1 : Int)
   ·rw [if_pos hc5] at h
    obtain rfl := Option.some.inj h; exact p_targetrootedq1_0 n c1_ hc1 hc2 hc3 c4_ hc4 hc5
   ·rw [if_neg hc5] at h
    obtain rfl := Option.some.inj h; exact p_targetrootedq1_1 n c1_ hc1 hc2 hc3 c4_ hc4 hc5
  ·rw [if_neg hc3] at h; cases h
 ·rw [if_neg hc2] at h
  obtain rfl := Option.some.inj h; exact p_targetrootedq1_2 n c1_ hc1 hc2

noncomputable def A_targetsearchForq1 (a0 : Int) (a1 : Int) (a2 : Int) (a3 : Int) (a4 : Int) : List Value := [(sW 0 0 (Args.A).length Args.cA), (Value.agg #[(i6 a0), (i6 a1), (i6 a2), (i6 a3), (i6 a4)])]
noncomputable def H_targetsearchForq1 (a0 : Int) (a1 : Int) (a2 : Int) (a3 : Int) (a4 : Int) : AH := ⟨sB [], 0, 0⟩
noncomputable def V_targetsearchForq1 (a0 : Int) (a1 : Int) (a2 : Int) (a3 : Int) (a4 : Int) (r : Int × Int × Bool) : Value := match r with
 | (o0, o1, o2) => (Value.agg #[(sW 0 0 (Args.A).length Args.cA), (i6 a0), (i6 a1), (i6 a2), (i6 a3), (i6 a4), (i6 o0), (i6 o1), (bO o2)])
noncomputable def R_targetsearchForq1 (a0 : Int) (a1 : Int) (a2 : Int) (a3 : Int) (a4 : Int) (r : Int × Int × Bool) : AH := match r with
 | (o0, o1, o2) => ⟨sB [(0, (some (.cells (layT [(sW 0 0 (Args.A).length Args.cA), (i6 a0), (i6 a1), (i6 a2), (i6 a3), (i6 a4), (i6 o0), (i6 o1), (bO o2)]) 47)))], 1, 0⟩
noncomputable abbrev G_targetsearchForq1 (a0 : Int) (a1 : Int) (a2 : Int) (a3 : Int) (a4 : Int) (r : Int × Int × Bool) : Prop := Gv P (.func 19) (A_targetsearchForq1 a0 a1 a2 a3 a4) (H_targetsearchForq1 a0 a1 a2 a3 a4) (V_targetsearchForq1 a0 a1 a2 a3 a4 r) (R_targetsearchForq1 a0 a1 a2 a3 a4 r)
noncomputable abbrev C_targetsearchForq1 (a0 : Int) (a1 : Int) (a2 : Int) (a3 : Int) (a4 : Int) (r : Int × Int × Bool) (ins outs : BL) : CallA := ⟨0, ins, V_targetsearchForq1 a0 a1 a2 a3 a4 r, R_targetsearchForq1 a0 a1 a2 a3 a4 r, outs⟩
noncomputable def S_targetsearchForq1_1 (x1_0 : Int) (x1_1 : Int) (x1_2 : Int) (x1_3 : Int) (x1_4 : Int) (x1_8 : Int) (st : Int × Int × Bool × Int) : XSt := match st with
 | (x1_5, x1_6, x1_7, x1_9) => (sT 35 [(3, (pN 0 0)), (4, (pN 1 0)), (5, (pN 2 0)), (11, (sW 0 0 (Args.A).length Args.cA)), (12, (i6 x1_8)), (13, (i6 x1_9))], [], ⟨sB [(0, (some (.cells (layT [(i6 x1_0), (i6 x1_1), (i6 x1_2), (i6 x1_3), (i6 x1_4)]) 26))), (1, (some (.cells (layT [(Value.slice none 0 0), (i6 (0 : Int)), (i6 (0 : Int)), (i6 (0 : Int)), (i6 (0 : Int)), (i6 (0 : Int)), (i6 (0 : Int)), (i6 (0 : Int)), (bO false)]) 47))), (2, (some (.cells (layT [(sW 0 0 (Args.A).length Args.cA), (i6 x1_0), (i6 x1_1), (i6 x1_2), (i6 x1_3), (i6 x1_4), (i6 x1_5), (i6 x1_6), (bO x1_7)]) 47)))], 3, 0⟩)
noncomputable def X_targetsearchForq1_1 (x1_0 : Int) (x1_1 : Int) (x1_2 : Int) (x1_3 : Int) (x1_4 : Int) (x1_8 : Int) (r : Int × Int × Bool) : Ex × XSt := match r with
 | (z1_0, z1_1, z1_2) => (.exit 0, (sT 35 [(4, (pN 0 0)), (5, (pN 1 0))], [], ⟨sB [(0, (some (.cells (layT [(Value.slice none 0 0), (i6 (0 : Int)), (i6 (0 : Int)), (i6 (0 : Int)), (i6 (0 : Int)), (i6 (0 : Int)), (i6 (0 : Int)), (i6 (0 : Int)), (bO false)]) 47))), (1, (some (.cells (layT [(sW 0 0 (Args.A).length Args.cA), (i6 x1_0), (i6 x1_1), (i6 x1_2), (i6 x1_3), (i6 x1_4), (i6 z1_0), (i6 z1_1), (bO z1_2)]) 47)))], 2, 0⟩))
noncomputable abbrev Q_targetsearchForq1_1 (rnd : Option Nat) (x1_0 : Int) (x1_1 : Int) (x1_2 : Int) (x1_3 : Int) (x1_4 : Int) (x1_8 : Int) (st : Int × Int × Bool × Int) (c : Ex × XSt) : Prop := CG P rnd (fnN P 19) 0 (codeOf P 19 [false, false, true, false, true, true]) (S_targetsearchForq1_1 x1_0 x1_1 x1_2 x1_3 x1_4 x1_8 st) c
noncomputable abbrev U_targetsearchForq1_1 (rd : Option Nat) (x1_0 : Int) (x1_1 : Int) (x1_2 : Int) (x1_3 : Int) (x1_4 : Int) (x1_8 : Int) (st : Int × Int × Bool × Int) (r : Int × Int × Bool) : Prop := CG P rd (fnN P 19) 0 (codeOf P 19 [false, true, false, true, true]) (S_targetsearchForq1_1 x1_0 x1_1 x1_2 x1_3 x1_4 x1_8 st) (X_targetsearchForq1_1 x1_0 x1_1 x1_2 x1_3 x1_4 x1_8 r)
def B_targetsearchForq1_1 (n : Nat) (x1_0 : Int) (x1_1 : Int) (x1_2 : Int) (x1_3 : Int) (x1_4 : Int) (x1_8 : Int) (st : Int × Int × Bool × Int) : Option ((Int × Int × Bool × Int) ⊕ (Int × Int × Bool)) := match st with
 | (x1_5, x1_6, x1_7, x1_9) =>
  if x1_9 < x1_8 then
   if 0 ≤ x1_9 ∧ x1_9 < (((Args.A).length : Nat) : Int) then
    ((some ((Args.A).getD (x1_9).toNat (0, 0, 0, 0, 0, 0, nl0, 0)))).bind fun y1_3_ =>
    if 0 ≤ x1_0 then
     if (bAnd .u64 (shrV .u64 (y1_3_.2.2.2.2.2.2.2) x1_0) (1 : Int)) = (0 : Int) then
      some (.inl (x1_5, x1_6, x1_7, (w64 (x1_9 + (1 : Int)))))
     else
      if x1_7 = true then
       some (.inl (x1_5, x1_9, x1_7, (w64 (x1_9 + (1 : Int)))))
      else
       some (.inl (x1_9, x1_9, true, (w64 (x1_9 + (1 : Int)))))
    else none
   else none
  else
   some (.inr (x1_5, x1_6, x1_7))
def m_targetsearchForq1_1 (n : Nat) (x1_0 : Int) (x1_1 : Int) (x1_2 : Int) (x1_3 : Int) (x1_4 : Int) (x1_8 : Int) (st : Int × Int × Bool × Int) : Option (Int × Int × Bool) := iterM (B_targetsearchForq1_1 n x1_0 x1_1 x1_2 x1_3 x1_4 x1_8) n st
theorem q_targetsearchForq1_1_0 (n : Nat) {rnd : Option Nat} (x1_0 x1_1 x1_2 x1_3 x1_4 x1_5 x1_6 : Int) (x1_7 : Bool) (x1_8 x1_9 : Int) (hy1_1 : x1_9 < x1_8) (hy1_2 : 0 ≤ x1_9 ∧ x1_9 < (((Args.A).length : Nat) : Int)) (y1_3_ : Int × Int × Int × Int × Int × Int × NL × Int) (hy1_3 : (some ((Args.A).getD (x1_9).toNat (0, 0, 0, 0, 0, 0, nl0, 0))) = some y1_3_) (hy1_4 : 0 ≤ x1_0) (hy1_5 : (bAnd .u64 (shrV .u64 (y1_3_.2.2.2.2.2.2.2) x1_0) (1 : Int)) = (0 : Int)) : Q_targetsearchForq1_1 rnd x1_0 x1_1 x1_2 x1_3 x1_4 x1_8 (x1_5, x1_6, x1_7, x1_9) (.normal, S_targetsearchForq1_1 x1_0 x1_1 x1_2 x1_3 x1_4 x1_8 (x1_5, x1_6, x1_7, (w64 (x1_9 + (1 : Int))))) :=
 runC2 hm (L := lT []) ⟨[3, 4, 5, 11, 12, 13], [(0, 0, false), (1, 1, false), (2, 2, false)], 3, 0⟩ (zz 1 (xdT hy1_1) <|
zz 8 (xk1 0 Args.cA hy1_2) <|
zz 9 (lk2 hy1_3 (toNatLt hy1_2)) <|
yy 19 (.pur (Value.int .u64 (shrV .u64 (y1_3_.2.2.2.2.2.2.2) x1_0))) <|
ww (p := opBin P .shr 32 (.tmp 19) (.tmp 21) (Value.int .u64 (y1_3_.2.2.2.2.2.2.2)) (i6 x1_0) Ax.h0 = some ((Value.int .u64 (shrV .u64 (y1_3_.2.2.2.2.2.2.2) x1_0)), Ax.h0)) (shr_u64_i64 hy1_4) <|
zz 21 (xeT hy1_5) <|
ee) (by kernel_rfl)
theorem q_targetsearchForq1_1_1 (n : Nat) {rnd : Option Nat} (x1_0 x1_1 x1_2 x1_3 x1_4 x1_5 x1_6 : Int) (x1_7 : Bool) (x1_8 x1_9 : Int) (hy1_1 : x1_9 < x1_8) (hy1_2 : 0 ≤ x1_9 ∧ x1_9 < (((Args.A).length : Nat) : Int)) (y1_3_ : Int × Int × Int × Int × Int × Int × NL × Int) (hy1_3 : (some ((Args.A).getD (x1_9).toNat (0, 0, 0, 0, 0, 0, nl0, 0))) = some y1_3_) (hy1_4 : 0 ≤ x1_0) (hy1_5 : ¬ ((bAnd .u64 (shrV .u64 (y1_3_.2.2.2.2.2.2.2) x1_0) (1 : Int)) = (0 : Int))) (hy1_6 : x1_7 = true) : Q_targetsearchForq1_1 rnd x1_0 x1_1 x1_2 x1_3 x1_4 x1_8 (x1_5, x1_6, x1_7, x1_9) (.normal, S_targetsearchForq1_1 x1_0 x1_1 x1_2 x1_3 x1_4 x1_8 (x1_5, x1_9, x1_7, (w64 (x1_9 + (1 : Int))))) :=
 runC2 hm (L := lT []) ⟨[3, 4, 5, 11, 12, 13], [(0, 0, false), (1, 1, false), (2, 2, false)], 3, 0⟩ (zz 1 (xdT hy1_1) <|
zz 8 (xk1 0 Args.cA hy1_2) <|
zz 9 (lk2 hy1_3 (toNatLt hy1_2)) <|
yy 19 (.pur (Value.int .u64 (shrV .u64 (y1_3_.2.2.2.2.2.2.2) x1_0))) <|
ww (p := opBin P .shr 32 (.tmp 19) (.tmp 21) (Value.int .u64 (y1_3_.2.2.2.2.2.2.2)) (i6 x1_0) Ax.h0 = some ((Value.int .u64 (shrV .u64 (y1_3_.2.2.2.2.2.2.2) x1_0)), Ax.h0)) (shr_u64_i64 hy1_4) <|
zz 21 (xeF hy1_5) <|
yy 27 (vf) <|
ww (p := (Value.bool (!x1_7)) = (Value.bool false)) (vBn hy1_6) <|
ee) (by kernel_rfl)
theorem q_targetsearchForq1_1_2 (n : Nat) {rnd : Option Nat} (x1_0 x1_1 x1_2 x1_3 x1_4 x1_5 x1_6 : Int) (x1_7 : Bool) (x1_8 x1_9 : Int) (hy1_1 : x1_9 < x1_8) (hy1_2 : 0 ≤ x1_9 ∧ x1_9 < (((Args.A).length : Nat) : Int)) (y1_3_ : Int × Int × Int × Int × Int × Int × NL × Int) (hy1_3 : (some ((Args.A).getD (x1_9).toNat (0, 0, 0, 0, 0, 0, nl0, 0))) = some y1_3_) (hy1_4 : 0 ≤ x1_0) (hy1_5 : ¬ ((bAnd .u64 (shrV .u64 (y1_3_.2.2.2.2.2.2.2) x1_0) (1 : Int)) = (0 : Int))) (hy1_6 : ¬ (x1_7 = true)) : Q_targetsearchForq1_1 rnd x1_0 x1_1 x1_2 x1_3 x1_4 x1_8 (x1_5, x1_6, x1_7, x1_9) (.normal, S_targetsearchForq1_1 x1_0 x1_1 x1_2 x1_3 x1_4 x1_8 (x1_9, x1_9, true, (w64 (x1_9 + (1 : Int))))) :=
 runC2 hm (L := lT []) ⟨[3, 4, 5, 11, 12, 13], [(0, 0, false), (1, 1, false), (2, 2, false)], 3, 0⟩ (zz 1 (xdT hy1_1) <|
zz 8 (xk1 0 Args.cA hy1_2) <|
zz 9 (lk2 hy1_3 (toNatLt hy1_2)) <|
yy 19 (.pur (Value.int .u64 (shrV .u64 (y1_3_.2.2.2.2.2.2.2) x1_0))) <|
ww (p := opBin P .shr 32 (.tmp 19) (.tmp 21) (Value.int .u64 (y1_3_.2.2.2.2.2.2.2)) (i6 x1_0) Ax.h0 = some ((Value.int .u64 (shrV .u64 (y1_3_.2.2.2.2.2.2.2) x1_0)), Ax.h0)) (shr_u64_i64 hy1_4) <|
zz 21 (xeF hy1_5) <|
yy 27 (vt) <|
ww (p := (Value.bool (!x1_7)) = (Value.bool true)) (vBn (Bool.eq_false_iff.2 hy1_6)) <|
ee) (by kernel_rfl)
theorem q_targetsearchForq1_1_3 (n : Nat) {rnd : Option Nat} (x1_0 x1_1 x1_2 x1_3 x1_4 x1_5 x1_6 : Int) (x1_7 : Bool) (x1_8 x1_9 : Int) (hy1_1 : ¬ (x1_9 < x1_8)) : Q_targetsearchForq1_1 rnd x1_0 x1_1 x1_2 x1_3 x1_4 x1_8 (x1_5, x1_6, x1_7, x1_9) (X_targetsearchForq1_1 x1_0 x1_1 x1_2 x1_3 x1_4 x1_8 (x1_5, x1_6, x1_7)) :=
 runC2 hm (L := lT []) ⟨[4, 5], [(0, 1, false), (1, 2, false)], 2, 0⟩ (zz 1 (xdF hy1_1) <|
ee) (by kernel_rfl)
theorem m_targetsearchForq1_1_ok (n : Nat) {rnd : Option Nat} (x1_0 : Int) (x1_1 : Int) (x1_2 : Int) (x1_3 : Int) (x1_4 : Int) (x1_8 : Int) (st : Int × Int × Bool × Int) (r : Int × Int × Bool) (h : m_targetsearchForq1_1 n x1_0 x1_1 x1_2 x1_3 x1_4 x1_8 st = some r) : CG P rnd (fnN P 19) 0 (codeOf P 19 [false, true, false, true, true]) (S_targetsearchForq1_1 x1_0 x1_1 x1_2 x1_3 x1_4 x1_8 st) (X_targetsearchForq1_1 x1_0 x1_1 x1_2 x1_3 x1_4 x1_8 r) :=
 CG.iter (b := codeOf P 19 [false, false, true, false, true, true]) (by kernel_rfl) (body := B_targetsearchForq1_1 n x1_0 x1_1 x1_2 x1_3 x1_4 x1_8) (S := S_targetsearchForq1_1 x1_0 x1_1 x1_2 x1_3 x1_4 x1_8) (X := X_targetsearchForq1_1 x1_0 x1_1 x1_2 x1_3 x1_4 x1_8)
  (fun s s' h => by
  obtain ⟨x1_5, x1_6, x1_7, x1_9⟩ := s
  unfold B_targetsearchForq1_1 at h
  dsimp only at h
  by_cases hy1_1 : x1_9 < x1_8
  ·rw [if_pos hy1_1] at h
   by_cases hy1_2 : 0 ≤ x1_9 ∧ x1_9 < (((Args.A).length : Nat) : Int)
   ·rw [if_pos hy1_2] at h
    obtain ⟨y1_3_, hy1_3, h⟩ := Option.bind_eq_some_iff.1 h
    by_cases hy1_4 : 0 ≤ x1_0
    ·rw [if_pos hy1_4] at h
     by_cases hy1_5 : (bAnd .u64 (shrV .u64 (y1_3_.2.2.2.2.2.2.2) x1_0) (1 : Int)) = (0 : Int)
     ·rw [if_pos hy1_5] at h
      obtain rfl := Sum.inl.inj (Option.some.inj h); exact q_targetsearchForq1_1_0 n x1_0 x1_1 x1_2 x1_3 x1_4 x1_5 x1_6 x1_7 x1_8 x1_9 hy1_1 hy1_2 y1_3_ hy1_3 hy1_4 hy1_5
     ·rw [if_neg hy1_5] at h
      by_cases hy1_6 : x1_7 = true
      ·rw [if_pos hy1_6] at h
       obtain rfl := Sum.inl.inj (Option.some.inj h); exact q_targetsearchForq1_1_1 n x1_0 x1_1 x1_2 x1_3 x1_4 x1_5 x1_6 x1_7 x1_8 x1_9 hy1_1 hy1_2 y1_3_ hy1_3 hy1_4 hy1_5 hy1_6
      ·rw [if_neg hy1_6] at h
       obtain rfl := Sum.inl.inj (Option.some.inj h); exact q_targetsearchForq1_1_2 n x1_0 x1_1 x1_2 x1_3 x1_4 x1_5 x1_6 x1_7 x1_8 x1_9 hy1_1 hy1_2 y1_3_ hy1_3 hy1_4 hy1_5 hy1_6
    ·rw [if_neg hy1_4] at h; cases h
   ·rw [if_neg hy1_2] at h; cases h
  ·rw [if_neg hy1_1] at h
   cases h)
  (fun s r h => by
  obtain ⟨x1_5, x1_6, x1_7, x1_9⟩ := s
  unfold B_targetsearchForq1_1 at h
  dsimp only at h
  by_cases hy1_1 : x1_9 < x1_8
  ·rw [if_pos hy1_1] at h
   by_cases hy1_2 : 0 ≤ x1_9 ∧ x1_9 < (((Args.A).length : Nat) : Int)
   ·rw [if_pos hy1_2] at h
    obtain ⟨y1_3_, hy1_3, h⟩ := Option.bind_eq_some_iff.1 h
    by_cases hy1_4 : 0 ≤ x1_0
    ·rw [if_pos hy1_4] at h
     by_cases hy1_5 : (bAnd .u64 (shrV .u64 (y1_3_.2.2.2.2.2.2.2) x1_0) (1 : Int)) = (0 : Int)
     ·rw [if_pos hy1_5] at h
      cases h
     ·rw [if_neg hy1_5] at h
      by_cases hy1_6 : x1_7 = true
      ·rw [if_pos hy1_6] at h
       cases h
      ·rw [if_neg hy1_6] at h
       cases h
    ·rw [if_neg hy1_4] at h; cases h
   ·rw [if_neg hy1_2] at h; cases h
  ·rw [if_neg hy1_1] at h
   obtain rfl := Sum.inr.inj (Option.some.inj h); exact q_targetsearchForq1_1_3 n x1_0 x1_1 x1_2 x1_3 x1_4 x1_5 x1_6 x1_7 x1_8 x1_9 hy1_1)
  (fun r => by intro hx; cases hx) h
def m_targetsearchForq1 (n : Nat) (a0 : Int) (a1 : Int) (a2 : Int) (a3 : Int) (a4 : Int) : Option (Int × Int × Bool) :=
 (m_targetsearchForq1_1 n a0 a1 a2 a3 a4 (((Args.A).length : Nat) : Int) (0, 0, false, 0)).bind fun t => match t with
 | (c1_0, c1_1, c1_2) =>
  some (c1_0, c1_1, c1_2)
theorem p_targetsearchForq1_0 (n : Nat) (a0 a1 a2 a3 a4 c1_0 c1_1 : Int) (c1_2 : Bool) (hc1 : m_targetsearchForq1_1 n a0 a1 a2 a3 a4 (((Args.A).length : Nat) : Int) (0, 0, false, 0) = some (c1_0, c1_1, c1_2)) : G_targetsearchForq1 a0 a1 a2 a3 a4 (c1_0, c1_1, c1_2) :=
 runF2 hm (L := lT [(15, ⟨⟨[3, 4, 5, 11, 12, 13], [(0, 0, false), (1, 1, false), (2, 2, false)], 3, 0⟩, (X_targetsearchForq1_1 a0 a1 a2 a3 a4 (((Args.A).length : Nat) : Int) (c1_0, c1_1, c1_2)).1, (X_targetsearchForq1_1 a0 a1 a2 a3 a4 (((Args.A).length : Nat) : Int) (c1_0, c1_1, c1_2)).2⟩)]) ⟨[4], [(0, 0, false)], 1, 0⟩ (ww (p := U_targetsearchForq1_1 none a0 a1 a2 a3 a4 (((Args.A).length : Nat) : Int) (0, 0, false, 0) (c1_0, c1_1, c1_2)) (m_targetsearchForq1_1_ok n a0 a1 a2 a3 a4 (((Args.A).length : Nat) : Int) (0, 0, false, 0) (c1_0, c1_1, c1_2) hc1) <|
ee) (by kernel_rfl)
theorem m_targetsearchForq1_ok (n : Nat) (a0 : Int) (a1 : Int) (a2 : Int) (a3 : Int) (a4 : Int) (r : Int × Int × Bool) (h : m_targetsearchForq1 n a0 a1 a2 a3 a4 = some r) : Gv P (.func 19) (A_targetsearchForq1 a0 a1 a2 a3 a4) (H_targetsearchForq1 a0 a1 a2 a3 a4) (V_targetsearchForq1 a0 a1 a2 a3 a4 r) (R_targetsearchForq1 a0 a1 a2 a3 a4 r) := by
 unfold m_targetsearchForq1 at h
 obtain ⟨⟨c1_0, c1_1, c1_2⟩, hc1, h⟩ := Option.bind_eq_some_iff.1 h
 dsimp only at h
 obtain rfl := Option.some.inj h; exact p_targetsearchForq1_0 n a0 a1 a2 a3 a4 c1_0 c1_1 c1_2 hc1

noncomputable def A_partsInnerq1 (a0 : Int) (a1 : Int) (a2 : Int) (a3 : Int) (a4 : Int) (a5 : Int) (a6 : NL) (a7 : Int) : List Value := [(Value.agg #[(i6 a0), (i6 a1), (i6 a2), (i6 a3), (i6 a4), (i6 a5), (nlV a6), (Value.int .u64 a7)])]
noncomputable def H_partsInnerq1 (a0 : Int) (a1 : Int) (a2 : Int) (a3 : Int) (a4 : Int) (a5 : Int) (a6 : NL) (a7 : Int) : AH := ⟨sB [], 0, 0⟩
noncomputable def V_partsInnerq1 (a0 : Int) (a1 : Int) (a2 : Int) (a3 : Int) (a4 : Int) (a5 : Int) (a6 : NL) (a7 : Int) (r : Bool) : Value := match r with
 | o0 => (bO o0)
noncomputable def R_partsInnerq1 (a0 : Int) (a1 : Int) (a2 : Int) (a3 : Int) (a4 : Int) (a5 : Int) (a6 : NL) (a7 : Int) (r : Bool) : AH := match r with
 | o0 => ⟨sB [], 0, 0⟩
noncomputable abbrev G_partsInnerq1 (a0 : Int) (a1 : Int) (a2 : Int) (a3 : Int) (a4 : Int) (a5 : Int) (a6 : NL) (a7 : Int) (r : Bool) : Prop := Gv P (.func 31) (A_partsInnerq1 a0 a1 a2 a3 a4 a5 a6 a7) (H_partsInnerq1 a0 a1 a2 a3 a4 a5 a6 a7) (V_partsInnerq1 a0 a1 a2 a3 a4 a5 a6 a7 r) (R_partsInnerq1 a0 a1 a2 a3 a4 a5 a6 a7 r)
noncomputable abbrev C_partsInnerq1 (a0 : Int) (a1 : Int) (a2 : Int) (a3 : Int) (a4 : Int) (a5 : Int) (a6 : NL) (a7 : Int) (r : Bool) (ins outs : BL) : CallA := ⟨0, ins, V_partsInnerq1 a0 a1 a2 a3 a4 a5 a6 a7 r, R_partsInnerq1 a0 a1 a2 a3 a4 a5 a6 a7 r, outs⟩
def m_partsInnerq1 (n : Nat) (a0 : Int) (a1 : Int) (a2 : Int) (a3 : Int) (a4 : Int) (a5 : Int) (a6 : NL) (a7 : Int) : Option (Bool) :=
 if a1 = (1 : Int) then
  some true
 else
  if a1 = (2 : Int) then
   some true
  else
   some false
theorem p_partsInnerq1_0 (n : Nat) (a0 a1 a2 a3 a4 a5 : Int) (a6 : NL) (a7 : Int) (hc1 : a1 = (1 : Int)) : G_partsInnerq1 a0 a1 a2 a3 a4 a5 a6 a7 true :=
 runF2 hm (L := lT []) ⟨[2], [], 0, 0⟩ (zz 6 (xeT hc1) <|
ee) (by kernel_rfl)
theorem p_partsInnerq1_1 (n : Nat) (a0 a1 a2 a3 a4 a5 : Int) (a6 : NL) (a7 : Int) (hc1 : ¬ (a1 = (1 : Int))) (hc2 : a1 = (2 : Int)) : G_partsInnerq1 a0 a1 a2 a3 a4 a5 a6 a7 true :=
 runF2 hm (L := lT []) ⟨[2], [], 0, 0⟩ (zz 6 (xeF hc1) <|
zz 10 (xeT hc2) <|
ee) (by kernel_rfl)
theorem p_partsInnerq1_2 (n : Nat) (a0 a1 a2 a3 a4 a5 : Int) (a6 : NL) (a7 : Int) (hc1 : ¬ (a1 = (1 : Int))) (hc2 : ¬ (a1 = (2 : Int))) : G_partsInnerq1 a0 a1 a2 a3 a4 a5 a6 a7 false :=
 runF2 hm (L := lT []) ⟨[2], [], 0, 0⟩ (zz 6 (xeF hc1) <|
zz 10 (xeF hc2) <|
ee) (by kernel_rfl)
theorem m_partsInnerq1_ok (n : Nat) (a0 : Int) (a1 : Int) (a2 : Int) (a3 : Int) (a4 : Int) (a5 : Int) (a6 : NL) (a7 : Int) (r : Bool) (h : m_partsInnerq1 n a0 a1 a2 a3 a4 a5 a6 a7 = some r) : Gv P (.func 31) (A_partsInnerq1 a0 a1 a2 a3 a4 a5 a6 a7) (H_partsInnerq1 a0 a1 a2 a3 a4 a5 a6 a7) (V_partsInnerq1 a0 a1 a2 a3 a4 a5 a6 a7 r) (R_partsInnerq1 a0 a1 a2 a3 a4 a5 a6 a7 r) := by
 unfold m_partsInnerq1 at h
 by_cases hc1 : a1 = (1 : Int)
 ·rw [if_pos hc1] at h
  obtain rfl := Option.some.inj h; exact p_partsInnerq1_0 n a0 a1 a2 a3 a4 a5 a6 a7 hc1
 ·rw [if_neg hc1] at h
  by_cases hc2 : a1 = (2 : Int)
  ·rw [if_pos hc2] at h
   obtain rfl := Option.some.inj h; exact p_partsInnerq1_1 n a0 a1 a2 a3 a4 a5 a6 a7 hc1 hc2
  ·rw [if_neg hc2] at h
   obtain rfl := Option.some.inj h; exact p_partsInnerq1_2 n a0 a1 a2 a3 a4 a5 a6 a7 hc1 hc2

noncomputable def A_targetsearchholdsq1 (a0 : Int) (a1 : Int) (a2 : Int) (a3 : Int) (a4 : Int) (a5 : Int) (a6 : Int) (a7 : Bool) (a8 : Int) (a9 : Int) : List Value := [(Value.agg #[(sW 0 0 (Args.A).length Args.cA), (i6 a0), (i6 a1), (i6 a2), (i6 a3), (i6 a4), (i6 a5), (i6 a6), (bO a7)]), (i6 a8), (i6 a9)]
noncomputable def H_targetsearchholdsq1 (a0 : Int) (a1 : Int) (a2 : Int) (a3 : Int) (a4 : Int) (a5 : Int) (a6 : Int) (a7 : Bool) (a8 : Int) (a9 : Int) : AH := ⟨sB [], 0, 0⟩
noncomputable def V_targetsearchholdsq1 (a0 : Int) (a1 : Int) (a2 : Int) (a3 : Int) (a4 : Int) (a5 : Int) (a6 : Int) (a7 : Bool) (a8 : Int) (a9 : Int) (r : Bool) : Value := match r with
 | o0 => (bO o0)
noncomputable def R_targetsearchholdsq1 (a0 : Int) (a1 : Int) (a2 : Int) (a3 : Int) (a4 : Int) (a5 : Int) (a6 : Int) (a7 : Bool) (a8 : Int) (a9 : Int) (r : Bool) : AH := match r with
 | o0 => ⟨sB [], 0, 0⟩
noncomputable abbrev G_targetsearchholdsq1 (a0 : Int) (a1 : Int) (a2 : Int) (a3 : Int) (a4 : Int) (a5 : Int) (a6 : Int) (a7 : Bool) (a8 : Int) (a9 : Int) (r : Bool) : Prop := Gv P (.func 20) (A_targetsearchholdsq1 a0 a1 a2 a3 a4 a5 a6 a7 a8 a9) (H_targetsearchholdsq1 a0 a1 a2 a3 a4 a5 a6 a7 a8 a9) (V_targetsearchholdsq1 a0 a1 a2 a3 a4 a5 a6 a7 a8 a9 r) (R_targetsearchholdsq1 a0 a1 a2 a3 a4 a5 a6 a7 a8 a9 r)
noncomputable abbrev C_targetsearchholdsq1 (a0 : Int) (a1 : Int) (a2 : Int) (a3 : Int) (a4 : Int) (a5 : Int) (a6 : Int) (a7 : Bool) (a8 : Int) (a9 : Int) (r : Bool) (ins outs : BL) : CallA := ⟨0, ins, V_targetsearchholdsq1 a0 a1 a2 a3 a4 a5 a6 a7 a8 a9 r, R_targetsearchholdsq1 a0 a1 a2 a3 a4 a5 a6 a7 a8 a9 r, outs⟩
def m_targetsearchholdsq1 (n : Nat) (a0 : Int) (a1 : Int) (a2 : Int) (a3 : Int) (a4 : Int) (a5 : Int) (a6 : Int) (a7 : Bool) (a8 : Int) (a9 : Int) : Option (Bool) :=
 if 0 ≤ a8 ∧ a8 < (((Args.A).length : Nat) : Int) then
  ((some ((Args.A).getD (a8).toNat (0, 0, 0, 0, 0, 0, nl0, 0)))).bind fun c2_ =>
  (m_partsInnerq1 n (c2_.1) (c2_.2.1) (c2_.2.2.1) (c2_.2.2.2.1) (c2_.2.2.2.2.1) (c2_.2.2.2.2.2.1) (c2_.2.2.2.2.2.2.1) (c2_.2.2.2.2.2.2.2)).bind fun c3_ =>
  if c3_ = true then
   if a1 > a2 then
    some false
   else
    if a1 < (c2_.2.2.1) then
     some false
    else
     if a2 > (c2_.2.2.2.2.1) then
      some false
     else
      if a7 = true then
       if a5 ≥ a8 then
        if a6 < a9 then
         some true
        else
         some false
       else
        some false
      else
       some true
  else
   some false
 else none
theorem p_targetsearchholdsq1_0 (n : Nat) (a0 a1 a2 a3 a4 a5 a6 : Int) (a7 : Bool) (a8 a9 : Int) (hc1 : 0 ≤ a8 ∧ a8 < (((Args.A).length : Nat) : Int)) (c2_ : Int × Int × Int × Int × Int × Int × NL × Int) (hc2 : (some ((Args.A).getD (a8).toNat (0, 0, 0, 0, 0, 0, nl0, 0))) = some c2_) (c3_ : Bool) (hc3 : m_partsInnerq1 n (c2_.1) (c2_.2.1) (c2_.2.2.1) (c2_.2.2.2.1) (c2_.2.2.2.2.1) (c2_.2.2.2.2.2.1) (c2_.2.2.2.2.2.2.1) (c2_.2.2.2.2.2.2.2) = some c3_) (hc4 : c3_ = true) (hc5 : a1 > a2) : G_targetsearchholdsq1 a0 a1 a2 a3 a4 a5 a6 a7 a8 a9 false :=
 runF2 hm (L := lT []) ⟨[6], [], 0, 0⟩ (zz 7 (xk1 0 Args.cA hc1) <|
zz 8 (lk2 hc2 (toNatLt hc1)) <|
yy 19 (.call (C_partsInnerq1 (c2_.1) (c2_.2.1) (c2_.2.2.1) (c2_.2.2.2.1) (c2_.2.2.2.2.1) (c2_.2.2.2.2.2.1) (c2_.2.2.2.2.2.2.1) (c2_.2.2.2.2.2.2.2) c3_ [] [])) <|
ww (m_partsInnerq1_ok n (c2_.1) (c2_.2.1) (c2_.2.2.1) (c2_.2.2.2.1) (c2_.2.2.2.2.1) (c2_.2.2.2.2.2.1) (c2_.2.2.2.2.2.2.1) (c2_.2.2.2.2.2.2.2) c3_ hc3) <|
yy 20 (vf) <|
ww (p := (Value.bool (!c3_)) = (Value.bool false)) (vBn hc4) <|
zz 26 (xdT hc5) <|
ee) (by kernel_rfl)
theorem p_targetsearchholdsq1_1 (n : Nat) (a0 a1 a2 a3 a4 a5 a6 : Int) (a7 : Bool) (a8 a9 : Int) (hc1 : 0 ≤ a8 ∧ a8 < (((Args.A).length : Nat) : Int)) (c2_ : Int × Int × Int × Int × Int × Int × NL × Int) (hc2 : (some ((Args.A).getD (a8).toNat (0, 0, 0, 0, 0, 0, nl0, 0))) = some c2_) (c3_ : Bool) (hc3 : m_partsInnerq1 n (c2_.1) (c2_.2.1) (c2_.2.2.1) (c2_.2.2.2.1) (c2_.2.2.2.2.1) (c2_.2.2.2.2.2.1) (c2_.2.2.2.2.2.2.1) (c2_.2.2.2.2.2.2.2) = some c3_) (hc4 : c3_ = true) (hc5 : ¬ (a1 > a2)) (hc6 : a1 < (c2_.2.2.1)) : G_targetsearchholdsq1 a0 a1 a2 a3 a4 a5 a6 a7 a8 a9 false :=
 runF2 hm (L := lT []) ⟨[6], [], 0, 0⟩ (zz 7 (xk1 0 Args.cA hc1) <|
zz 8 (lk2 hc2 (toNatLt hc1)) <|
yy 19 (.call (C_partsInnerq1 (c2_.1) (c2_.2.1) (c2_.2.2.1) (c2_.2.2.2.1) (c2_.2.2.2.2.1) (c2_.2.2.2.2.2.1) (c2_.2.2.2.2.2.2.1) (c2_.2.2.2.2.2.2.2) c3_ [] [])) <|
ww (m_partsInnerq1_ok n (c2_.1) (c2_.2.1) (c2_.2.2.1) (c2_.2.2.2.1) (c2_.2.2.2.2.1) (c2_.2.2.2.2.2.1) (c2_.2.2.2.2.2.2.1) (c2_.2.2.2.2.2.2.2) c3_ hc3) <|
yy 20 (vf) <|
ww (p := (Value.bool (!c3_)) = (Value.bool false)) (vBn hc4) <|
zz 26 (xdF hc5) <|
zz 33 (xdT hc6) <|
ee) (by kernel_rfl)
theorem p_targetsearchholdsq1_2 (n : Nat) (a0 a1 a2 a3 a4 a5 a6 : Int) (a7 : Bool) (a8 a9 : Int) (hc1 : 0 ≤ a8 ∧ a8 < (((Args.A).length : Nat) : Int)) (c2_ : Int × Int × Int × Int × Int × Int × NL × Int) (hc2 : (some ((Args.A).getD (a8).toNat (0, 0, 0, 0, 0, 0, nl0, 0))) = some c2_) (c3_ : Bool) (hc3 : m_partsInnerq1 n (c2_.1) (c2_.2.1) (c2_.2.2.1) (c2_.2.2.2.1) (c2_.2.2.2.2.1) (c2_.2.2.2.2.2.1) (c2_.2.2.2.2.2.2.1) (c2_.2.2.2.2.2.2.2) = some c3_) (hc4 : c3_ = true) (hc5 : ¬ (a1 > a2)) (hc6 : ¬ (a1 < (c2_.2.2.1))) (hc7 : a2 > (c2_.2.2.2.2.1)) : G_targetsearchholdsq1 a0 a1 a2 a3 a4 a5 a6 a7 a8 a9 false :=
 runF2 hm (L := lT []) ⟨[6], [], 0, 0⟩ (zz 7 (xk1 0 Args.cA hc1) <|
zz 8 (lk2 hc2 (toNatLt hc1)) <|
yy 19 (.call (C_partsInnerq1 (c2_.1) (c2_.2.1) (c2_.2.2.1) (c2_.2.2.2.1) (c2_.2.2.2.2.1) (c2_.2.2.2.2.2.1) (c2_.2.2.2.2.2.2.1) (c2_.2.2.2.2.2.2.2) c3_ [] [])) <|
ww (m_partsInnerq1_ok n (c2_.1) (c2_.2.1) (c2_.2.2.1) (c2_.2.2.2.1) (c2_.2.2.2.2.1) (c2_.2.2.2.2.2.1) (c2_.2.2.2.2.2.2.1) (c2_.2.2.2.2.2.2.2) c3_ hc3) <|
yy 20 (vf) <|
ww (p := (Value.bool (!c3_)) = (Value.bool false)) (vBn hc4) <|
zz 26 (xdF hc5) <|
zz 33 (xdF hc6) <|
zz 40 (xdT hc7) <|
ee) (by kernel_rfl)
theorem p_targetsearchholdsq1_3 (n : Nat) (a0 a1 a2 a3 a4 a5 a6 : Int) (a7 : Bool) (a8 a9 : Int) (hc1 : 0 ≤ a8 ∧ a8 < (((Args.A).length : Nat) : Int)) (c2_ : Int × Int × Int × Int × Int × Int × NL × Int) (hc2 : (some ((Args.A).getD (a8).toNat (0, 0, 0, 0, 0, 0, nl0, 0))) = some c2_) (c3_ : Bool) (hc3 : m_partsInnerq1 n (c2_.1) (c2_.2.1) (c2_.2.2.1) (c2_.2.2.2.1) (c2_.2.2.2.2.1) (c2_.2.2.2.2.2.1) (c2_.2.2.2.2.2.2.1) (c2_.2.2.2.2.2.2.2) = some c3_) (hc4 : c3_ = true) (hc5 : ¬ (a1 > a2)) (hc6 : ¬ (a1 < (c2_.2.2.1))) (hc7 : ¬ (a2 > (c2_.2.2.2.2.1))) (hc8 : a7 = true) (hc9 : a5 ≥ a8) (hc10 : a6 < a9) : G_targetsearchholdsq1 a0 a1 a2 a3 a4 a5 a6 a7 a8 a9 true :=
 runF2 hm (L := lT []) ⟨[6], [], 0, 0⟩ (zz 7 (xk1 0 Args.cA hc1) <|
zz 8 (lk2 hc2 (toNatLt hc1)) <|
yy 19 (.call (C_partsInnerq1 (c2_.1) (c2_.2.1) (c2_.2.2.1) (c2_.2.2.2.1) (c2_.2.2.2.2.1) (c2_.2.2.2.2.2.1) (c2_.2.2.2.2.2.2.1) (c2_.2.2.2.2.2.2.2) c3_ [] [])) <|
ww (m_partsInnerq1_ok n (c2_.1) (c2_.2.1) (c2_.2.2.1) (c2_.2.2.2.1) (c2_.2.2.2.2.1) (c2_.2.2.2.2.2.1) (c2_.2.2.2.2.2.2.1) (c2_.2.2.2.2.2.2.2) c3_ hc3) <|
yy 20 (vf) <|
ww (p := (Value.bool (!c3_)) = (Value.bool false)) (vBn hc4) <|
zz 26 (xdF hc5) <|
zz 33 (xdF hc6) <|
zz 40 (xdF hc7) <|
yy 46 (vf) <|
ww (p := (Value.bool (!a7)) = (Value.bool false)) (vBn hc8) <|
zz 51 (xdT hc9) <|
zz 56 (xdT hc10) <|
ee) (by kernel_rfl)
theorem p_targetsearchholdsq1_4 (n : Nat) (a0 a1 a2 a3 a4 a5 a6 : Int) (a7 : Bool) (a8 a9 : Int) (hc1 : 0 ≤ a8 ∧ a8 < (((Args.A).length : Nat) : Int)) (c2_ : Int × Int × Int × Int × Int × Int × NL × Int) (hc2 : (some ((Args.A).getD (a8).toNat (0, 0, 0, 0, 0, 0, nl0, 0))) = some c2_) (c3_ : Bool) (hc3 : m_partsInnerq1 n (c2_.1) (c2_.2.1) (c2_.2.2.1) (c2_.2.2.2.1) (c2_.2.2.2.2.1) (c2_.2.2.2.2.2.1) (c2_.2.2.2.2.2.2.1) (c2_.2.2.2.2.2.2.2) = some c3_) (hc4 : c3_ = true) (hc5 : ¬ (a1 > a2)) (hc6 : ¬ (a1 < (c2_.2.2.1))) (hc7 : ¬ (a2 > (c2_.2.2.2.2.1))) (hc8 : a7 = true) (hc9 : a5 ≥ a8) (hc10 : ¬ (a6 < a9)) : G_targetsearchholdsq1 a0 a1 a2 a3 a4 a5 a6 a7 a8 a9 false :=
 runF2 hm (L := lT []) ⟨[6], [], 0, 0⟩ (zz 7 (xk1 0 Args.cA hc1) <|
zz 8 (lk2 hc2 (toNatLt hc1)) <|
yy 19 (.call (C_partsInnerq1 (c2_.1) (c2_.2.1) (c2_.2.2.1) (c2_.2.2.2.1) (c2_.2.2.2.2.1) (c2_.2.2.2.2.2.1) (c2_.2.2.2.2.2.2.1) (c2_.2.2.2.2.2.2.2) c3_ [] [])) <|
ww (m_partsInnerq1_ok n (c2_.1) (c2_.2.1) (c2_.2.2.1) (c2_.2.2.2.1) (c2_.2.2.2.2.1) (c2_.2.2.2.2.2.1) (c2_.2.2.2.2.2.2.1) (c2_.2.2.2.2.2.2.2) c3_ hc3) <|
yy 20 (vf) <|
ww (p := (Value.bool (!c3_)) = (Value.bool false)) (vBn hc4) <|
zz 26 (xdF hc5) <|
zz 33 (xdF hc6) <|
zz 40 (xdF hc7) <|
yy 46 (vf) <|
ww (p := (Value.bool (!a7)) = (Value.bool false)) (vBn hc8) <|
zz 51 (xdT hc9) <|
zz 56 (xdF hc10) <|
ee) (by kernel_rfl)
theorem p_targetsearchholdsq1_5 (n : Nat) (a0 a1 a2 a3 a4 a5 a6 : Int) (a7 : Bool) (a8 a9 : Int) (hc1 : 0 ≤ a8 ∧ a8 < (((Args.A).length : Nat) : Int)) (c2_ : Int × Int × Int × Int × Int × Int × NL × Int) (hc2 : (some ((Args.A).getD (a8).toNat (0, 0, 0, 0, 0, 0, nl0, 0))) = some c2_) (c3_ : Bool) (hc3 : m_partsInnerq1 n (c2_.1) (c2_.2.1) (c2_.2.2.1) (c2_.2.2.2.1) (c2_.2.2.2.2.1) (c2_.2.2.2.2.2.1) (c2_.2.2.2.2.2.2.1) (c2_.2.2.2.2.2.2.2) = some c3_) (hc4 : c3_ = true) (hc5 : ¬ (a1 > a2)) (hc6 : ¬ (a1 < (c2_.2.2.1))) (hc7 : ¬ (a2 > (c2_.2.2.2.2.1))) (hc8 : a7 = true) (hc9 : ¬ (a5 ≥ a8)) : G_targetsearchholdsq1 a0 a1 a2 a3 a4 a5 a6 a7 a8 a9 false :=
 runF2 hm (L := lT []) ⟨[6], [], 0, 0⟩ (zz 7 (xk1 0 Args.cA hc1) <|
zz 8 (lk2 hc2 (toNatLt hc1)) <|
yy 19 (.call (C_partsInnerq1 (c2_.1) (c2_.2.1) (c2_.2.2.1) (c2_.2.2.2.1) (c2_.2.2.2.2.1) (c2_.2.2.2.2.2.1) (c2_.2.2.2.2.2.2.1) (c2_.2.2.2.2.2.2.2) c3_ [] [])) <|
ww (m_partsInnerq1_ok n (c2_.1) (c2_.2.1) (c2_.2.2.1) (c2_.2.2.2.1) (c2_.2.2.2.2.1) (c2_.2.2.2.2.2.1) (c2_.2.2.2.2.2.2.1) (c2_.2.2.2.2.2.2.2) c3_ hc3) <|
yy 20 (vf) <|
ww (p := (Value.bool (!c3_)) = (Value.bool false)) (vBn hc4) <|
zz 26 (xdF hc5) <|
zz 33 (xdF hc6) <|
zz 40 (xdF hc7) <|
yy 46 (vf) <|
ww (p := (Value.bool (!a7)) = (Value.bool false)) (vBn hc8) <|
zz 51 (xdF hc9) <|
ee) (by kernel_rfl)
theorem p_targetsearchholdsq1_6 (n : Nat) (a0 a1 a2 a3 a4 a5 a6 : Int) (a7 : Bool) (a8 a9 : Int) (hc1 : 0 ≤ a8 ∧ a8 < (((Args.A).length : Nat) : Int)) (c2_ : Int × Int × Int × Int × Int × Int × NL × Int) (hc2 : (some ((Args.A).getD (a8).toNat (0, 0, 0, 0, 0, 0, nl0, 0))) = some c2_) (c3_ : Bool) (hc3 : m_partsInnerq1 n (c2_.1) (c2_.2.1) (c2_.2.2.1) (c2_.2.2.2.1) (c2_.2.2.2.2.1) (c2_.2.2.2.2.2.1) (c2_.2.2.2.2.2.2.1) (c2_.2.2.2.2.2.2.2) = some c3_) (hc4 : c3_ = true) (hc5 : ¬ (a1 > a2)) (hc6 : ¬ (a1 < (c2_.2.2.1))) (hc7 : ¬ (a2 > (c2_.2.2.2.2.1))) (hc8 : ¬ (a7 = true)) : G_targetsearchholdsq1 a0 a1 a2 a3 a4 a5 a6 a7 a8 a9 true :=
 runF2 hm (L := lT []) ⟨[6], [], 0, 0⟩ (zz 7 (xk1 0 Args.cA hc1) <|
zz 8 (lk2 hc2 (toNatLt hc1)) <|
yy 19 (.call (C_partsInnerq1 (c2_.1) (c2_.2.1) (c2_.2.2.1) (c2_.2.2.2.1) (c2_.2.2.2.2.1) (c2_.2.2.2.2.2.1) (c2_.2.2.2.2.2.2.1) (c2_.2.2.2.2.2.2.2) c3_ [] [])) <|
ww (m_partsInnerq1_ok n (c2_.1) (c2_.2.1) (c2_.2.2.1) (c2_.2.2.2.1) (c2_.2.2.2.2.1) (c2_.2.2.2.2.2.1) (c2_.2.2.2.2.2.2.1) (c2_.2.2.2.2.2.2.2) c3_ hc3) <|
yy 20 (vf) <|
ww (p := (Value.bool (!c3_)) = (Value.bool false)) (vBn hc4) <|
zz 26 (xdF hc5) <|
zz 33 (xdF hc6) <|
zz 40 (xdF hc7) <|
yy 46 (vt) <|
ww (p := (Value.bool (!a7)) = (Value.bool true)) (vBn (Bool.eq_false_iff.2 hc8)) <|
ee) (by kernel_rfl)
theorem p_targetsearchholdsq1_7 (n : Nat) (a0 a1 a2 a3 a4 a5 a6 : Int) (a7 : Bool) (a8 a9 : Int) (hc1 : 0 ≤ a8 ∧ a8 < (((Args.A).length : Nat) : Int)) (c2_ : Int × Int × Int × Int × Int × Int × NL × Int) (hc2 : (some ((Args.A).getD (a8).toNat (0, 0, 0, 0, 0, 0, nl0, 0))) = some c2_) (c3_ : Bool) (hc3 : m_partsInnerq1 n (c2_.1) (c2_.2.1) (c2_.2.2.1) (c2_.2.2.2.1) (c2_.2.2.2.2.1) (c2_.2.2.2.2.2.1) (c2_.2.2.2.2.2.2.1) (c2_.2.2.2.2.2.2.2) = some c3_) (hc4 : ¬ (c3_ = true)) : G_targetsearchholdsq1 a0 a1 a2 a3 a4 a5 a6 a7 a8 a9 false :=
 runF2 hm (L := lT []) ⟨[6], [], 0, 0⟩ (zz 7 (xk1 0 Args.cA hc1) <|
zz 8 (lk2 hc2 (toNatLt hc1)) <|
yy 19 (.call (C_partsInnerq1 (c2_.1) (c2_.2.1) (c2_.2.2.1) (c2_.2.2.2.1) (c2_.2.2.2.2.1) (c2_.2.2.2.2.2.1) (c2_.2.2.2.2.2.2.1) (c2_.2.2.2.2.2.2.2) c3_ [] [])) <|
ww (m_partsInnerq1_ok n (c2_.1) (c2_.2.1) (c2_.2.2.1) (c2_.2.2.2.1) (c2_.2.2.2.2.1) (c2_.2.2.2.2.2.1) (c2_.2.2.2.2.2.2.1) (c2_.2.2.2.2.2.2.2) c3_ hc3) <|
yy 20 (vt) <|
ww (p := (Value.bool (!c3_)) = (Value.bool true)) (vBn (Bool.eq_false_iff.2 hc4)) <|
ee) (by kernel_rfl)
theorem m_targetsearchholdsq1_ok (n : Nat) (a0 : Int) (a1 : Int) (a2 : Int) (a3 : Int) (a4 : Int) (a5 : Int) (a6 : Int) (a7 : Bool) (a8 : Int) (a9 : Int) (r : Bool) (h : m_targetsearchholdsq1 n a0 a1 a2 a3 a4 a5 a6 a7 a8 a9 = some r) : Gv P (.func 20) (A_targetsearchholdsq1 a0 a1 a2 a3 a4 a5 a6 a7 a8 a9) (H_targetsearchholdsq1 a0 a1 a2 a3 a4 a5 a6 a7 a8 a9) (V_targetsearchholdsq1 a0 a1 a2 a3 a4 a5 a6 a7 a8 a9 r) (R_targetsearchholdsq1 a0 a1 a2 a3 a4 a5 a6 a7 a8 a9 r) := by
 unfold m_targetsearchholdsq1 at h
 by_cases hc1 : 0 ≤ a8 ∧ a8 < (((Args.A).length : Nat) : Int)
 ·rw [if_pos hc1] at h
  obtain ⟨c2_, hc2, h⟩ := Option.bind_eq_some_iff.1 h
  obtain ⟨c3_, hc3, h⟩ := Option.bind_eq_some_iff.1 h
  by_cases hc4 : c3_ = true
  ·rw [if_pos hc4] at h
   by_cases hc5 : a1 > a2
   ·rw [if_pos hc5] at h
    obtain rfl := Option.some.inj h; exact p_targetsearchholdsq1_0 n a0 a1 a2 a3 a4 a5 a6 a7 a8 a9 hc1 c2_ hc2 c3_ hc3 hc4 hc5
   ·rw [if_neg hc5] at h
    by_cases hc6 : a1 < (c2_.2.2.1)
    ·rw [if_pos hc6] at h
     obtain rfl := Option.some.inj h; exact p_targetsearchholdsq1_1 n a0 a1 a2 a3 a4 a5 a6 a7 a8 a9 hc1 c2_ hc2 c3_ hc3 hc4 hc5 hc6
    ·rw [if_neg hc6] at h
     by_cases hc7 : a2 > (c2_.2.2.2.2.1)
     ·rw [if_pos hc7] at h
      obtain rfl := Option.some.inj h; exact p_targetsearchholdsq1_2 n a0 a1 a2 a3 a4 a5 a6 a7 a8 a9 hc1 c2_ hc2 c3_ hc3 hc4 hc5 hc6 hc7
     ·rw [if_neg hc7] at h
      by_cases hc8 : a7 = true
      ·rw [if_pos hc8] at h
       by_cases hc9 : a5 ≥ a8
       ·rw [if_pos hc9] at h
        by_cases hc10 : a6 < a9
        ·rw [if_pos hc10] at h
         obtain rfl := Option.some.inj h; exact p_targetsearchholdsq1_3 n a0 a1 a2 a3 a4 a5 a6 a7 a8 a9 hc1 c2_ hc2 c3_ hc3 hc4 hc5 hc6 hc7 hc8 hc9 hc10
        ·rw [if_neg hc10] at h
         obtain rfl := Option.some.inj h; exact p_targetsearchholdsq1_4 n a0 a1 a2 a3 a4 a5 a6 a7 a8 a9 hc1 c2_ hc2 c3_ hc3 hc4 hc5 hc6 hc7 hc8 hc9 hc10
       ·rw [if_neg hc9] at h
        obtain rfl := Option.some.inj h; exact p_targetsearchholdsq1_5 n a0 a1 a2 a3 a4 a5 a6 a7 a8 a9 hc1 c2_ hc2 c3_ hc3 hc4 hc5 hc6 hc7 hc8 hc9
      ·rw [if_neg hc8] at h
       obtain rfl := Option.some.inj h; exact p_targetsearchholdsq1_6 n a0 a1 a2 a3 a4 a5 a6 a7 a8 a9 hc1 c2_ hc2 c3_ hc3 hc4 hc5 hc6 hc7 hc8
  ·rw [if_neg hc4] at h
   obtain rfl := Option.some.inj h; exact p_targetsearchholdsq1_7 n a0 a1 a2 a3 a4 a5 a6 a7 a8 a9 hc1 c2_ hc2 c3_ hc3 hc4
 ·rw [if_neg hc1] at h; cases h

noncomputable def A_targetBaseq1 (a0 : Int) (a1 : Int) (a2 : Int) (a3 : Int) (a4 : Int) : List Value := [(sW 0 0 (Args.A).length Args.cA), (Value.agg #[(i6 a0), (i6 a1), (i6 a2), (i6 a3), (i6 a4)])]
noncomputable def H_targetBaseq1 (a0 : Int) (a1 : Int) (a2 : Int) (a3 : Int) (a4 : Int) : AH := ⟨sB [], 0, 0⟩
noncomputable def V_targetBaseq1 (a0 : Int) (a1 : Int) (a2 : Int) (a3 : Int) (a4 : Int) (r : Int) : Value := match r with
 | o0 => (i6 o0)
noncomputable def R_targetBaseq1 (a0 : Int) (a1 : Int) (a2 : Int) (a3 : Int) (a4 : Int) (r : Int) : AH := match r with
 | o0 => ⟨sB [], 0, 0⟩
noncomputable abbrev G_targetBaseq1 (a0 : Int) (a1 : Int) (a2 : Int) (a3 : Int) (a4 : Int) (r : Int) : Prop := Gv P (.func 8) (A_targetBaseq1 a0 a1 a2 a3 a4) (H_targetBaseq1 a0 a1 a2 a3 a4) (V_targetBaseq1 a0 a1 a2 a3 a4 r) (R_targetBaseq1 a0 a1 a2 a3 a4 r)
noncomputable abbrev C_targetBaseq1 (a0 : Int) (a1 : Int) (a2 : Int) (a3 : Int) (a4 : Int) (r : Int) (ins outs : BL) : CallA := ⟨0, ins, V_targetBaseq1 a0 a1 a2 a3 a4 r, R_targetBaseq1 a0 a1 a2 a3 a4 r, outs⟩
noncomputable def S_targetBaseq1_2 (x2_0 : Int) (x2_1 : Int) (x2_2 : Int) (x2_3 : Int) (x2_4 : Int) (x2_5 : Int) (x2_6 : Int) (x2_7 : Bool) (x2_8 : Int) (x2_9 : Int) (x2_10 : NL) (x2_11 : Int) (st : Int) : XSt := match st with
 | x2_12 => (sT 61 [(0, (sW 0 0 (Args.A).length Args.cA)), (5, (pN 0 0)), (6, (i6 x2_8)), (7, (i6 x2_9)), (8, (nlV x2_10)), (35, (nlV x2_10)), (36, (i6 x2_11)), (37, (i6 x2_12))], [], ⟨sB [(0, (some (.cells (layT [(sW 0 0 (Args.A).length Args.cA), (i6 x2_0), (i6 x2_1), (i6 x2_2), (i6 x2_3), (i6 x2_4), (i6 x2_5), (i6 x2_6), (bO x2_7)]) 47)))], 1, 0⟩)
noncomputable def X_targetBaseq1_2 (x2_0 : Int) (x2_1 : Int) (x2_2 : Int) (x2_3 : Int) (x2_4 : Int) (x2_5 : Int) (x2_6 : Int) (x2_7 : Bool) (x2_8 : Int) (x2_9 : Int) (x2_10 : NL) (x2_11 : Int) (r : (Int × Int) ⊕ (Unit)) : Ex × XSt := match r with
 | .inl (z2_0, z2_1) => (.exit 1, (sT 61 [(0, (sW 0 0 (Args.A).length Args.cA)), (5, (pN 0 0)), (6, (i6 z2_0)), (7, (i6 z2_1))], [], ⟨sB [(0, (some (.cells (layT [(sW 0 0 (Args.A).length Args.cA), (i6 x2_0), (i6 x2_1), (i6 x2_2), (i6 x2_3), (i6 x2_4), (i6 x2_5), (i6 x2_6), (bO x2_7)]) 47)))], 1, 0⟩))
 | .inr _ => (.exit 2, (sT 61 [(6, (i6 x2_8))], [], ⟨sB [], 0, 0⟩))
noncomputable abbrev Q_targetBaseq1_2 (rnd : Option Nat) (x2_0 : Int) (x2_1 : Int) (x2_2 : Int) (x2_3 : Int) (x2_4 : Int) (x2_5 : Int) (x2_6 : Int) (x2_7 : Bool) (x2_8 : Int) (x2_9 : Int) (x2_10 : NL) (x2_11 : Int) (st : Int) (c : Ex × XSt) : Prop := CG P rnd (fnN P 8) 0 (codeOf P 8 [false, false, true, false, true, false, false, false, true, true, true, true, false, true]) (S_targetBaseq1_2 x2_0 x2_1 x2_2 x2_3 x2_4 x2_5 x2_6 x2_7 x2_8 x2_9 x2_10 x2_11 st) c
noncomputable abbrev U_targetBaseq1_2 (rd : Option Nat) (x2_0 : Int) (x2_1 : Int) (x2_2 : Int) (x2_3 : Int) (x2_4 : Int) (x2_5 : Int) (x2_6 : Int) (x2_7 : Bool) (x2_8 : Int) (x2_9 : Int) (x2_10 : NL) (x2_11 : Int) (st : Int) (r : (Int × Int) ⊕ (Unit)) : Prop := CG P rd (fnN P 8) 0 (codeOf P 8 [false, true, false, true, false, false, false, true, true, true, true, false, true]) (S_targetBaseq1_2 x2_0 x2_1 x2_2 x2_3 x2_4 x2_5 x2_6 x2_7 x2_8 x2_9 x2_10 x2_11 st) (X_targetBaseq1_2 x2_0 x2_1 x2_2 x2_3 x2_4 x2_5 x2_6 x2_7 x2_8 x2_9 x2_10 x2_11 r)
def B_targetBaseq1_2 (n : Nat) (x2_0 : Int) (x2_1 : Int) (x2_2 : Int) (x2_3 : Int) (x2_4 : Int) (x2_5 : Int) (x2_6 : Int) (x2_7 : Bool) (x2_8 : Int) (x2_9 : Int) (x2_10 : NL) (x2_11 : Int) (st : Int) : Option ((Int) ⊕ ((Int × Int) ⊕ (Unit))) := match st with
 | x2_12 =>
  if x2_12 < x2_11 then
   if 0 ≤ x2_12 ∧ x2_12 < (((x2_10).l.length : Nat) : Int) then
    if (x2_12).toNat < ((x2_10).l).length then
     ((some (((x2_10).l).getD (x2_12).toNat 0))).bind fun y2_4_ =>
     if (w64 (x2_12 + (1 : Int))) < (((x2_10).l.length : Nat) : Int) then
      if 0 ≤ (w64 (x2_12 + (1 : Int))) ∧ (w64 (x2_12 + (1 : Int))) < (((x2_10).l.length : Nat) : Int) then
       if ((w64 (x2_12 + (1 : Int)))).toNat < ((x2_10).l).length then
        ((some (((x2_10).l).getD ((w64 (x2_12 + (1 : Int)))).toNat 0))).bind fun y2_8_ =>
        (m_targetsearchholdsq1 n x2_0 x2_1 x2_2 x2_3 x2_4 x2_5 x2_6 x2_7 y2_4_ y2_8_).bind fun y2_9_ =>
        if y2_9_ = true then
         some (.inr (.inl (y2_4_, y2_8_)))
        else
         some (.inl (w64 (x2_12 + (1 : Int))))
       else none
      else none
     else
      (m_targetsearchholdsq1 n x2_0 x2_1 x2_2 x2_3 x2_4 x2_5 x2_6 x2_7 y2_4_ x2_9).bind fun y2_6_ =>
      if y2_6_ = true then
       some (.inr (.inl (y2_4_, x2_9)))
      else
       some (.inl (w64 (x2_12 + (1 : Int))))
    else none
   else none
  else
   some (.inr (.inr ()))
def m_targetBaseq1_2 (n : Nat) (x2_0 : Int) (x2_1 : Int) (x2_2 : Int) (x2_3 : Int) (x2_4 : Int) (x2_5 : Int) (x2_6 : Int) (x2_7 : Bool) (x2_8 : Int) (x2_9 : Int) (x2_10 : NL) (x2_11 : Int) (st : Int) : Option ((Int × Int) ⊕ (Unit)) := iterM (B_targetBaseq1_2 n x2_0 x2_1 x2_2 x2_3 x2_4 x2_5 x2_6 x2_7 x2_8 x2_9 x2_10 x2_11) n st
theorem q_targetBaseq1_2_0 (n : Nat) {rnd : Option Nat} (x2_0 x2_1 x2_2 x2_3 x2_4 x2_5 x2_6 : Int) (x2_7 : Bool) (x2_8 x2_9 : Int) (x2_10 : NL) (x2_11 x2_12 : Int) (hy2_1 : x2_12 < x2_11) (hy2_2 : 0 ≤ x2_12 ∧ x2_12 < (((x2_10).l.length : Nat) : Int)) (hy2_3 : (x2_12).toNat < ((x2_10).l).length) (y2_4_ : Int) (hy2_4 : (some (((x2_10).l).getD (x2_12).toNat 0)) = some y2_4_) (hy2_5 : (w64 (x2_12 + (1 : Int))) < (((x2_10).l.length : Nat) : Int)) (hy2_6 : 0 ≤ (w64 (x2_12 + (1 : Int))) ∧ (w64 (x2_12 + (1 : Int))) < (((x2_10).l.length : Nat) : Int)) (hy2_7 : ((w64 (x2_12 + (1 : Int)))).toNat < ((x2_10).l).length) (y2_8_ : Int) (hy2_8 : (some (((x2_10).l).getD ((w64 (x2_12 + (1 : Int)))).toNat 0)) = some y2_8_) (y2_9_ : Bool) (hy2_9 : m_targetsearchholdsq1 n x2_0 x2_1 x2_2 x2_3 x2_4 x2_5 x2_6 x2_7 y2_4_ y2_8_ = some y2_9_) (hy2_10 : y2_9_ = true) : Q_targetBaseq1_2 rnd x2_0 x2_1 x2_2 x2_3 x2_4 x2_5 x2_6 x2_7 x2_8 x2_9 x2_10 x2_11 x2_12 (X_targetBaseq1_2 x2_0 x2_1 x2_2 x2_3 x2_4 x2_5 x2_6 x2_7 x2_8 x2_9 x2_10 x2_11 (.inl (y2_4_, y2_8_))) :=
 runC2 hm (L := lT []) ⟨[0, 5, 6, 7], [(0, 0, false)], 1, 0⟩ (zz 1 (xdT hy2_1) <|
zz 8 (xk9 (Nat.add (x2_10).num 64) (x2_10).cap hy2_2) <|
zz 9 (nk10 hy2_4 hy2_3) <|
zz 21 (xdT hy2_5) <|
zz 26 (xk9 (Nat.add (x2_10).num 64) (x2_10).cap hy2_6) <|
zz 27 (nk10 hy2_8 hy2_7) <|
yy 33 (.call (C_targetsearchholdsq1 x2_0 x2_1 x2_2 x2_3 x2_4 x2_5 x2_6 x2_7 y2_4_ y2_8_ y2_9_ [] [])) <|
ww (m_targetsearchholdsq1_ok n x2_0 x2_1 x2_2 x2_3 x2_4 x2_5 x2_6 x2_7 y2_4_ y2_8_ y2_9_ hy2_9) <|
zz 34 (xbT hy2_10) <|
ee) (by kernel_rfl)
theorem q_targetBaseq1_2_1 (n : Nat) {rnd : Option Nat} (x2_0 x2_1 x2_2 x2_3 x2_4 x2_5 x2_6 : Int) (x2_7 : Bool) (x2_8 x2_9 : Int) (x2_10 : NL) (x2_11 x2_12 : Int) (hy2_1 : x2_12 < x2_11) (hy2_2 : 0 ≤ x2_12 ∧ x2_12 < (((x2_10).l.length : Nat) : Int)) (hy2_3 : (x2_12).toNat < ((x2_10).l).length) (y2_4_ : Int) (hy2_4 : (some (((x2_10).l).getD (x2_12).toNat 0)) = some y2_4_) (hy2_5 : (w64 (x2_12 + (1 : Int))) < (((x2_10).l.length : Nat) : Int)) (hy2_6 : 0 ≤ (w64 (x2_12 + (1 : Int))) ∧ (w64 (x2_12 + (1 : Int))) < (((x2_10).l.length : Nat) : Int)) (hy2_7 : ((w64 (x2_12 + (1 : Int)))).toNat < ((x2_10).l).length) (y2_8_ : Int) (hy2_8 : (some (((x2_10).l).getD ((w64 (x2_12 + (1 : Int)))).toNat 0)) = some y2_8_) (y2_9_ : Bool) (hy2_9 : m_targetsearchholdsq1 n x2_0 x2_1 x2_2 x2_3 x2_4 x2_5 x2_6 x2_7 y2_4_ y2_8_ = some y2_9_) (hy2_10 : ¬ (y2_9_ = true)) : Q_targetBaseq1_2 rnd x2_0 x2_1 x2_2 x2_3 x2_4 x2_5 x2_6 x2_7 x2_8 x2_9 x2_10 x2_11 x2_12 (.normal, S_targetBaseq1_2 x2_0 x2_1 x2_2 x2_3 x2_4 x2_5 x2_6 x2_7 x2_8 x2_9 x2_10 x2_11 (w64 (x2_12 + (1 : Int)))) :=
 runC2 hm (L := lT []) ⟨[0, 5, 6, 7, 8, 35, 36, 37], [(0, 0, false)], 1, 0⟩ (zz 1 (xdT hy2_1) <|
zz 8 (xk9 (Nat.add (x2_10).num 64) (x2_10).cap hy2_2) <|
zz 9 (nk10 hy2_4 hy2_3) <|
zz 21 (xdT hy2_5) <|
zz 26 (xk9 (Nat.add (x2_10).num 64) (x2_10).cap hy2_6) <|
zz 27 (nk10 hy2_8 hy2_7) <|
yy 33 (.call (C_targetsearchholdsq1 x2_0 x2_1 x2_2 x2_3 x2_4 x2_5 x2_6 x2_7 y2_4_ y2_8_ y2_9_ [] [])) <|
ww (m_targetsearchholdsq1_ok n x2_0 x2_1 x2_2 x2_3 x2_4 x2_5 x2_6 x2_7 y2_4_ y2_8_ y2_9_ hy2_9) <|
zz 34 (xbF hy2_10) <|
ee) (by kernel_rfl)
theorem q_targetBaseq1_2_2 (n : Nat) {rnd : Option Nat} (x2_0 x2_1 x2_2 x2_3 x2_4 x2_5 x2_6 : Int) (x2_7 : Bool) (x2_8 x2_9 : Int) (x2_10 : NL) (x2_11 x2_12 : Int) (hy2_1 : x2_12 < x2_11) (hy2_2 : 0 ≤ x2_12 ∧ x2_12 < (((x2_10).l.length : Nat) : Int)) (hy2_3 : (x2_12).toNat < ((x2_10).l).length) (y2_4_ : Int) (hy2_4 : (some (((x2_10).l).getD (x2_12).toNat 0)) = some y2_4_) (hy2_5 : ¬ ((w64 (x2_12 + (1 : Int))) < (((x2_10).l.length : Nat) : Int))) (y2_6_ : Bool) (hy2_6 : m_targetsearchholdsq1 n x2_0 x2_1 x2_2 x2_3 x2_4 x2_5 x2_6 x2_7 y2_4_ x2_9 = some y2_6_) (hy2_7 : y2_6_ = true) : Q_targetBaseq1_2 rnd x2_0 x2_1 x2_2 x2_3 x2_4 x2_5 x2_6 x2_7 x2_8 x2_9 x2_10 x2_11 x2_12 (X_targetBaseq1_2 x2_0 x2_1 x2_2 x2_3 x2_4 x2_5 x2_6 x2_7 x2_8 x2_9 x2_10 x2_11 (.inl (y2_4_, x2_9))) :=
 runC2 hm (L := lT []) ⟨[0, 5, 6, 7], [(0, 0, false)], 1, 0⟩ (zz 1 (xdT hy2_1) <|
zz 8 (xk9 (Nat.add (x2_10).num 64) (x2_10).cap hy2_2) <|
zz 9 (nk10 hy2_4 hy2_3) <|
zz 21 (xdF hy2_5) <|
yy 27 (.call (C_targetsearchholdsq1 x2_0 x2_1 x2_2 x2_3 x2_4 x2_5 x2_6 x2_7 y2_4_ x2_9 y2_6_ [] [])) <|
ww (m_targetsearchholdsq1_ok n x2_0 x2_1 x2_2 x2_3 x2_4 x2_5 x2_6 x2_7 y2_4_ x2_9 y2_6_ hy2_6) <|
zz 28 (xbT hy2_7) <|
ee) (by kernel_rfl)
theorem q_targetBaseq1_2_3 (n : Nat) {rnd : Option Nat} (x2_0 x2_1 x2_2 x2_3 x2_4 x2_5 x2_6 : Int) (x2_7 : Bool) (x2_8 x2_9 : Int) (x2_10 : NL) (x2_11 x2_12 : Int) (hy2_1 : x2_12 < x2_11) (hy2_2 : 0 ≤ x2_12 ∧ x2_12 < (((x2_10).l.length : Nat) : Int)) (hy2_3 : (x2_12).toNat < ((x2_10).l).length) (y2_4_ : Int) (hy2_4 : (some (((x2_10).l).getD (x2_12).toNat 0)) = some y2_4_) (hy2_5 : ¬ ((w64 (x2_12 + (1 : Int))) < (((x2_10).l.length : Nat) : Int))) (y2_6_ : Bool) (hy2_6 : m_targetsearchholdsq1 n x2_0 x2_1 x2_2 x2_3 x2_4 x2_5 x2_6 x2_7 y2_4_ x2_9 = some y2_6_) (hy2_7 : ¬ (y2_6_ = true)) : Q_targetBaseq1_2 rnd x2_0 x2_1 x2_2 x2_3 x2_4 x2_5 x2_6 x2_7 x2_8 x2_9 x2_10 x2_11 x2_12 (.normal, S_targetBaseq1_2 x2_0 x2_1 x2_2 x2_3 x2_4 x2_5 x2_6 x2_7 x2_8 x2_9 x2_10 x2_11 (w64 (x2_12 + (1 : Int)))) :=
 runC2 hm (L := lT []) ⟨[0, 5, 6, 7, 8, 35, 36, 37], [(0, 0, false)], 1, 0⟩ (zz 1 (xdT hy2_1) <|
zz 8 (xk9 (Nat.add (x2_10).num 64) (x2_10).cap hy2_2) <|
zz 9 (nk10 hy2_4 hy2_3) <|
zz 21 (xdF hy2_5) <|
yy 27 (.call (C_targetsearchholdsq1 x2_0 x2_1 x2_2 x2_3 x2_4 x2_5 x2_6 x2_7 y2_4_ x2_9 y2_6_ [] [])) <|
ww (m_targetsearchholdsq1_ok n x2_0 x2_1 x2_2 x2_3 x2_4 x2_5 x2_6 x2_7 y2_4_ x2_9 y2_6_ hy2_6) <|
zz 28 (xbF hy2_7) <|
ee) (by kernel_rfl)
theorem q_targetBaseq1_2_4 (n : Nat) {rnd : Option Nat} (x2_0 x2_1 x2_2 x2_3 x2_4 x2_5 x2_6 : Int) (x2_7 : Bool) (x2_8 x2_9 : Int) (x2_10 : NL) (x2_11 x2_12 : Int) (hy2_1 : ¬ (x2_12 < x2_11)) : Q_targetBaseq1_2 rnd x2_0 x2_1 x2_2 x2_3 x2_4 x2_5 x2_6 x2_7 x2_8 x2_9 x2_10 x2_11 x2_12 (X_targetBaseq1_2 x2_0 x2_1 x2_2 x2_3 x2_4 x2_5 x2_6 x2_7 x2_8 x2_9 x2_10 x2_11 (.inr ())) :=
 runC2 hm (L := lT []) ⟨[6], [], 0, 0⟩ (zz 1 (xdF hy2_1) <|
ee) (by kernel_rfl)
theorem m_targetBaseq1_2_ok (n : Nat) {rnd : Option Nat} (x2_0 : Int) (x2_1 : Int) (x2_2 : Int) (x2_3 : Int) (x2_4 : Int) (x2_5 : Int) (x2_6 : Int) (x2_7 : Bool) (x2_8 : Int) (x2_9 : Int) (x2_10 : NL) (x2_11 : Int) (st : Int) (r : (Int × Int) ⊕ (Unit)) (h : m_targetBaseq1_2 n x2_0 x2_1 x2_2 x2_3 x2_4 x2_5 x2_6 x2_7 x2_8 x2_9 x2_10 x2_11 st = some r) : CG P rnd (fnN P 8) 0 (codeOf P 8 [false, true, false, true, false, false, false, true, true, true, true, false, true]) (S_targetBaseq1_2 x2_0 x2_1 x2_2 x2_3 x2_4 x2_5 x2_6 x2_7 x2_8 x2_9 x2_10 x2_11 st) (X_targetBaseq1_2 x2_0 x2_1 x2_2 x2_3 x2_4 x2_5 x2_6 x2_7 x2_8 x2_9 x2_10 x2_11 r) :=
 CG.iter (b := codeOf P 8 [false, false, true, false, true, false, false, false, true, true, true, true, false, true]) (by kernel_rfl) (body := B_targetBaseq1_2 n x2_0 x2_1 x2_2 x2_3 x2_4 x2_5 x2_6 x2_7 x2_8 x2_9 x2_10 x2_11) (S := S_targetBaseq1_2 x2_0 x2_1 x2_2 x2_3 x2_4 x2_5 x2_6 x2_7 x2_8 x2_9 x2_10 x2_11) (X := X_targetBaseq1_2 x2_0 x2_1 x2_2 x2_3 x2_4 x2_5 x2_6 x2_7 x2_8 x2_9 x2_10 x2_11)
  (fun x2_12 s' h => by
  unfold B_targetBaseq1_2 at h
  dsimp only at h
  by_cases hy2_1 : x2_12 < x2_11
  ·rw [if_pos hy2_1] at h
   by_cases hy2_2 : 0 ≤ x2_12 ∧ x2_12 < (((x2_10).l.length : Nat) : Int)
   ·rw [if_pos hy2_2] at h
    by_cases hy2_3 : (x2_12).toNat < ((x2_10).l).length
    ·rw [if_pos hy2_3] at h
     obtain ⟨y2_4_, hy2_4, h⟩ := Option.bind_eq_some_iff.1 h
     by_cases hy2_5 : (w64 (x2_12 + (1 : Int))) < (((x2_10).l.length : Nat) : Int)
     ·rw [if_pos hy2_5] at h
      by_cases hy2_6 : 0 ≤ (w64 (x2_12 + (1 : Int))) ∧ (w64 (x2_12 + (1 : Int))) < (((x2_10).l.length : Nat) : Int)
      ·rw [if_pos hy2_6] at h
       by_cases hy2_7 : ((w64 (x2_12 + (1 : Int)))).toNat < ((x2_10).l).length
       ·rw [if_pos hy2_7] at h
        obtain ⟨y2_8_, hy2_8, h⟩ := Option.bind_eq_some_iff.1 h
        obtain ⟨y2_9_, hy2_9, h⟩ := Option.bind_eq_some_iff.1 h
        by_cases hy2_10 : y2_9_ = true
        ·rw [if_pos hy2_10] at h
         cases h
        ·rw [if_neg hy2_10] at h
         obtain rfl := Sum.inl.inj (Option.some.inj h); exact q_targetBaseq1_2_1 n x2_0 x2_1 x2_2 x2_3 x2_4 x2_5 x2_6 x2_7 x2_8 x2_9 x2_10 x2_11 x2_12 hy2_1 hy2_2 hy2_3 y2_4_ hy2_4 hy2_5 hy2_6 hy2_7 y2_8_ hy2_8 y2_9_ hy2_9 hy2_10
       ·rw [if_neg hy2_7] at h; cases h
      ·rw [if_neg hy2_6] at h; cases h
     ·rw [if_neg hy2_5] at h
      obtain ⟨y2_6_, hy2_6, h⟩ := Option.bind_eq_some_iff.1 h
      by_cases hy2_7 : y2_6_ = true
      ·rw [if_pos hy2_7] at h
       cases h
      ·rw [if_neg hy2_7] at h
       obtain rfl := Sum.inl.inj (Option.some.inj h); exact q_targetBaseq1_2_3 n x2_0 x2_1 x2_2 x2_3 x2_4 x2_5 x2_6 x2_7 x2_8 x2_9 x2_10 x2_11 x2_12 hy2_1 hy2_2 hy2_3 y2_4_ hy2_4 hy2_5 y2_6_ hy2_6 hy2_7
    ·rw [if_neg hy2_3] at h; cases h
   ·rw [if_neg hy2_2] at h; cases h
  ·rw [if_neg hy2_1] at h
   cases h)
  (fun x2_12 r h => by
  unfold B_targetBaseq1_2 at h
  dsimp only at h
  by_cases hy2_1 : x2_12 < x2_11
  ·rw [if_pos hy2_1] at h
   by_cases hy2_2 : 0 ≤ x2_12 ∧ x2_12 < (((x2_10).l.length : Nat) : Int)
   ·rw [if_pos hy2_2] at h
    by_cases hy2_3 : (x2_12).toNat < ((x2_10).l).length
    ·rw [if_pos hy2_3] at h
     obtain ⟨y2_4_, hy2_4, h⟩ := Option.bind_eq_some_iff.1 h
     by_cases hy2_5 : (w64 (x2_12 + (1 : Int))) < (((x2_10).l.length : Nat) : Int)
     ·rw [if_pos hy2_5] at h
      by_cases hy2_6 : 0 ≤ (w64 (x2_12 + (1 : Int))) ∧ (w64 (x2_12 + (1 : Int))) < (((x2_10).l.length : Nat) : Int)
      ·rw [if_pos hy2_6] at h
       by_cases hy2_7 : ((w64 (x2_12 + (1 : Int)))).toNat < ((x2_10).l).length
       ·rw [if_pos hy2_7] at h
        obtain ⟨y2_8_, hy2_8, h⟩ := Option.bind_eq_some_iff.1 h
        obtain ⟨y2_9_, hy2_9, h⟩ := Option.bind_eq_some_iff.1 h
        by_cases hy2_10 : y2_9_ = true
        ·rw [if_pos hy2_10] at h
         obtain rfl := Sum.inr.inj (Option.some.inj h); exact q_targetBaseq1_2_0 n x2_0 x2_1 x2_2 x2_3 x2_4 x2_5 x2_6 x2_7 x2_8 x2_9 x2_10 x2_11 x2_12 hy2_1 hy2_2 hy2_3 y2_4_ hy2_4 hy2_5 hy2_6 hy2_7 y2_8_ hy2_8 y2_9_ hy2_9 hy2_10
        ·rw [if_neg hy2_10] at h
         cases h
       ·rw [if_neg hy2_7] at h; cases h
      ·rw [if_neg hy2_6] at h; cases h
     ·rw [if_neg hy2_5] at h
      obtain ⟨y2_6_, hy2_6, h⟩ := Option.bind_eq_some_iff.1 h
      by_cases hy2_7 : y2_6_ = true
      ·rw [if_pos hy2_7] at h
       obtain rfl := Sum.inr.inj (Option.some.inj h); exact q_targetBaseq1_2_2 n x2_0 x2_1 x2_2 x2_3 x2_4 x2_5 x2_6 x2_7 x2_8 x2_9 x2_10 x2_11 x2_12 hy2_1 hy2_2 hy2_3 y2_4_ hy2_4 hy2_5 y2_6_ hy2_6 hy2_7
      ·rw [if_neg hy2_7] at h
       cases h
    ·rw [if_neg hy2_3] at h; cases h
   ·rw [if_neg hy2_2] at h; cases h
  ·rw [if_neg hy2_1] at h
   obtain rfl := Sum.inr.inj (Option.some.inj h); exact q_targetBaseq1_2_4 n x2_0 x2_1 x2_2 x2_3 x2_4 x2_5 x2_6 x2_7 x2_8 x2_9 x2_10 x2_11 x2_12 hy2_1)
  (fun r => by intro hx; rcases r with _ | _ <;> cases hx) h
noncomputable def S_targetBaseq1_1 (x1_0 : Int) (x1_1 : Int) (x1_2 : Int) (x1_3 : Int) (x1_4 : Int) (x1_5 : Int) (x1_6 : Int) (x1_7 : Bool) (st : Int × Int) : XSt := match st with
 | (x1_8, x1_9) => (sT 61 [(0, (sW 0 0 (Args.A).length Args.cA)), (5, (pN 0 0)), (6, (i6 x1_8)), (7, (i6 x1_9))], [], ⟨sB [(0, (some (.cells (layT [(sW 0 0 (Args.A).length Args.cA), (i6 x1_0), (i6 x1_1), (i6 x1_2), (i6 x1_3), (i6 x1_4), (i6 x1_5), (i6 x1_6), (bO x1_7)]) 47)))], 1, 0⟩)
noncomputable def X_targetBaseq1_1 (x1_0 : Int) (x1_1 : Int) (x1_2 : Int) (x1_3 : Int) (x1_4 : Int) (x1_5 : Int) (x1_6 : Int) (x1_7 : Bool) (r : Int) : Ex × XSt := match r with
 | z1_0 => (.ret, (sT 61 [(4, (i6 z1_0))], [], ⟨sB [], 0, 0⟩))
noncomputable abbrev Q_targetBaseq1_1 (rnd : Option Nat) (x1_0 : Int) (x1_1 : Int) (x1_2 : Int) (x1_3 : Int) (x1_4 : Int) (x1_5 : Int) (x1_6 : Int) (x1_7 : Bool) (st : Int × Int) (c : Ex × XSt) : Prop := CG P rnd (fnN P 8) 0 (codeOf P 8 [false, false, true, true, true, true, false, true]) (S_targetBaseq1_1 x1_0 x1_1 x1_2 x1_3 x1_4 x1_5 x1_6 x1_7 st) c
noncomputable abbrev U_targetBaseq1_1 (rd : Option Nat) (x1_0 : Int) (x1_1 : Int) (x1_2 : Int) (x1_3 : Int) (x1_4 : Int) (x1_5 : Int) (x1_6 : Int) (x1_7 : Bool) (st : Int × Int) (r : Int) : Prop := CG P rd (fnN P 8) 0 (codeOf P 8 [false, true, true, true, true, false, true]) (S_targetBaseq1_1 x1_0 x1_1 x1_2 x1_3 x1_4 x1_5 x1_6 x1_7 st) (X_targetBaseq1_1 x1_0 x1_1 x1_2 x1_3 x1_4 x1_5 x1_6 x1_7 r)
def B_targetBaseq1_1 (n : Nat) (x1_0 : Int) (x1_1 : Int) (x1_2 : Int) (x1_3 : Int) (x1_4 : Int) (x1_5 : Int) (x1_6 : Int) (x1_7 : Bool) (st : Int × Int) : Option ((Int × Int) ⊕ (Int)) := match st with
 | (x1_8, x1_9) =>
  if 0 ≤ x1_8 ∧ x1_8 < (((Args.A).length : Nat) : Int) then
   ((some ((Args.A).getD (x1_8).toNat (0, 0, 0, 0, 0, 0, nl0, 0)))).bind fun y1_2_ =>
   match m_targetBaseq1_2 n x1_0 x1_1 x1_2 x1_3 x1_4 x1_5 x1_6 x1_7 x1_8 x1_9 (y1_2_.2.2.2.2.2.2.1) ((((y1_2_.2.2.2.2.2.2.1)).l.length : Nat) : Int) 0 with
   | none => none
   | some (.inl (y1_3_0, y1_3_1)) =>
    some (.inl (y1_3_0, y1_3_1))
   | some (.inr _) =>
    some (.inr x1_8)
  else none
def m_targetBaseq1_1 (n : Nat) (x1_0 : Int) (x1_1 : Int) (x1_2 : Int) (x1_3 : Int) (x1_4 : Int) (x1_5 : Int) (x1_6 : Int) (x1_7 : Bool) (st : Int × Int) : Option (Int) := iterM (B_targetBaseq1_1 n x1_0 x1_1 x1_2 x1_3 x1_4 x1_5 x1_6 x1_7) n st
theorem q_targetBaseq1_1_0 (n : Nat) {rnd : Option Nat} (x1_0 x1_1 x1_2 x1_3 x1_4 x1_5 x1_6 : Int) (x1_7 : Bool) (x1_8 x1_9 : Int) (hy1_1 : 0 ≤ x1_8 ∧ x1_8 < (((Args.A).length : Nat) : Int)) (y1_2_ : Int × Int × Int × Int × Int × Int × NL × Int) (hy1_2 : (some ((Args.A).getD (x1_8).toNat (0, 0, 0, 0, 0, 0, nl0, 0))) = some y1_2_) (y1_3_0 y1_3_1 : Int) (hy1_3 : m_targetBaseq1_2 n x1_0 x1_1 x1_2 x1_3 x1_4 x1_5 x1_6 x1_7 x1_8 x1_9 (y1_2_.2.2.2.2.2.2.1) ((((y1_2_.2.2.2.2.2.2.1)).l.length : Nat) : Int) 0 = some (.inl (y1_3_0, y1_3_1))) : Q_targetBaseq1_1 rnd x1_0 x1_1 x1_2 x1_3 x1_4 x1_5 x1_6 x1_7 (x1_8, x1_9) (.normal, S_targetBaseq1_1 x1_0 x1_1 x1_2 x1_3 x1_4 x1_5 x1_6 x1_7 (y1_3_0, y1_3_1)) :=
 runC2 hm (L := lT [(14, ⟨⟨[0, 5, 6, 7, 8, 35, 36, 37], [(0, 0, false)], 1, 0⟩, (X_targetBaseq1_2 x1_0 x1_1 x1_2 x1_3 x1_4 x1_5 x1_6 x1_7 x1_8 x1_9 (y1_2_.2.2.2.2.2.2.1) ((((y1_2_.2.2.2.2.2.2.1)).l.length : Nat) : Int) (.inl (y1_3_0, y1_3_1))).1, (X_targetBaseq1_2 x1_0 x1_1 x1_2 x1_3 x1_4 x1_5 x1_6 x1_7 x1_8 x1_9 (y1_2_.2.2.2.2.2.2.1) ((((y1_2_.2.2.2.2.2.2.1)).l.length : Nat) : Int) (.inl (y1_3_0, y1_3_1))).2⟩)]) ⟨[0, 5, 6, 7], [(0, 0, false)], 1, 0⟩ (zz 4 (xk1 0 Args.cA hy1_1) <|
zz 5 (fk7 ((x1_8).toNat * 8)) <|
zz 6 (lk8 hy1_2 (toNatLt hy1_1)) <|
ww (p := U_targetBaseq1_2 rnd x1_0 x1_1 x1_2 x1_3 x1_4 x1_5 x1_6 x1_7 x1_8 x1_9 (y1_2_.2.2.2.2.2.2.1) ((((y1_2_.2.2.2.2.2.2.1)).l.length : Nat) : Int) 0 (.inl (y1_3_0, y1_3_1))) (m_targetBaseq1_2_ok n x1_0 x1_1 x1_2 x1_3 x1_4 x1_5 x1_6 x1_7 x1_8 x1_9 (y1_2_.2.2.2.2.2.2.1) ((((y1_2_.2.2.2.2.2.2.1)).l.length : Nat) : Int) 0 (.inl (y1_3_0, y1_3_1)) hy1_3) <|
ee) (by kernel_rfl)
theorem q_targetBaseq1_1_1 (n : Nat) {rnd : Option Nat} (x1_0 x1_1 x1_2 x1_3 x1_4 x1_5 x1_6 : Int) (x1_7 : Bool) (x1_8 x1_9 : Int) (hy1_1 : 0 ≤ x1_8 ∧ x1_8 < (((Args.A).length : Nat) : Int)) (y1_2_ : Int × Int × Int × Int × Int × Int × NL × Int) (hy1_2 : (some ((Args.A).getD (x1_8).toNat (0, 0, 0, 0, 0, 0, nl0, 0))) = some y1_2_) (hy1_3 : m_targetBaseq1_2 n x1_0 x1_1 x1_2 x1_3 x1_4 x1_5 x1_6 x1_7 x1_8 x1_9 (y1_2_.2.2.2.2.2.2.1) ((((y1_2_.2.2.2.2.2.2.1)).l.length : Nat) : Int) 0 = some (.inr ())) : Q_targetBaseq1_1 rnd x1_0 x1_1 x1_2 x1_3 x1_4 x1_5 x1_6 x1_7 (x1_8, x1_9) (X_targetBaseq1_1 x1_0 x1_1 x1_2 x1_3 x1_4 x1_5 x1_6 x1_7 x1_8) :=
 runC2 hm (L := lT [(14, ⟨⟨[0, 5, 6, 7, 8, 35, 36, 37], [(0, 0, false)], 1, 0⟩, (X_targetBaseq1_2 x1_0 x1_1 x1_2 x1_3 x1_4 x1_5 x1_6 x1_7 x1_8 x1_9 (y1_2_.2.2.2.2.2.2.1) ((((y1_2_.2.2.2.2.2.2.1)).l.length : Nat) : Int) (.inr ())).1, (X_targetBaseq1_2 x1_0 x1_1 x1_2 x1_3 x1_4 x1_5 x1_6 x1_7 x1_8 x1_9 (y1_2_.2.2.2.2.2.2.1) ((((y1_2_.2.2.2.2.2.2.1)).l.length : Nat) : Int) (.inr ())).2⟩)]) ⟨[4], [], 0, 0⟩ (zz 4 (xk1 0 Args.cA hy1_1) <|
zz 5 (fk7 ((x1_8).toNat * 8)) <|
zz 6 (lk8 hy1_2 (toNatLt hy1_1)) <|
ww (p := U_targetBaseq1_2 rnd x1_0 x1_1 x1_2 x1_3 x1_4 x1_5 x1_6 x1_7 x1_8 x1_9 (y1_2_.2.2.2.2.2.2.1) ((((y1_2_.2.2.2.2.2.2.1)).l.length : Nat) : Int) 0 (.inr ())) (m_targetBaseq1_2_ok n x1_0 x1_1 x1_2 x1_3 x1_4 x1_5 x1_6 x1_7 x1_8 x1_9 (y1_2_.2.2.2.2.2.2.1) ((((y1_2_.2.2.2.2.2.2.1)).l.length : Nat) : Int) 0 (.inr ()) hy1_3) <|
ee) (by kernel_rfl)
theorem m_targetBaseq1_1_ok (n : Nat) {rnd : Option Nat} (x1_0 : Int) (x1_1 : Int) (x1_2 : Int) (x1_3 : Int) (x1_4 : Int) (x1_5 : Int) (x1_6 : Int) (x1_7 : Bool) (st : Int × Int) (r : Int) (h : m_targetBaseq1_1 n x1_0 x1_1 x1_2 x1_3 x1_4 x1_5 x1_6 x1_7 st = some r) : CG P rnd (fnN P 8) 0 (codeOf P 8 [false, true, true, true, true, false, true]) (S_targetBaseq1_1 x1_0 x1_1 x1_2 x1_3 x1_4 x1_5 x1_6 x1_7 st) (X_targetBaseq1_1 x1_0 x1_1 x1_2 x1_3 x1_4 x1_5 x1_6 x1_7 r) :=
 CG.iter (b := codeOf P 8 [false, false, true, true, true, true, false, true]) (by kernel_rfl) (body := B_targetBaseq1_1 n x1_0 x1_1 x1_2 x1_3 x1_4 x1_5 x1_6 x1_7) (S := S_targetBaseq1_1 x1_0 x1_1 x1_2 x1_3 x1_4 x1_5 x1_6 x1_7) (X := X_targetBaseq1_1 x1_0 x1_1 x1_2 x1_3 x1_4 x1_5 x1_6 x1_7)
  (fun s s' h => by
  obtain ⟨x1_8, x1_9⟩ := s
  unfold B_targetBaseq1_1 at h
  dsimp only at h
  by_cases hy1_1 : 0 ≤ x1_8 ∧ x1_8 < (((Args.A).length : Nat) : Int)
  ·rw [if_pos hy1_1] at h
   obtain ⟨y1_2_, hy1_2, h⟩ := Option.bind_eq_some_iff.1 h
   rcases hy1_3 : m_targetBaseq1_2 n x1_0 x1_1 x1_2 x1_3 x1_4 x1_5 x1_6 x1_7 x1_8 x1_9 (y1_2_.2.2.2.2.2.2.1) ((((y1_2_.2.2.2.2.2.2.1)).l.length : Nat) : Int) 0 with _ | (⟨y1_3_0, y1_3_1⟩ | ⟨⟩)
   ·rw [hy1_3] at h; cases h
   ·rw [hy1_3] at h
    dsimp only at h
    obtain rfl := Sum.inl.inj (Option.some.inj h); exact q_targetBaseq1_1_0 n x1_0 x1_1 x1_2 x1_3 x1_4 x1_5 x1_6 x1_7 x1_8 x1_9 hy1_1 y1_2_ hy1_2 y1_3_0 y1_3_1 hy1_3
   ·rw [hy1_3] at h
    dsimp only at h
    cases h
  ·rw [if_neg hy1_1] at h; cases h)
  (fun s r h => by
  obtain ⟨x1_8, x1_9⟩ := s
  unfold B_targetBaseq1_1 at h
  dsimp only at h
  by_cases hy1_1 : 0 ≤ x1_8 ∧ x1_8 < (((Args.A).length : Nat) : Int)
  ·rw [if_pos hy1_1] at h
   obtain ⟨y1_2_, hy1_2, h⟩ := Option.bind_eq_some_iff.1 h
   rcases hy1_3 : m_targetBaseq1_2 n x1_0 x1_1 x1_2 x1_3 x1_4 x1_5 x1_6 x1_7 x1_8 x1_9 (y1_2_.2.2.2.2.2.2.1) ((((y1_2_.2.2.2.2.2.2.1)).l.length : Nat) : Int) 0 with _ | (⟨y1_3_0, y1_3_1⟩ | ⟨⟩)
   ·rw [hy1_3] at h; cases h
   ·rw [hy1_3] at h
    dsimp only at h
    cases h
   ·rw [hy1_3] at h
    dsimp only at h
    obtain rfl := Sum.inr.inj (Option.some.inj h); exact q_targetBaseq1_1_1 n x1_0 x1_1 x1_2 x1_3 x1_4 x1_5 x1_6 x1_7 x1_8 x1_9 hy1_1 y1_2_ hy1_2 hy1_3
  ·rw [if_neg hy1_1] at h; cases h)
  (fun r => by intro hx; cases hx) h
def m_targetBaseq1 (n : Nat) (a0 : Int) (a1 : Int) (a2 : Int) (a3 : Int) (a4 : Int) : Option (Int) :=
 (m_targetrootedq1 n).bind fun c1_ =>
 if c1_ = true then
  if a0 < (0 : Int) then
   some 0
  else
   if a0 > (63 : Int) then
    some 0
   else
    (m_targetsearchForq1 n a0 a1 a2 a3 a4).bind fun t => match t with
    | (c5_0, c5_1, c5_2) =>
     (m_targetBaseq1_1 n a0 a1 a2 a3 a4 c5_0 c5_1 c5_2 (0, (((Args.A).length : Nat) : Int))).bind fun c6_ =>
     some c6_
 else
  some 0
theorem p_targetBaseq1_0 (n : Nat) (a0 a1 a2 a3 a4 : Int) (c1_ : Bool) (hc1 : m_targetrootedq1 n = some c1_) (hc2 : c1_ = true) (hc3 : a0 < (0 : Int)) : G_targetBaseq1 a0 a1 a2 a3 a4 0 :=
 runF2 hm (L := lT []) ⟨[4], [], 0, 0⟩ (yy 6 (.call (C_targetrootedq1  c1_ [] [])) <|
ww (m_targetrootedq1_ok n  c1_ hc1) <|
yy 7 (vf) <|
ww (p := (Value.bool (!c1_)) = (Value.bool false)) (vBn hc2) <|
zz 11 (xdT hc3) <|
ee) (by kernel_rfl)
theorem p_targetBaseq1_1 (n : Nat) (a0 a1 a2 a3 a4 : Int) (c1_ : Bool) (hc1 : m_targetrootedq1 n = some c1_) (hc2 : c1_ = true) (hc3 : ¬ (a0 < (0 : Int))) (hc4 : a0 > (63 : Int)) : G_targetBaseq1 a0 a1 a2 a3 a4 0 :=
 runF2 hm (L := lT []) ⟨[4], [], 0, 0⟩ (yy 6 (.call (C_targetrootedq1  c1_ [] [])) <|
ww (m_targetrootedq1_ok n  c1_ hc1) <|
yy 7 (vf) <|
ww (p := (Value.bool (!c1_)) = (Value.bool false)) (vBn hc2) <|
zz 11 (xdF hc3) <|
zz 16 (xdT hc4) <|
ee) (by kernel_rfl)
theorem p_targetBaseq1_2 (n : Nat) (a0 a1 a2 a3 a4 : Int) (c1_ : Bool) (hc1 : m_targetrootedq1 n = some c1_) (hc2 : c1_ = true) (hc3 : ¬ (a0 < (0 : Int))) (hc4 : ¬ (a0 > (63 : Int))) (c5_0 c5_1 : Int) (c5_2 : Bool) (hc5 : m_targetsearchForq1 n a0 a1 a2 a3 a4 = some (c5_0, c5_1, c5_2)) (c6_ : Int) (hc6 : m_targetBaseq1_1 n a0 a1 a2 a3 a4 c5_0 c5_1 c5_2 (0, (((Args.A).length : Nat) : Int)) = some c6_) : G_targetBaseq1 a0 a1 a2 a3 a4 c6_ :=
 runF2 hm (L := lT [(32, ⟨⟨[0, 5, 6, 7], [(0, 2, false)], 1, 0⟩, (X_targetBaseq1_1 a0 a1 a2 a3 a4 c5_0 c5_1 c5_2 c6_).1, (X_targetBaseq1_1 a0 a1 a2 a3 a4 c5_0 c5_1 c5_2 c6_).2⟩)]) ⟨[4], [], 0, 0⟩ (yy 6 (.call (C_targetrootedq1  c1_ [] [])) <|
ww (m_targetrootedq1_ok n  c1_ hc1) <|
yy 7 (vf) <|
ww (p := (Value.bool (!c1_)) = (Value.bool false)) (vBn hc2) <|
zz 11 (xdF hc3) <|
zz 16 (xdF hc4) <|
yy 22 (.call (C_targetsearchForq1 a0 a1 a2 a3 a4 (c5_0, c5_1, c5_2) [] [(1, 0, false)])) <|
ww (m_targetsearchForq1_ok n a0 a1 a2 a3 a4 (c5_0, c5_1, c5_2) hc5) <|
ww (p := U_targetBaseq1_1 none a0 a1 a2 a3 a4 c5_0 c5_1 c5_2 (0, (((Args.A).length : Nat) : Int)) c6_) (m_targetBaseq1_1_ok n a0 a1 a2 a3 a4 c5_0 c5_1 c5_2 (0, (((Args.A).length : Nat) : Int)) c6_ hc6) <|
ee) (by kernel_rfl)
theorem p_targetBaseq1_3 (n : Nat) (a0 a1 a2 a3 a4 : Int) (c1_ : Bool) (hc1 : m_targetrootedq1 n = some c1_) (hc2 : ¬ (c1_ = true)) : G_targetBaseq1 a0 a1 a2 a3 a4 0 :=
 runF2 hm (L := lT []) ⟨[4], [], 0, 0⟩ (yy 6 (.call (C_targetrootedq1  c1_ [] [])) <|
ww (m_targetrootedq1_ok n  c1_ hc1) <|
yy 7 (vt) <|
ww (p := (Value.bool (!c1_)) = (Value.bool true)) (vBn (Bool.eq_false_iff.2 hc2)) <|
ee) (by kernel_rfl)
theorem m_targetBaseq1_ok (n : Nat) (a0 : Int) (a1 : Int) (a2 : Int) (a3 : Int) (a4 : Int) (r : Int) (h : m_targetBaseq1 n a0 a1 a2 a3 a4 = some r) : Gv P (.func 8) (A_targetBaseq1 a0 a1 a2 a3 a4) (H_targetBaseq1 a0 a1 a2 a3 a4) (V_targetBaseq1 a0 a1 a2 a3 a4 r) (R_targetBaseq1 a0 a1 a2 a3 a4 r) := by
 unfold m_targetBaseq1 at h
 obtain ⟨c1_, hc1, h⟩ := Option.bind_eq_some_iff.1 h
 by_cases hc2 : c1_ = true
 ·rw [if_pos hc2] at h
  by_cases hc3 : a0 < (0 : Int)
  ·rw [if_pos hc3] at h
   obtain rfl := Option.some.inj h; exact p_targetBaseq1_0 n a0 a1 a2 a3 a4 c1_ hc1 hc2 hc3
  ·rw [if_neg hc3] at h
   by_cases hc4 : a0 > (63 : Int)
   ·rw [if_pos hc4] at h
    obtain rfl := Option.some.inj h; exact p_targetBaseq1_1 n a0 a1 a2 a3 a4 c1_ hc1 hc2 hc3 hc4
   ·rw [if_neg hc4] at h
    obtain ⟨⟨c5_0, c5_1, c5_2⟩, hc5, h⟩ := Option.bind_eq_some_iff.1 h
    dsimp only at h
    obtain ⟨c6_, hc6, h⟩ := Option.bind_eq_some_iff.1 h
    obtain rfl := Option.some.inj h; exact p_targetBaseq1_2 n a0 a1 a2 a3 a4 c1_ hc1 hc2 hc3 hc4 c5_0 c5_1 c5_2 hc5 c6_ hc6
 ·rw [if_neg hc2] at h
  obtain rfl := Option.some.inj h; exact p_targetBaseq1_3 n a0 a1 a2 a3 a4 c1_ hc1 hc2

noncomputable def A_viewportref20slotq1 (a0 : Int) : List Value := [(i6 a0)]
noncomputable def H_viewportref20slotq1 (a0 : Int) : AH := ⟨sB [], 0, 0⟩
noncomputable def V_viewportref20slotq1 (a0 : Int) (r : Bool) : Value := match r with
 | o0 => (bO o0)
noncomputable def R_viewportref20slotq1 (a0 : Int) (r : Bool) : AH := match r with
 | o0 => ⟨sB [], 0, 0⟩
noncomputable abbrev G_viewportref20slotq1 (a0 : Int) (r : Bool) : Prop := Gv P (.func 21) (A_viewportref20slotq1 a0) (H_viewportref20slotq1 a0) (V_viewportref20slotq1 a0 r) (R_viewportref20slotq1 a0 r)
noncomputable abbrev C_viewportref20slotq1 (a0 : Int) (r : Bool) (ins outs : BL) : CallA := ⟨0, ins, V_viewportref20slotq1 a0 r, R_viewportref20slotq1 a0 r, outs⟩
def m_viewportref20slotq1 (n : Nat) (a0 : Int) : Option (Bool) :=
 if a0 ≥ (0 : Int) then
  if a0 ≤ (63 : Int) then
   some true
  else
   some false
 else
  some false
theorem p_viewportref20slotq1_0 (n : Nat) (a0 : Int) (hc1 : a0 ≥ (0 : Int)) (hc2 : a0 ≤ (63 : Int)) : G_viewportref20slotq1 a0 true :=
 runF2 hm (L := lT []) ⟨[2], [], 0, 0⟩ (zz 4 (xdT hc1) <|
zz 7 (xdT hc2) <|
ee) (by kernel_rfl)
theorem p_viewportref20slotq1_1 (n : Nat) (a0 : Int) (hc1 : a0 ≥ (0 : Int)) (hc2 : ¬ (a0 ≤ (63 : Int))) : G_viewportref20slotq1 a0 false :=
 runF2 hm (L := lT []) ⟨[2], [], 0, 0⟩ (zz 4 (xdT hc1) <|
zz 7 (xdF hc2) <|
ee) (by kernel_rfl)
theorem p_viewportref20slotq1_2 (n : Nat) (a0 : Int) (hc1 : ¬ (a0 ≥ (0 : Int))) : G_viewportref20slotq1 a0 false :=
 runF2 hm (L := lT []) ⟨[2], [], 0, 0⟩ (zz 4 (xdF hc1) <|
ee) (by kernel_rfl)
theorem m_viewportref20slotq1_ok (n : Nat) (a0 : Int) (r : Bool) (h : m_viewportref20slotq1 n a0 = some r) : Gv P (.func 21) (A_viewportref20slotq1 a0) (H_viewportref20slotq1 a0) (V_viewportref20slotq1 a0 r) (R_viewportref20slotq1 a0 r) := by
 unfold m_viewportref20slotq1 at h
 by_cases hc1 : a0 ≥ (0 : Int)
 ·rw [if_pos hc1] at h
  by_cases hc2 : a0 ≤ (63 : Int)
  ·rw [if_pos hc2] at h
   obtain rfl := Option.some.inj h; exact p_viewportref20slotq1_0 n a0 hc1 hc2
  ·rw [if_neg hc2] at h
   obtain rfl := Option.some.inj h; exact p_viewportref20slotq1_1 n a0 hc1 hc2
 ·rw [if_neg hc1] at h
  obtain rfl := Option.some.inj h; exact p_viewportref20slotq1_2 n a0 hc1

noncomputable def A_viewportref16isq1 (a0 : Int) : List Value := [(sW 0 0 (Args.A).length Args.cA), (i6 a0)]
noncomputable def H_viewportref16isq1 (a0 : Int) : AH := ⟨sB [], 0, 0⟩
noncomputable def V_viewportref16isq1 (a0 : Int) (r : Bool) : Value := match r with
 | o0 => (bO o0)
noncomputable def R_viewportref16isq1 (a0 : Int) (r : Bool) : AH := match r with
 | o0 => ⟨sB [], 0, 0⟩
noncomputable abbrev G_viewportref16isq1 (a0 : Int) (r : Bool) : Prop := Gv P (.func 25) (A_viewportref16isq1 a0) (H_viewportref16isq1 a0) (V_viewportref16isq1 a0 r) (R_viewportref16isq1 a0 r)
noncomputable abbrev C_viewportref16isq1 (a0 : Int) (r : Bool) (ins outs : BL) : CallA := ⟨0, ins, V_viewportref16isq1 a0 r, R_viewportref16isq1 a0 r, outs⟩
def m_viewportref16isq1 (n : Nat) (a0 : Int) : Option (Bool) :=
 (m_viewportref16Checkq1 n).bind fun c1_ =>
 if c1_ = (0 : Int) then
  if a0 ≥ (0 : Int) then
   if a0 < (((Args.A).length : Nat) : Int) then
    some true
   else
    some false
  else
   some false
 else
  some false
theorem p_viewportref16isq1_0 (n : Nat) (a0 c1_ : Int) (hc1 : m_viewportref16Checkq1 n = some c1_) (hc2 : c1_ = (0 : Int)) (hc3 : a0 ≥ (0 : Int)) (hc4 : a0 < (((Args.A).length : Nat) : Int)) : G_viewportref16isq1 a0 true :=
 runF2 hm (L := lT []) ⟨[4], [], 0, 0⟩ (yy 4 (.call (C_viewportref16Checkq1  c1_ [] [])) <|
ww (m_viewportref16Checkq1_ok n  c1_ hc1) <|
zz 5 (xeT hc2) <|
zz 8 (xdT hc3) <|
zz 14 (xdT hc4) <|
ee) (by kernel_rfl)
theorem p_viewportref16isq1_1 (n : Nat) (a0 c1_ : Int) (hc1 : m_viewportref16Checkq1 n = some c1_) (hc2 : c1_ = (0 : Int)) (hc3 : a0 ≥ (0 : Int)) (hc4 : ¬ (a0 < (((Args.A).length : Nat) : Int))) : G_viewportref16isq1 a0 false :=
 runF2 hm (L := lT []) ⟨[4], [], 0, 0⟩ (yy 4 (.call (C_viewportref16Checkq1  c1_ [] [])) <|
ww (m_viewportref16Checkq1_ok n  c1_ hc1) <|
zz 5 (xeT hc2) <|
zz 8 (xdT hc3) <|
zz 14 (xdF hc4) <|
ee) (by kernel_rfl)
theorem p_viewportref16isq1_2 (n : Nat) (a0 c1_ : Int) (hc1 : m_viewportref16Checkq1 n = some c1_) (hc2 : c1_ = (0 : Int)) (hc3 : ¬ (a0 ≥ (0 : Int))) : G_viewportref16isq1 a0 false :=
 runF2 hm (L := lT []) ⟨[4], [], 0, 0⟩ (yy 4 (.call (C_viewportref16Checkq1  c1_ [] [])) <|
ww (m_viewportref16Checkq1_ok n  c1_ hc1) <|
zz 5 (xeT hc2) <|
zz 8 (xdF hc3) <|
ee) (by kernel_rfl)
theorem p_viewportref16isq1_3 (n : Nat) (a0 c1_ : Int) (hc1 : m_viewportref16Checkq1 n = some c1_) (hc2 : ¬ (c1_ = (0 : Int))) : G_viewportref16isq1 a0 false :=
 runF2 hm (L := lT []) ⟨[4], [], 0, 0⟩ (yy 4 (.call (C_viewportref16Checkq1  c1_ [] [])) <|
ww (m_viewportref16Checkq1_ok n  c1_ hc1) <|
zz 5 (xeF hc2) <|
ee) (by kernel_rfl)
theorem m_viewportref16isq1_ok (n : Nat) (a0 : Int) (r : Bool) (h : m_viewportref16isq1 n a0 = some r) : Gv P (.func 25) (A_viewportref16isq1 a0) (H_viewportref16isq1 a0) (V_viewportref16isq1 a0 r) (R_viewportref16isq1 a0 r) := by
 unfold m_viewportref16isq1 at h
 obtain ⟨c1_, hc1, h⟩ := Option.bind_eq_some_iff.1 h
 by_cases hc2 : c1_ = (0 : Int)
 ·rw [if_pos hc2] at h
  by_cases hc3 : a0 ≥ (0 : Int)
  ·rw [if_pos hc3] at h
   by_cases hc4 : a0 < (((Args.A).length : Nat) : Int)
   ·rw [if_pos hc4] at h
    obtain rfl := Option.some.inj h; exact p_viewportref16isq1_0 n a0 c1_ hc1 hc2 hc3 hc4
   ·rw [if_neg hc4] at h
    obtain rfl := Option.some.inj h; exact p_viewportref16isq1_1 n a0 c1_ hc1 hc2 hc3 hc4
  ·rw [if_neg hc3] at h
   obtain rfl := Option.some.inj h; exact p_viewportref16isq1_2 n a0 c1_ hc1 hc2 hc3
 ·rw [if_neg hc2] at h
  obtain rfl := Option.some.inj h; exact p_viewportref16isq1_3 n a0 c1_ hc1 hc2

noncomputable def A_viewportref16Endq1 (a0 : Int) : List Value := [(sW 0 0 (Args.A).length Args.cA), (i6 a0)]
noncomputable def H_viewportref16Endq1 (a0 : Int) : AH := ⟨sB [], 0, 0⟩
noncomputable def V_viewportref16Endq1 (a0 : Int) (r : Int) : Value := match r with
 | o0 => (i6 o0)
noncomputable def R_viewportref16Endq1 (a0 : Int) (r : Int) : AH := match r with
 | o0 => ⟨sB [], 0, 0⟩
noncomputable abbrev G_viewportref16Endq1 (a0 : Int) (r : Int) : Prop := Gv P (.func 12) (A_viewportref16Endq1 a0) (H_viewportref16Endq1 a0) (V_viewportref16Endq1 a0 r) (R_viewportref16Endq1 a0 r)
noncomputable abbrev C_viewportref16Endq1 (a0 : Int) (r : Int) (ins outs : BL) : CallA := ⟨0, ins, V_viewportref16Endq1 a0 r, R_viewportref16Endq1 a0 r, outs⟩
def m_viewportref16Endq1 (n : Nat) (a0 : Int) : Option (Int) :=
 (m_viewportref16isq1 n a0).bind fun c1_ =>
 if c1_ = true then
  (m_viewportref16endq1 n a0).bind fun c3_ =>
  some c3_
 else
  some 0
theorem p_viewportref16Endq1_0 (n : Nat) (a0 : Int) (c1_ : Bool) (hc1 : m_viewportref16isq1 n a0 = some c1_) (hc2 : c1_ = true) (c3_ : Int) (hc3 : m_viewportref16endq1 n a0 = some c3_) : G_viewportref16Endq1 a0 c3_ :=
 runF2 hm (L := lT []) ⟨[4], [], 0, 0⟩ (yy 6 (.call (C_viewportref16isq1 a0 c1_ [] [])) <|
ww (m_viewportref16isq1_ok n a0 c1_ hc1) <|
yy 7 (vf) <|
ww (p := (Value.bool (!c1_)) = (Value.bool false)) (vBn hc2) <|
yy 12 (.call (C_viewportref16endq1 a0 c3_ [] [])) <|
ww (m_viewportref16endq1_ok n a0 c3_ hc3) <|
ee) (by kernel_rfl)
theorem p_viewportref16Endq1_1 (n : Nat) (a0 : Int) (c1_ : Bool) (hc1 : m_viewportref16isq1 n a0 = some c1_) (hc2 : ¬ (c1_ = true)) : G_viewportref16Endq1 a0 0 :=
 runF2 hm (L := lT []) ⟨[4], [], 0, 0⟩ (yy 6 (.call (C_viewportref16isq1 a0 c1_ [] [])) <|
ww (m_viewportref16isq1_ok n a0 c1_ hc1) <|
yy 7 (vt) <|
ww (p := (Value.bool (!c1_)) = (Value.bool true)) (vBn (Bool.eq_false_iff.2 hc2)) <|
ee) (by kernel_rfl)
theorem m_viewportref16Endq1_ok (n : Nat) (a0 : Int) (r : Int) (h : m_viewportref16Endq1 n a0 = some r) : Gv P (.func 12) (A_viewportref16Endq1 a0) (H_viewportref16Endq1 a0) (V_viewportref16Endq1 a0 r) (R_viewportref16Endq1 a0 r) := by
 unfold m_viewportref16Endq1 at h
 obtain ⟨c1_, hc1, h⟩ := Option.bind_eq_some_iff.1 h
 by_cases hc2 : c1_ = true
 ·rw [if_pos hc2] at h
  obtain ⟨c3_, hc3, h⟩ := Option.bind_eq_some_iff.1 h
  obtain rfl := Option.some.inj h; exact p_viewportref16Endq1_0 n a0 c1_ hc1 hc2 c3_ hc3
 ·rw [if_neg hc2] at h
  obtain rfl := Option.some.inj h; exact p_viewportref16Endq1_1 n a0 c1_ hc1 hc2

noncomputable def A_viewportref20Doneq1 (a0 : Int) (a1 : Int) (a2 : Int) (a3 : Int) (a4 : Int) (a5 : Int) : List Value := [(sW 0 0 (Args.A).length Args.cA), (i6 a0), (Value.agg #[(i6 a1), (i6 a2), (i6 a3), (i6 a4), (i6 a5)])]
noncomputable def H_viewportref20Doneq1 (a0 : Int) (a1 : Int) (a2 : Int) (a3 : Int) (a4 : Int) (a5 : Int) : AH := ⟨sB [], 0, 0⟩
noncomputable def V_viewportref20Doneq1 (a0 : Int) (a1 : Int) (a2 : Int) (a3 : Int) (a4 : Int) (a5 : Int) (r : Bool) : Value := match r with
 | o0 => (bO o0)
noncomputable def R_viewportref20Doneq1 (a0 : Int) (a1 : Int) (a2 : Int) (a3 : Int) (a4 : Int) (a5 : Int) (r : Bool) : AH := match r with
 | o0 => ⟨sB [], 0, 0⟩
noncomputable abbrev G_viewportref20Doneq1 (a0 : Int) (a1 : Int) (a2 : Int) (a3 : Int) (a4 : Int) (a5 : Int) (r : Bool) : Prop := Gv P (.func 9) (A_viewportref20Doneq1 a0 a1 a2 a3 a4 a5) (H_viewportref20Doneq1 a0 a1 a2 a3 a4 a5) (V_viewportref20Doneq1 a0 a1 a2 a3 a4 a5 r) (R_viewportref20Doneq1 a0 a1 a2 a3 a4 a5 r)
noncomputable abbrev C_viewportref20Doneq1 (a0 : Int) (a1 : Int) (a2 : Int) (a3 : Int) (a4 : Int) (a5 : Int) (r : Bool) (ins outs : BL) : CallA := ⟨0, ins, V_viewportref20Doneq1 a0 a1 a2 a3 a4 a5 r, R_viewportref20Doneq1 a0 a1 a2 a3 a4 a5 r, outs⟩
noncomputable def S_viewportref20Doneq1_1 (x1_0 : Int) (x1_1 : Int) (x1_2 : Int) (x1_3 : Int) (x1_4 : Int) (x1_5 : Int) (x1_6 : Int) (st : Int) : XSt := match st with
 | x1_7 => (sT 89 [(0, (sW 0 0 (Args.A).length Args.cA)), (1, (i6 x1_0)), (5, (pN 0 0)), (7, (i6 x1_6)), (8, (i6 x1_7))], [], ⟨sB [(0, (some (.cells (layT [(i6 x1_1), (i6 x1_2), (i6 x1_3), (i6 x1_4), (i6 x1_5)]) 26)))], 1, 0⟩)
noncomputable def X_viewportref20Doneq1_1 (x1_0 : Int) (x1_1 : Int) (x1_2 : Int) (x1_3 : Int) (x1_4 : Int) (x1_5 : Int) (x1_6 : Int) (r : (Unit) ⊕ (Unit)) : Ex × XSt := match r with
 | .inl _ => (.ret, (sT 89 [(6, (bO false))], [], ⟨sB [], 0, 0⟩))
 | .inr _ => (.exit 0, (sT 89 [], [], ⟨sB [], 0, 0⟩))
noncomputable abbrev Q_viewportref20Doneq1_1 (rnd : Option Nat) (x1_0 : Int) (x1_1 : Int) (x1_2 : Int) (x1_3 : Int) (x1_4 : Int) (x1_5 : Int) (x1_6 : Int) (st : Int) (c : Ex × XSt) : Prop := CG P rnd (fnN P 9) 0 (codeOf P 9 [false, false, true, false, true, true, true]) (S_viewportref20Doneq1_1 x1_0 x1_1 x1_2 x1_3 x1_4 x1_5 x1_6 st) c
noncomputable abbrev U_viewportref20Doneq1_1 (rd : Option Nat) (x1_0 : Int) (x1_1 : Int) (x1_2 : Int) (x1_3 : Int) (x1_4 : Int) (x1_5 : Int) (x1_6 : Int) (st : Int) (r : (Unit) ⊕ (Unit)) : Prop := CG P rd (fnN P 9) 0 (codeOf P 9 [false, true, false, true, true, true]) (S_viewportref20Doneq1_1 x1_0 x1_1 x1_2 x1_3 x1_4 x1_5 x1_6 st) (X_viewportref20Doneq1_1 x1_0 x1_1 x1_2 x1_3 x1_4 x1_5 x1_6 r)
def B_viewportref20Doneq1_1 (n : Nat) (x1_0 : Int) (x1_1 : Int) (x1_2 : Int) (x1_3 : Int) (x1_4 : Int) (x1_5 : Int) (x1_6 : Int) (st : Int) : Option ((Int) ⊕ ((Unit) ⊕ (Unit))) := match st with
 | x1_7 =>
  if x1_7 < (((Args.A).length : Nat) : Int) then
   if 0 ≤ x1_7 ∧ x1_7 < (((Args.A).length : Nat) : Int) then
    ((some ((Args.A).getD (x1_7).toNat (0, 0, 0, 0, 0, 0, nl0, 0)))).bind fun y1_3_ =>
    if 0 ≤ (IntKind.u64.wrap x1_1) then
     if (bAnd .u64 (shrV .u64 (y1_3_.2.2.2.2.2.2.2) (IntKind.u64.wrap x1_1)) (1 : Int)) = (1 : Int) then
      if x1_7 < x1_0 then
       some (.inr (.inl ()))
      else
       if x1_7 ≥ x1_6 then
        some (.inr (.inl ()))
       else
        some (.inl (w64 (x1_7 + (1 : Int))))
     else
      some (.inl (w64 (x1_7 + (1 : Int))))
    else none
   else none
  else
   some (.inr (.inr ()))
def m_viewportref20Doneq1_1 (n : Nat) (x1_0 : Int) (x1_1 : Int) (x1_2 : Int) (x1_3 : Int) (x1_4 : Int) (x1_5 : Int) (x1_6 : Int) (st : Int) : Option ((Unit) ⊕ (Unit)) := iterM (B_viewportref20Doneq1_1 n x1_0 x1_1 x1_2 x1_3 x1_4 x1_5 x1_6) n st
theorem q_viewportref20Doneq1_1_0 (n : Nat) {rnd : Option Nat} (x1_0 x1_1 x1_2 x1_3 x1_4 x1_5 x1_6 x1_7 : Int) (hy1_1 : x1_7 < (((Args.A).length : Nat) : Int)) (hy1_2 : 0 ≤ x1_7 ∧ x1_7 < (((Args.A).length : Nat) : Int)) (y1_3_ : Int × Int × Int × Int × Int × Int × NL × Int) (hy1_3 : (some ((Args.A).getD (x1_7).toNat (0, 0, 0, 0, 0, 0, nl0, 0))) = some y1_3_) (hy1_4 : 0 ≤ (IntKind.u64.wrap x1_1)) (hy1_5 : (bAnd .u64 (shrV .u64 (y1_3_.2.2.2.2.2.2.2) (IntKind.u64.wrap x1_1)) (1 : Int)) = (1 : Int)) (hy1_6 : x1_7 < x1_0) : Q_viewportref20Doneq1_1 rnd x1_0 x1_1 x1_2 x1_3 x1_4 x1_5 x1_6 x1_7 (X_viewportref20Doneq1_1 x1_0 x1_1 x1_2 x1_3 x1_4 x1_5 x1_6 (.inl ())) :=
 runC2 hm (L := lT []) ⟨[6], [], 0, 0⟩ (zz 5 (xdT hy1_1) <|
zz 12 (xk1 0 Args.cA hy1_2) <|
zz 13 (fk17 ((x1_7).toNat * 8)) <|
zz 14 (lk18 hy1_3 (toNatLt hy1_2)) <|
yy 18 (.pur (Value.int .u64 (shrV .u64 (y1_3_.2.2.2.2.2.2.2) (IntKind.u64.wrap x1_1)))) <|
ww (p := opBin P .shr 32 (.tmp 72) (.tmp 75) (Value.int .u64 (y1_3_.2.2.2.2.2.2.2)) (Value.int .u64 (IntKind.u64.wrap x1_1)) Ax.h0 = some ((Value.int .u64 (shrV .u64 (y1_3_.2.2.2.2.2.2.2) (IntKind.u64.wrap x1_1))), Ax.h0)) (shr_u64_u64 hy1_4) <|
zz 20 (xeT hy1_5) <|
zz 24 (xdT hy1_6) <|
ee) (by kernel_rfl)
theorem q_viewportref20Doneq1_1_1 (n : Nat) {rnd : Option Nat} (x1_0 x1_1 x1_2 x1_3 x1_4 x1_5 x1_6 x1_7 : Int) (hy1_1 : x1_7 < (((Args.A).length : Nat) : Int)) (hy1_2 : 0 ≤ x1_7 ∧ x1_7 < (((Args.A).length : Nat) : Int)) (y1_3_ : Int × Int × Int × Int × Int × Int × NL × Int) (hy1_3 : (some ((Args.A).getD (x1_7).toNat (0, 0, 0, 0, 0, 0, nl0, 0))) = some y1_3_) (hy1_4 : 0 ≤ (IntKind.u64.wrap x1_1)) (hy1_5 : (bAnd .u64 (shrV .u64 (y1_3_.2.2.2.2.2.2.2) (IntKind.u64.wrap x1_1)) (1 : Int)) = (1 : Int)) (hy1_6 : ¬ (x1_7 < x1_0)) (hy1_7 : x1_7 ≥ x1_6) : Q_viewportref20Doneq1_1 rnd x1_0 x1_1 x1_2 x1_3 x1_4 x1_5 x1_6 x1_7 (X_viewportref20Doneq1_1 x1_0 x1_1 x1_2 x1_3 x1_4 x1_5 x1_6 (.inl ())) :=
 runC2 hm (L := lT []) ⟨[6], [], 0, 0⟩ (zz 5 (xdT hy1_1) <|
zz 12 (xk1 0 Args.cA hy1_2) <|
zz 13 (fk17 ((x1_7).toNat * 8)) <|
zz 14 (lk18 hy1_3 (toNatLt hy1_2)) <|
yy 18 (.pur (Value.int .u64 (shrV .u64 (y1_3_.2.2.2.2.2.2.2) (IntKind.u64.wrap x1_1)))) <|
ww (p := opBin P .shr 32 (.tmp 72) (.tmp 75) (Value.int .u64 (y1_3_.2.2.2.2.2.2.2)) (Value.int .u64 (IntKind.u64.wrap x1_1)) Ax.h0 = some ((Value.int .u64 (shrV .u64 (y1_3_.2.2.2.2.2.2.2) (IntKind.u64.wrap x1_1))), Ax.h0)) (shr_u64_u64 hy1_4) <|
zz 20 (xeT hy1_5) <|
zz 24 (xdF hy1_6) <|
zz 28 (xdT hy1_7) <|
ee) (by kernel_rfl)
theorem q_viewportref20Doneq1_1_2 (n : Nat) {rnd : Option Nat} (x1_0 x1_1 x1_2 x1_3 x1_4 x1_5 x1_6 x1_7 : Int) (hy1_1 : x1_7 < (((Args.A).length : Nat) : Int)) (hy1_2 : 0 ≤ x1_7 ∧ x1_7 < (((Args.A).length : Nat) : Int)) (y1_3_ : Int × Int × Int × Int × Int × Int × NL × Int) (hy1_3 : (some ((Args.A).getD (x1_7).toNat (0, 0, 0, 0, 0, 0, nl0, 0))) = some y1_3_) (hy1_4 : 0 ≤ (IntKind.u64.wrap x1_1)) (hy1_5 : (bAnd .u64 (shrV .u64 (y1_3_.2.2.2.2.2.2.2) (IntKind.u64.wrap x1_1)) (1 : Int)) = (1 : Int)) (hy1_6 : ¬ (x1_7 < x1_0)) (hy1_7 : ¬ (x1_7 ≥ x1_6)) : Q_viewportref20Doneq1_1 rnd x1_0 x1_1 x1_2 x1_3 x1_4 x1_5 x1_6 x1_7 (.normal, S_viewportref20Doneq1_1 x1_0 x1_1 x1_2 x1_3 x1_4 x1_5 x1_6 (w64 (x1_7 + (1 : Int)))) :=
 runC2 hm (L := lT []) ⟨[0, 1, 5, 7, 8], [(0, 0, false)], 1, 0⟩ (zz 5 (xdT hy1_1) <|
zz 12 (xk1 0 Args.cA hy1_2) <|
zz 13 (fk17 ((x1_7).toNat * 8)) <|
zz 14 (lk18 hy1_3 (toNatLt hy1_2)) <|
yy 18 (.pur (Value.int .u64 (shrV .u64 (y1_3_.2.2.2.2.2.2.2) (IntKind.u64.wrap x1_1)))) <|
ww (p := opBin P .shr 32 (.tmp 72) (.tmp 75) (Value.int .u64 (y1_3_.2.2.2.2.2.2.2)) (Value.int .u64 (IntKind.u64.wrap x1_1)) Ax.h0 = some ((Value.int .u64 (shrV .u64 (y1_3_.2.2.2.2.2.2.2) (IntKind.u64.wrap x1_1))), Ax.h0)) (shr_u64_u64 hy1_4) <|
zz 20 (xeT hy1_5) <|
zz 24 (xdF hy1_6) <|
zz 28 (xdF hy1_7) <|
ee) (by kernel_rfl)
theorem q_viewportref20Doneq1_1_3 (n : Nat) {rnd : Option Nat} (x1_0 x1_1 x1_2 x1_3 x1_4 x1_5 x1_6 x1_7 : Int) (hy1_1 : x1_7 < (((Args.A).length : Nat) : Int)) (hy1_2 : 0 ≤ x1_7 ∧ x1_7 < (((Args.A).length : Nat) : Int)) (y1_3_ : Int × Int × Int × Int × Int × Int × NL × Int) (hy1_3 : (some ((Args.A).getD (x1_7).toNat (0, 0, 0, 0, 0, 0, nl0, 0))) = some y1_3_) (hy1_4 : 0 ≤ (IntKind.u64.wrap x1_1)) (hy1_5 : ¬ ((bAnd .u64 (shrV .u64 (y1_3_.2.2.2.2.2.2.2) (IntKind.u64.wrap x1_1)) (1 : Int)) = (1 : Int))) : Q_viewportref20Doneq1_1 rnd x1_0 x1_1 x1_2 x1_3 x1_4 x1_5 x1_6 x1_7 (.normal, S_viewportref20Doneq1_1 x1_0 x1_1 x1_2 x1_3 x1_4 x1_5 x1_6 (w64 (x1_7 + (1 : Int)))) :=
 runC2 hm (L := lT []) ⟨[0, 1, 5, 7, 8], [(0, 0, false)], 1, 0⟩ (zz 5 (xdT hy1_1) <|
zz 12 (xk1 0 Args.cA hy1_2) <|
zz 13 (fk17 ((x1_7).toNat * 8)) <|
zz 14 (lk18 hy1_3 (toNatLt hy1_2)) <|
yy 18 (.pur (Value.int .u64 (shrV .u64 (y1_3_.2.2.2.2.2.2.2) (IntKind.u64.wrap x1_1)))) <|
ww (p := opBin P .shr 32 (.tmp 72) (.tmp 75) (Value.int .u64 (y1_3_.2.2.2.2.2.2.2)) (Value.int .u64 (IntKind.u64.wrap x1_1)) Ax.h0 = some ((Value.int .u64 (shrV .u64 (y1_3_.2.2.2.2.2.2.2) (IntKind.u64.wrap x1_1))), Ax.h0)) (shr_u64_u64 hy1_4) <|
zz 20 (xeF hy1_5) <|
ee) (by kernel_rfl)
theorem q_viewportref20Doneq1_1_4 (n : Nat) {rnd : Option Nat} (x1_0 x1_1 x1_2 x1_3 x1_4 x1_5 x1_6 x1_7 : Int) (hy1_1 : ¬ (x1_7 < (((Args.A).length : Nat) : Int))) : Q_viewportref20Doneq1_1 rnd x1_0 x1_1 x1_2 x1_3 x1_4 x1_5 x1_6 x1_7 (X_viewportref20Doneq1_1 x1_0 x1_1 x1_2 x1_3 x1_4 x1_5 x1_6 (.inr ())) :=
 runC2 hm (L := lT []) ⟨[], [], 0, 0⟩ (zz 5 (xdF hy1_1) <|
ee) (by kernel_rfl)
theorem m_viewportref20Doneq1_1_ok (n : Nat) {rnd : Option Nat} (x1_0 : Int) (x1_1 : Int) (x1_2 : Int) (x1_3 : Int) (x1_4 : Int) (x1_5 : Int) (x1_6 : Int) (st : Int) (r : (Unit) ⊕ (Unit)) (h : m_viewportref20Doneq1_1 n x1_0 x1_1 x1_2 x1_3 x1_4 x1_5 x1_6 st = some r) : CG P rnd (fnN P 9) 0 (codeOf P 9 [false, true, false, true, true, true]) (S_viewportref20Doneq1_1 x1_0 x1_1 x1_2 x1_3 x1_4 x1_5 x1_6 st) (X_viewportref20Doneq1_1 x1_0 x1_1 x1_2 x1_3 x1_4 x1_5 x1_6 r) :=
 CG.iter (b := codeOf P 9 [false, false, true, false, true, true, true]) (by kernel_rfl) (body := B_viewportref20Doneq1_1 n x1_0 x1_1 x1_2 x1_3 x1_4 x1_5 x1_6) (S := S_viewportref20Doneq1_1 x1_0 x1_1 x1_2 x1_3 x1_4 x1_5 x1_6) (X := X_viewportref20Doneq1_1 x1_0 x1_1 x1_2 x1_3 x1_4 x1_5 x1_6)
  (fun x1_7 s' h => by
  unfold B_viewportref20Doneq1_1 at h
  dsimp only at h
  by_cases hy1_1 : x1_7 < (((Args.A).length : Nat) : Int)
  ·rw [if_pos hy1_1] at h
   by_cases hy1_2 : 0 ≤ x1_7 ∧ x1_7 < (((Args.A).length : Nat) : Int)
   ·rw [if_pos hy1_2] at h
    obtain ⟨y1_3_, hy1_3, h⟩ := Option.bind_eq_some_iff.1 h
    by_cases hy1_4 : 0 ≤ (IntKind.u64.wrap x1_1)
    ·rw [if_pos hy1_4] at h
     by_cases hy1_5 : (bAnd .u64 (shrV .u64 (y1_3_.2.2.2.2.2.2.2) (IntKind.u64.wrap x1_1)) (1 : Int)) = (1 : Int)
     ·rw [if_pos hy1_5] at h
      by_cases hy1_6 : x1_7 < x1_0
      ·rw [if_pos hy1_6] at h
       cases h
      ·rw [if_neg hy1_6] at h
       by_cases hy1_7 : x1_7 ≥ x1_6
       ·rw [if_pos hy1_7] at h
        cases h
       ·rw [if_neg hy1_7] at h
        obtain rfl := Sum.inl.inj (Option.some.inj h); exact q_viewportref20Doneq1_1_2 n x1_0 x1_1 x1_2 x1_3 x1_4 x1_5 x1_6 x1_7 hy1_1 hy1_2 y1_3_ hy1_3 hy1_4 hy1_5 hy1_6 hy1_7
     ·rw [if_neg hy1_5] at h
      obtain rfl := Sum.inl.inj (Option.some.inj h); exact q_viewportref20Doneq1_1_3 n x1_0 x1_1 x1_2 x1_3 x1_4 x1_5 x1_6 x1_7 hy1_1 hy1_2 y1_3_ hy1_3 hy1_4 hy1_5
    ·rw [if_neg hy1_4] at h; cases h
   ·rw [if_neg hy1_2] at h; cases h
  ·rw [if_neg hy1_1] at h
   cases h)
  (fun x1_7 r h => by
  unfold B_viewportref20Doneq1_1 at h
  dsimp only at h
  by_cases hy1_1 : x1_7 < (((Args.A).length : Nat) : Int)
  ·rw [if_pos hy1_1] at h
   by_cases hy1_2 : 0 ≤ x1_7 ∧ x1_7 < (((Args.A).length : Nat) : Int)
   ·rw [if_pos hy1_2] at h
    obtain ⟨y1_3_, hy1_3, h⟩ := Option.bind_eq_some_iff.1 h
    by_cases hy1_4 : 0 ≤ (IntKind.u64.wrap x1_1)
    ·rw [if_pos hy1_4] at h
     by_cases hy1_5 : (bAnd .u64 (shrV .u64 (y1_3_.2.2.2.2.2.2.2) (IntKind.u64.wrap x1_1)) (1 : Int)) = (1 : Int)
     ·rw [if_pos hy1_5] at h
      by_cases hy1_6 : x1_7 < x1_0
      ·rw [if_pos hy1_6] at h
       obtain rfl := Sum.inr.inj (Option.some.inj h); exact q_viewportref20Doneq1_1_0 n x1_0 x1_1 x1_2 x1_3 x1_4 x1_5 x1_6 x1_7 hy1_1 hy1_2 y1_3_ hy1_3 hy1_4 hy1_5 hy1_6
      ·rw [if_neg hy1_6] at h
       by_cases hy1_7 : x1_7 ≥ x1_6
       ·rw [if_pos hy1_7] at h
        obtain rfl := Sum.inr.inj (Option.some.inj h); exact q_viewportref20Doneq1_1_1 n x1_0 x1_1 x1_2 x1_3 x1_4 x1_5 x1_6 x1_7 hy1_1 hy1_2 y1_3_ hy1_3 hy1_4 hy1_5 hy1_6 hy1_7
       ·rw [if_neg hy1_7] at h
        cases h
     ·rw [if_neg hy1_5] at h
      cases h
    ·rw [if_neg hy1_4] at h; cases h
   ·rw [if_neg hy1_2] at h; cases h
  ·rw [if_neg hy1_1] at h
   obtain rfl := Sum.inr.inj (Option.some.inj h); exact q_viewportref20Doneq1_1_4 n x1_0 x1_1 x1_2 x1_3 x1_4 x1_5 x1_6 x1_7 hy1_1)
  (fun r => by intro hx; rcases r with _ | _ <;> cases hx) h
def m_viewportref20Doneq1 (n : Nat) (a0 : Int) (a1 : Int) (a2 : Int) (a3 : Int) (a4 : Int) (a5 : Int) : Option (Bool) :=
 (m_viewportref16Checkq1 n).bind fun c1_ =>
 if c1_ = (0 : Int) then
  if a0 < (0 : Int) then
   some false
  else
   if a0 ≥ (((Args.A).length : Nat) : Int) then
    some false
   else
    (m_viewportref20slotq1 n a1).bind fun c5_ =>
    if c5_ = true then
     if 0 ≤ a0 ∧ a0 < (((Args.A).length : Nat) : Int) then
      ((some ((Args.A).getD (a0).toNat (0, 0, 0, 0, 0, 0, nl0, 0)))).bind fun c8_ =>
      if a2 < (c8_.2.2.1) then
       some false
      else
       if a3 > (c8_.2.2.2.2.1) then
        some false
       else
        if a2 > a3 then
         some false
        else
         (m_viewportref16Endq1 n a0).bind fun c12_ =>
         match m_viewportref20Doneq1_1 n a0 a1 a2 a3 a4 a5 c12_ 0 with
         | none => none
         | some (.inl _) =>
          some false
         | some (.inr _) =>
          some true
     else none
    else
     some false
 else
  some false
theorem p_viewportref20Doneq1_0 (n : Nat) (a0 a1 a2 a3 a4 a5 c1_ : Int) (hc1 : m_viewportref16Checkq1 n = some c1_) (hc2 : c1_ = (0 : Int)) (hc3 : a0 < (0 : Int)) : G_viewportref20Doneq1 a0 a1 a2 a3 a4 a5 false :=
 runF2 hm (L := lT []) ⟨[6], [], 0, 0⟩ (yy 6 (.call (C_viewportref16Checkq1  c1_ [] [])) <|
ww (m_viewportref16Checkq1_ok n  c1_ hc1) <|
zz 7 (xnF hc2) <|
zz 10 (xdT hc3) <|
ee) (by kernel_rfl)
theorem p_viewportref20Doneq1_1 (n : Nat) (a0 a1 a2 a3 a4 a5 c1_ : Int) (hc1 : m_viewportref16Checkq1 n = some c1_) (hc2 : c1_ = (0 : Int)) (hc3 : ¬ (a0 < (0 : Int))) (hc4 : a0 ≥ (((Args.A).length : Nat) : Int)) : G_viewportref20Doneq1 a0 a1 a2 a3 a4 a5 false :=
 runF2 hm (L := lT []) ⟨[6], [], 0, 0⟩ (yy 6 (.call (C_viewportref16Checkq1  c1_ [] [])) <|
ww (m_viewportref16Checkq1_ok n  c1_ hc1) <|
zz 7 (xnF hc2) <|
zz 10 (xdF hc3) <|
zz 16 (xdT hc4) <|
ee) (by kernel_rfl)
theorem p_viewportref20Doneq1_2 (n : Nat) (a0 a1 a2 a3 a4 a5 c1_ : Int) (hc1 : m_viewportref16Checkq1 n = some c1_) (hc2 : c1_ = (0 : Int)) (hc3 : ¬ (a0 < (0 : Int))) (hc4 : ¬ (a0 ≥ (((Args.A).length : Nat) : Int))) (c5_ : Bool) (hc5 : m_viewportref20slotq1 n a1 = some c5_) (hc6 : c5_ = true) (hc7 : 0 ≤ a0 ∧ a0 < (((Args.A).length : Nat) : Int)) (c8_ : Int × Int × Int × Int × Int × Int × NL × Int) (hc8 : (some ((Args.A).getD (a0).toNat (0, 0, 0, 0, 0, 0, nl0, 0))) = some c8_) (hc9 : a2 < (c8_.2.2.1)) : G_viewportref20Doneq1 a0 a1 a2 a3 a4 a5 false :=
 runF2 hm (L := lT []) ⟨[6], [], 0, 0⟩ (yy 6 (.call (C_viewportref16Checkq1  c1_ [] [])) <|
ww (m_viewportref16Checkq1_ok n  c1_ hc1) <|
zz 7 (xnF hc2) <|
zz 10 (xdF hc3) <|
zz 16 (xdF hc4) <|
yy 21 (.call (C_viewportref20slotq1 a1 c5_ [] [])) <|
ww (m_viewportref20slotq1_ok n a1 c5_ hc5) <|
yy 22 (vf) <|
ww (p := (Value.bool (!c5_)) = (Value.bool false)) (vBn hc6) <|
zz 30 (xk1 0 Args.cA hc7) <|
zz 31 (fk5 ((a0).toNat * 8)) <|
zz 32 (lk6 hc8 (toNatLt hc7)) <|
zz 33 (xdT hc9) <|
ee) (by kernel_rfl)
theorem p_viewportref20Doneq1_3 (n : Nat) (a0 a1 a2 a3 a4 a5 c1_ : Int) (hc1 : m_viewportref16Checkq1 n = some c1_) (hc2 : c1_ = (0 : Int)) (hc3 : ¬ (a0 < (0 : Int))) (hc4 : ¬ (a0 ≥ (((Args.A).length : Nat) : Int))) (c5_ : Bool) (hc5 : m_viewportref20slotq1 n a1 = some c5_) (hc6 : c5_ = true) (hc7 : 0 ≤ a0 ∧ a0 < (((Args.A).length : Nat) : Int)) (c8_ : Int × Int × Int × Int × Int × Int × NL × Int) (hc8 : (some ((Args.A).getD (a0).toNat (0, 0, 0, 0, 0, 0, nl0, 0))) = some c8_) (hc9 : ¬ (a2 < (c8_.2.2.1))) (hc10 : a3 > (c8_.2.2.2.2.1)) : G_viewportref20Doneq1 a0 a1 a2 a3 a4 a5 false :=
 runF2 hm (L := lT []) ⟨[6], [], 0, 0⟩ (yy 6 (.call (C_viewportref16Checkq1  c1_ [] [])) <|
ww (m_viewportref16Checkq1_ok n  c1_ hc1) <|
zz 7 (xnF hc2) <|
zz 10 (xdF hc3) <|
zz 16 (xdF hc4) <|
yy 21 (.call (C_viewportref20slotq1 a1 c5_ [] [])) <|
ww (m_viewportref20slotq1_ok n a1 c5_ hc5) <|
yy 22 (vf) <|
ww (p := (Value.bool (!c5_)) = (Value.bool false)) (vBn hc6) <|
zz 30 (xk1 0 Args.cA hc7) <|
zz 31 (fk5 ((a0).toNat * 8)) <|
zz 32 (lk6 hc8 (toNatLt hc7)) <|
zz 33 (xdF hc9) <|
zz 41 (xk1 0 Args.cA hc7) <|
zz 42 (fk11 ((a0).toNat * 8)) <|
zz 43 (lk12 hc8 (toNatLt hc7)) <|
zz 44 (xdT hc10) <|
ee) (by kernel_rfl)
theorem p_viewportref20Doneq1_4 (n : Nat) (a0 a1 a2 a3 a4 a5 c1_ : Int) (hc1 : m_viewportref16Checkq1 n = some c1_) (hc2 : c1_ = (0 : Int)) (hc3 : ¬ (a0 < (0 : Int))) (hc4 : ¬ (a0 ≥ (((Args.A).length : Nat) : Int))) (c5_ : Bool) (hc5 : m_viewportref20slotq1 n a1 = some c5_) (hc6 : c5_ = true) (hc7 : 0 ≤ a0 ∧ a0 < (((Args.A).length : Nat) : Int)) (c8_ : Int × Int × Int × Int × Int × Int × NL × Int) (hc8 : (some ((Args.A).getD (a0).toNat (0, 0, 0, 0, 0, 0, nl0, 0))) = some c8_) (hc9 : ¬ (a2 < (c8_.2.2.1))) (hc10 : ¬ (a3 > (c8_.2.2.2.2.1))) (hc11 : a2 > a3) : G_viewportref20Doneq1 a0 a1 a2 a3 a4 a5 false :=
 runF2 hm (L := lT []) ⟨[6], [], 0, 0⟩ (yy 6 (.call (C_viewportref16Checkq1  c1_ [] [])) <|
ww (m_viewportref16Checkq1_ok n  c1_ hc1) <|
zz 7 (xnF hc2) <|
zz 10 (xdF hc3) <|
zz 16 (xdF hc4) <|
yy 21 (.call (C_viewportref20slotq1 a1 c5_ [] [])) <|
ww (m_viewportref20slotq1_ok n a1 c5_ hc5) <|
yy 22 (vf) <|
ww (p := (Value.bool (!c5_)) = (Value.bool false)) (vBn hc6) <|
zz 30 (xk1 0 Args.cA hc7) <|
zz 31 (fk5 ((a0).toNat * 8)) <|
zz 32 (lk6 hc8 (toNatLt hc7)) <|
zz 33 (xdF hc9) <|
zz 41 (xk1 0 Args.cA hc7) <|
zz 42 (fk11 ((a0).toNat * 8)) <|
zz 43 (lk12 hc8 (toNatLt hc7)) <|
zz 44 (xdF hc10) <|
zz 53 (xdT hc11) <|
ee) (by kernel_rfl)
theorem p_viewportref20Doneq1_5 (n : Nat) (a0 a1 a2 a3 a4 a5 c1_ : Int) (hc1 : m_viewportref16Checkq1 n = some c1_) (hc2 : c1_ = (0 : Int)) (hc3 : ¬ (a0 < (0 : Int))) (hc4 : ¬ (a0 ≥ (((Args.A).length : Nat) : Int))) (c5_ : Bool) (hc5 : m_viewportref20slotq1 n a1 = some c5_) (hc6 : c5_ = true) (hc7 : 0 ≤ a0 ∧ a0 < (((Args.A).length : Nat) : Int)) (c8_ : Int × Int × Int × Int × Int × Int × NL × Int) (hc8 : (some ((Args.A).getD (a0).toNat (0, 0, 0, 0, 0, 0, nl0, 0))) = some c8_) (hc9 : ¬ (a2 < (c8_.2.2.1))) (hc10 : ¬ (a3 > (c8_.2.2.2.2.1))) (hc11 : ¬ (a2 > a3)) (c12_ : Int) (hc12 : m_viewportref16Endq1 n a0 = some c12_) (hc13 : m_viewportref20Doneq1_1 n a0 a1 a2 a3 a4 a5 c12_ 0 = some (.inl ())) : G_viewportref20Doneq1 a0 a1 a2 a3 a4 a5 false :=
 runF2 hm (L := lT [(65, ⟨⟨[0, 1, 5, 7, 8], [(0, 0, false)], 1, 0⟩, (X_viewportref20Doneq1_1 a0 a1 a2 a3 a4 a5 c12_ (.inl ())).1, (X_viewportref20Doneq1_1 a0 a1 a2 a3 a4 a5 c12_ (.inl ())).2⟩)]) ⟨[6], [], 0, 0⟩ (yy 6 (.call (C_viewportref16Checkq1  c1_ [] [])) <|
ww (m_viewportref16Checkq1_ok n  c1_ hc1) <|
zz 7 (xnF hc2) <|
zz 10 (xdF hc3) <|
zz 16 (xdF hc4) <|
yy 21 (.call (C_viewportref20slotq1 a1 c5_ [] [])) <|
ww (m_viewportref20slotq1_ok n a1 c5_ hc5) <|
yy 22 (vf) <|
ww (p := (Value.bool (!c5_)) = (Value.bool false)) (vBn hc6) <|
zz 30 (xk1 0 Args.cA hc7) <|
zz 31 (fk5 ((a0).toNat * 8)) <|
zz 32 (lk6 hc8 (toNatLt hc7)) <|
zz 33 (xdF hc9) <|
zz 41 (xk1 0 Args.cA hc7) <|
zz 42 (fk11 ((a0).toNat * 8)) <|
zz 43 (lk12 hc8 (toNatLt hc7)) <|
zz 44 (xdF hc10) <|
zz 53 (xdF hc11) <|
yy 59 (.call (C_viewportref16Endq1 a0 c12_ [] [])) <|
ww (m_viewportref16Endq1_ok n a0 c12_ hc12) <|
ww (p := U_viewportref20Doneq1_1 none a0 a1 a2 a3 a4 a5 c12_ 0 (.inl ())) (m_viewportref20Doneq1_1_ok n a0 a1 a2 a3 a4 a5 c12_ 0 (.inl ()) hc13) <|
ee) (by kernel_rfl)
theorem p_viewportref20Doneq1_6 (n : Nat) (a0 a1 a2 a3 a4 a5 c1_ : Int) (hc1 : m_viewportref16Checkq1 n = some c1_) (hc2 : c1_ = (0 : Int)) (hc3 : ¬ (a0 < (0 : Int))) (hc4 : ¬ (a0 ≥ (((Args.A).length : Nat) : Int))) (c5_ : Bool) (hc5 : m_viewportref20slotq1 n a1 = some c5_) (hc6 : c5_ = true) (hc7 : 0 ≤ a0 ∧ a0 < (((Args.A).length : Nat) : Int)) (c8_ : Int × Int × Int × Int × Int × Int × NL × Int) (hc8 : (some ((Args.A).getD (a0).toNat (0, 0, 0, 0, 0, 0, nl0, 0))) = some c8_) (hc9 : ¬ (a2 < (c8_.2.2.1))) (hc10 : ¬ (a3 > (c8_.2.2.2.2.1))) (hc11 : ¬ (a2 > a3)) (c12_ : Int) (hc12 : m_viewportref16Endq1 n a0 = some c12_) (hc13 : m_viewportref20Doneq1_1 n a0 a1 a2 a3 a4 a5 c12_ 0 = some (.inr ())) : G_viewportref20Doneq1 a0 a1 a2 a3 a4 a5 true :=
 runF2 hm (L := lT [(65, ⟨⟨[0, 1, 5, 7, 8], [(0, 0, false)], 1, 0⟩, (X_viewportref20Doneq1_1 a0 a1 a2 a3 a4 a5 c12_ (.inr ())).1, (X_viewportref20Doneq1_1 a0 a1 a2 a3 a4 a5 c12_ (.inr ())).2⟩)]) ⟨[6], [], 0, 0⟩ (yy 6 (.call (C_viewportref16Checkq1  c1_ [] [])) <|
ww (m_viewportref16Checkq1_ok n  c1_ hc1) <|
zz 7 (xnF hc2) <|
zz 10 (xdF hc3) <|
zz 16 (xdF hc4) <|
yy 21 (.call (C_viewportref20slotq1 a1 c5_ [] [])) <|
ww (m_viewportref20slotq1_ok n a1 c5_ hc5) <|
yy 22 (vf) <|
ww (p := (Value.bool (!c5_)) = (Value.bool false)) (vBn hc6) <|
zz 30 (xk1 0 Args.cA hc7) <|
zz 31 (fk5 ((a0).toNat * 8)) <|
zz 32 (lk6 hc8 (toNatLt hc7)) <|
zz 33 (xdF hc9) <|
zz 41 (xk1 0 Args.cA hc7) <|
zz 42 (fk11 ((a0).toNat * 8)) <|
zz 43 (lk12 hc8 (toNatLt hc7)) <|
zz 44 (xdF hc10) <|
zz 53 (xdF hc11) <|
yy 59 (.call (C_viewportref16Endq1 a0 c12_ [] [])) <|
ww (m_viewportref16Endq1_ok n a0 c12_ hc12) <|
ww (p := U_viewportref20Doneq1_1 none a0 a1 a2 a3 a4 a5 c12_ 0 (.inr ())) (m_viewportref20Doneq1_1_ok n a0 a1 a2 a3 a4 a5 c12_ 0 (.inr ()) hc13) <|
ee) (by kernel_rfl)
theorem p_viewportref20Doneq1_7 (n : Nat) (a0 a1 a2 a3 a4 a5 c1_ : Int) (hc1 : m_viewportref16Checkq1 n = some c1_) (hc2 : c1_ = (0 : Int)) (hc3 : ¬ (a0 < (0 : Int))) (hc4 : ¬ (a0 ≥ (((Args.A).length : Nat) : Int))) (c5_ : Bool) (hc5 : m_viewportref20slotq1 n a1 = some c5_) (hc6 : ¬ (c5_ = true)) : G_viewportref20Doneq1 a0 a1 a2 a3 a4 a5 false :=
 runF2 hm (L := lT []) ⟨[6], [], 0, 0⟩ (yy 6 (.call (C_viewportref16Checkq1  c1_ [] [])) <|
ww (m_viewportref16Checkq1_ok n  c1_ hc1) <|
zz 7 (xnF hc2) <|
zz 10 (xdF hc3) <|
zz 16 (xdF hc4) <|
yy 21 (.call (C_viewportref20slotq1 a1 c5_ [] [])) <|
ww (m_viewportref20slotq1_ok n a1 c5_ hc5) <|
yy 22 (vt) <|
ww (p := (Value.bool (!c5_)) = (Value.bool true)) (vBn (Bool.eq_false_iff.2 hc6)) <|
ee) (by kernel_rfl)
theorem p_viewportref20Doneq1_8 (n : Nat) (a0 a1 a2 a3 a4 a5 c1_ : Int) (hc1 : m_viewportref16Checkq1 n = some c1_) (hc2 : ¬ (c1_ = (0 : Int))) : G_viewportref20Doneq1 a0 a1 a2 a3 a4 a5 false :=
 runF2 hm (L := lT []) ⟨[6], [], 0, 0⟩ (yy 6 (.call (C_viewportref16Checkq1  c1_ [] [])) <|
ww (m_viewportref16Checkq1_ok n  c1_ hc1) <|
zz 7 (xnT hc2) <|
ee) (by kernel_rfl)
theorem m_viewportref20Doneq1_ok (n : Nat) (a0 : Int) (a1 : Int) (a2 : Int) (a3 : Int) (a4 : Int) (a5 : Int) (r : Bool) (h : m_viewportref20Doneq1 n a0 a1 a2 a3 a4 a5 = some r) : Gv P (.func 9) (A_viewportref20Doneq1 a0 a1 a2 a3 a4 a5) (H_viewportref20Doneq1 a0 a1 a2 a3 a4 a5) (V_viewportref20Doneq1 a0 a1 a2 a3 a4 a5 r) (R_viewportref20Doneq1 a0 a1 a2 a3 a4 a5 r) := by
 unfold m_viewportref20Doneq1 at h
 obtain ⟨c1_, hc1, h⟩ := Option.bind_eq_some_iff.1 h
 by_cases hc2 : c1_ = (0 : Int)
 ·rw [if_pos hc2] at h
  by_cases hc3 : a0 < (0 : Int)
  ·rw [if_pos hc3] at h
   obtain rfl := Option.some.inj h; exact p_viewportref20Doneq1_0 n a0 a1 a2 a3 a4 a5 c1_ hc1 hc2 hc3
  ·rw [if_neg hc3] at h
   by_cases hc4 : a0 ≥ (((Args.A).length : Nat) : Int)
   ·rw [if_pos hc4] at h
    obtain rfl := Option.some.inj h; exact p_viewportref20Doneq1_1 n a0 a1 a2 a3 a4 a5 c1_ hc1 hc2 hc3 hc4
   ·rw [if_neg hc4] at h
    obtain ⟨c5_, hc5, h⟩ := Option.bind_eq_some_iff.1 h
    by_cases hc6 : c5_ = true
    ·rw [if_pos hc6] at h
     by_cases hc7 : 0 ≤ a0 ∧ a0 < (((Args.A).length : Nat) : Int)
     ·rw [if_pos hc7] at h
      obtain ⟨c8_, hc8, h⟩ := Option.bind_eq_some_iff.1 h
      by_cases hc9 : a2 < (c8_.2.2.1)
      ·rw [if_pos hc9] at h
       obtain rfl := Option.some.inj h; exact p_viewportref20Doneq1_2 n a0 a1 a2 a3 a4 a5 c1_ hc1 hc2 hc3 hc4 c5_ hc5 hc6 hc7 c8_ hc8 hc9
      ·rw [if_neg hc9] at h
       by_cases hc10 : a3 > (c8_.2.2.2.2.1)
       ·rw [if_pos hc10] at h
        obtain rfl := Option.some.inj h; exact p_viewportref20Doneq1_3 n a0 a1 a2 a3 a4 a5 c1_ hc1 hc2 hc3 hc4 c5_ hc5 hc6 hc7 c8_ hc8 hc9 hc10
       ·rw [if_neg hc10] at h
        by_cases hc11 : a2 > a3
        ·rw [if_pos hc11] at h
         obtain rfl := Option.some.inj h; exact p_viewportref20Doneq1_4 n a0 a1 a2 a3 a4 a5 c1_ hc1 hc2 hc3 hc4 c5_ hc5 hc6 hc7 c8_ hc8 hc9 hc10 hc11
        ·rw [if_neg hc11] at h
         obtain ⟨c12_, hc12, h⟩ := Option.bind_eq_some_iff.1 h
         rcases hc13 : m_viewportref20Doneq1_1 n a0 a1 a2 a3 a4 a5 c12_ 0 with _ | (⟨⟩ | ⟨⟩)
         ·rw [hc13] at h; cases h
         ·rw [hc13] at h
          dsimp only at h
          obtain rfl := Option.some.inj h; exact p_viewportref20Doneq1_5 n a0 a1 a2 a3 a4 a5 c1_ hc1 hc2 hc3 hc4 c5_ hc5 hc6 hc7 c8_ hc8 hc9 hc10 hc11 c12_ hc12 hc13
         ·rw [hc13] at h
          dsimp only at h
          obtain rfl := Option.some.inj h; exact p_viewportref20Doneq1_6 n a0 a1 a2 a3 a4 a5 c1_ hc1 hc2 hc3 hc4 c5_ hc5 hc6 hc7 c8_ hc8 hc9 hc10 hc11 c12_ hc12 hc13
     ·rw [if_neg hc7] at h; cases h
    ·rw [if_neg hc6] at h
     obtain rfl := Option.some.inj h; exact p_viewportref20Doneq1_7 n a0 a1 a2 a3 a4 a5 c1_ hc1 hc2 hc3 hc4 c5_ hc5 hc6
 ·rw [if_neg hc2] at h
  obtain rfl := Option.some.inj h; exact p_viewportref20Doneq1_8 n a0 a1 a2 a3 a4 a5 c1_ hc1 hc2

noncomputable def A_viewportkitPickq1 (a0 : Int) (a1 : Int) : List Value := [(i6 a0), (i6 a1)]
noncomputable def H_viewportkitPickq1 (a0 : Int) (a1 : Int) : AH := ⟨sB [], 0, 0⟩
noncomputable def V_viewportkitPickq1 (a0 : Int) (a1 : Int) (r : Int) : Value := match r with
 | o0 => (i6 o0)
noncomputable def R_viewportkitPickq1 (a0 : Int) (a1 : Int) (r : Int) : AH := match r with
 | o0 => ⟨sB [], 0, 0⟩
noncomputable abbrev G_viewportkitPickq1 (a0 : Int) (a1 : Int) (r : Int) : Prop := Gv P (.func 10) (A_viewportkitPickq1 a0 a1) (H_viewportkitPickq1 a0 a1) (V_viewportkitPickq1 a0 a1 r) (R_viewportkitPickq1 a0 a1 r)
noncomputable abbrev C_viewportkitPickq1 (a0 : Int) (a1 : Int) (r : Int) (ins outs : BL) : CallA := ⟨0, ins, V_viewportkitPickq1 a0 a1 r, R_viewportkitPickq1 a0 a1 r, outs⟩
def m_viewportkitPickq1 (n : Nat) (a0 : Int) (a1 : Int) : Option (Int) :=
 if a1 < (1 : Int) then
  some 0
 else
  if ¬ (a1 = 0) then
   if (Int.tmod a0 a1) < (0 : Int) then
    some (w64 ((Int.tmod a0 a1) + a1))
   else
    some (Int.tmod a0 a1)
  else none
theorem p_viewportkitPickq1_0 (n : Nat) (a0 a1 : Int) (hc1 : a1 < (1 : Int)) : G_viewportkitPickq1 a0 a1 0 :=
 runF2 hm (L := lT []) ⟨[4], [], 0, 0⟩ (zz 5 (xdT hc1) <|
ee) (by kernel_rfl)
theorem p_viewportkitPickq1_1 (n : Nat) (a0 a1 : Int) (hc1 : ¬ (a1 < (1 : Int))) (hc2 : ¬ (a1 = 0)) (hc3 : (Int.tmod a0 a1) < (0 : Int)) : G_viewportkitPickq1 a0 a1 (w64 ((Int.tmod a0 a1) + a1)) :=
 runF2 hm (L := lT []) ⟨[4], [], 0, 0⟩ (zz 5 (xdF hc1) <|
yy 10 (.pur (i6 (Int.tmod a0 a1))) <|
ww (p := opBin P .rem 3 (.tmp 8) (.tmp 9) (i6 a0) (i6 a1) Ax.h0 = some ((i6 (Int.tmod a0 a1)), Ax.h0)) (remI hc2) <|
zz 15 (xdT hc3) <|
ee) (by kernel_rfl)
theorem p_viewportkitPickq1_2 (n : Nat) (a0 a1 : Int) (hc1 : ¬ (a1 < (1 : Int))) (hc2 : ¬ (a1 = 0)) (hc3 : ¬ ((Int.tmod a0 a1) < (0 : Int))) : G_viewportkitPickq1 a0 a1 (Int.tmod a0 a1) :=
 runF2 hm (L := lT []) ⟨[4], [], 0, 0⟩ (zz 5 (xdF hc1) <|
yy 10 (.pur (i6 (Int.tmod a0 a1))) <|
ww (p := opBin P .rem 3 (.tmp 8) (.tmp 9) (i6 a0) (i6 a1) Ax.h0 = some ((i6 (Int.tmod a0 a1)), Ax.h0)) (remI hc2) <|
zz 15 (xdF hc3) <|
ee) (by kernel_rfl)
theorem m_viewportkitPickq1_ok (n : Nat) (a0 : Int) (a1 : Int) (r : Int) (h : m_viewportkitPickq1 n a0 a1 = some r) : Gv P (.func 10) (A_viewportkitPickq1 a0 a1) (H_viewportkitPickq1 a0 a1) (V_viewportkitPickq1 a0 a1 r) (R_viewportkitPickq1 a0 a1 r) := by
 unfold m_viewportkitPickq1 at h
 by_cases hc1 : a1 < (1 : Int)
 ·rw [if_pos hc1] at h
  obtain rfl := Option.some.inj h; exact p_viewportkitPickq1_0 n a0 a1 hc1
 ·rw [if_neg hc1] at h
  by_cases hc2 : ¬ (a1 = 0)
  ·rw [if_pos hc2] at h
   by_cases hc3 : (Int.tmod a0 a1) < (0 : Int)
   ·rw [if_pos hc3] at h
    obtain rfl := Option.some.inj h; exact p_viewportkitPickq1_1 n a0 a1 hc1 hc2 hc3
   ·rw [if_neg hc3] at h
    obtain rfl := Option.some.inj h; exact p_viewportkitPickq1_2 n a0 a1 hc1 hc2 hc3
  ·rw [if_neg hc2] at h; cases h

noncomputable def A_treeParentsq1 : List Value := [(sW 0 0 (Args.A).length Args.cA)]
noncomputable def H_treeParentsq1 : AH := ⟨sB [], 0, 0⟩
noncomputable def V_treeParentsq1 (r : List Int × Nat) : Value := match r with
 | (o0, o1) => (sN 0 0 o1 o1)
noncomputable def R_treeParentsq1 (r : List Int × Nat) : AH := match r with
 | (o0, o1) => ⟨sB [(0, (some (.cells (layT (iv o0)) 3)))], 1, 0⟩
noncomputable abbrev G_treeParentsq1 (r : List Int × Nat) : Prop := Gv P (.func 22) A_treeParentsq1 H_treeParentsq1 (V_treeParentsq1  r) (R_treeParentsq1  r)
noncomputable abbrev C_treeParentsq1 (r : List Int × Nat) (ins outs : BL) : CallA := ⟨0, ins, V_treeParentsq1  r, R_treeParentsq1  r, outs⟩
noncomputable def S_treeParentsq1_2 (x2_1 : Nat) (x2_2 : Int) (x2_3 : Int) (x2_4 : NL) (x2_5 : Int) (st : List Int × Int) : XSt := match st with
 | (x2_0, x2_6) => (sT 37 [(3, (sN 0 0 x2_1 x2_1)), (4, (i6 x2_2)), (16, (sW 0 0 (Args.A).length Args.cA)), (17, (i6 x2_3)), (18, (i6 x2_2)), (24, (nlV x2_4)), (25, (i6 x2_5)), (26, (i6 x2_6))], [], ⟨sB [(0, (some (.cells (layT (iv x2_0)) 3)))], 1, 0⟩)
noncomputable def X_treeParentsq1_2 (x2_1 : Nat) (x2_2 : Int) (x2_3 : Int) (x2_4 : NL) (x2_5 : Int) (r : List Int) : Ex × XSt := match r with
 | z2_0 => (.exit 2, (sT 37 [(3, (sN 0 0 x2_1 x2_1)), (16, (sW 0 0 (Args.A).length Args.cA)), (17, (i6 x2_3)), (18, (i6 x2_2))], [], ⟨sB [(0, (some (.cells (layT (iv z2_0)) 3)))], 1, 0⟩))
noncomputable abbrev Q_treeParentsq1_2 (rnd : Option Nat) (x2_1 : Nat) (x2_2 : Int) (x2_3 : Int) (x2_4 : NL) (x2_5 : Int) (st : List Int × Int) (c : Ex × XSt) : Prop := CG P rnd (fnN P 22) 0 (codeOf P 22 [false, false, true, true, false, false, true, true, false, false, true, false, true, true, true, true]) (S_treeParentsq1_2 x2_1 x2_2 x2_3 x2_4 x2_5 st) c
noncomputable abbrev U_treeParentsq1_2 (rd : Option Nat) (x2_1 : Nat) (x2_2 : Int) (x2_3 : Int) (x2_4 : NL) (x2_5 : Int) (st : List Int × Int) (r : List Int) : Prop := CG P rd (fnN P 22) 0 (codeOf P 22 [false, true, true, false, false, true, true, false, false, true, false, true, true, true, true]) (S_treeParentsq1_2 x2_1 x2_2 x2_3 x2_4 x2_5 st) (X_treeParentsq1_2 x2_1 x2_2 x2_3 x2_4 x2_5 r)
def B_treeParentsq1_2 (n : Nat) (x2_1 : Nat) (x2_2 : Int) (x2_3 : Int) (x2_4 : NL) (x2_5 : Int) (st : List Int × Int) : Option ((List Int × Int) ⊕ (List Int)) := match st with
 | (x2_0, x2_6) =>
  if x2_6 < x2_5 then
   if 0 ≤ x2_6 ∧ x2_6 < (((x2_4).l.length : Nat) : Int) then
    if (x2_6).toNat < ((x2_4).l).length then
     ((some (((x2_4).l).getD (x2_6).toNat 0))).bind fun y2_4_ =>
     if 0 ≤ y2_4_ ∧ y2_4_ < ((x2_1 : Nat) : Int) then
      if (y2_4_).toNat < (x2_0).length then
       some (.inl (((x2_0).set (y2_4_).toNat x2_2), (w64 (x2_6 + (1 : Int)))))
      else none
     else none
    else none
   else none
  else
   some (.inr x2_0)
def m_treeParentsq1_2 (n : Nat) (x2_1 : Nat) (x2_2 : Int) (x2_3 : Int) (x2_4 : NL) (x2_5 : Int) (st : List Int × Int) : Option (List Int) := iterM (B_treeParentsq1_2 n x2_1 x2_2 x2_3 x2_4 x2_5) n st
theorem q_treeParentsq1_2_0 (n : Nat) {rnd : Option Nat} (x2_0 : List Int) (x2_1 : Nat) (x2_2 x2_3 : Int) (x2_4 : NL) (x2_5 x2_6 : Int) (hy2_1 : x2_6 < x2_5) (hy2_2 : 0 ≤ x2_6 ∧ x2_6 < (((x2_4).l.length : Nat) : Int)) (hy2_3 : (x2_6).toNat < ((x2_4).l).length) (y2_4_ : Int) (hy2_4 : (some (((x2_4).l).getD (x2_6).toNat 0)) = some y2_4_) (hy2_5 : 0 ≤ y2_4_ ∧ y2_4_ < ((x2_1 : Nat) : Int)) (hy2_6 : (y2_4_).toNat < (x2_0).length) : Q_treeParentsq1_2 rnd x2_1 x2_2 x2_3 x2_4 x2_5 (x2_0, x2_6) (.normal, S_treeParentsq1_2 x2_1 x2_2 x2_3 x2_4 x2_5 (((x2_0).set (y2_4_).toNat x2_2), (w64 (x2_6 + (1 : Int))))) :=
 runC2 hm (L := lT []) ⟨[3, 4, 16, 17, 18, 24, 25, 26], [(0, 0, true)], 1, 0⟩ (zz 1 (xdT hy2_1) <|
zz 7 (xk9 (Nat.add (x2_4).num 64) (x2_4).cap hy2_2) <|
zz 8 (nk10 hy2_4 hy2_3) <|
zz 13 (xk19 0 x2_1 hy2_5) <|
yy 14 (.sto (layT (iv ((x2_0).set (y2_4_).toNat x2_2)))) <|
ww (p := ∃ old, rdT (layT (iv x2_0)) 1 (y2_4_).toNat = some old) (Exists.elim (iv_st (x2_0) ((y2_4_).toNat) (x2_2) hy2_6) fun o h => ⟨o, h.1⟩) <|
ww (p := layL [(i6 x2_2)] (y2_4_).toNat (layT (iv x2_0)) = layT (iv ((x2_0).set (y2_4_).toNat x2_2))) (Exists.elim (iv_st (x2_0) ((y2_4_).toNat) (x2_2) hy2_6) fun o h => h.2) <|
ww (iv_flat ((x2_0).set (y2_4_).toNat x2_2) 3) <|
ee) (by kernel_rfl)
theorem q_treeParentsq1_2_1 (n : Nat) {rnd : Option Nat} (x2_0 : List Int) (x2_1 : Nat) (x2_2 x2_3 : Int) (x2_4 : NL) (x2_5 x2_6 : Int) (hy2_1 : ¬ (x2_6 < x2_5)) : Q_treeParentsq1_2 rnd x2_1 x2_2 x2_3 x2_4 x2_5 (x2_0, x2_6) (X_treeParentsq1_2 x2_1 x2_2 x2_3 x2_4 x2_5 x2_0) :=
 runC2 hm (L := lT []) ⟨[3, 16, 17, 18], [(0, 0, true)], 1, 0⟩ (zz 1 (xdF hy2_1) <|
ww (iv_flat x2_0 3) <|
ee) (by kernel_rfl)
theorem m_treeParentsq1_2_ok (n : Nat) {rnd : Option Nat} (x2_1 : Nat) (x2_2 : Int) (x2_3 : Int) (x2_4 : NL) (x2_5 : Int) (st : List Int × Int) (r : List Int) (h : m_treeParentsq1_2 n x2_1 x2_2 x2_3 x2_4 x2_5 st = some r) : CG P rnd (fnN P 22) 0 (codeOf P 22 [false, true, true, false, false, true, true, false, false, true, false, true, true, true, true]) (S_treeParentsq1_2 x2_1 x2_2 x2_3 x2_4 x2_5 st) (X_treeParentsq1_2 x2_1 x2_2 x2_3 x2_4 x2_5 r) :=
 CG.iter (b := codeOf P 22 [false, false, true, true, false, false, true, true, false, false, true, false, true, true, true, true]) (by kernel_rfl) (body := B_treeParentsq1_2 n x2_1 x2_2 x2_3 x2_4 x2_5) (S := S_treeParentsq1_2 x2_1 x2_2 x2_3 x2_4 x2_5) (X := X_treeParentsq1_2 x2_1 x2_2 x2_3 x2_4 x2_5)
  (fun s s' h => by
  obtain ⟨x2_0, x2_6⟩ := s
  unfold B_treeParentsq1_2 at h
  dsimp only at h
  by_cases hy2_1 : x2_6 < x2_5
  ·rw [if_pos hy2_1] at h
   by_cases hy2_2 : 0 ≤ x2_6 ∧ x2_6 < (((x2_4).l.length : Nat) : Int)
   ·rw [if_pos hy2_2] at h
    by_cases hy2_3 : (x2_6).toNat < ((x2_4).l).length
    ·rw [if_pos hy2_3] at h
     obtain ⟨y2_4_, hy2_4, h⟩ := Option.bind_eq_some_iff.1 h
     by_cases hy2_5 : 0 ≤ y2_4_ ∧ y2_4_ < ((x2_1 : Nat) : Int)
     ·rw [if_pos hy2_5] at h
      by_cases hy2_6 : (y2_4_).toNat < (x2_0).length
      ·rw [if_pos hy2_6] at h
       obtain rfl := Sum.inl.inj (Option.some.inj h); exact q_treeParentsq1_2_0 n x2_0 x2_1 x2_2 x2_3 x2_4 x2_5 x2_6 hy2_1 hy2_2 hy2_3 y2_4_ hy2_4 hy2_5 hy2_6
      ·rw [if_neg hy2_6] at h; cases h
     ·rw [if_neg hy2_5] at h; cases h
    ·rw [if_neg hy2_3] at h; cases h
   ·rw [if_neg hy2_2] at h; cases h
  ·rw [if_neg hy2_1] at h
   cases h)
  (fun s r h => by
  obtain ⟨x2_0, x2_6⟩ := s
  unfold B_treeParentsq1_2 at h
  dsimp only at h
  by_cases hy2_1 : x2_6 < x2_5
  ·rw [if_pos hy2_1] at h
   by_cases hy2_2 : 0 ≤ x2_6 ∧ x2_6 < (((x2_4).l.length : Nat) : Int)
   ·rw [if_pos hy2_2] at h
    by_cases hy2_3 : (x2_6).toNat < ((x2_4).l).length
    ·rw [if_pos hy2_3] at h
     obtain ⟨y2_4_, hy2_4, h⟩ := Option.bind_eq_some_iff.1 h
     by_cases hy2_5 : 0 ≤ y2_4_ ∧ y2_4_ < ((x2_1 : Nat) : Int)
     ·rw [if_pos hy2_5] at h
      by_cases hy2_6 : (y2_4_).toNat < (x2_0).length
      ·rw [if_pos hy2_6] at h
       cases h
      ·rw [if_neg hy2_6] at h; cases h
     ·rw [if_neg hy2_5] at h; cases h
    ·rw [if_neg hy2_3] at h; cases h
   ·rw [if_neg hy2_2] at h; cases h
  ·rw [if_neg hy2_1] at h
   obtain rfl := Sum.inr.inj (Option.some.inj h); exact q_treeParentsq1_2_1 n x2_0 x2_1 x2_2 x2_3 x2_4 x2_5 x2_6 hy2_1)
  (fun r => by intro hx; cases hx) h
noncomputable def S_treeParentsq1_1 (x1_1 : Nat) (x1_2 : Int) (st : List Int × Int) : XSt := match st with
 | (x1_0, x1_3) => (sT 37 [(3, (sN 0 0 x1_1 x1_1)), (16, (sW 0 0 (Args.A).length Args.cA)), (17, (i6 x1_2)), (18, (i6 x1_3))], [], ⟨sB [(0, (some (.cells (layT (iv x1_0)) 3)))], 1, 0⟩)
noncomputable def X_treeParentsq1_1 (x1_1 : Nat) (x1_2 : Int) (r : List Int) : Ex × XSt := match r with
 | z1_0 => (.exit 0, (sT 37 [(3, (sN 0 0 x1_1 x1_1))], [], ⟨sB [(0, (some (.cells (layT (iv z1_0)) 3)))], 1, 0⟩))
noncomputable abbrev Q_treeParentsq1_1 (rnd : Option Nat) (x1_1 : Nat) (x1_2 : Int) (st : List Int × Int) (c : Ex × XSt) : Prop := CG P rnd (fnN P 22) 0 (codeOf P 22 [false, false, true, false, true, true, true, true]) (S_treeParentsq1_1 x1_1 x1_2 st) c
noncomputable abbrev U_treeParentsq1_1 (rd : Option Nat) (x1_1 : Nat) (x1_2 : Int) (st : List Int × Int) (r : List Int) : Prop := CG P rd (fnN P 22) 0 (codeOf P 22 [false, true, false, true, true, true, true]) (S_treeParentsq1_1 x1_1 x1_2 st) (X_treeParentsq1_1 x1_1 x1_2 r)
def B_treeParentsq1_1 (n : Nat) (x1_1 : Nat) (x1_2 : Int) (st : List Int × Int) : Option ((List Int × Int) ⊕ (List Int)) := match st with
 | (x1_0, x1_3) =>
  if x1_3 < x1_2 then
   if 0 ≤ x1_3 ∧ x1_3 < (((Args.A).length : Nat) : Int) then
    ((some ((Args.A).getD (x1_3).toNat (0, 0, 0, 0, 0, 0, nl0, 0)))).bind fun y1_3_ =>
    (m_treeParentsq1_2 n x1_1 x1_3 x1_2 (y1_3_.2.2.2.2.2.2.1) ((((y1_3_.2.2.2.2.2.2.1)).l.length : Nat) : Int) (x1_0, 0)).bind fun y1_4_ =>
    some (.inl (y1_4_, (w64 (x1_3 + (1 : Int)))))
   else none
  else
   some (.inr x1_0)
def m_treeParentsq1_1 (n : Nat) (x1_1 : Nat) (x1_2 : Int) (st : List Int × Int) : Option (List Int) := iterM (B_treeParentsq1_1 n x1_1 x1_2) n st
theorem q_treeParentsq1_1_0 (n : Nat) {rnd : Option Nat} (x1_0 : List Int) (x1_1 : Nat) (x1_2 x1_3 : Int) (hy1_1 : x1_3 < x1_2) (hy1_2 : 0 ≤ x1_3 ∧ x1_3 < (((Args.A).length : Nat) : Int)) (y1_3_ : Int × Int × Int × Int × Int × Int × NL × Int) (hy1_3 : (some ((Args.A).getD (x1_3).toNat (0, 0, 0, 0, 0, 0, nl0, 0))) = some y1_3_) (y1_4_ : List Int) (hy1_4 : m_treeParentsq1_2 n x1_1 x1_3 x1_2 (y1_3_.2.2.2.2.2.2.1) ((((y1_3_.2.2.2.2.2.2.1)).l.length : Nat) : Int) (x1_0, 0) = some y1_4_) : Q_treeParentsq1_1 rnd x1_1 x1_2 (x1_0, x1_3) (.normal, S_treeParentsq1_1 x1_1 x1_2 (y1_4_, (w64 (x1_3 + (1 : Int))))) :=
 runC2 hm (L := lT [(19, ⟨⟨[3, 4, 16, 17, 18, 24, 25, 26], [(0, 0, true)], 1, 0⟩, (X_treeParentsq1_2 x1_1 x1_3 x1_2 (y1_3_.2.2.2.2.2.2.1) ((((y1_3_.2.2.2.2.2.2.1)).l.length : Nat) : Int) y1_4_).1, (X_treeParentsq1_2 x1_1 x1_3 x1_2 (y1_3_.2.2.2.2.2.2.1) ((((y1_3_.2.2.2.2.2.2.1)).l.length : Nat) : Int) y1_4_).2⟩)]) ⟨[3, 16, 17, 18], [(0, 0, true)], 1, 0⟩ (zz 1 (xdT hy1_1) <|
zz 8 (xk1 0 Args.cA hy1_2) <|
zz 9 (lk2 hy1_3 (toNatLt hy1_2)) <|
ww (p := U_treeParentsq1_2 rnd x1_1 x1_3 x1_2 (y1_3_.2.2.2.2.2.2.1) ((((y1_3_.2.2.2.2.2.2.1)).l.length : Nat) : Int) (x1_0, 0) y1_4_) (m_treeParentsq1_2_ok n x1_1 x1_3 x1_2 (y1_3_.2.2.2.2.2.2.1) ((((y1_3_.2.2.2.2.2.2.1)).l.length : Nat) : Int) (x1_0, 0) y1_4_ hy1_4) <|
ww (iv_flat x1_0 3) <|
ww (iv_flat y1_4_ 3) <|
ee) (by kernel_rfl)
theorem q_treeParentsq1_1_1 (n : Nat) {rnd : Option Nat} (x1_0 : List Int) (x1_1 : Nat) (x1_2 x1_3 : Int) (hy1_1 : ¬ (x1_3 < x1_2)) : Q_treeParentsq1_1 rnd x1_1 x1_2 (x1_0, x1_3) (X_treeParentsq1_1 x1_1 x1_2 x1_0) :=
 runC2 hm (L := lT []) ⟨[3], [(0, 0, true)], 1, 0⟩ (zz 1 (xdF hy1_1) <|
ww (iv_flat x1_0 3) <|
ee) (by kernel_rfl)
theorem m_treeParentsq1_1_ok (n : Nat) {rnd : Option Nat} (x1_1 : Nat) (x1_2 : Int) (st : List Int × Int) (r : List Int) (h : m_treeParentsq1_1 n x1_1 x1_2 st = some r) : CG P rnd (fnN P 22) 0 (codeOf P 22 [false, true, false, true, true, true, true]) (S_treeParentsq1_1 x1_1 x1_2 st) (X_treeParentsq1_1 x1_1 x1_2 r) :=
 CG.iter (b := codeOf P 22 [false, false, true, false, true, true, true, true]) (by kernel_rfl) (body := B_treeParentsq1_1 n x1_1 x1_2) (S := S_treeParentsq1_1 x1_1 x1_2) (X := X_treeParentsq1_1 x1_1 x1_2)
  (fun s s' h => by
  obtain ⟨x1_0, x1_3⟩ := s
  unfold B_treeParentsq1_1 at h
  dsimp only at h
  by_cases hy1_1 : x1_3 < x1_2
  ·rw [if_pos hy1_1] at h
   by_cases hy1_2 : 0 ≤ x1_3 ∧ x1_3 < (((Args.A).length : Nat) : Int)
   ·rw [if_pos hy1_2] at h
    obtain ⟨y1_3_, hy1_3, h⟩ := Option.bind_eq_some_iff.1 h
    obtain ⟨y1_4_, hy1_4, h⟩ := Option.bind_eq_some_iff.1 h
    obtain rfl := Sum.inl.inj (Option.some.inj h); exact q_treeParentsq1_1_0 n x1_0 x1_1 x1_2 x1_3 hy1_1 hy1_2 y1_3_ hy1_3 y1_4_ hy1_4
   ·rw [if_neg hy1_2] at h; cases h
  ·rw [if_neg hy1_1] at h
   cases h)
  (fun s r h => by
  obtain ⟨x1_0, x1_3⟩ := s
  unfold B_treeParentsq1_1 at h
  dsimp only at h
  by_cases hy1_1 : x1_3 < x1_2
  ·rw [if_pos hy1_1] at h
   by_cases hy1_2 : 0 ≤ x1_3 ∧ x1_3 < (((Args.A).length : Nat) : Int)
   ·rw [if_pos hy1_2] at h
    obtain ⟨y1_3_, hy1_3, h⟩ := Option.bind_eq_some_iff.1 h
    obtain ⟨y1_4_, hy1_4, h⟩ := Option.bind_eq_some_iff.1 h
    cases h
   ·rw [if_neg hy1_2] at h; cases h
  ·rw [if_neg hy1_1] at h
   obtain rfl := Sum.inr.inj (Option.some.inj h); exact q_treeParentsq1_1_1 n x1_0 x1_1 x1_2 x1_3 hy1_1)
  (fun r => by intro hx; cases hx) h
def m_treeParentsq1 (n : Nat) : Option (List Int × Nat) :=
 (m_treeCheckq1 n).bind fun c1_ =>
 if c1_ = (0 : Int) then
  if 0 ≤ (((Args.A).length : Nat) : Int) then
   if ((((Args.A).length : Nat) : Int)).toNat * 8 ≤ 140737488355328 then
    if 0 ≤ (0 : Int) ∧ (0 : Int) < ((((((Args.A).length : Nat) : Int)).toNat : Nat) : Int) then
     if ((0 : Int)).toNat < ((List.replicate ((((Args.A).length : Nat) : Int)).toNat (0 : Int))).length then
      (m_treeParentsq1_1 n (((((Args.A).length : Nat) : Int)).toNat) (((Args.A).length : Nat) : Int) ((((List.replicate ((((Args.A).length : Nat) : Int)).toNat (0 : Int))).set ((0 : Int)).toNat (-1 : Int)), 0)).bind fun c7_ =>
      some (c7_, (((((Args.A).length : Nat) : Int)).toNat))
     else none
    else none
   else none
  else none
 else
  none
theorem p_treeParentsq1_0 (n : Nat) (c1_ : Int) (hc1 : m_treeCheckq1 n = some c1_) (hc2 : c1_ = (0 : Int)) (hc3 : 0 ≤ (((Args.A).length : Nat) : Int)) (hc4 : ((((Args.A).length : Nat) : Int)).toNat * 8 ≤ 140737488355328) (hc5 : 0 ≤ (0 : Int) ∧ (0 : Int) < ((((((Args.A).length : Nat) : Int)).toNat : Nat) : Int)) (hc6 : ((0 : Int)).toNat < ((List.replicate ((((Args.A).length : Nat) : Int)).toNat (0 : Int))).length) (c7_ : List Int) (hc7 : m_treeParentsq1_1 n (((((Args.A).length : Nat) : Int)).toNat) (((Args.A).length : Nat) : Int) ((((List.replicate ((((Args.A).length : Nat) : Int)).toNat (0 : Int))).set ((0 : Int)).toNat (-1 : Int)), 0) = some c7_) : G_treeParentsq1  (c7_, (((((Args.A).length : Nat) : Int)).toNat)) :=
 runF2 hm (L := lT [(23, ⟨⟨[3, 16, 17, 18], [(0, 0, true)], 1, 0⟩, (X_treeParentsq1_1 (((((Args.A).length : Nat) : Int)).toNat) (((Args.A).length : Nat) : Int) c7_).1, (X_treeParentsq1_1 (((((Args.A).length : Nat) : Int)).toNat) (((Args.A).length : Nat) : Int) c7_).2⟩)]) ⟨[2], [(0, 0, true)], 1, 0⟩ (yy 5 (.call (C_treeCheckq1  c1_ [] [])) <|
ww (m_treeCheckq1_ok n  c1_ hc1) <|
zz 6 (xnF hc2) <|
yy 11 (.mk ((((Args.A).length : Nat) : Int)).toNat (iv (List.replicate ((((Args.A).length : Nat) : Int)).toNat (0 : Int)))) <|
ww (p := natOf (i6 (((Args.A).length : Nat) : Int)) = some ((((Args.A).length : Nat) : Int)).toNat) (natOf_toNat hc3) <|
ww (p := natOf (i6 (((Args.A).length : Nat) : Int)) = some ((((Args.A).length : Nat) : Int)).toNat) (natOf_toNat hc3) <|
ww (p := fits ((((Args.A).length : Nat) : Int)).toNat 8 = true) (fits_ok hc4 (by omega)) <|
ww (p := isZ8 [(i6 (0 : Int))] = false) (rfl) <|
ww (p := reps [(i6 (0 : Int))] ((((Args.A).length : Nat) : Int)).toNat = (iv (List.replicate ((((Args.A).length : Nat) : Int)).toNat (0 : Int)))) (reps_iv _) <|
zz 15 (xk19 0 ((((Args.A).length : Nat) : Int)).toNat hc5) <|
yy 16 (.sto (layT (iv (((List.replicate ((((Args.A).length : Nat) : Int)).toNat (0 : Int))).set ((0 : Int)).toNat (-1 : Int))))) <|
ww (p := ∃ old, rdT (layT (iv (List.replicate ((((Args.A).length : Nat) : Int)).toNat (0 : Int)))) 1 ((0 : Int)).toNat = some old) (Exists.elim (iv_st ((List.replicate ((((Args.A).length : Nat) : Int)).toNat (0 : Int))) (((0 : Int)).toNat) ((-1 : Int)) hc6) fun o h => ⟨o, h.1⟩) <|
ww (p := layL [(i6 (-1 : Int))] ((0 : Int)).toNat (layT (iv (List.replicate ((((Args.A).length : Nat) : Int)).toNat (0 : Int)))) = layT (iv (((List.replicate ((((Args.A).length : Nat) : Int)).toNat (0 : Int))).set ((0 : Int)).toNat (-1 : Int)))) (Exists.elim (iv_st ((List.replicate ((((Args.A).length : Nat) : Int)).toNat (0 : Int))) (((0 : Int)).toNat) ((-1 : Int)) hc6) fun o h => h.2) <|
ww (p := U_treeParentsq1_1 none (((((Args.A).length : Nat) : Int)).toNat) (((Args.A).length : Nat) : Int) ((((List.replicate ((((Args.A).length : Nat) : Int)).toNat (0 : Int))).set ((0 : Int)).toNat (-1 : Int)), 0) c7_) (m_treeParentsq1_1_ok n (((((Args.A).length : Nat) : Int)).toNat) (((Args.A).length : Nat) : Int) ((((List.replicate ((((Args.A).length : Nat) : Int)).toNat (0 : Int))).set ((0 : Int)).toNat (-1 : Int)), 0) c7_ hc7) <|
ww (iv_flat (((List.replicate ((((Args.A).length : Nat) : Int)).toNat (0 : Int))).set ((0 : Int)).toNat (-1 : Int)) 3) <|
ww (iv_flat c7_ 3) <|
ee) (by kernel_rfl)
theorem m_treeParentsq1_ok (n : Nat) (r : List Int × Nat) (h : m_treeParentsq1 n = some r) : Gv P (.func 22) A_treeParentsq1 H_treeParentsq1 (V_treeParentsq1  r) (R_treeParentsq1  r) := by
 unfold m_treeParentsq1 at h
 obtain ⟨c1_, hc1, h⟩ := Option.bind_eq_some_iff.1 h
 by_cases hc2 : c1_ = (0 : Int)
 ·rw [if_pos hc2] at h
  by_cases hc3 : 0 ≤ (((Args.A).length : Nat) : Int)
  ·rw [if_pos hc3] at h
   by_cases hc4 : ((((Args.A).length : Nat) : Int)).toNat * 8 ≤ 140737488355328
   ·rw [if_pos hc4] at h
    by_cases hc5 : 0 ≤ (0 : Int) ∧ (0 : Int) < ((((((Args.A).length : Nat) : Int)).toNat : Nat) : Int)
    ·rw [if_pos hc5] at h
     by_cases hc6 : ((0 : Int)).toNat < ((List.replicate ((((Args.A).length : Nat) : Int)).toNat (0 : Int))).length
     ·rw [if_pos hc6] at h
      obtain ⟨c7_, hc7, h⟩ := Option.bind_eq_some_iff.1 h
      obtain rfl := Option.some.inj h; exact p_treeParentsq1_0 n c1_ hc1 hc2 hc3 hc4 hc5 hc6 c7_ hc7
     ·rw [if_neg hc6] at h; cases h
    ·rw [if_neg hc5] at h; cases h
   ·rw [if_neg hc4] at h; cases h
  ·rw [if_neg hc3] at h; cases h
 ·rw [if_neg hc2] at h
  cases h

noncomputable def A_targetfamilyparentq1 (a0 : List Int) (a1 : Nat) (a2 : Nat) (a3 : Int) : List Value := [(Value.agg #[(sN 0 0 a1 a2)]), (i6 a3)]
noncomputable def H_targetfamilyparentq1 (a0 : List Int) (a1 : Nat) (a2 : Nat) (a3 : Int) : AH := ⟨sB [(0, (some (.cells (layT (iv a0)) 3)))], 1, 1⟩
noncomputable def V_targetfamilyparentq1 (a0 : List Int) (a1 : Nat) (a2 : Nat) (a3 : Int) (r : Int) : Value := match r with
 | o0 => (i6 o0)
noncomputable def R_targetfamilyparentq1 (a0 : List Int) (a1 : Nat) (a2 : Nat) (a3 : Int) (r : Int) : AH := match r with
 | o0 => ⟨sB [], 1, 1⟩
noncomputable abbrev G_targetfamilyparentq1 (a0 : List Int) (a1 : Nat) (a2 : Nat) (a3 : Int) (r : Int) : Prop := Gv P (.func 24) (A_targetfamilyparentq1 a0 a1 a2 a3) (H_targetfamilyparentq1 a0 a1 a2 a3) (V_targetfamilyparentq1 a0 a1 a2 a3 r) (R_targetfamilyparentq1 a0 a1 a2 a3 r)
noncomputable abbrev C_targetfamilyparentq1 (a0 : List Int) (a1 : Nat) (a2 : Nat) (a3 : Int) (r : Int) (ins outs : BL) : CallA := ⟨1, ins, V_targetfamilyparentq1 a0 a1 a2 a3 r, R_targetfamilyparentq1 a0 a1 a2 a3 r, outs⟩
def m_targetfamilyparentq1 (n : Nat) (a0 : List Int) (a1 : Nat) (a2 : Nat) (a3 : Int) : Option (Int) :=
 if 0 ≤ a3 ∧ a3 < ((a1 : Nat) : Int) then
  if (a3).toNat < (a0).length then
   ((some ((a0).getD (a3).toNat 0))).bind fun c3_ =>
   some c3_
  else none
 else none
theorem p_targetfamilyparentq1_0 (n : Nat) (a0 : List Int) (a1 a2 : Nat) (a3 : Int) (hc1 : 0 ≤ a3 ∧ a3 < ((a1 : Nat) : Int)) (hc2 : (a3).toNat < (a0).length) (c3_ : Int) (hc3 : (some ((a0).getD (a3).toNat 0)) = some c3_) : G_targetfamilyparentq1 a0 a1 a2 a3 c3_ :=
 runF2 hm (L := lT []) ⟨[4], [], 1, 1⟩ (zz 7 (xk19 0 a2 hc1) <|
zz 8 (xivN hc3 hc2) <|
ee) (by kernel_rfl)
theorem m_targetfamilyparentq1_ok (n : Nat) (a0 : List Int) (a1 : Nat) (a2 : Nat) (a3 : Int) (r : Int) (h : m_targetfamilyparentq1 n a0 a1 a2 a3 = some r) : Gv P (.func 24) (A_targetfamilyparentq1 a0 a1 a2 a3) (H_targetfamilyparentq1 a0 a1 a2 a3) (V_targetfamilyparentq1 a0 a1 a2 a3 r) (R_targetfamilyparentq1 a0 a1 a2 a3 r) := by
 unfold m_targetfamilyparentq1 at h
 by_cases hc1 : 0 ≤ a3 ∧ a3 < ((a1 : Nat) : Int)
 ·rw [if_pos hc1] at h
  by_cases hc2 : (a3).toNat < (a0).length
  ·rw [if_pos hc2] at h
   obtain ⟨c3_, hc3, h⟩ := Option.bind_eq_some_iff.1 h
   obtain rfl := Option.some.inj h; exact p_targetfamilyparentq1_0 n a0 a1 a2 a3 hc1 hc2 c3_ hc3
  ·rw [if_neg hc2] at h; cases h
 ·rw [if_neg hc1] at h; cases h

noncomputable def A_targetclimbq1 (a0 : Int) (a1 : Int) (a2 : List Int) (a3 : Nat) (a4 : Nat) : List Value := [(i6 a0), (i6 a1), (Value.func (.func 24) #[(Value.agg #[(sN 0 0 a3 a4)])] #[])]
noncomputable def H_targetclimbq1 (a0 : Int) (a1 : Int) (a2 : List Int) (a3 : Nat) (a4 : Nat) : AH := ⟨sB [(0, (some (.cells (layT (iv a2)) 3)))], 1, 1⟩
noncomputable def V_targetclimbq1 (a0 : Int) (a1 : Int) (a2 : List Int) (a3 : Nat) (a4 : Nat) (r : Int) : Value := match r with
 | o0 => (i6 o0)
noncomputable def R_targetclimbq1 (a0 : Int) (a1 : Int) (a2 : List Int) (a3 : Nat) (a4 : Nat) (r : Int) : AH := match r with
 | o0 => ⟨sB [], 1, 1⟩
noncomputable abbrev G_targetclimbq1 (a0 : Int) (a1 : Int) (a2 : List Int) (a3 : Nat) (a4 : Nat) (r : Int) : Prop := Gv P (.func 23) (A_targetclimbq1 a0 a1 a2 a3 a4) (H_targetclimbq1 a0 a1 a2 a3 a4) (V_targetclimbq1 a0 a1 a2 a3 a4 r) (R_targetclimbq1 a0 a1 a2 a3 a4 r)
noncomputable abbrev C_targetclimbq1 (a0 : Int) (a1 : Int) (a2 : List Int) (a3 : Nat) (a4 : Nat) (r : Int) (ins outs : BL) : CallA := ⟨1, ins, V_targetclimbq1 a0 a1 a2 a3 a4 r, R_targetclimbq1 a0 a1 a2 a3 a4 r, outs⟩
noncomputable def S_targetclimbq1_1 (x1_0 : List Int) (x1_3 : Nat) (x1_4 : Nat) (st : Int × Int) : XSt := match st with
 | (x1_1, x1_2) => (sT 19 [(0, (i6 x1_1)), (1, (i6 x1_2)), (2, (Value.func (.func 24) #[(Value.agg #[(sN 0 0 x1_3 x1_4)])] #[]))], [], ⟨sB [(0, (some (.cells (layT (iv x1_0)) 3)))], 1, 1⟩)
noncomputable def X_targetclimbq1_1 (x1_0 : List Int) (x1_3 : Nat) (x1_4 : Nat) (r : Int) : Ex × XSt := match r with
 | z1_0 => (.exit 0, (sT 19 [(0, (i6 z1_0))], [], ⟨sB [(0, (some (.cells (layT (iv x1_0)) 3)))], 1, 1⟩))
noncomputable abbrev Q_targetclimbq1_1 (rnd : Option Nat) (x1_0 : List Int) (x1_3 : Nat) (x1_4 : Nat) (st : Int × Int) (c : Ex × XSt) : Prop := CG P rnd (fnN P 23) 1 (codeOf P 23 [false, false, false, true]) (S_targetclimbq1_1 x1_0 x1_3 x1_4 st) c
noncomputable abbrev U_targetclimbq1_1 (rd : Option Nat) (x1_0 : List Int) (x1_3 : Nat) (x1_4 : Nat) (st : Int × Int) (r : Int) : Prop := CG P rd (fnN P 23) 1 (codeOf P 23 [false, false, true]) (S_targetclimbq1_1 x1_0 x1_3 x1_4 st) (X_targetclimbq1_1 x1_0 x1_3 x1_4 r)
def B_targetclimbq1_1 (n : Nat) (x1_0 : List Int) (x1_3 : Nat) (x1_4 : Nat) (st : Int × Int) : Option ((Int × Int) ⊕ (Int)) := match st with
 | (x1_1, x1_2) =>
  if x1_2 > (0 : Int) then
   if x1_1 > (0 : Int) then
    (m_targetfamilyparentq1 n x1_0 x1_3 x1_4 x1_1).bind fun y1_3_ =>
    some (.inl (y1_3_, (w64 (x1_2 - (1 : Int)))))
   else
    some (.inr x1_1)
  else
   some (.inr x1_1)
def m_targetclimbq1_1 (n : Nat) (x1_0 : List Int) (x1_3 : Nat) (x1_4 : Nat) (st : Int × Int) : Option (Int) := iterM (B_targetclimbq1_1 n x1_0 x1_3 x1_4) n st
theorem q_targetclimbq1_1_0 (n : Nat) {rnd : Option Nat} (x1_0 : List Int) (x1_1 x1_2 : Int) (x1_3 x1_4 : Nat) (hy1_1 : x1_2 > (0 : Int)) (hy1_2 : x1_1 > (0 : Int)) (y1_3_ : Int) (hy1_3 : m_targetfamilyparentq1 n x1_0 x1_3 x1_4 x1_1 = some y1_3_) : Q_targetclimbq1_1 rnd x1_0 x1_3 x1_4 (x1_1, x1_2) (.normal, S_targetclimbq1_1 x1_0 x1_3 x1_4 (y1_3_, (w64 (x1_2 - (1 : Int))))) :=
 runC2 hm (L := lT []) ⟨[0, 1, 2], [(0, 0, true)], 1, 1⟩ (zz 3 (xdT hy1_1) <|
zz 6 (xdT hy1_2) <|
yy 13 (.call (C_targetfamilyparentq1 x1_0 x1_3 x1_4 x1_1 y1_3_ [(0, 0, true)] [])) <|
ww (m_targetfamilyparentq1_ok n x1_0 x1_3 x1_4 x1_1 y1_3_ hy1_3) <|
ww (iv_flat x1_0 3) <|
ww (iv_flat x1_0 3) <|
ee) (by kernel_rfl)
theorem q_targetclimbq1_1_1 (n : Nat) {rnd : Option Nat} (x1_0 : List Int) (x1_1 x1_2 : Int) (x1_3 x1_4 : Nat) (hy1_1 : x1_2 > (0 : Int)) (hy1_2 : ¬ (x1_1 > (0 : Int))) : Q_targetclimbq1_1 rnd x1_0 x1_3 x1_4 (x1_1, x1_2) (X_targetclimbq1_1 x1_0 x1_3 x1_4 x1_1) :=
 runC2 hm (L := lT []) ⟨[0], [(0, 0, true)], 1, 1⟩ (zz 3 (xdT hy1_1) <|
zz 6 (xdF hy1_2) <|
ww (iv_flat x1_0 3) <|
ee) (by kernel_rfl)
theorem q_targetclimbq1_1_2 (n : Nat) {rnd : Option Nat} (x1_0 : List Int) (x1_1 x1_2 : Int) (x1_3 x1_4 : Nat) (hy1_1 : ¬ (x1_2 > (0 : Int))) : Q_targetclimbq1_1 rnd x1_0 x1_3 x1_4 (x1_1, x1_2) (X_targetclimbq1_1 x1_0 x1_3 x1_4 x1_1) :=
 runC2 hm (L := lT []) ⟨[0], [(0, 0, true)], 1, 1⟩ (zz 3 (xdF hy1_1) <|
ww (iv_flat x1_0 3) <|
ee) (by kernel_rfl)
theorem m_targetclimbq1_1_ok (n : Nat) {rnd : Option Nat} (x1_0 : List Int) (x1_3 : Nat) (x1_4 : Nat) (st : Int × Int) (r : Int) (h : m_targetclimbq1_1 n x1_0 x1_3 x1_4 st = some r) : CG P rnd (fnN P 23) 1 (codeOf P 23 [false, false, true]) (S_targetclimbq1_1 x1_0 x1_3 x1_4 st) (X_targetclimbq1_1 x1_0 x1_3 x1_4 r) :=
 CG.iter (b := codeOf P 23 [false, false, false, true]) (by kernel_rfl) (body := B_targetclimbq1_1 n x1_0 x1_3 x1_4) (S := S_targetclimbq1_1 x1_0 x1_3 x1_4) (X := X_targetclimbq1_1 x1_0 x1_3 x1_4)
  (fun s s' h => by
  obtain ⟨x1_1, x1_2⟩ := s
  unfold B_targetclimbq1_1 at h
  dsimp only at h
  by_cases hy1_1 : x1_2 > (0 : Int)
  ·rw [if_pos hy1_1] at h
   by_cases hy1_2 : x1_1 > (0 : Int)
   ·rw [if_pos hy1_2] at h
    obtain ⟨y1_3_, hy1_3, h⟩ := Option.bind_eq_some_iff.1 h
    obtain rfl := Sum.inl.inj (Option.some.inj h); exact q_targetclimbq1_1_0 n x1_0 x1_1 x1_2 x1_3 x1_4 hy1_1 hy1_2 y1_3_ hy1_3
   ·rw [if_neg hy1_2] at h
    cases h
  ·rw [if_neg hy1_1] at h
   cases h)
  (fun s r h => by
  obtain ⟨x1_1, x1_2⟩ := s
  unfold B_targetclimbq1_1 at h
  dsimp only at h
  by_cases hy1_1 : x1_2 > (0 : Int)
  ·rw [if_pos hy1_1] at h
   by_cases hy1_2 : x1_1 > (0 : Int)
   ·rw [if_pos hy1_2] at h
    obtain ⟨y1_3_, hy1_3, h⟩ := Option.bind_eq_some_iff.1 h
    cases h
   ·rw [if_neg hy1_2] at h
    obtain rfl := Sum.inr.inj (Option.some.inj h); exact q_targetclimbq1_1_1 n x1_0 x1_1 x1_2 x1_3 x1_4 hy1_1 hy1_2
  ·rw [if_neg hy1_1] at h
   obtain rfl := Sum.inr.inj (Option.some.inj h); exact q_targetclimbq1_1_2 n x1_0 x1_1 x1_2 x1_3 x1_4 hy1_1)
  (fun r => by intro hx; cases hx) h
def m_targetclimbq1 (n : Nat) (a0 : Int) (a1 : Int) (a2 : List Int) (a3 : Nat) (a4 : Nat) : Option (Int) :=
 (m_targetclimbq1_1 n a2 a3 a4 (a0, a1)).bind fun c1_ =>
 some c1_
theorem p_targetclimbq1_0 (n : Nat) (a0 a1 : Int) (a2 : List Int) (a3 a4 : Nat) (c1_ : Int) (hc1 : m_targetclimbq1_1 n a2 a3 a4 (a0, a1) = some c1_) : G_targetclimbq1 a0 a1 a2 a3 a4 c1_ :=
 runF2 hm (L := lT [(4, ⟨⟨[0, 1, 2], [(0, 0, true)], 1, 1⟩, (X_targetclimbq1_1 a2 a3 a4 c1_).1, (X_targetclimbq1_1 a2 a3 a4 c1_).2⟩)]) ⟨[6], [], 1, 1⟩ (ww (p := U_targetclimbq1_1 none a2 a3 a4 (a0, a1) c1_) (m_targetclimbq1_1_ok n a2 a3 a4 (a0, a1) c1_ hc1) <|
ww (iv_flat a2 3) <|
ee) (by kernel_rfl)
theorem m_targetclimbq1_ok (n : Nat) (a0 : Int) (a1 : Int) (a2 : List Int) (a3 : Nat) (a4 : Nat) (r : Int) (h : m_targetclimbq1 n a0 a1 a2 a3 a4 = some r) : Gv P (.func 23) (A_targetclimbq1 a0 a1 a2 a3 a4) (H_targetclimbq1 a0 a1 a2 a3 a4) (V_targetclimbq1 a0 a1 a2 a3 a4 r) (R_targetclimbq1 a0 a1 a2 a3 a4 r) := by
 unfold m_targetclimbq1 at h
 obtain ⟨c1_, hc1, h⟩ := Option.bind_eq_some_iff.1 h
 obtain rfl := Option.some.inj h; exact p_targetclimbq1_0 n a0 a1 a2 a3 a4 c1_ hc1

noncomputable def A_targetTargetq1 (a0 : Int) (a1 : Int) (a2 : Int) (a3 : Int) (a4 : Int) (a5 : Int) : List Value := [(sW 0 0 (Args.A).length Args.cA), (Value.agg #[(i6 a0), (i6 a1), (i6 a2), (i6 a3), (i6 a4)]), (i6 a5)]
noncomputable def H_targetTargetq1 (a0 : Int) (a1 : Int) (a2 : Int) (a3 : Int) (a4 : Int) (a5 : Int) : AH := ⟨sB [], 0, 0⟩
noncomputable def V_targetTargetq1 (a0 : Int) (a1 : Int) (a2 : Int) (a3 : Int) (a4 : Int) (a5 : Int) (r : Int) : Value := match r with
 | o0 => (i6 o0)
noncomputable def R_targetTargetq1 (a0 : Int) (a1 : Int) (a2 : Int) (a3 : Int) (a4 : Int) (a5 : Int) (r : Int) : AH := match r with
 | o0 => ⟨sB [], 0, 0⟩
noncomputable abbrev G_targetTargetq1 (a0 : Int) (a1 : Int) (a2 : Int) (a3 : Int) (a4 : Int) (a5 : Int) (r : Int) : Prop := Gv P (.func 11) (A_targetTargetq1 a0 a1 a2 a3 a4 a5) (H_targetTargetq1 a0 a1 a2 a3 a4 a5) (V_targetTargetq1 a0 a1 a2 a3 a4 a5 r) (R_targetTargetq1 a0 a1 a2 a3 a4 a5 r)
noncomputable abbrev C_targetTargetq1 (a0 : Int) (a1 : Int) (a2 : Int) (a3 : Int) (a4 : Int) (a5 : Int) (r : Int) (ins outs : BL) : CallA := ⟨0, ins, V_targetTargetq1 a0 a1 a2 a3 a4 a5 r, R_targetTargetq1 a0 a1 a2 a3 a4 a5 r, outs⟩
def m_targetTargetq1 (n : Nat) (a0 : Int) (a1 : Int) (a2 : Int) (a3 : Int) (a4 : Int) (a5 : Int) : Option (Int) :=
 (m_targetrootedq1 n).bind fun c1_ =>
 if c1_ = true then
  if a4 ≥ a5 then
   some 0
  else
   (m_treeParentsq1 n).bind fun t => match t with
   | (c4_0, c4_1) =>
    (m_targetBaseq1 n a0 a1 a2 a3 a4).bind fun c5_ =>
    (m_targetclimbq1 n c5_ a4 c4_0 c4_1 c4_1).bind fun c6_ =>
    some c6_
 else
  some 0
theorem p_targetTargetq1_0 (n : Nat) (a0 a1 a2 a3 a4 a5 : Int) (c1_ : Bool) (hc1 : m_targetrootedq1 n = some c1_) (hc2 : c1_ = true) (hc3 : a4 ≥ a5) : G_targetTargetq1 a0 a1 a2 a3 a4 a5 0 :=
 runF2 hm (L := lT []) ⟨[6], [], 0, 0⟩ (yy 6 (.call (C_targetrootedq1  c1_ [] [])) <|
ww (m_targetrootedq1_ok n  c1_ hc1) <|
yy 7 (vf) <|
ww (p := (Value.bool (!c1_)) = (Value.bool false)) (vBn hc2) <|
zz 12 (xdT hc3) <|
ee) (by kernel_rfl)
theorem p_targetTargetq1_1 (n : Nat) (a0 a1 a2 a3 a4 a5 : Int) (c1_ : Bool) (hc1 : m_targetrootedq1 n = some c1_) (hc2 : c1_ = true) (hc3 : ¬ (a4 ≥ a5)) (c4_0 : List Int) (c4_1 : Nat) (hc4 : m_treeParentsq1 n = some (c4_0, c4_1)) (c5_ : Int) (hc5 : m_targetBaseq1 n a0 a1 a2 a3 a4 = some c5_) (c6_ : Int) (hc6 : m_targetclimbq1 n c5_ a4 c4_0 c4_1 c4_1 = some c6_) : G_targetTargetq1 a0 a1 a2 a3 a4 a5 c6_ :=
 runF2 hm (L := lT []) ⟨[6], [], 0, 0⟩ (yy 6 (.call (C_targetrootedq1  c1_ [] [])) <|
ww (m_targetrootedq1_ok n  c1_ hc1) <|
yy 7 (vf) <|
ww (p := (Value.bool (!c1_)) = (Value.bool false)) (vBn hc2) <|
zz 12 (xdF hc3) <|
yy 17 (.call (C_treeParentsq1  (c4_0, c4_1) [] [(1, 0, true)])) <|
ww (m_treeParentsq1_ok n  (c4_0, c4_1) hc4) <|
ww (iv_flat c4_0 3) <|
yy 24 (.call (C_targetBaseq1 a0 a1 a2 a3 a4 c5_ [] [])) <|
ww (m_targetBaseq1_ok n a0 a1 a2 a3 a4 c5_ hc5) <|
yy 29 (.call (C_targetclimbq1 c5_ a4 c4_0 c4_1 c4_1 c6_ [(0, 1, true)] [])) <|
ww (m_targetclimbq1_ok n c5_ a4 c4_0 c4_1 c4_1 c6_ hc6) <|
ww (iv_flat c4_0 3) <|
ee) (by kernel_rfl)
theorem p_targetTargetq1_2 (n : Nat) (a0 a1 a2 a3 a4 a5 : Int) (c1_ : Bool) (hc1 : m_targetrootedq1 n = some c1_) (hc2 : ¬ (c1_ = true)) : G_targetTargetq1 a0 a1 a2 a3 a4 a5 0 :=
 runF2 hm (L := lT []) ⟨[6], [], 0, 0⟩ (yy 6 (.call (C_targetrootedq1  c1_ [] [])) <|
ww (m_targetrootedq1_ok n  c1_ hc1) <|
yy 7 (vt) <|
ww (p := (Value.bool (!c1_)) = (Value.bool true)) (vBn (Bool.eq_false_iff.2 hc2)) <|
ee) (by kernel_rfl)
theorem m_targetTargetq1_ok (n : Nat) (a0 : Int) (a1 : Int) (a2 : Int) (a3 : Int) (a4 : Int) (a5 : Int) (r : Int) (h : m_targetTargetq1 n a0 a1 a2 a3 a4 a5 = some r) : Gv P (.func 11) (A_targetTargetq1 a0 a1 a2 a3 a4 a5) (H_targetTargetq1 a0 a1 a2 a3 a4 a5) (V_targetTargetq1 a0 a1 a2 a3 a4 a5 r) (R_targetTargetq1 a0 a1 a2 a3 a4 a5 r) := by
 unfold m_targetTargetq1 at h
 obtain ⟨c1_, hc1, h⟩ := Option.bind_eq_some_iff.1 h
 by_cases hc2 : c1_ = true
 ·rw [if_pos hc2] at h
  by_cases hc3 : a4 ≥ a5
  ·rw [if_pos hc3] at h
   obtain rfl := Option.some.inj h; exact p_targetTargetq1_0 n a0 a1 a2 a3 a4 a5 c1_ hc1 hc2 hc3
  ·rw [if_neg hc3] at h
   obtain ⟨⟨c4_0, c4_1⟩, hc4, h⟩ := Option.bind_eq_some_iff.1 h
   dsimp only at h
   obtain ⟨c5_, hc5, h⟩ := Option.bind_eq_some_iff.1 h
   obtain ⟨c6_, hc6, h⟩ := Option.bind_eq_some_iff.1 h
   obtain rfl := Option.some.inj h; exact p_targetTargetq1_1 n a0 a1 a2 a3 a4 a5 c1_ hc1 hc2 hc3 c4_0 c4_1 hc4 c5_ hc5 c6_ hc6
 ·rw [if_neg hc2] at h
  obtain rfl := Option.some.inj h; exact p_targetTargetq1_2 n a0 a1 a2 a3 a4 a5 c1_ hc1 hc2

noncomputable def A_viewportlaw25TargetHolds (g10 : Int) (g110 : Int) (g111 : Int) (g12 : Int) (g13 : Int) (g2 : Int) (g3 : Int) (g4 : Int) : List Value := [(sW 0 0 (Args.A).length Args.cA), (Value.agg #[(i6 g10), (i6 g110), (i6 g111), (i6 g12), (i6 g13)]), (i6 g2), (i6 g3), (i6 g4)]
noncomputable def H_viewportlaw25TargetHolds (g10 : Int) (g110 : Int) (g111 : Int) (g12 : Int) (g13 : Int) (g2 : Int) (g3 : Int) (g4 : Int) : AH := ⟨sB [], 0, 0⟩
noncomputable def V_viewportlaw25TargetHolds (g10 : Int) (g110 : Int) (g111 : Int) (g12 : Int) (g13 : Int) (g2 : Int) (g3 : Int) (g4 : Int) (r : Unit) : Value := match r with
 | _ => (bO true)
noncomputable def R_viewportlaw25TargetHolds (g10 : Int) (g110 : Int) (g111 : Int) (g12 : Int) (g13 : Int) (g2 : Int) (g3 : Int) (g4 : Int) (r : Unit) : AH := match r with
 | _ => ⟨sB [], 0, 0⟩
noncomputable abbrev G_viewportlaw25TargetHolds (g10 : Int) (g110 : Int) (g111 : Int) (g12 : Int) (g13 : Int) (g2 : Int) (g3 : Int) (g4 : Int) (r : Unit) : Prop := Gv P (.func 3) (A_viewportlaw25TargetHolds g10 g110 g111 g12 g13 g2 g3 g4) (H_viewportlaw25TargetHolds g10 g110 g111 g12 g13 g2 g3 g4) (V_viewportlaw25TargetHolds g10 g110 g111 g12 g13 g2 g3 g4 r) (R_viewportlaw25TargetHolds g10 g110 g111 g12 g13 g2 g3 g4 r)
noncomputable abbrev C_viewportlaw25TargetHolds (g10 : Int) (g110 : Int) (g111 : Int) (g12 : Int) (g13 : Int) (g2 : Int) (g3 : Int) (g4 : Int) (r : Unit) (ins outs : BL) : CallA := ⟨0, ins, V_viewportlaw25TargetHolds g10 g110 g111 g12 g13 g2 g3 g4 r, R_viewportlaw25TargetHolds g10 g110 g111 g12 g13 g2 g3 g4 r, outs⟩
noncomputable def S_viewportlaw25TargetHolds_1 (x1_0 : Int) (x1_1 : Int) (x1_2 : Int) (x1_3 : Int) (x1_4 : Int) (x1_5 : Int) (x1_6 : Int) (x1_7 : Int) (x1_8 : Int) (st : Int) : XSt := match st with
 | x1_9 => (sT 129 [(0, (sW 0 0 (Args.A).length Args.cA)), (2, (i6 x1_0)), (3, (i6 x1_1)), (4, (i6 x1_2)), (6, (pN 0 0)), (11, (i6 x1_8)), (12, (i6 x1_9))], [], ⟨sB [(0, (some (.cells (layT [(i6 x1_3), (i6 x1_4), (i6 x1_5), (i6 x1_6), (i6 x1_7)]) 26)))], 1, 0⟩)
noncomputable def X_viewportlaw25TargetHolds_1 (x1_0 : Int) (x1_1 : Int) (x1_2 : Int) (x1_3 : Int) (x1_4 : Int) (x1_5 : Int) (x1_6 : Int) (x1_7 : Int) (x1_8 : Int) (r : Unit) : Ex × XSt := match r with
 | _ => (.exit 0, (sT 129 [(0, (sW 0 0 (Args.A).length Args.cA)), (2, (i6 x1_0)), (3, (i6 x1_1)), (4, (i6 x1_2)), (6, (pN 0 0))], [], ⟨sB [(0, (some (.cells (layT [(i6 x1_3), (i6 x1_4), (i6 x1_5), (i6 x1_6), (i6 x1_7)]) 26)))], 1, 0⟩))
noncomputable abbrev Q_viewportlaw25TargetHolds_1 (rnd : Option Nat) (x1_0 : Int) (x1_1 : Int) (x1_2 : Int) (x1_3 : Int) (x1_4 : Int) (x1_5 : Int) (x1_6 : Int) (x1_7 : Int) (x1_8 : Int) (st : Int) (c : Ex × XSt) : Prop := CG P rnd (fnN P 3) 0 (codeOf P 3 [false, false, true, false, true, true, true, true, true]) (S_viewportlaw25TargetHolds_1 x1_0 x1_1 x1_2 x1_3 x1_4 x1_5 x1_6 x1_7 x1_8 st) c
noncomputable abbrev U_viewportlaw25TargetHolds_1 (rd : Option Nat) (x1_0 : Int) (x1_1 : Int) (x1_2 : Int) (x1_3 : Int) (x1_4 : Int) (x1_5 : Int) (x1_6 : Int) (x1_7 : Int) (x1_8 : Int) (st : Int) (r : Unit) : Prop := CG P rd (fnN P 3) 0 (codeOf P 3 [false, true, false, true, true, true, true, true]) (S_viewportlaw25TargetHolds_1 x1_0 x1_1 x1_2 x1_3 x1_4 x1_5 x1_6 x1_7 x1_8 st) (X_viewportlaw25TargetHolds_1 x1_0 x1_1 x1_2 x1_3 x1_4 x1_5 x1_6 x1_7 x1_8 r)
def B_viewportlaw25TargetHolds_1 (n : Nat) (x1_0 : Int) (x1_1 : Int) (x1_2 : Int) (x1_3 : Int) (x1_4 : Int) (x1_5 : Int) (x1_6 : Int) (x1_7 : Int) (x1_8 : Int) (st : Int) : Option ((Int) ⊕ (Unit)) := match st with
 | x1_9 =>
  if 0 ≤ x1_8 ∧ x1_8 < (((Args.A).length : Nat) : Int) then
   ((some ((Args.A).getD (x1_8).toNat (0, 0, 0, 0, 0, 0, nl0, 0)))).bind fun y1_2_ =>
   if x1_9 < ((((y1_2_.2.2.2.2.2.2.1)).l.length : Nat) : Int) then
    if 0 ≤ x1_9 ∧ x1_9 < ((((y1_2_.2.2.2.2.2.2.1)).l.length : Nat) : Int) then
     if (x1_9).toNat < (((y1_2_.2.2.2.2.2.2.1)).l).length then
      ((some ((((y1_2_.2.2.2.2.2.2.1)).l).getD (x1_9).toNat 0))).bind fun y1_6_ =>
      if 0 ≤ y1_6_ ∧ y1_6_ < (((Args.A).length : Nat) : Int) then
       ((some ((Args.A).getD (y1_6_).toNat (0, 0, 0, 0, 0, 0, nl0, 0)))).bind fun y1_8_ =>
       if (y1_8_.2.1) = (2 : Int) then
        (m_viewportref20Doneq1 n y1_6_ x1_3 x1_4 x1_5 x1_6 x1_7).bind fun y1_10_ =>
        if y1_10_ = true then
         none
        else
         some (.inl (w64 (x1_9 + (1 : Int))))
       else
        some (.inl (w64 (x1_9 + (1 : Int))))
      else none
     else none
    else none
   else
    some (.inr ())
  else none
def m_viewportlaw25TargetHolds_1 (n : Nat) (x1_0 : Int) (x1_1 : Int) (x1_2 : Int) (x1_3 : Int) (x1_4 : Int) (x1_5 : Int) (x1_6 : Int) (x1_7 : Int) (x1_8 : Int) (st : Int) : Option (Unit) := iterM (B_viewportlaw25TargetHolds_1 n x1_0 x1_1 x1_2 x1_3 x1_4 x1_5 x1_6 x1_7 x1_8) n st
theorem q_viewportlaw25TargetHolds_1_0 (n : Nat) {rnd : Option Nat} (x1_0 x1_1 x1_2 x1_3 x1_4 x1_5 x1_6 x1_7 x1_8 x1_9 : Int) (hy1_1 : 0 ≤ x1_8 ∧ x1_8 < (((Args.A).length : Nat) : Int)) (y1_2_ : Int × Int × Int × Int × Int × Int × NL × Int) (hy1_2 : (some ((Args.A).getD (x1_8).toNat (0, 0, 0, 0, 0, 0, nl0, 0))) = some y1_2_) (hy1_3 : x1_9 < ((((y1_2_.2.2.2.2.2.2.1)).l.length : Nat) : Int)) (hy1_4 : 0 ≤ x1_9 ∧ x1_9 < ((((y1_2_.2.2.2.2.2.2.1)).l.length : Nat) : Int)) (hy1_5 : (x1_9).toNat < (((y1_2_.2.2.2.2.2.2.1)).l).length) (y1_6_ : Int) (hy1_6 : (some ((((y1_2_.2.2.2.2.2.2.1)).l).getD (x1_9).toNat 0)) = some y1_6_) (hy1_7 : 0 ≤ y1_6_ ∧ y1_6_ < (((Args.A).length : Nat) : Int)) (y1_8_ : Int × Int × Int × Int × Int × Int × NL × Int) (hy1_8 : (some ((Args.A).getD (y1_6_).toNat (0, 0, 0, 0, 0, 0, nl0, 0))) = some y1_8_) (hy1_9 : (y1_8_.2.1) = (2 : Int)) (y1_10_ : Bool) (hy1_10 : m_viewportref20Doneq1 n y1_6_ x1_3 x1_4 x1_5 x1_6 x1_7 = some y1_10_) (hy1_11 : ¬ (y1_10_ = true)) : Q_viewportlaw25TargetHolds_1 rnd x1_0 x1_1 x1_2 x1_3 x1_4 x1_5 x1_6 x1_7 x1_8 x1_9 (.normal, S_viewportlaw25TargetHolds_1 x1_0 x1_1 x1_2 x1_3 x1_4 x1_5 x1_6 x1_7 x1_8 (w64 (x1_9 + (1 : Int)))) :=
 runC2 hm (L := lT []) ⟨[0, 2, 3, 4, 6, 11, 12], [(0, 0, false)], 1, 0⟩ (zz 5 (xk1 0 Args.cA hy1_1) <|
zz 6 (fk7 ((x1_8).toNat * 8)) <|
zz 7 (lk8 hy1_2 (toNatLt hy1_1)) <|
zz 9 (xdT hy1_3) <|
zz 16 (xk1 0 Args.cA hy1_1) <|
zz 17 (fk7 ((x1_8).toNat * 8)) <|
zz 18 (lk8 hy1_2 (toNatLt hy1_1)) <|
zz 20 (xk9 (Nat.add ((y1_2_.2.2.2.2.2.2.1)).num 64) ((y1_2_.2.2.2.2.2.2.1)).cap hy1_4) <|
zz 21 (nk10 hy1_6 hy1_5) <|
zz 26 (xk1 0 Args.cA hy1_7) <|
zz 27 (fk3 ((y1_6_).toNat * 8)) <|
zz 28 (lk4 hy1_8 (toNatLt hy1_7)) <|
zz 29 (xeT hy1_9) <|
yy 34 (.call (C_viewportref20Doneq1 y1_6_ x1_3 x1_4 x1_5 x1_6 x1_7 y1_10_ [] [])) <|
ww (m_viewportref20Doneq1_ok n y1_6_ x1_3 x1_4 x1_5 x1_6 x1_7 y1_10_ hy1_10) <|
zz 36 (xbF hy1_11) <|
ee) (by kernel_rfl)
theorem q_viewportlaw25TargetHolds_1_1 (n : Nat) {rnd : Option Nat} (x1_0 x1_1 x1_2 x1_3 x1_4 x1_5 x1_6 x1_7 x1_8 x1_9 : Int) (hy1_1 : 0 ≤ x1_8 ∧ x1_8 < (((Args.A).length : Nat) : Int)) (y1_2_ : Int × Int × Int × Int × Int × Int × NL × Int) (hy1_2 : (some ((Args.A).getD (x1_8).toNat (0, 0, 0, 0, 0, 0, nl0, 0))) = some y1_2_) (hy1_3 : x1_9 < ((((y1_2_.2.2.2.2.2.2.1)).l.length : Nat) : Int)) (hy1_4 : 0 ≤ x1_9 ∧ x1_9 < ((((y1_2_.2.2.2.2.2.2.1)).l.length : Nat) : Int)) (hy1_5 : (x1_9).toNat < (((y1_2_.2.2.2.2.2.2.1)).l).length) (y1_6_ : Int) (hy1_6 : (some ((((y1_2_.2.2.2.2.2.2.1)).l).getD (x1_9).toNat 0)) = some y1_6_) (hy1_7 : 0 ≤ y1_6_ ∧ y1_6_ < (((Args.A).length : Nat) : Int)) (y1_8_ : Int × Int × Int × Int × Int × Int × NL × Int) (hy1_8 : (some ((Args.A).getD (y1_6_).toNat (0, 0, 0, 0, 0, 0, nl0, 0))) = some y1_8_) (hy1_9 : ¬ ((y1_8_.2.1) = (2 : Int))) : Q_viewportlaw25TargetHolds_1 rnd x1_0 x1_1 x1_2 x1_3 x1_4 x1_5 x1_6 x1_7 x1_8 x1_9 (.normal, S_viewportlaw25TargetHolds_1 x1_0 x1_1 x1_2 x1_3 x1_4 x1_5 x1_6 x1_7 x1_8 (w64 (x1_9 + (1 : Int)))) :=
 runC2 hm (L := lT []) ⟨[0, 2, 3, 4, 6, 11, 12], [(0, 0, false)], 1, 0⟩ (zz 5 (xk1 0 Args.cA hy1_1) <|
zz 6 (fk7 ((x1_8).toNat * 8)) <|
zz 7 (lk8 hy1_2 (toNatLt hy1_1)) <|
zz 9 (xdT hy1_3) <|
zz 16 (xk1 0 Args.cA hy1_1) <|
zz 17 (fk7 ((x1_8).toNat * 8)) <|
zz 18 (lk8 hy1_2 (toNatLt hy1_1)) <|
zz 20 (xk9 (Nat.add ((y1_2_.2.2.2.2.2.2.1)).num 64) ((y1_2_.2.2.2.2.2.2.1)).cap hy1_4) <|
zz 21 (nk10 hy1_6 hy1_5) <|
zz 26 (xk1 0 Args.cA hy1_7) <|
zz 27 (fk3 ((y1_6_).toNat * 8)) <|
zz 28 (lk4 hy1_8 (toNatLt hy1_7)) <|
zz 29 (xeF hy1_9) <|
ee) (by kernel_rfl)
theorem q_viewportlaw25TargetHolds_1_2 (n : Nat) {rnd : Option Nat} (x1_0 x1_1 x1_2 x1_3 x1_4 x1_5 x1_6 x1_7 x1_8 x1_9 : Int) (hy1_1 : 0 ≤ x1_8 ∧ x1_8 < (((Args.A).length : Nat) : Int)) (y1_2_ : Int × Int × Int × Int × Int × Int × NL × Int) (hy1_2 : (some ((Args.A).getD (x1_8).toNat (0, 0, 0, 0, 0, 0, nl0, 0))) = some y1_2_) (hy1_3 : ¬ (x1_9 < ((((y1_2_.2.2.2.2.2.2.1)).l.length : Nat) : Int))) : Q_viewportlaw25TargetHolds_1 rnd x1_0 x1_1 x1_2 x1_3 x1_4 x1_5 x1_6 x1_7 x1_8 x1_9 (X_viewportlaw25TargetHolds_1 x1_0 x1_1 x1_2 x1_3 x1_4 x1_5 x1_6 x1_7 x1_8 ()) :=
 runC2 hm (L := lT []) ⟨[0, 2, 3, 4, 6], [(0, 0, false)], 1, 0⟩ (zz 5 (xk1 0 Args.cA hy1_1) <|
zz 6 (fk7 ((x1_8).toNat * 8)) <|
zz 7 (lk8 hy1_2 (toNatLt hy1_1)) <|
zz 9 (xdF hy1_3) <|
ee) (by kernel_rfl)
theorem m_viewportlaw25TargetHolds_1_ok (n : Nat) {rnd : Option Nat} (x1_0 : Int) (x1_1 : Int) (x1_2 : Int) (x1_3 : Int) (x1_4 : Int) (x1_5 : Int) (x1_6 : Int) (x1_7 : Int) (x1_8 : Int) (st : Int) (r : Unit) (h : m_viewportlaw25TargetHolds_1 n x1_0 x1_1 x1_2 x1_3 x1_4 x1_5 x1_6 x1_7 x1_8 st = some r) : CG P rnd (fnN P 3) 0 (codeOf P 3 [false, true, false, true, true, true, true, true]) (S_viewportlaw25TargetHolds_1 x1_0 x1_1 x1_2 x1_3 x1_4 x1_5 x1_6 x1_7 x1_8 st) (X_viewportlaw25TargetHolds_1 x1_0 x1_1 x1_2 x1_3 x1_4 x1_5 x1_6 x1_7 x1_8 r) :=
 CG.iter (b := codeOf P 3 [false, false, true, false, true, true, true, true, true]) (by kernel_rfl) (body := B_viewportlaw25TargetHolds_1 n x1_0 x1_1 x1_2 x1_3 x1_4 x1_5 x1_6 x1_7 x1_8) (S := S_viewportlaw25TargetHolds_1 x1_0 x1_1 x1_2 x1_3 x1_4 x1_5 x1_6 x1_7 x1_8) (X := X_viewportlaw25TargetHolds_1 x1_0 x1_1 x1_2 x1_3 x1_4 x1_5 x1_6 x1_7 x1_8)
  (fun x1_9 s' h => by
  unfold B_viewportlaw25TargetHolds_1 at h
  dsimp only at h
  by_cases hy1_1 : 0 ≤ x1_8 ∧ x1_8 < (((Args.A).length : Nat) : Int)
  ·rw [if_pos hy1_1] at h
   obtain ⟨y1_2_, hy1_2, h⟩ := Option.bind_eq_some_iff.1 h
   by_cases hy1_3 : x1_9 < ((((y1_2_.2.2.2.2.2.2.1)).l.length : Nat) : Int)
   ·rw [if_pos hy1_3] at h
    by_cases hy1_4 : 0 ≤ x1_9 ∧ x1_9 < ((((y1_2_.2.2.2.2.2.2.1)).l.length : Nat) : Int)
    ·rw [if_pos hy1_4] at h
     by_cases hy1_5 : (x1_9).toNat < (((y1_2_.2.2.2.2.2.2.1)).l).length
     ·rw [if_pos hy1_5] at h
      obtain ⟨y1_6_, hy1_6, h⟩ := Option.bind_eq_some_iff.1 h
      by_cases hy1_7 : 0 ≤ y1_6_ ∧ y1_6_ < (((Args.A).length : Nat) : Int)
      ·rw [if_pos hy1_7] at h
       obtain ⟨y1_8_, hy1_8, h⟩ := Option.bind_eq_some_iff.1 h
       by_cases hy1_9 : (y1_8_.2.1) = (2 : Int)
       ·rw [if_pos hy1_9] at h
        obtain ⟨y1_10_, hy1_10, h⟩ := Option.bind_eq_some_iff.1 h
        by_cases hy1_11 : y1_10_ = true
        ·rw [if_pos hy1_11] at h
         cases h
        ·rw [if_neg hy1_11] at h
         obtain rfl := Sum.inl.inj (Option.some.inj h); exact q_viewportlaw25TargetHolds_1_0 n x1_0 x1_1 x1_2 x1_3 x1_4 x1_5 x1_6 x1_7 x1_8 x1_9 hy1_1 y1_2_ hy1_2 hy1_3 hy1_4 hy1_5 y1_6_ hy1_6 hy1_7 y1_8_ hy1_8 hy1_9 y1_10_ hy1_10 hy1_11
       ·rw [if_neg hy1_9] at h
        obtain rfl := Sum.inl.inj (Option.some.inj h); exact q_viewportlaw25TargetHolds_1_1 n x1_0 x1_1 x1_2 x1_3 x1_4 x1_5 x1_6 x1_7 x1_8 x1_9 hy1_1 y1_2_ hy1_2 hy1_3 hy1_4 hy1_5 y1_6_ hy1_6 hy1_7 y1_8_ hy1_8 hy1_9
      ·rw [if_neg hy1_7] at h; cases h
     ·rw [if_neg hy1_5] at h; cases h
    ·rw [if_neg hy1_4] at h; cases h
   ·rw [if_neg hy1_3] at h
    cases h
  ·rw [if_neg hy1_1] at h; cases h)
  (fun x1_9 r h => by
  unfold B_viewportlaw25TargetHolds_1 at h
  dsimp only at h
  by_cases hy1_1 : 0 ≤ x1_8 ∧ x1_8 < (((Args.A).length : Nat) : Int)
  ·rw [if_pos hy1_1] at h
   obtain ⟨y1_2_, hy1_2, h⟩ := Option.bind_eq_some_iff.1 h
   by_cases hy1_3 : x1_9 < ((((y1_2_.2.2.2.2.2.2.1)).l.length : Nat) : Int)
   ·rw [if_pos hy1_3] at h
    by_cases hy1_4 : 0 ≤ x1_9 ∧ x1_9 < ((((y1_2_.2.2.2.2.2.2.1)).l.length : Nat) : Int)
    ·rw [if_pos hy1_4] at h
     by_cases hy1_5 : (x1_9).toNat < (((y1_2_.2.2.2.2.2.2.1)).l).length
     ·rw [if_pos hy1_5] at h
      obtain ⟨y1_6_, hy1_6, h⟩ := Option.bind_eq_some_iff.1 h
      by_cases hy1_7 : 0 ≤ y1_6_ ∧ y1_6_ < (((Args.A).length : Nat) : Int)
      ·rw [if_pos hy1_7] at h
       obtain ⟨y1_8_, hy1_8, h⟩ := Option.bind_eq_some_iff.1 h
       by_cases hy1_9 : (y1_8_.2.1) = (2 : Int)
       ·rw [if_pos hy1_9] at h
        obtain ⟨y1_10_, hy1_10, h⟩ := Option.bind_eq_some_iff.1 h
        by_cases hy1_11 : y1_10_ = true
        ·rw [if_pos hy1_11] at h
         cases h
        ·rw [if_neg hy1_11] at h
         cases h
       ·rw [if_neg hy1_9] at h
        cases h
      ·rw [if_neg hy1_7] at h; cases h
     ·rw [if_neg hy1_5] at h; cases h
    ·rw [if_neg hy1_4] at h; cases h
   ·rw [if_neg hy1_3] at h
    obtain rfl := Sum.inr.inj (Option.some.inj h); exact q_viewportlaw25TargetHolds_1_2 n x1_0 x1_1 x1_2 x1_3 x1_4 x1_5 x1_6 x1_7 x1_8 x1_9 hy1_1 y1_2_ hy1_2 hy1_3
  ·rw [if_neg hy1_1] at h; cases h)
  (fun r => by intro hx; cases hx) h
def m_viewportlaw25TargetHolds (n : Nat) (g10 : Int) (g110 : Int) (g111 : Int) (g12 : Int) (g13 : Int) (g2 : Int) (g3 : Int) (g4 : Int) : Option (Unit) :=
 (m_viewportlaw25lives n).bind fun _ =>
 (m_viewportlaw25lightq1 n).bind fun c2_ =>
 if c2_ = true then
  (m_viewportref16Checkq1 n).bind fun c4_ =>
  if c4_ = (0 : Int) then
   if 0 ≤ (0 : Int) ∧ (0 : Int) < (((Args.A).length : Nat) : Int) then
    ((some ((Args.A).getD ((0 : Int)).toNat (0, 0, 0, 0, 0, 0, nl0, 0)))).bind fun c7_ =>
    if (c7_.2.1) = (1 : Int) then
     (m_targetBaseq1 n g10 g110 g111 g12 g13).bind fun c9_ =>
     if c9_ < (0 : Int) then
      none
     else
      if c9_ ≥ (((Args.A).length : Nat) : Int) then
       none
      else
       if c9_ > (0 : Int) then
        (m_viewportref20Doneq1 n c9_ g10 g110 g111 g12 g13).bind fun c13_ =>
        if c13_ = true then
         (m_viewportlaw25TargetHolds_1 n g2 g3 g4 g10 g110 g111 g12 g13 c9_ 0).bind fun _ =>
         (m_viewportkitPickq1 n g3 20).bind fun c16_ =>
         (m_viewportkitPickq1 n g4 20).bind fun c17_ =>
         (m_targetTargetq1 n g10 g110 g111 g12 (minB c16_ c17_) g2).bind fun c18_ =>
         (m_viewportkitPickq1 n g3 20).bind fun c19_ =>
         (m_viewportkitPickq1 n g4 20).bind fun c20_ =>
         (m_targetTargetq1 n g10 g110 g111 g12 (maxB c19_ c20_) g2).bind fun c21_ =>
         if c21_ ≥ (0 : Int) then
          if c21_ ≤ c18_ then
           (m_viewportref16Endq1 n c21_).bind fun c24_ =>
           if c18_ < c24_ then
            if (maxB c19_ c20_) < g2 then
             some ()
            else
             if c21_ = (0 : Int) then
              some ()
             else
              none
           else
            none
          else
           none
         else
          none
        else
         none
       else
        (m_viewportlaw25TargetHolds_1 n g2 g3 g4 g10 g110 g111 g12 g13 c9_ 0).bind fun _ =>
        (m_viewportkitPickq1 n g3 20).bind fun c14_ =>
        (m_viewportkitPickq1 n g4 20).bind fun c15_ =>
        (m_targetTargetq1 n g10 g110 g111 g12 (minB c14_ c15_) g2).bind fun c16_ =>
        (m_viewportkitPickq1 n g3 20).bind fun c17_ =>
        (m_viewportkitPickq1 n g4 20).bind fun c18_ =>
        (m_targetTargetq1 n g10 g110 g111 g12 (maxB c17_ c18_) g2).bind fun c19_ =>
        if c19_ ≥ (0 : Int) then
         if c19_ ≤ c16_ then
          (m_viewportref16Endq1 n c19_).bind fun c22_ =>
          if c16_ < c22_ then
           if (maxB c17_ c18_) < g2 then
            some ()
           else
            if c19_ = (0 : Int) then
             some ()
            else
             none
          else
           none
         else
          none
        else
         none
    else
     some ()
   else none
  else
   some ()
 else
  some ()
theorem p_viewportlaw25TargetHolds_0 (n : Nat) (g10 g110 g111 g12 g13 g2 g3 g4 : Int) (hc1 : m_viewportlaw25lives n = some ()) (c2_ : Bool) (hc2 : m_viewportlaw25lightq1 n = some c2_) (hc3 : c2_ = true) (c4_ : Int) (hc4 : m_viewportref16Checkq1 n = some c4_) (hc5 : c4_ = (0 : Int)) (hc6 : 0 ≤ (0 : Int) ∧ (0 : Int) < (((Args.A).length : Nat) : Int)) (c7_ : Int × Int × Int × Int × Int × Int × NL × Int) (hc7 : (some ((Args.A).getD ((0 : Int)).toNat (0, 0, 0, 0, 0, 0, nl0, 0))) = some c7_) (hc8 : (c7_.2.1) = (1 : Int)) (c9_ : Int) (hc9 : m_targetBaseq1 n g10 g110 g111 g12 g13 = some c9_) (hc10 : ¬ (c9_ < (0 : Int))) (hc11 : ¬ (c9_ ≥ (((Args.A).length : Nat) : Int))) (hc12 : c9_ > (0 : Int)) (c13_ : Bool) (hc13 : m_viewportref20Doneq1 n c9_ g10 g110 g111 g12 g13 = some c13_) (hc14 : c13_ = true) (hc15 : m_viewportlaw25TargetHolds_1 n g2 g3 g4 g10 g110 g111 g12 g13 c9_ 0 = some ()) (c16_ : Int) (hc16 : m_viewportkitPickq1 n g3 20 = some c16_) (c17_ : Int) (hc17 : m_viewportkitPickq1 n g4 20 = some c17_) (c18_ : Int) (hc18 : m_targetTargetq1 n g10 g110 g111 g12 (minB c16_ c17_) g2 = some c18_) (c19_ : Int) (hc19 : m_viewportkitPickq1 n g3 20 = some c19_) (c20_ : Int) (hc20 : m_viewportkitPickq1 n g4 20 = some c20_) (c21_ : Int) (hc21 : m_targetTargetq1 n g10 g110 g111 g12 (maxB c19_ c20_) g2 = some c21_) (hc22 : c21_ ≥ (0 : Int)) (hc23 : c21_ ≤ c18_) (c24_ : Int) (hc24 : m_viewportref16Endq1 n c21_ = some c24_) (hc25 : c18_ < c24_) (hc26 : (maxB c19_ c20_) < g2) : G_viewportlaw25TargetHolds g10 g110 g111 g12 g13 g2 g3 g4 () :=
 runF2 hm (L := lT [(57, ⟨⟨[0, 2, 3, 4, 6, 11, 12], [(0, 0, false)], 1, 0⟩, (X_viewportlaw25TargetHolds_1 g2 g3 g4 g10 g110 g111 g12 g13 c9_ ()).1, (X_viewportlaw25TargetHolds_1 g2 g3 g4 g10 g110 g111 g12 g13 c9_ ()).2⟩)]) ⟨[10], [], 0, 0⟩ (yy 5 (.call ⟨0, [], (Value.bool true), Ax.h0, []⟩) <|
ww (m_viewportlaw25lives_ok n  () hc1) <|
yy 11 (.call (C_viewportlaw25lightq1  c2_ [] [])) <|
ww (m_viewportlaw25lightq1_ok n  c2_ hc2) <|
yy 12 (vf) <|
ww (p := (Value.bool (!c2_)) = (Value.bool false)) (vBn hc3) <|
yy 15 (.call (C_viewportref16Checkq1  c4_ [] [])) <|
ww (m_viewportref16Checkq1_ok n  c4_ hc4) <|
zz 16 (xnF hc5) <|
zz 20 (xk1 0 Args.cA hc6) <|
zz 21 (fk3 (((0 : Int)).toNat * 8)) <|
zz 22 (lk4 hc7 (toNatLt hc6)) <|
zz 23 (xnF hc8) <|
yy 29 (.call (C_targetBaseq1 g10 g110 g111 g12 g13 c9_ [] [])) <|
ww (m_targetBaseq1_ok n g10 g110 g111 g12 g13 c9_ hc9) <|
zz 34 (xdF hc10) <|
zz 39 (xdF hc11) <|
zz 43 (xdT hc12) <|
yy 48 (.call (C_viewportref20Doneq1 c9_ g10 g110 g111 g12 g13 c13_ [] [])) <|
ww (m_viewportref20Doneq1_ok n c9_ g10 g110 g111 g12 g13 c13_ hc13) <|
yy 49 (vf) <|
ww (p := (Value.bool (!c13_)) = (Value.bool false)) (vBn hc14) <|
ww (p := U_viewportlaw25TargetHolds_1 none g2 g3 g4 g10 g110 g111 g12 g13 c9_ 0 ()) (m_viewportlaw25TargetHolds_1_ok n g2 g3 g4 g10 g110 g111 g12 g13 c9_ 0 () hc15) <|
yy 60 (.call (C_viewportkitPickq1 g3 20 c16_ [] [])) <|
ww (m_viewportkitPickq1_ok n g3 20 c16_ hc16) <|
yy 62 (.call (C_viewportkitPickq1 g4 20 c17_ [] [])) <|
ww (m_viewportkitPickq1_ok n g4 20 c17_ hc17) <|
yy 70 (.call (C_targetTargetq1 g10 g110 g111 g12 (minB c16_ c17_) g2 c18_ [] [])) <|
ww (m_targetTargetq1_ok n g10 g110 g111 g12 (minB c16_ c17_) g2 c18_ hc18) <|
yy 74 (.call (C_viewportkitPickq1 g3 20 c19_ [] [])) <|
ww (m_viewportkitPickq1_ok n g3 20 c19_ hc19) <|
yy 76 (.call (C_viewportkitPickq1 g4 20 c20_ [] [])) <|
ww (m_viewportkitPickq1_ok n g4 20 c20_ hc20) <|
yy 84 (.call (C_targetTargetq1 g10 g110 g111 g12 (maxB c19_ c20_) g2 c21_ [] [])) <|
ww (m_targetTargetq1_ok n g10 g110 g111 g12 (maxB c19_ c20_) g2 c21_ hc21) <|
zz 88 (xdT hc22) <|
zz 92 (xdT hc23) <|
yy 98 (.call (C_viewportref16Endq1 c21_ c24_ [] [])) <|
ww (m_viewportref16Endq1_ok n c21_ c24_ hc24) <|
zz 99 (xdT hc25) <|
zz 105 (xdT hc26) <|
ee) (by kernel_rfl)
theorem p_viewportlaw25TargetHolds_1 (n : Nat) (g10 g110 g111 g12 g13 g2 g3 g4 : Int) (hc1 : m_viewportlaw25lives n = some ()) (c2_ : Bool) (hc2 : m_viewportlaw25lightq1 n = some c2_) (hc3 : c2_ = true) (c4_ : Int) (hc4 : m_viewportref16Checkq1 n = some c4_) (hc5 : c4_ = (0 : Int)) (hc6 : 0 ≤ (0 : Int) ∧ (0 : Int) < (((Args.A).length : Nat) : Int)) (c7_ : Int × Int × Int × Int × Int × Int × NL × Int) (hc7 : (some ((Args.A).getD ((0 : Int)).toNat (0, 0, 0, 0, 0, 0, nl0, 0))) = some c7_) (hc8 : (c7_.2.1) = (1 : Int)) (c9_ : Int) (hc9 : m_targetBaseq1 n g10 g110 g111 g12 g13 = some c9_) (hc10 : ¬ (c9_ < (0 : Int))) (hc11 : ¬ (c9_ ≥ (((Args.A).length : Nat) : Int))) (hc12 : c9_ > (0 : Int)) (c13_ : Bool) (hc13 : m_viewportref20Doneq1 n c9_ g10 g110 g111 g12 g13 = some c13_) (hc14 : c13_ = true) (hc15 : m_viewportlaw25TargetHolds_1 n g2 g3 g4 g10 g110 g111 g12 g13 c9_ 0 = some ()) (c16_ : Int) (hc16 : m_viewportkitPickq1 n g3 20 = some c16_) (c17_ : Int) (hc17 : m_viewportkitPickq1 n g4 20 = some c17_) (c18_ : Int) (hc18 : m_targetTargetq1 n g10 g110 g111 g12 (minB c16_ c17_) g2 = some c18_) (c19_ : Int) (hc19 : m_viewportkitPickq1 n g3 20 = some c19_) (c20_ : Int) (hc20 : m_viewportkitPickq1 n g4 20 = some c20_) (c21_ : Int) (hc21 : m_targetTargetq1 n g10 g110 g111 g12 (maxB c19_ c20_) g2 = some c21_) (hc22 : c21_ ≥ (0 : Int)) (hc23 : c21_ ≤ c18_) (c24_ : Int) (hc24 : m_viewportref16Endq1 n c21_ = some c24_) (hc25 : c18_ < c24_) (hc26 : ¬ ((maxB c19_ c20_) < g2)) (hc27 : c21_ = (0 : Int)) : G_viewportlaw25TargetHolds g10 g110 g111 g12 g13 g2 g3 g4 () :=
 runF2 hm (L := lT [(57, ⟨⟨[0, 2, 3, 4, 6, 11, 12], [(0, 0, false)], 1, 0⟩, (X_viewportlaw25TargetHolds_1 g2 g3 g4 g10 g110 g111 g12 g13 c9_ ()).1, (X_viewportlaw25TargetHolds_1 g2 g3 g4 g10 g110 g111 g12 g13 c9_ ()).2⟩)]) ⟨[10], [], 0, 0⟩ (yy 5 (.call ⟨0, [], (Value.bool true), Ax.h0, []⟩) <|
ww (m_viewportlaw25lives_ok n  () hc1) <|
yy 11 (.call (C_viewportlaw25lightq1  c2_ [] [])) <|
ww (m_viewportlaw25lightq1_ok n  c2_ hc2) <|
yy 12 (vf) <|
ww (p := (Value.bool (!c2_)) = (Value.bool false)) (vBn hc3) <|
yy 15 (.call (C_viewportref16Checkq1  c4_ [] [])) <|
ww (m_viewportref16Checkq1_ok n  c4_ hc4) <|
zz 16 (xnF hc5) <|
zz 20 (xk1 0 Args.cA hc6) <|
zz 21 (fk3 (((0 : Int)).toNat * 8)) <|
zz 22 (lk4 hc7 (toNatLt hc6)) <|
zz 23 (xnF hc8) <|
yy 29 (.call (C_targetBaseq1 g10 g110 g111 g12 g13 c9_ [] [])) <|
ww (m_targetBaseq1_ok n g10 g110 g111 g12 g13 c9_ hc9) <|
zz 34 (xdF hc10) <|
zz 39 (xdF hc11) <|
zz 43 (xdT hc12) <|
yy 48 (.call (C_viewportref20Doneq1 c9_ g10 g110 g111 g12 g13 c13_ [] [])) <|
ww (m_viewportref20Doneq1_ok n c9_ g10 g110 g111 g12 g13 c13_ hc13) <|
yy 49 (vf) <|
ww (p := (Value.bool (!c13_)) = (Value.bool false)) (vBn hc14) <|
ww (p := U_viewportlaw25TargetHolds_1 none g2 g3 g4 g10 g110 g111 g12 g13 c9_ 0 ()) (m_viewportlaw25TargetHolds_1_ok n g2 g3 g4 g10 g110 g111 g12 g13 c9_ 0 () hc15) <|
yy 60 (.call (C_viewportkitPickq1 g3 20 c16_ [] [])) <|
ww (m_viewportkitPickq1_ok n g3 20 c16_ hc16) <|
yy 62 (.call (C_viewportkitPickq1 g4 20 c17_ [] [])) <|
ww (m_viewportkitPickq1_ok n g4 20 c17_ hc17) <|
yy 70 (.call (C_targetTargetq1 g10 g110 g111 g12 (minB c16_ c17_) g2 c18_ [] [])) <|
ww (m_targetTargetq1_ok n g10 g110 g111 g12 (minB c16_ c17_) g2 c18_ hc18) <|
yy 74 (.call (C_viewportkitPickq1 g3 20 c19_ [] [])) <|
ww (m_viewportkitPickq1_ok n g3 20 c19_ hc19) <|
yy 76 (.call (C_viewportkitPickq1 g4 20 c20_ [] [])) <|
ww (m_viewportkitPickq1_ok n g4 20 c20_ hc20) <|
yy 84 (.call (C_targetTargetq1 g10 g110 g111 g12 (maxB c19_ c20_) g2 c21_ [] [])) <|
ww (m_targetTargetq1_ok n g10 g110 g111 g12 (maxB c19_ c20_) g2 c21_ hc21) <|
zz 88 (xdT hc22) <|
zz 92 (xdT hc23) <|
yy 98 (.call (C_viewportref16Endq1 c21_ c24_ [] [])) <|
ww (m_viewportref16Endq1_ok n c21_ c24_ hc24) <|
zz 99 (xdT hc25) <|
zz 105 (xdF hc26) <|
zz 108 (xeT hc27) <|
ee) (by kernel_rfl)
theorem p_viewportlaw25TargetHolds_2 (n : Nat) (g10 g110 g111 g12 g13 g2 g3 g4 : Int) (hc1 : m_viewportlaw25lives n = some ()) (c2_ : Bool) (hc2 : m_viewportlaw25lightq1 n = some c2_) (hc3 : c2_ = true) (c4_ : Int) (hc4 : m_viewportref16Checkq1 n = some c4_) (hc5 : c4_ = (0 : Int)) (hc6 : 0 ≤ (0 : Int) ∧ (0 : Int) < (((Args.A).length : Nat) : Int)) (c7_ : Int × Int × Int × Int × Int × Int × NL × Int) (hc7 : (some ((Args.A).getD ((0 : Int)).toNat (0, 0, 0, 0, 0, 0, nl0, 0))) = some c7_) (hc8 : (c7_.2.1) = (1 : Int)) (c9_ : Int) (hc9 : m_targetBaseq1 n g10 g110 g111 g12 g13 = some c9_) (hc10 : ¬ (c9_ < (0 : Int))) (hc11 : ¬ (c9_ ≥ (((Args.A).length : Nat) : Int))) (hc12 : ¬ (c9_ > (0 : Int))) (hc13 : m_viewportlaw25TargetHolds_1 n g2 g3 g4 g10 g110 g111 g12 g13 c9_ 0 = some ()) (c14_ : Int) (hc14 : m_viewportkitPickq1 n g3 20 = some c14_) (c15_ : Int) (hc15 : m_viewportkitPickq1 n g4 20 = some c15_) (c16_ : Int) (hc16 : m_targetTargetq1 n g10 g110 g111 g12 (minB c14_ c15_) g2 = some c16_) (c17_ : Int) (hc17 : m_viewportkitPickq1 n g3 20 = some c17_) (c18_ : Int) (hc18 : m_viewportkitPickq1 n g4 20 = some c18_) (c19_ : Int) (hc19 : m_targetTargetq1 n g10 g110 g111 g12 (maxB c17_ c18_) g2 = some c19_) (hc20 : c19_ ≥ (0 : Int)) (hc21 : c19_ ≤ c16_) (c22_ : Int) (hc22 : m_viewportref16Endq1 n c19_ = some c22_) (hc23 : c16_ < c22_) (hc24 : (maxB c17_ c18_) < g2) : G_viewportlaw25TargetHolds g10 g110 g111 g12 g13 g2 g3 g4 () :=
 runF2 hm (L := lT [(57, ⟨⟨[0, 2, 3, 4, 6, 11, 12], [(0, 0, false)], 1, 0⟩, (X_viewportlaw25TargetHolds_1 g2 g3 g4 g10 g110 g111 g12 g13 c9_ ()).1, (X_viewportlaw25TargetHolds_1 g2 g3 g4 g10 g110 g111 g12 g13 c9_ ()).2⟩)]) ⟨[10], [], 0, 0⟩ (yy 5 (.call ⟨0, [], (Value.bool true), Ax.h0, []⟩) <|
ww (m_viewportlaw25lives_ok n  () hc1) <|
yy 11 (.call (C_viewportlaw25lightq1  c2_ [] [])) <|
ww (m_viewportlaw25lightq1_ok n  c2_ hc2) <|
yy 12 (vf) <|
ww (p := (Value.bool (!c2_)) = (Value.bool false)) (vBn hc3) <|
yy 15 (.call (C_viewportref16Checkq1  c4_ [] [])) <|
ww (m_viewportref16Checkq1_ok n  c4_ hc4) <|
zz 16 (xnF hc5) <|
zz 20 (xk1 0 Args.cA hc6) <|
zz 21 (fk3 (((0 : Int)).toNat * 8)) <|
zz 22 (lk4 hc7 (toNatLt hc6)) <|
zz 23 (xnF hc8) <|
yy 29 (.call (C_targetBaseq1 g10 g110 g111 g12 g13 c9_ [] [])) <|
ww (m_targetBaseq1_ok n g10 g110 g111 g12 g13 c9_ hc9) <|
zz 34 (xdF hc10) <|
zz 39 (xdF hc11) <|
zz 43 (xdF hc12) <|
ww (p := U_viewportlaw25TargetHolds_1 none g2 g3 g4 g10 g110 g111 g12 g13 c9_ 0 ()) (m_viewportlaw25TargetHolds_1_ok n g2 g3 g4 g10 g110 g111 g12 g13 c9_ 0 () hc13) <|
yy 60 (.call (C_viewportkitPickq1 g3 20 c14_ [] [])) <|
ww (m_viewportkitPickq1_ok n g3 20 c14_ hc14) <|
yy 62 (.call (C_viewportkitPickq1 g4 20 c15_ [] [])) <|
ww (m_viewportkitPickq1_ok n g4 20 c15_ hc15) <|
yy 70 (.call (C_targetTargetq1 g10 g110 g111 g12 (minB c14_ c15_) g2 c16_ [] [])) <|
ww (m_targetTargetq1_ok n g10 g110 g111 g12 (minB c14_ c15_) g2 c16_ hc16) <|
yy 74 (.call (C_viewportkitPickq1 g3 20 c17_ [] [])) <|
ww (m_viewportkitPickq1_ok n g3 20 c17_ hc17) <|
yy 76 (.call (C_viewportkitPickq1 g4 20 c18_ [] [])) <|
ww (m_viewportkitPickq1_ok n g4 20 c18_ hc18) <|
yy 84 (.call (C_targetTargetq1 g10 g110 g111 g12 (maxB c17_ c18_) g2 c19_ [] [])) <|
ww (m_targetTargetq1_ok n g10 g110 g111 g12 (maxB c17_ c18_) g2 c19_ hc19) <|
zz 88 (xdT hc20) <|
zz 92 (xdT hc21) <|
yy 98 (.call (C_viewportref16Endq1 c19_ c22_ [] [])) <|
ww (m_viewportref16Endq1_ok n c19_ c22_ hc22) <|
zz 99 (xdT hc23) <|
zz 105 (xdT hc24) <|
ee) (by kernel_rfl)
theorem p_viewportlaw25TargetHolds_3 (n : Nat) (g10 g110 g111 g12 g13 g2 g3 g4 : Int) (hc1 : m_viewportlaw25lives n = some ()) (c2_ : Bool) (hc2 : m_viewportlaw25lightq1 n = some c2_) (hc3 : c2_ = true) (c4_ : Int) (hc4 : m_viewportref16Checkq1 n = some c4_) (hc5 : c4_ = (0 : Int)) (hc6 : 0 ≤ (0 : Int) ∧ (0 : Int) < (((Args.A).length : Nat) : Int)) (c7_ : Int × Int × Int × Int × Int × Int × NL × Int) (hc7 : (some ((Args.A).getD ((0 : Int)).toNat (0, 0, 0, 0, 0, 0, nl0, 0))) = some c7_) (hc8 : (c7_.2.1) = (1 : Int)) (c9_ : Int) (hc9 : m_targetBaseq1 n g10 g110 g111 g12 g13 = some c9_) (hc10 : ¬ (c9_ < (0 : Int))) (hc11 : ¬ (c9_ ≥ (((Args.A).length : Nat) : Int))) (hc12 : ¬ (c9_ > (0 : Int))) (hc13 : m_viewportlaw25TargetHolds_1 n g2 g3 g4 g10 g110 g111 g12 g13 c9_ 0 = some ()) (c14_ : Int) (hc14 : m_viewportkitPickq1 n g3 20 = some c14_) (c15_ : Int) (hc15 : m_viewportkitPickq1 n g4 20 = some c15_) (c16_ : Int) (hc16 : m_targetTargetq1 n g10 g110 g111 g12 (minB c14_ c15_) g2 = some c16_) (c17_ : Int) (hc17 : m_viewportkitPickq1 n g3 20 = some c17_) (c18_ : Int) (hc18 : m_viewportkitPickq1 n g4 20 = some c18_) (c19_ : Int) (hc19 : m_targetTargetq1 n g10 g110 g111 g12 (maxB c17_ c18_) g2 = some c19_) (hc20 : c19_ ≥ (0 : Int)) (hc21 : c19_ ≤ c16_) (c22_ : Int) (hc22 : m_viewportref16Endq1 n c19_ = some c22_) (hc23 : c16_ < c22_) (hc24 : ¬ ((maxB c17_ c18_) < g2)) (hc25 : c19_ = (0 : Int)) : G_viewportlaw25TargetHolds g10 g110 g111 g12 g13 g2 g3 g4 () :=
 runF2 hm (L := lT [(57, ⟨⟨[0, 2, 3, 4, 6, 11, 12], [(0, 0, false)], 1, 0⟩, (X_viewportlaw25TargetHolds_1 g2 g3 g4 g10 g110 g111 g12 g13 c9_ ()).1, (X_viewportlaw25TargetHolds_1 g2 g3 g4 g10 g110 g111 g12 g13 c9_ ()).2⟩)]) ⟨[10], [], 0, 0⟩ (yy 5 (.call ⟨0, [], (Value.bool true), Ax.h0, []⟩) <|
ww (m_viewportlaw25lives_ok n  () hc1) <|
yy 11 (.call (C_viewportlaw25lightq1  c2_ [] [])) <|
ww (m_viewportlaw25lightq1_ok n  c2_ hc2) <|
yy 12 (vf) <|
ww (p := (Value.bool (!c2_)) = (Value.bool false)) (vBn hc3) <|
yy 15 (.call (C_viewportref16Checkq1  c4_ [] [])) <|
ww (m_viewportref16Checkq1_ok n  c4_ hc4) <|
zz 16 (xnF hc5) <|
zz 20 (xk1 0 Args.cA hc6) <|
zz 21 (fk3 (((0 : Int)).toNat * 8)) <|
zz 22 (lk4 hc7 (toNatLt hc6)) <|
zz 23 (xnF hc8) <|
yy 29 (.call (C_targetBaseq1 g10 g110 g111 g12 g13 c9_ [] [])) <|
ww (m_targetBaseq1_ok n g10 g110 g111 g12 g13 c9_ hc9) <|
zz 34 (xdF hc10) <|
zz 39 (xdF hc11) <|
zz 43 (xdF hc12) <|
ww (p := U_viewportlaw25TargetHolds_1 none g2 g3 g4 g10 g110 g111 g12 g13 c9_ 0 ()) (m_viewportlaw25TargetHolds_1_ok n g2 g3 g4 g10 g110 g111 g12 g13 c9_ 0 () hc13) <|
yy 60 (.call (C_viewportkitPickq1 g3 20 c14_ [] [])) <|
ww (m_viewportkitPickq1_ok n g3 20 c14_ hc14) <|
yy 62 (.call (C_viewportkitPickq1 g4 20 c15_ [] [])) <|
ww (m_viewportkitPickq1_ok n g4 20 c15_ hc15) <|
yy 70 (.call (C_targetTargetq1 g10 g110 g111 g12 (minB c14_ c15_) g2 c16_ [] [])) <|
ww (m_targetTargetq1_ok n g10 g110 g111 g12 (minB c14_ c15_) g2 c16_ hc16) <|
yy 74 (.call (C_viewportkitPickq1 g3 20 c17_ [] [])) <|
ww (m_viewportkitPickq1_ok n g3 20 c17_ hc17) <|
yy 76 (.call (C_viewportkitPickq1 g4 20 c18_ [] [])) <|
ww (m_viewportkitPickq1_ok n g4 20 c18_ hc18) <|
yy 84 (.call (C_targetTargetq1 g10 g110 g111 g12 (maxB c17_ c18_) g2 c19_ [] [])) <|
ww (m_targetTargetq1_ok n g10 g110 g111 g12 (maxB c17_ c18_) g2 c19_ hc19) <|
zz 88 (xdT hc20) <|
zz 92 (xdT hc21) <|
yy 98 (.call (C_viewportref16Endq1 c19_ c22_ [] [])) <|
ww (m_viewportref16Endq1_ok n c19_ c22_ hc22) <|
zz 99 (xdT hc23) <|
zz 105 (xdF hc24) <|
zz 108 (xeT hc25) <|
ee) (by kernel_rfl)
theorem p_viewportlaw25TargetHolds_4 (n : Nat) (g10 g110 g111 g12 g13 g2 g3 g4 : Int) (hc1 : m_viewportlaw25lives n = some ()) (c2_ : Bool) (hc2 : m_viewportlaw25lightq1 n = some c2_) (hc3 : c2_ = true) (c4_ : Int) (hc4 : m_viewportref16Checkq1 n = some c4_) (hc5 : c4_ = (0 : Int)) (hc6 : 0 ≤ (0 : Int) ∧ (0 : Int) < (((Args.A).length : Nat) : Int)) (c7_ : Int × Int × Int × Int × Int × Int × NL × Int) (hc7 : (some ((Args.A).getD ((0 : Int)).toNat (0, 0, 0, 0, 0, 0, nl0, 0))) = some c7_) (hc8 : ¬ ((c7_.2.1) = (1 : Int))) : G_viewportlaw25TargetHolds g10 g110 g111 g12 g13 g2 g3 g4 () :=
 runF2 hm (L := lT []) ⟨[10], [], 0, 0⟩ (yy 5 (.call ⟨0, [], (Value.bool true), Ax.h0, []⟩) <|
ww (m_viewportlaw25lives_ok n  () hc1) <|
yy 11 (.call (C_viewportlaw25lightq1  c2_ [] [])) <|
ww (m_viewportlaw25lightq1_ok n  c2_ hc2) <|
yy 12 (vf) <|
ww (p := (Value.bool (!c2_)) = (Value.bool false)) (vBn hc3) <|
yy 15 (.call (C_viewportref16Checkq1  c4_ [] [])) <|
ww (m_viewportref16Checkq1_ok n  c4_ hc4) <|
zz 16 (xnF hc5) <|
zz 20 (xk1 0 Args.cA hc6) <|
zz 21 (fk3 (((0 : Int)).toNat * 8)) <|
zz 22 (lk4 hc7 (toNatLt hc6)) <|
zz 23 (xnT hc8) <|
ee) (by kernel_rfl)
theorem p_viewportlaw25TargetHolds_5 (n : Nat) (g10 g110 g111 g12 g13 g2 g3 g4 : Int) (hc1 : m_viewportlaw25lives n = some ()) (c2_ : Bool) (hc2 : m_viewportlaw25lightq1 n = some c2_) (hc3 : c2_ = true) (c4_ : Int) (hc4 : m_viewportref16Checkq1 n = some c4_) (hc5 : ¬ (c4_ = (0 : Int))) : G_viewportlaw25TargetHolds g10 g110 g111 g12 g13 g2 g3 g4 () :=
 runF2 hm (L := lT []) ⟨[10], [], 0, 0⟩ (yy 5 (.call ⟨0, [], (Value.bool true), Ax.h0, []⟩) <|
ww (m_viewportlaw25lives_ok n  () hc1) <|
yy 11 (.call (C_viewportlaw25lightq1  c2_ [] [])) <|
ww (m_viewportlaw25lightq1_ok n  c2_ hc2) <|
yy 12 (vf) <|
ww (p := (Value.bool (!c2_)) = (Value.bool false)) (vBn hc3) <|
yy 15 (.call (C_viewportref16Checkq1  c4_ [] [])) <|
ww (m_viewportref16Checkq1_ok n  c4_ hc4) <|
zz 16 (xnT hc5) <|
ee) (by kernel_rfl)
theorem p_viewportlaw25TargetHolds_6 (n : Nat) (g10 g110 g111 g12 g13 g2 g3 g4 : Int) (hc1 : m_viewportlaw25lives n = some ()) (c2_ : Bool) (hc2 : m_viewportlaw25lightq1 n = some c2_) (hc3 : ¬ (c2_ = true)) : G_viewportlaw25TargetHolds g10 g110 g111 g12 g13 g2 g3 g4 () :=
 runF2 hm (L := lT []) ⟨[10], [], 0, 0⟩ (yy 5 (.call ⟨0, [], (Value.bool true), Ax.h0, []⟩) <|
ww (m_viewportlaw25lives_ok n  () hc1) <|
yy 11 (.call (C_viewportlaw25lightq1  c2_ [] [])) <|
ww (m_viewportlaw25lightq1_ok n  c2_ hc2) <|
yy 12 (vt) <|
ww (p := (Value.bool (!c2_)) = (Value.bool true)) (vBn (Bool.eq_false_iff.2 hc3)) <|
ee) (by kernel_rfl)
theorem m_viewportlaw25TargetHolds_ok (n : Nat) (g10 : Int) (g110 : Int) (g111 : Int) (g12 : Int) (g13 : Int) (g2 : Int) (g3 : Int) (g4 : Int) (r : Unit) (h : m_viewportlaw25TargetHolds n g10 g110 g111 g12 g13 g2 g3 g4 = some r) : Gv P (.func 3) (A_viewportlaw25TargetHolds g10 g110 g111 g12 g13 g2 g3 g4) (H_viewportlaw25TargetHolds g10 g110 g111 g12 g13 g2 g3 g4) (V_viewportlaw25TargetHolds g10 g110 g111 g12 g13 g2 g3 g4 r) (R_viewportlaw25TargetHolds g10 g110 g111 g12 g13 g2 g3 g4 r) := by
 unfold m_viewportlaw25TargetHolds at h
 obtain ⟨_, hc1, h⟩ := Option.bind_eq_some_iff.1 h
 obtain ⟨c2_, hc2, h⟩ := Option.bind_eq_some_iff.1 h
 by_cases hc3 : c2_ = true
 ·rw [if_pos hc3] at h
  obtain ⟨c4_, hc4, h⟩ := Option.bind_eq_some_iff.1 h
  by_cases hc5 : c4_ = (0 : Int)
  ·rw [if_pos hc5] at h
   by_cases hc6 : 0 ≤ (0 : Int) ∧ (0 : Int) < (((Args.A).length : Nat) : Int)
   ·rw [if_pos hc6] at h
    obtain ⟨c7_, hc7, h⟩ := Option.bind_eq_some_iff.1 h
    by_cases hc8 : (c7_.2.1) = (1 : Int)
    ·rw [if_pos hc8] at h
     obtain ⟨c9_, hc9, h⟩ := Option.bind_eq_some_iff.1 h
     by_cases hc10 : c9_ < (0 : Int)
     ·rw [if_pos hc10] at h
      cases h
     ·rw [if_neg hc10] at h
      by_cases hc11 : c9_ ≥ (((Args.A).length : Nat) : Int)
      ·rw [if_pos hc11] at h
       cases h
      ·rw [if_neg hc11] at h
       by_cases hc12 : c9_ > (0 : Int)
       ·rw [if_pos hc12] at h
        obtain ⟨c13_, hc13, h⟩ := Option.bind_eq_some_iff.1 h
        by_cases hc14 : c13_ = true
        ·rw [if_pos hc14] at h
         obtain ⟨_, hc15, h⟩ := Option.bind_eq_some_iff.1 h
         obtain ⟨c16_, hc16, h⟩ := Option.bind_eq_some_iff.1 h
         obtain ⟨c17_, hc17, h⟩ := Option.bind_eq_some_iff.1 h
         obtain ⟨c18_, hc18, h⟩ := Option.bind_eq_some_iff.1 h
         obtain ⟨c19_, hc19, h⟩ := Option.bind_eq_some_iff.1 h
         obtain ⟨c20_, hc20, h⟩ := Option.bind_eq_some_iff.1 h
         obtain ⟨c21_, hc21, h⟩ := Option.bind_eq_some_iff.1 h
         by_cases hc22 : c21_ ≥ (0 : Int)
         ·rw [if_pos hc22] at h
          by_cases hc23 : c21_ ≤ c18_
          ·rw [if_pos hc23] at h
           obtain ⟨c24_, hc24, h⟩ := Option.bind_eq_some_iff.1 h
           by_cases hc25 : c18_ < c24_
           ·rw [if_pos hc25] at h
            by_cases hc26 : (maxB c19_ c20_) < g2
            ·rw [if_pos hc26] at h
             obtain rfl := Option.some.inj h; exact p_viewportlaw25TargetHolds_0 n g10 g110 g111 g12 g13 g2 g3 g4 hc1 c2_ hc2 hc3 c4_ hc4 hc5 hc6 c7_ hc7 hc8 c9_ hc9 hc10 hc11 hc12 c13_ hc13 hc14 hc15 c16_ hc16 c17_ hc17 c18_ hc18 c19_ hc19 c20_ hc20 c21_ hc21 hc22 hc23 c24_ hc24 hc25 hc26
            ·rw [if_neg hc26] at h
             by_cases hc27 : c21_ = (0 : Int)
             ·rw [if_pos hc27] at h
              obtain rfl := Option.some.inj h; exact p_viewportlaw25TargetHolds_1 n g10 g110 g111 g12 g13 g2 g3 g4 hc1 c2_ hc2 hc3 c4_ hc4 hc5 hc6 c7_ hc7 hc8 c9_ hc9 hc10 hc11 hc12 c13_ hc13 hc14 hc15 c16_ hc16 c17_ hc17 c18_ hc18 c19_ hc19 c20_ hc20 c21_ hc21 hc22 hc23 c24_ hc24 hc25 hc26 hc27
             ·rw [if_neg hc27] at h
              cases h
           ·rw [if_neg hc25] at h
            cases h
          ·rw [if_neg hc23] at h
           cases h
         ·rw [if_neg hc22] at h
          cases h
        ·rw [if_neg hc14] at h
         cases h
       ·rw [if_neg hc12] at h
        obtain ⟨_, hc13, h⟩ := Option.bind_eq_some_iff.1 h
        obtain ⟨c14_, hc14, h⟩ := Option.bind_eq_some_iff.1 h
        obtain ⟨c15_, hc15, h⟩ := Option.bind_eq_some_iff.1 h
        obtain ⟨c16_, hc16, h⟩ := Option.bind_eq_some_iff.1 h
        obtain ⟨c17_, hc17, h⟩ := Option.bind_eq_some_iff.1 h
        obtain ⟨c18_, hc18, h⟩ := Option.bind_eq_some_iff.1 h
        obtain ⟨c19_, hc19, h⟩ := Option.bind_eq_some_iff.1 h
        by_cases hc20 : c19_ ≥ (0 : Int)
        ·rw [if_pos hc20] at h
         by_cases hc21 : c19_ ≤ c16_
         ·rw [if_pos hc21] at h
          obtain ⟨c22_, hc22, h⟩ := Option.bind_eq_some_iff.1 h
          by_cases hc23 : c16_ < c22_
          ·rw [if_pos hc23] at h
           by_cases hc24 : (maxB c17_ c18_) < g2
           ·rw [if_pos hc24] at h
            obtain rfl := Option.some.inj h; exact p_viewportlaw25TargetHolds_2 n g10 g110 g111 g12 g13 g2 g3 g4 hc1 c2_ hc2 hc3 c4_ hc4 hc5 hc6 c7_ hc7 hc8 c9_ hc9 hc10 hc11 hc12 hc13 c14_ hc14 c15_ hc15 c16_ hc16 c17_ hc17 c18_ hc18 c19_ hc19 hc20 hc21 c22_ hc22 hc23 hc24
           ·rw [if_neg hc24] at h
            by_cases hc25 : c19_ = (0 : Int)
            ·rw [if_pos hc25] at h
             obtain rfl := Option.some.inj h; exact p_viewportlaw25TargetHolds_3 n g10 g110 g111 g12 g13 g2 g3 g4 hc1 c2_ hc2 hc3 c4_ hc4 hc5 hc6 c7_ hc7 hc8 c9_ hc9 hc10 hc11 hc12 hc13 c14_ hc14 c15_ hc15 c16_ hc16 c17_ hc17 c18_ hc18 c19_ hc19 hc20 hc21 c22_ hc22 hc23 hc24 hc25
            ·rw [if_neg hc25] at h
             cases h
          ·rw [if_neg hc23] at h
           cases h
         ·rw [if_neg hc21] at h
          cases h
        ·rw [if_neg hc20] at h
         cases h
    ·rw [if_neg hc8] at h
     obtain rfl := Option.some.inj h; exact p_viewportlaw25TargetHolds_4 n g10 g110 g111 g12 g13 g2 g3 g4 hc1 c2_ hc2 hc3 c4_ hc4 hc5 hc6 c7_ hc7 hc8
   ·rw [if_neg hc6] at h; cases h
  ·rw [if_neg hc5] at h
   obtain rfl := Option.some.inj h; exact p_viewportlaw25TargetHolds_5 n g10 g110 g111 g12 g13 g2 g3 g4 hc1 c2_ hc2 hc3 c4_ hc4 hc5
 ·rw [if_neg hc3] at h
  obtain rfl := Option.some.inj h; exact p_viewportlaw25TargetHolds_6 n g10 g110 g111 g12 g13 g2 g3 g4 hc1 c2_ hc2 hc3

end Go.Proofs.YtkmebhpbfgffbaaGreat.tghw
