/-
  What functions do, told by pure functions. No condition.
-/
import Derived.Test.YtmjibnlojmdcgaaGreatDoorMltATold
set_option linter.unusedSimpArgs false
set_option linter.unusedVariables false
set_option linter.unusedSectionVars false
set_option linter.unnecessarySimpa false
set_option maxRecDepth 100000
noncomputable section
namespace Go.Proofs.YtmjibnlojmdcgaaGreatDoor.mlt19
open Go Go.Proofs.YtmjibnlojmdcgaaGreatDoor Ax
variable [Args]
def A_iOq1 : List Value := [(sW 0 0 (Args.A).length Args.cA)]
def H_iOq1 : AH := ⟨sB [], 0, 0⟩
def V_iOq1 (r : Bool) : Value := match r with
 | o0 => (bO o0)
def R_iOq1 (r : Bool) : AH := match r with
 | o0 => ⟨sB [], 0, 0⟩
abbrev G_iOq1 (r : Bool) : Prop := Gv P (.func 57) A_iOq1 H_iOq1 (V_iOq1  r) (R_iOq1  r)
abbrev C_iOq1 (r : Bool) (ins outs : BL) : CallA := ⟨0, ins, V_iOq1  r, R_iOq1  r, outs⟩
def qcv_ (x2 : Int) (st : List (Int × Int × Int) × Nat × Int) : XSt := match st with
 | (x0, x1, x3) => (sT 99 [(0, (sW 0 0 (Args.A).length Args.cA)), (3, (slQ x0 0 x1 3)), (8, (sW 0 0 (Args.A).length Args.cA)), (9, (i6 x2)), (10, (i6 x3))], [], ⟨sB [(0, (nblkR ql_ x0 177))], 1, 0⟩)
def qbl_ (x2 : Int) (r : (Unit) ⊕ (List (Int × Int × Int) × Nat)) : Ex × XSt := match r with
 | .inl _ => (.ret, (sT 99 [(2, (bO false))], [], ⟨sB [], 0, 0⟩))
 | .inr (z0, z1) => (.exit 0, (sT 99 [(3, (slQ z0 0 z1 3))], [], ⟨sB [(0, (nblkR ql_ z0 177))], 1, 0⟩))
abbrev qb0_ (rnd : Option Nat) (x2 : Int) (st : List (Int × Int × Int) × Nat × Int) (c : Ex × XSt) : Prop := CG P rnd (fnN P 57) 0 (qq_ P 57 [false, false, true, false, true, true]) (qcv_ x2 st) c
abbrev qnn_ (rd : Option Nat) (x2 : Int) (st : List (Int × Int × Int) × Nat × Int) (r : (Unit) ⊕ (List (Int × Int × Int) × Nat)) : Prop := CG P rd (fnN P 57) 0 (qq_ P 57 [false, true, false, true, true]) (qcv_ x2 st) (qbl_ x2 r)
def qbq_ (n : Nat) (x2 : Int) (st : List (Int × Int × Int) × Nat × Int) : Option ((List (Int × Int × Int) × Nat × Int) ⊕ ((Unit) ⊕ (List (Int × Int × Int) × Nat))) := match st with
 | (x0, x1, x3) =>
  match x0 with
  | [] =>
   if x3 < x2 then
    if 0 ≤ x3 ∧ x3 < (Args.A.length : Int) then
     ((some ((Args.A).getD (x3).toNat (0, 0, 0, 0, 0, 0, nl0, 0)))).bind fun y3_ =>
     if x3 > 0 then
      some (.inr (.inl ()))
     else
      if (y3_.2.2.2.2.2.2.1.l.length : Int) > 0 then
       some (.inl ([(x3, (0 : Int), (y3_.2.2.1))], 1, (w64 (x3 + 1))))
      else
       some (.inl (([] : List (Int × Int × Int)), 0, (w64 (x3 + 1))))
    else none
   else
    some (.inr (.inr (([] : List (Int × Int × Int)), 0)))
  | x0a :: x0t =>
   if x3 < x2 then
    if 0 ≤ x3 ∧ x3 < (Args.A.length : Int) then
     ((some ((Args.A).getD (x3).toNat (0, 0, 0, 0, 0, 0, nl0, 0)))).bind fun y3_ =>
     if x3 > 0 then
      if ((x1 : Nat) : Int) = 0 then
       some (.inr (.inl ()))
      else
       ((some (w64 (((x1 : Nat) : Int) - 1)))).bind fun y6_ =>
       if 0 ≤ y6_ ∧ y6_ < ((x1 : Nat) : Int) then
        if (y6_).toNat < ((x0a :: x0t)).length then
         ((some (((x0a :: x0t)).getD (y6_).toNat (0, 0, 0)))).bind fun y9_ =>
         if 0 ≤ (y9_.1) ∧ (y9_.1) < (Args.A.length : Int) then
          ((some ((Args.A).getD ((y9_.1)).toNat (0, 0, 0, 0, 0, 0, nl0, 0)))).bind fun y11_ =>
          if 0 ≤ (y9_.2.1) ∧ (y9_.2.1) < (y11_.2.2.2.2.2.2.1.l.length : Int) then
           if ((y9_.2.1)).toNat < (((y11_.2.2.2.2.2.2.1)).l).length then
            ((some ((((y11_.2.2.2.2.2.2.1)).l).getD ((y9_.2.1)).toNat 0))).bind fun y14_ =>
            if y14_ = x3 then
             if (y3_.2.2.1) < (y9_.2.2) then
              some (.inr (.inl ()))
             else
              if (y3_.2.2.2.2.1) > (y11_.2.2.2.2.1) then
               some (.inr (.inl ()))
              else
               if (w64 ((y9_.2.1) + 1)) = (y11_.2.2.2.2.2.2.1.l.length : Int) then
                if 0 ≤ y6_ ∧ y6_ ≤ ((x1 : Nat) : Int) then
                 if (y3_.2.2.2.2.2.2.1.l.length : Int) > 0 then
                  if (y6_).toNat ≤ ((((x0a :: x0t)).set (y6_).toNat ((y9_.1), (w64 ((y9_.2.1) + 1)), (y3_.2.2.2.2.1)))).length then
                   if ((y6_).toNat + 1) * 24 ≤ 140737488355328 then
                    some (.inl (((List.take (y6_).toNat (((x0a :: x0t)).set (y6_).toNat ((y9_.1), (w64 ((y9_.2.1) + 1)), (y3_.2.2.2.2.1)))) ++ [(x3, (0 : Int), (y3_.2.2.1))]), ((((List.take (y6_).toNat (((x0a :: x0t)).set (y6_).toNat ((y9_.1), (w64 ((y9_.2.1) + 1)), (y3_.2.2.2.2.1)))) ++ [(x3, (0 : Int), (y3_.2.2.1))])).length), (w64 (x3 + 1))))
                   else none
                  else none
                 else
                  some (.inl ((((x0a :: x0t)).set (y6_).toNat ((y9_.1), (w64 ((y9_.2.1) + 1)), (y3_.2.2.2.2.1))), ((y6_).toNat), (w64 (x3 + 1))))
                else none
               else
                if (y3_.2.2.2.2.2.2.1.l.length : Int) > 0 then
                 if x1 ≤ ((((x0a :: x0t)).set (y6_).toNat ((y9_.1), (w64 ((y9_.2.1) + 1)), (y3_.2.2.2.2.1)))).length then
                  if (x1 + 1) * 24 ≤ 140737488355328 then
                   some (.inl (((List.take x1 (((x0a :: x0t)).set (y6_).toNat ((y9_.1), (w64 ((y9_.2.1) + 1)), (y3_.2.2.2.2.1)))) ++ [(x3, (0 : Int), (y3_.2.2.1))]), ((((List.take x1 (((x0a :: x0t)).set (y6_).toNat ((y9_.1), (w64 ((y9_.2.1) + 1)), (y3_.2.2.2.2.1)))) ++ [(x3, (0 : Int), (y3_.2.2.1))])).length), (w64 (x3 + 1))))
                  else none
                 else none
                else
                 some (.inl ((((x0a :: x0t)).set (y6_).toNat ((y9_.1), (w64 ((y9_.2.1) + 1)), (y3_.2.2.2.2.1))), x1, (w64 (x3 + 1))))
            else
             some (.inr (.inl ()))
           else none
          else none
         else none
        else none
       else none
     else
      if (y3_.2.2.2.2.2.2.1.l.length : Int) > 0 then
       if x1 ≤ ((x0a :: x0t)).length then
        if (x1 + 1) * 24 ≤ 140737488355328 then
         some (.inl (((List.take x1 (x0a :: x0t)) ++ [(x3, (0 : Int), (y3_.2.2.1))]), ((((List.take x1 (x0a :: x0t)) ++ [(x3, (0 : Int), (y3_.2.2.1))])).length), (w64 (x3 + 1))))
        else none
       else none
      else
       some (.inl ((x0a :: x0t), x1, (w64 (x3 + 1))))
    else none
   else
    some (.inr (.inr ((x0a :: x0t), x1)))
def qno_ (n : Nat) (x2 : Int) (st : List (Int × Int × Int) × Nat × Int) : Option ((Unit) ⊕ (List (Int × Int × Int) × Nat)) := iterM (qbq_ n x2) n st
theorem q_iOq1_1_0 (n : Nat) {rnd : Option Nat} (x1 : Nat) (x2 x3 : Int) (hy1 : x3 < x2) (hy2 : 0 ≤ x3 ∧ x3 < (Args.A.length : Int)) (y3_ : R8) (hy3 : (some ((Args.A).getD (x3).toNat (0, 0, 0, 0, 0, 0, nl0, 0))) = some y3_) (hy4 : x3 > 0) : qb0_ rnd x2 (([] : List (Int × Int × Int)), x1, x3) (qbl_ x2 (.inl ())) :=
 runC2 hm (L := lT []) ⟨[2], [], 0, 0⟩ (zz 1 (xdT hy1) <|
zz 8 (xk1 0 Args.cA hy2) <|
zz 9 (lk2 hy3 (qc_ hy2)) <|
zz 16 (xdT hy4) <|
ee) (by kernel_rfl)
theorem q_iOq1_1_1 (n : Nat) {rnd : Option Nat} (x1 : Nat) (x2 x3 : Int) (hy1 : x3 < x2) (hy2 : 0 ≤ x3 ∧ x3 < (Args.A.length : Int)) (y3_ : R8) (hy3 : (some ((Args.A).getD (x3).toNat (0, 0, 0, 0, 0, 0, nl0, 0))) = some y3_) (hy4 : ¬ (x3 > 0)) (hy5 : (y3_.2.2.2.2.2.2.1.l.length : Int) > 0) : qb0_ rnd x2 (([] : List (Int × Int × Int)), x1, x3) (.normal, qcv_ x2 ([(x3, (0 : Int), (y3_.2.2.1))], 1, (w64 (x3 + 1)))) :=
 runC2 hm (L := lT []) ⟨[0, 3, 8, 9, 10], [(0, 3, false)], 1, 0⟩ (zz 1 (xdT hy1) <|
zz 8 (xk1 0 Args.cA hy2) <|
zz 9 (lk2 hy3 (qc_ hy2)) <|
zz 16 (xdF hy4) <|
zz 22 (xdT hy5) <|
ee) (by kernel_rfl)
theorem q_iOq1_1_2 (n : Nat) {rnd : Option Nat} (x1 : Nat) (x2 x3 : Int) (hy1 : x3 < x2) (hy2 : 0 ≤ x3 ∧ x3 < (Args.A.length : Int)) (y3_ : R8) (hy3 : (some ((Args.A).getD (x3).toNat (0, 0, 0, 0, 0, 0, nl0, 0))) = some y3_) (hy4 : ¬ (x3 > 0)) (hy5 : ¬ ((y3_.2.2.2.2.2.2.1.l.length : Int) > 0)) : qb0_ rnd x2 (([] : List (Int × Int × Int)), x1, x3) (.normal, qcv_ x2 (([] : List (Int × Int × Int)), 0, (w64 (x3 + 1)))) :=
 runC2 hm (L := lT []) ⟨[0, 3, 8, 9, 10], [], 1, 0⟩ (zz 1 (xdT hy1) <|
zz 8 (xk1 0 Args.cA hy2) <|
zz 9 (lk2 hy3 (qc_ hy2)) <|
zz 16 (xdF hy4) <|
zz 22 (xdF hy5) <|
ee) (by kernel_rfl)
theorem q_iOq1_1_3 (n : Nat) {rnd : Option Nat} (x1 : Nat) (x2 x3 : Int) (hy1 : ¬ (x3 < x2)) : qb0_ rnd x2 (([] : List (Int × Int × Int)), x1, x3) (qbl_ x2 (.inr (([] : List (Int × Int × Int)), 0))) :=
 runC2 hm (L := lT []) ⟨[3], [], 1, 0⟩ (zz 1 (xdF hy1) <|
ee) (by kernel_rfl)
theorem q_iOq1_1_4 (n : Nat) {rnd : Option Nat} (x0a : Int × Int × Int) (x0t : List (Int × Int × Int)) (x1 : Nat) (x2 x3 : Int) (hy1 : x3 < x2) (hy2 : 0 ≤ x3 ∧ x3 < (Args.A.length : Int)) (y3_ : R8) (hy3 : (some ((Args.A).getD (x3).toNat (0, 0, 0, 0, 0, 0, nl0, 0))) = some y3_) (hy4 : x3 > 0) (hy5 : ((x1 : Nat) : Int) = 0) : qb0_ rnd x2 ((x0a :: x0t), x1, x3) (qbl_ x2 (.inl ())) :=
 runC2 hm (L := lT []) ⟨[2], [], 0, 0⟩ (zz 1 (xdT hy1) <|
zz 8 (xk1 0 Args.cA hy2) <|
zz 9 (lk2 hy3 (qc_ hy2)) <|
zz 16 (xdT hy4) <|
zz 22 (xeT hy5) <|
ee) (by kernel_rfl)
theorem q_iOq1_1_5 (n : Nat) {rnd : Option Nat} (x0a : Int × Int × Int) (x0t : List (Int × Int × Int)) (x1 : Nat) (x2 x3 : Int) (hy1 : x3 < x2) (hy2 : 0 ≤ x3 ∧ x3 < (Args.A.length : Int)) (y3_ : R8) (hy3 : (some ((Args.A).getD (x3).toNat (0, 0, 0, 0, 0, 0, nl0, 0))) = some y3_) (hy4 : x3 > 0) (hy5 : ¬ (((x1 : Nat) : Int) = 0)) (y6_ : Int) (hy6 : (some (w64 (((x1 : Nat) : Int) - 1))) = some y6_) (hy7 : 0 ≤ y6_ ∧ y6_ < ((x1 : Nat) : Int)) (hy8 : (y6_).toNat < ((x0a :: x0t)).length) (y9_ : Int × Int × Int) (hy9 : (some (((x0a :: x0t)).getD (y6_).toNat (0, 0, 0))) = some y9_) (hy10 : 0 ≤ (y9_.1) ∧ (y9_.1) < (Args.A.length : Int)) (y11_ : R8) (hy11 : (some ((Args.A).getD ((y9_.1)).toNat (0, 0, 0, 0, 0, 0, nl0, 0))) = some y11_) (hy12 : 0 ≤ (y9_.2.1) ∧ (y9_.2.1) < (y11_.2.2.2.2.2.2.1.l.length : Int)) (hy13 : ((y9_.2.1)).toNat < (((y11_.2.2.2.2.2.2.1)).l).length) (y14_ : Int) (hy14 : (some ((((y11_.2.2.2.2.2.2.1)).l).getD ((y9_.2.1)).toNat 0)) = some y14_) (hy15 : y14_ = x3) (hy16 : (y3_.2.2.1) < (y9_.2.2)) : qb0_ rnd x2 ((x0a :: x0t), x1, x3) (qbl_ x2 (.inl ())) :=
 runC2 hm (L := lT []) ⟨[2], [], 0, 0⟩ (zz 1 (xdT hy1) <|
zz 8 (xk1 0 Args.cA hy2) <|
zz 9 (lk2 hy3 (qc_ hy2)) <|
zz 16 (xdT hy4) <|
zz 22 (xeF hy5) <|
zz 28 (xnm hy6) <|
zz 29 (xk13 0 U3 hy7) <|
zz 36 (ok14 hy9 (hy8)) <|
zz 37 (xk1 0 Args.cA hy10) <|
zz 38 (lk2 hy11 (qc_ hy10)) <|
zz 48 (ok15 hy9 (hy8)) <|
zz 49 (xk9 (Nat.add ((y11_.2.2.2.2.2.2.1)).num 64) ((y11_.2.2.2.2.2.2.1)).cap hy12) <|
zz 50 (nk10 hy14 hy13) <|
zz 52 (xnF hy15) <|
zz 59 (ok16 hy9 (hy8)) <|
zz 60 (xdT hy16) <|
ee) (by kernel_rfl)
theorem q_iOq1_1_6 (n : Nat) {rnd : Option Nat} (x0a : Int × Int × Int) (x0t : List (Int × Int × Int)) (x1 : Nat) (x2 x3 : Int) (hy1 : x3 < x2) (hy2 : 0 ≤ x3 ∧ x3 < (Args.A.length : Int)) (y3_ : R8) (hy3 : (some ((Args.A).getD (x3).toNat (0, 0, 0, 0, 0, 0, nl0, 0))) = some y3_) (hy4 : x3 > 0) (hy5 : ¬ (((x1 : Nat) : Int) = 0)) (y6_ : Int) (hy6 : (some (w64 (((x1 : Nat) : Int) - 1))) = some y6_) (hy7 : 0 ≤ y6_ ∧ y6_ < ((x1 : Nat) : Int)) (hy8 : (y6_).toNat < ((x0a :: x0t)).length) (y9_ : Int × Int × Int) (hy9 : (some (((x0a :: x0t)).getD (y6_).toNat (0, 0, 0))) = some y9_) (hy10 : 0 ≤ (y9_.1) ∧ (y9_.1) < (Args.A.length : Int)) (y11_ : R8) (hy11 : (some ((Args.A).getD ((y9_.1)).toNat (0, 0, 0, 0, 0, 0, nl0, 0))) = some y11_) (hy12 : 0 ≤ (y9_.2.1) ∧ (y9_.2.1) < (y11_.2.2.2.2.2.2.1.l.length : Int)) (hy13 : ((y9_.2.1)).toNat < (((y11_.2.2.2.2.2.2.1)).l).length) (y14_ : Int) (hy14 : (some ((((y11_.2.2.2.2.2.2.1)).l).getD ((y9_.2.1)).toNat 0)) = some y14_) (hy15 : y14_ = x3) (hy16 : ¬ ((y3_.2.2.1) < (y9_.2.2))) (hy17 : (y3_.2.2.2.2.1) > (y11_.2.2.2.2.1)) : qb0_ rnd x2 ((x0a :: x0t), x1, x3) (qbl_ x2 (.inl ())) :=
 runC2 hm (L := lT []) ⟨[2], [], 0, 0⟩ (zz 1 (xdT hy1) <|
zz 8 (xk1 0 Args.cA hy2) <|
zz 9 (lk2 hy3 (qc_ hy2)) <|
zz 16 (xdT hy4) <|
zz 22 (xeF hy5) <|
zz 28 (xnm hy6) <|
zz 29 (xk13 0 U3 hy7) <|
zz 36 (ok14 hy9 (hy8)) <|
zz 37 (xk1 0 Args.cA hy10) <|
zz 38 (lk2 hy11 (qc_ hy10)) <|
zz 48 (ok15 hy9 (hy8)) <|
zz 49 (xk9 (Nat.add ((y11_.2.2.2.2.2.2.1)).num 64) ((y11_.2.2.2.2.2.2.1)).cap hy12) <|
zz 50 (nk10 hy14 hy13) <|
zz 52 (xnF hy15) <|
zz 59 (ok16 hy9 (hy8)) <|
zz 60 (xdF hy16) <|
zz 67 (xdT hy17) <|
ee) (by kernel_rfl)
theorem q_iOq1_1_7 (n : Nat) {rnd : Option Nat} (x0a : Int × Int × Int) (x0t : List (Int × Int × Int)) (x1 : Nat) (x2 x3 : Int) (hy1 : x3 < x2) (hy2 : 0 ≤ x3 ∧ x3 < (Args.A.length : Int)) (y3_ : R8) (hy3 : (some ((Args.A).getD (x3).toNat (0, 0, 0, 0, 0, 0, nl0, 0))) = some y3_) (hy4 : x3 > 0) (hy5 : ¬ (((x1 : Nat) : Int) = 0)) (y6_ : Int) (hy6 : (some (w64 (((x1 : Nat) : Int) - 1))) = some y6_) (hy7 : 0 ≤ y6_ ∧ y6_ < ((x1 : Nat) : Int)) (hy8 : (y6_).toNat < ((x0a :: x0t)).length) (y9_ : Int × Int × Int) (hy9 : (some (((x0a :: x0t)).getD (y6_).toNat (0, 0, 0))) = some y9_) (hy10 : 0 ≤ (y9_.1) ∧ (y9_.1) < (Args.A.length : Int)) (y11_ : R8) (hy11 : (some ((Args.A).getD ((y9_.1)).toNat (0, 0, 0, 0, 0, 0, nl0, 0))) = some y11_) (hy12 : 0 ≤ (y9_.2.1) ∧ (y9_.2.1) < (y11_.2.2.2.2.2.2.1.l.length : Int)) (hy13 : ((y9_.2.1)).toNat < (((y11_.2.2.2.2.2.2.1)).l).length) (y14_ : Int) (hy14 : (some ((((y11_.2.2.2.2.2.2.1)).l).getD ((y9_.2.1)).toNat 0)) = some y14_) (hy15 : y14_ = x3) (hy16 : ¬ ((y3_.2.2.1) < (y9_.2.2))) (hy17 : ¬ ((y3_.2.2.2.2.1) > (y11_.2.2.2.2.1))) (hy18 : (w64 ((y9_.2.1) + 1)) = (y11_.2.2.2.2.2.2.1.l.length : Int)) (hy19 : 0 ≤ y6_ ∧ y6_ ≤ ((x1 : Nat) : Int)) (hy20 : (y3_.2.2.2.2.2.2.1.l.length : Int) > 0) (hy21 : (y6_).toNat ≤ ((((x0a :: x0t)).set (y6_).toNat ((y9_.1), (w64 ((y9_.2.1) + 1)), (y3_.2.2.2.2.1)))).length) (hy22 : ((y6_).toNat + 1) * 24 ≤ 140737488355328) : qb0_ rnd x2 ((x0a :: x0t), x1, x3) (.normal, qcv_ x2 (((List.take (y6_).toNat (((x0a :: x0t)).set (y6_).toNat ((y9_.1), (w64 ((y9_.2.1) + 1)), (y3_.2.2.2.2.1)))) ++ [(x3, (0 : Int), (y3_.2.2.1))]), ((((List.take (y6_).toNat (((x0a :: x0t)).set (y6_).toNat ((y9_.1), (w64 ((y9_.2.1) + 1)), (y3_.2.2.2.2.1)))) ++ [(x3, (0 : Int), (y3_.2.2.1))])).length), (w64 (x3 + 1)))) :=
 by
 obtain ⟨za, zt, hz⟩ : ∃ a t, ((List.take (y6_).toNat (((x0a :: x0t)).set (y6_).toNat ((y9_.1), (w64 ((y9_.2.1) + 1)), (y3_.2.2.2.2.1)))) ++ [(x3, (0 : Int), (y3_.2.2.1))]) = a :: t := qjc_ (List.take (y6_).toNat (((x0a :: x0t)).set (y6_).toNat ((y9_.1), (w64 ((y9_.2.1) + 1)), (y3_.2.2.2.2.1)))) (x3, (0 : Int), (y3_.2.2.1))
 rw [hz]
 exact runC2 hm (L := lT []) ⟨[0, 3, 8, 9, 10], [(0, 4, true)], 1, 0⟩ (zz 1 (xdT hy1) <|
zz 8 (xk1 0 Args.cA hy2) <|
zz 9 (lk2 hy3 (qc_ hy2)) <|
zz 16 (xdT hy4) <|
zz 22 (xeF hy5) <|
zz 28 (xnm hy6) <|
zz 29 (xk13 0 U3 hy7) <|
zz 36 (ok14 hy9 (hy8)) <|
zz 37 (xk1 0 Args.cA hy10) <|
zz 38 (lk2 hy11 (qc_ hy10)) <|
zz 48 (ok15 hy9 (hy8)) <|
zz 49 (xk9 (Nat.add ((y11_.2.2.2.2.2.2.1)).num 64) ((y11_.2.2.2.2.2.2.1)).cap hy12) <|
zz 50 (nk10 hy14 hy13) <|
zz 52 (xnF hy15) <|
zz 59 (ok16 hy9 (hy8)) <|
zz 60 (xdF hy16) <|
zz 67 (xdF hy17) <|
zz 76 (ok15 hy9 (hy8)) <|
yy 82 (.sto (layT (rows ql_ (((x0a :: x0t)).set (y6_).toNat ((y9_.1), (w64 ((y9_.2.1) + 1)), (y9_.2.2)))))) <|
ww (p := ∃ old, rdT (layT (rows ql_ (x0a :: x0t))) 1 (Nat.add ((y6_).toNat * 3) 1) = some old) (Exists.elim (qfk_ qw_ (0, 0, 0) (hr := hy9) (i := (y6_).toNat) (j := 1) (l := [(i6 (w64 ((y9_.2.1) + 1)))]) ((y9_.1), (w64 ((y9_.2.1) + 1)), (y9_.2.2)) (Nat.add ((y6_).toNat * 3) 1) rfl (hy8) (Nat.le_of_ble_eq_true rfl) rfl) fun o h => ⟨o, h.1⟩) <|
ww (p := layL [(i6 (w64 ((y9_.2.1) + 1)))] (Nat.add ((y6_).toNat * 3) 1) (layT (rows ql_ (x0a :: x0t))) = layT (rows ql_ (((x0a :: x0t)).set (y6_).toNat ((y9_.1), (w64 ((y9_.2.1) + 1)), (y9_.2.2))))) (Exists.elim (qfk_ qw_ (0, 0, 0) (hr := hy9) (i := (y6_).toNat) (j := 1) (l := [(i6 (w64 ((y9_.2.1) + 1)))]) ((y9_.1), (w64 ((y9_.2.1) + 1)), (y9_.2.2)) (Nat.add ((y6_).toNat * 3) 1) rfl (hy8) (Nat.le_of_ble_eq_true rfl) rfl) fun o h => h.2) <|
yy 85 (.sto (layT (rows ql_ (((x0a :: x0t)).set (y6_).toNat ((y9_.1), (w64 ((y9_.2.1) + 1)), (y3_.2.2.2.2.1)))))) <|
ww (p := ∃ old, rdT (layT (rows ql_ (((x0a :: x0t)).set (y6_).toNat ((y9_.1), (w64 ((y9_.2.1) + 1)), (y9_.2.2))))) 1 (Nat.add ((y6_).toNat * 3) 2) = some old) (Exists.elim (qfj_ qw_ (i := (y6_).toNat) (j := 2) (l := [(i6 (y3_.2.2.2.2.1))]) ((y9_.1), (w64 ((y9_.2.1) + 1)), (y9_.2.2)) ((y9_.1), (w64 ((y9_.2.1) + 1)), (y3_.2.2.2.2.1)) (Nat.add ((y6_).toNat * 3) 2) rfl (hy8) (Nat.le_of_ble_eq_true rfl) rfl) fun o h => ⟨o, h.1⟩) <|
ww (p := layL [(i6 (y3_.2.2.2.2.1))] (Nat.add ((y6_).toNat * 3) 2) (layT (rows ql_ (((x0a :: x0t)).set (y6_).toNat ((y9_.1), (w64 ((y9_.2.1) + 1)), (y9_.2.2))))) = layT (rows ql_ (((x0a :: x0t)).set (y6_).toNat ((y9_.1), (w64 ((y9_.2.1) + 1)), (y3_.2.2.2.2.1))))) (Exists.elim (qfj_ qw_ (i := (y6_).toNat) (j := 2) (l := [(i6 (y3_.2.2.2.2.1))]) ((y9_.1), (w64 ((y9_.2.1) + 1)), (y9_.2.2)) ((y9_.1), (w64 ((y9_.2.1) + 1)), (y3_.2.2.2.2.1)) (Nat.add ((y6_).toNat * 3) 2) rfl (hy8) (Nat.le_of_ble_eq_true rfl) rfl) fun o h => h.2) <|
yy 90 (.ld (i6 (w64 ((y9_.2.1) + 1)))) <|
ww (p := (layT (rows ql_ (((x0a :: x0t)).set (y6_).toNat ((y9_.1), (w64 ((y9_.2.1) + 1)), (y3_.2.2.2.2.1))))).get (Nat.add ((y6_).toNat * 3) 1) = some (i6 (w64 ((y9_.2.1) + 1)))) (qdu_ qw_ (i := (y6_).toNat) (j := 1) ((y9_.1), (w64 ((y9_.2.1) + 1)), (y3_.2.2.2.2.1)) (Nat.add ((y6_).toNat * 3) 1) rfl (hy8) (by decide) rfl) <|
zz 94 (xeT hy18) <|
zz 99 (xnm hy6) <|
yy 100 (.pur (sN 0 0 (y6_).toNat (Nat.add big 3))) <|
ww (p := qd6_ P 174 (sN 0 0 x1 (Nat.add big 3)) none (some (i6 y6_)) none Ax.h0 = some ((sN 0 0 (y6_).toNat (Nat.add big 3)), Ax.h0)) (slRowHi (e := 177) (es := 3) (by kernel_rfl) (by kernel_rfl) rfl rfl hy19) <|
zz 106 (xdT hy20) <|
yy 114 (.app ⟨none, rows ql_ (List.take (y6_).toNat (((x0a :: x0t)).set (y6_).toNat ((y9_.1), (w64 ((y9_.2.1) + 1)), (y3_.2.2.2.2.1)))), (rows ql_ (za :: zt)), ((za :: zt)).length, false⟩) <|
ww (p := 0 < 1) ((by decide)) <|
ww (p := rdT (layT (rows ql_ (((x0a :: x0t)).set (y6_).toNat ((y9_.1), (w64 ((y9_.2.1) + 1)), (y3_.2.2.2.2.1))))) (Nat.mul (y6_).toNat 3) 0 = some (rows ql_ (List.take (y6_).toNat (((x0a :: x0t)).set (y6_).toNat ((y9_.1), (w64 ((y9_.2.1) + 1)), (y3_.2.2.2.2.1)))))) (qh4_ qw_ _ _ hy21) <|
ww (p := fits (Nat.add (y6_).toNat 1) 24 = true) (qfi_ hy22 (by have := hy22; show (_ : Nat) + _ ≤ _; omega)) <|
ww (p := qp_ [(i6 x3), (i6 (0 : Int)), (i6 (y3_.2.2.1))] = true) (rfl) <|
ww (p := qp_ (rows ql_ (List.take (y6_).toNat (((x0a :: x0t)).set (y6_).toNat ((y9_.1), (w64 ((y9_.2.1) + 1)), (y3_.2.2.2.2.1))))) = true) (qhe_ qw_ _) <|
ww (p := rows ql_ (List.take (y6_).toNat (((x0a :: x0t)).set (y6_).toNat ((y9_.1), (w64 ((y9_.2.1) + 1)), (y3_.2.2.2.2.1)))) ++ [(i6 x3), (i6 (0 : Int)), (i6 (y3_.2.2.1))] = (rows ql_ (za :: zt))) (by rw [← hz]; exact (rows_app ql_ (List.take (y6_).toNat (((x0a :: x0t)).set (y6_).toNat ((y9_.1), (w64 ((y9_.2.1) + 1)), (y3_.2.2.2.2.1)))) [(x3, (0 : Int), (y3_.2.2.1))])) <|
ww (p := Nat.add (y6_).toNat 1 = ((za :: zt)).length) (by rw [← hz]; exact (qm8_ hy21 rfl)) <|
ww (qd_ qw_ (za :: zt) 177) <|
ee) (by kernel_rfl)
theorem q_iOq1_1_8 (n : Nat) {rnd : Option Nat} (x0a : Int × Int × Int) (x0t : List (Int × Int × Int)) (x1 : Nat) (x2 x3 : Int) (hy1 : x3 < x2) (hy2 : 0 ≤ x3 ∧ x3 < (Args.A.length : Int)) (y3_ : R8) (hy3 : (some ((Args.A).getD (x3).toNat (0, 0, 0, 0, 0, 0, nl0, 0))) = some y3_) (hy4 : x3 > 0) (hy5 : ¬ (((x1 : Nat) : Int) = 0)) (y6_ : Int) (hy6 : (some (w64 (((x1 : Nat) : Int) - 1))) = some y6_) (hy7 : 0 ≤ y6_ ∧ y6_ < ((x1 : Nat) : Int)) (hy8 : (y6_).toNat < ((x0a :: x0t)).length) (y9_ : Int × Int × Int) (hy9 : (some (((x0a :: x0t)).getD (y6_).toNat (0, 0, 0))) = some y9_) (hy10 : 0 ≤ (y9_.1) ∧ (y9_.1) < (Args.A.length : Int)) (y11_ : R8) (hy11 : (some ((Args.A).getD ((y9_.1)).toNat (0, 0, 0, 0, 0, 0, nl0, 0))) = some y11_) (hy12 : 0 ≤ (y9_.2.1) ∧ (y9_.2.1) < (y11_.2.2.2.2.2.2.1.l.length : Int)) (hy13 : ((y9_.2.1)).toNat < (((y11_.2.2.2.2.2.2.1)).l).length) (y14_ : Int) (hy14 : (some ((((y11_.2.2.2.2.2.2.1)).l).getD ((y9_.2.1)).toNat 0)) = some y14_) (hy15 : y14_ = x3) (hy16 : ¬ ((y3_.2.2.1) < (y9_.2.2))) (hy17 : ¬ ((y3_.2.2.2.2.1) > (y11_.2.2.2.2.1))) (hy18 : (w64 ((y9_.2.1) + 1)) = (y11_.2.2.2.2.2.2.1.l.length : Int)) (hy19 : 0 ≤ y6_ ∧ y6_ ≤ ((x1 : Nat) : Int)) (hy20 : ¬ ((y3_.2.2.2.2.2.2.1.l.length : Int) > 0)) : qb0_ rnd x2 ((x0a :: x0t), x1, x3) (.normal, qcv_ x2 ((((x0a :: x0t)).set (y6_).toNat ((y9_.1), (w64 ((y9_.2.1) + 1)), (y3_.2.2.2.2.1))), ((y6_).toNat), (w64 (x3 + 1)))) :=
 by
 obtain ⟨za, zt, hz⟩ : ∃ a t, (((x0a :: x0t)).set (y6_).toNat ((y9_.1), (w64 ((y9_.2.1) + 1)), (y3_.2.2.2.2.1))) = a :: t := set_cons
 rw [hz]
 exact runC2 hm (L := lT []) ⟨[0, 3, 8, 9, 10], [(0, 0, true)], 1, 0⟩ (zz 1 (xdT hy1) <|
zz 8 (xk1 0 Args.cA hy2) <|
zz 9 (lk2 hy3 (qc_ hy2)) <|
zz 16 (xdT hy4) <|
zz 22 (xeF hy5) <|
zz 28 (xnm hy6) <|
zz 29 (xk13 0 U3 hy7) <|
zz 36 (ok14 hy9 (hy8)) <|
zz 37 (xk1 0 Args.cA hy10) <|
zz 38 (lk2 hy11 (qc_ hy10)) <|
zz 48 (ok15 hy9 (hy8)) <|
zz 49 (xk9 (Nat.add ((y11_.2.2.2.2.2.2.1)).num 64) ((y11_.2.2.2.2.2.2.1)).cap hy12) <|
zz 50 (nk10 hy14 hy13) <|
zz 52 (xnF hy15) <|
zz 59 (ok16 hy9 (hy8)) <|
zz 60 (xdF hy16) <|
zz 67 (xdF hy17) <|
zz 76 (ok15 hy9 (hy8)) <|
yy 82 (.sto (layT (rows ql_ (((x0a :: x0t)).set (y6_).toNat ((y9_.1), (w64 ((y9_.2.1) + 1)), (y9_.2.2)))))) <|
ww (p := ∃ old, rdT (layT (rows ql_ (x0a :: x0t))) 1 (Nat.add ((y6_).toNat * 3) 1) = some old) (Exists.elim (qfk_ qw_ (0, 0, 0) (hr := hy9) (i := (y6_).toNat) (j := 1) (l := [(i6 (w64 ((y9_.2.1) + 1)))]) ((y9_.1), (w64 ((y9_.2.1) + 1)), (y9_.2.2)) (Nat.add ((y6_).toNat * 3) 1) rfl (hy8) (Nat.le_of_ble_eq_true rfl) rfl) fun o h => ⟨o, h.1⟩) <|
ww (p := layL [(i6 (w64 ((y9_.2.1) + 1)))] (Nat.add ((y6_).toNat * 3) 1) (layT (rows ql_ (x0a :: x0t))) = layT (rows ql_ (((x0a :: x0t)).set (y6_).toNat ((y9_.1), (w64 ((y9_.2.1) + 1)), (y9_.2.2))))) (Exists.elim (qfk_ qw_ (0, 0, 0) (hr := hy9) (i := (y6_).toNat) (j := 1) (l := [(i6 (w64 ((y9_.2.1) + 1)))]) ((y9_.1), (w64 ((y9_.2.1) + 1)), (y9_.2.2)) (Nat.add ((y6_).toNat * 3) 1) rfl (hy8) (Nat.le_of_ble_eq_true rfl) rfl) fun o h => h.2) <|
yy 85 (.sto (layT (rows ql_ (za :: zt)))) <|
ww (p := ∃ old, rdT (layT (rows ql_ (((x0a :: x0t)).set (y6_).toNat ((y9_.1), (w64 ((y9_.2.1) + 1)), (y9_.2.2))))) 1 (Nat.add ((y6_).toNat * 3) 2) = some old) (Exists.elim (qfj_ qw_ (i := (y6_).toNat) (j := 2) (l := [(i6 (y3_.2.2.2.2.1))]) ((y9_.1), (w64 ((y9_.2.1) + 1)), (y9_.2.2)) ((y9_.1), (w64 ((y9_.2.1) + 1)), (y3_.2.2.2.2.1)) (Nat.add ((y6_).toNat * 3) 2) rfl (hy8) (Nat.le_of_ble_eq_true rfl) rfl) fun o h => ⟨o, h.1⟩) <|
ww (p := layL [(i6 (y3_.2.2.2.2.1))] (Nat.add ((y6_).toNat * 3) 2) (layT (rows ql_ (((x0a :: x0t)).set (y6_).toNat ((y9_.1), (w64 ((y9_.2.1) + 1)), (y9_.2.2))))) = layT (rows ql_ (za :: zt))) (by rw [← hz]; exact (Exists.elim (qfj_ qw_ (i := (y6_).toNat) (j := 2) (l := [(i6 (y3_.2.2.2.2.1))]) ((y9_.1), (w64 ((y9_.2.1) + 1)), (y9_.2.2)) ((y9_.1), (w64 ((y9_.2.1) + 1)), (y3_.2.2.2.2.1)) (Nat.add ((y6_).toNat * 3) 2) rfl (hy8) (Nat.le_of_ble_eq_true rfl) rfl) fun o h => h.2)) <|
yy 90 (.ld (i6 (w64 ((y9_.2.1) + 1)))) <|
ww (p := (layT (rows ql_ (za :: zt))).get (Nat.add ((y6_).toNat * 3) 1) = some (i6 (w64 ((y9_.2.1) + 1)))) (by rw [← hz]; exact (qdu_ qw_ (i := (y6_).toNat) (j := 1) ((y9_.1), (w64 ((y9_.2.1) + 1)), (y3_.2.2.2.2.1)) (Nat.add ((y6_).toNat * 3) 1) rfl (hy8) (by decide) rfl)) <|
zz 94 (xeT hy18) <|
zz 99 (xnm hy6) <|
yy 100 (.pur (sN 0 0 (y6_).toNat (Nat.add big 3))) <|
ww (p := qd6_ P 174 (sN 0 0 x1 (Nat.add big 3)) none (some (i6 y6_)) none Ax.h0 = some ((sN 0 0 (y6_).toNat (Nat.add big 3)), Ax.h0)) (slRowHi (e := 177) (es := 3) (by kernel_rfl) (by kernel_rfl) rfl rfl hy19) <|
zz 106 (xdF hy20) <|
ww (qd_ qw_ (za :: zt) 177) <|
ee) (by kernel_rfl)
theorem q_iOq1_1_9 (n : Nat) {rnd : Option Nat} (x0a : Int × Int × Int) (x0t : List (Int × Int × Int)) (x1 : Nat) (x2 x3 : Int) (hy1 : x3 < x2) (hy2 : 0 ≤ x3 ∧ x3 < (Args.A.length : Int)) (y3_ : R8) (hy3 : (some ((Args.A).getD (x3).toNat (0, 0, 0, 0, 0, 0, nl0, 0))) = some y3_) (hy4 : x3 > 0) (hy5 : ¬ (((x1 : Nat) : Int) = 0)) (y6_ : Int) (hy6 : (some (w64 (((x1 : Nat) : Int) - 1))) = some y6_) (hy7 : 0 ≤ y6_ ∧ y6_ < ((x1 : Nat) : Int)) (hy8 : (y6_).toNat < ((x0a :: x0t)).length) (y9_ : Int × Int × Int) (hy9 : (some (((x0a :: x0t)).getD (y6_).toNat (0, 0, 0))) = some y9_) (hy10 : 0 ≤ (y9_.1) ∧ (y9_.1) < (Args.A.length : Int)) (y11_ : R8) (hy11 : (some ((Args.A).getD ((y9_.1)).toNat (0, 0, 0, 0, 0, 0, nl0, 0))) = some y11_) (hy12 : 0 ≤ (y9_.2.1) ∧ (y9_.2.1) < (y11_.2.2.2.2.2.2.1.l.length : Int)) (hy13 : ((y9_.2.1)).toNat < (((y11_.2.2.2.2.2.2.1)).l).length) (y14_ : Int) (hy14 : (some ((((y11_.2.2.2.2.2.2.1)).l).getD ((y9_.2.1)).toNat 0)) = some y14_) (hy15 : y14_ = x3) (hy16 : ¬ ((y3_.2.2.1) < (y9_.2.2))) (hy17 : ¬ ((y3_.2.2.2.2.1) > (y11_.2.2.2.2.1))) (hy18 : ¬ ((w64 ((y9_.2.1) + 1)) = (y11_.2.2.2.2.2.2.1.l.length : Int))) (hy19 : (y3_.2.2.2.2.2.2.1.l.length : Int) > 0) (hy20 : x1 ≤ ((((x0a :: x0t)).set (y6_).toNat ((y9_.1), (w64 ((y9_.2.1) + 1)), (y3_.2.2.2.2.1)))).length) (hy21 : (x1 + 1) * 24 ≤ 140737488355328) : qb0_ rnd x2 ((x0a :: x0t), x1, x3) (.normal, qcv_ x2 (((List.take x1 (((x0a :: x0t)).set (y6_).toNat ((y9_.1), (w64 ((y9_.2.1) + 1)), (y3_.2.2.2.2.1)))) ++ [(x3, (0 : Int), (y3_.2.2.1))]), ((((List.take x1 (((x0a :: x0t)).set (y6_).toNat ((y9_.1), (w64 ((y9_.2.1) + 1)), (y3_.2.2.2.2.1)))) ++ [(x3, (0 : Int), (y3_.2.2.1))])).length), (w64 (x3 + 1)))) :=
 by
 obtain ⟨za, zt, hz⟩ : ∃ a t, ((List.take x1 (((x0a :: x0t)).set (y6_).toNat ((y9_.1), (w64 ((y9_.2.1) + 1)), (y3_.2.2.2.2.1)))) ++ [(x3, (0 : Int), (y3_.2.2.1))]) = a :: t := qjc_ (List.take x1 (((x0a :: x0t)).set (y6_).toNat ((y9_.1), (w64 ((y9_.2.1) + 1)), (y3_.2.2.2.2.1)))) (x3, (0 : Int), (y3_.2.2.1))
 rw [hz]
 exact runC2 hm (L := lT []) ⟨[0, 3, 8, 9, 10], [(0, 4, true)], 1, 0⟩ (zz 1 (xdT hy1) <|
zz 8 (xk1 0 Args.cA hy2) <|
zz 9 (lk2 hy3 (qc_ hy2)) <|
zz 16 (xdT hy4) <|
zz 22 (xeF hy5) <|
zz 28 (xnm hy6) <|
zz 29 (xk13 0 U3 hy7) <|
zz 36 (ok14 hy9 (hy8)) <|
zz 37 (xk1 0 Args.cA hy10) <|
zz 38 (lk2 hy11 (qc_ hy10)) <|
zz 48 (ok15 hy9 (hy8)) <|
zz 49 (xk9 (Nat.add ((y11_.2.2.2.2.2.2.1)).num 64) ((y11_.2.2.2.2.2.2.1)).cap hy12) <|
zz 50 (nk10 hy14 hy13) <|
zz 52 (xnF hy15) <|
zz 59 (ok16 hy9 (hy8)) <|
zz 60 (xdF hy16) <|
zz 67 (xdF hy17) <|
zz 76 (ok15 hy9 (hy8)) <|
yy 82 (.sto (layT (rows ql_ (((x0a :: x0t)).set (y6_).toNat ((y9_.1), (w64 ((y9_.2.1) + 1)), (y9_.2.2)))))) <|
ww (p := ∃ old, rdT (layT (rows ql_ (x0a :: x0t))) 1 (Nat.add ((y6_).toNat * 3) 1) = some old) (Exists.elim (qfk_ qw_ (0, 0, 0) (hr := hy9) (i := (y6_).toNat) (j := 1) (l := [(i6 (w64 ((y9_.2.1) + 1)))]) ((y9_.1), (w64 ((y9_.2.1) + 1)), (y9_.2.2)) (Nat.add ((y6_).toNat * 3) 1) rfl (hy8) (Nat.le_of_ble_eq_true rfl) rfl) fun o h => ⟨o, h.1⟩) <|
ww (p := layL [(i6 (w64 ((y9_.2.1) + 1)))] (Nat.add ((y6_).toNat * 3) 1) (layT (rows ql_ (x0a :: x0t))) = layT (rows ql_ (((x0a :: x0t)).set (y6_).toNat ((y9_.1), (w64 ((y9_.2.1) + 1)), (y9_.2.2))))) (Exists.elim (qfk_ qw_ (0, 0, 0) (hr := hy9) (i := (y6_).toNat) (j := 1) (l := [(i6 (w64 ((y9_.2.1) + 1)))]) ((y9_.1), (w64 ((y9_.2.1) + 1)), (y9_.2.2)) (Nat.add ((y6_).toNat * 3) 1) rfl (hy8) (Nat.le_of_ble_eq_true rfl) rfl) fun o h => h.2) <|
yy 85 (.sto (layT (rows ql_ (((x0a :: x0t)).set (y6_).toNat ((y9_.1), (w64 ((y9_.2.1) + 1)), (y3_.2.2.2.2.1)))))) <|
ww (p := ∃ old, rdT (layT (rows ql_ (((x0a :: x0t)).set (y6_).toNat ((y9_.1), (w64 ((y9_.2.1) + 1)), (y9_.2.2))))) 1 (Nat.add ((y6_).toNat * 3) 2) = some old) (Exists.elim (qfj_ qw_ (i := (y6_).toNat) (j := 2) (l := [(i6 (y3_.2.2.2.2.1))]) ((y9_.1), (w64 ((y9_.2.1) + 1)), (y9_.2.2)) ((y9_.1), (w64 ((y9_.2.1) + 1)), (y3_.2.2.2.2.1)) (Nat.add ((y6_).toNat * 3) 2) rfl (hy8) (Nat.le_of_ble_eq_true rfl) rfl) fun o h => ⟨o, h.1⟩) <|
ww (p := layL [(i6 (y3_.2.2.2.2.1))] (Nat.add ((y6_).toNat * 3) 2) (layT (rows ql_ (((x0a :: x0t)).set (y6_).toNat ((y9_.1), (w64 ((y9_.2.1) + 1)), (y9_.2.2))))) = layT (rows ql_ (((x0a :: x0t)).set (y6_).toNat ((y9_.1), (w64 ((y9_.2.1) + 1)), (y3_.2.2.2.2.1))))) (Exists.elim (qfj_ qw_ (i := (y6_).toNat) (j := 2) (l := [(i6 (y3_.2.2.2.2.1))]) ((y9_.1), (w64 ((y9_.2.1) + 1)), (y9_.2.2)) ((y9_.1), (w64 ((y9_.2.1) + 1)), (y3_.2.2.2.2.1)) (Nat.add ((y6_).toNat * 3) 2) rfl (hy8) (Nat.le_of_ble_eq_true rfl) rfl) fun o h => h.2) <|
yy 90 (.ld (i6 (w64 ((y9_.2.1) + 1)))) <|
ww (p := (layT (rows ql_ (((x0a :: x0t)).set (y6_).toNat ((y9_.1), (w64 ((y9_.2.1) + 1)), (y3_.2.2.2.2.1))))).get (Nat.add ((y6_).toNat * 3) 1) = some (i6 (w64 ((y9_.2.1) + 1)))) (qdu_ qw_ (i := (y6_).toNat) (j := 1) ((y9_.1), (w64 ((y9_.2.1) + 1)), (y3_.2.2.2.2.1)) (Nat.add ((y6_).toNat * 3) 1) rfl (hy8) (by decide) rfl) <|
zz 94 (xeF hy18) <|
zz 100 (xdT hy19) <|
yy 108 (.app ⟨none, rows ql_ (List.take x1 (((x0a :: x0t)).set (y6_).toNat ((y9_.1), (w64 ((y9_.2.1) + 1)), (y3_.2.2.2.2.1)))), (rows ql_ (za :: zt)), ((za :: zt)).length, false⟩) <|
ww (p := 0 < 1) ((by decide)) <|
ww (p := rdT (layT (rows ql_ (((x0a :: x0t)).set (y6_).toNat ((y9_.1), (w64 ((y9_.2.1) + 1)), (y3_.2.2.2.2.1))))) (Nat.mul x1 3) 0 = some (rows ql_ (List.take x1 (((x0a :: x0t)).set (y6_).toNat ((y9_.1), (w64 ((y9_.2.1) + 1)), (y3_.2.2.2.2.1)))))) (qh4_ qw_ _ _ hy20) <|
ww (p := fits (Nat.add x1 1) 24 = true) (qfi_ hy21 (by have := hy21; show (_ : Nat) + _ ≤ _; omega)) <|
ww (p := qp_ [(i6 x3), (i6 (0 : Int)), (i6 (y3_.2.2.1))] = true) (rfl) <|
ww (p := qp_ (rows ql_ (List.take x1 (((x0a :: x0t)).set (y6_).toNat ((y9_.1), (w64 ((y9_.2.1) + 1)), (y3_.2.2.2.2.1))))) = true) (qhe_ qw_ _) <|
ww (p := rows ql_ (List.take x1 (((x0a :: x0t)).set (y6_).toNat ((y9_.1), (w64 ((y9_.2.1) + 1)), (y3_.2.2.2.2.1)))) ++ [(i6 x3), (i6 (0 : Int)), (i6 (y3_.2.2.1))] = (rows ql_ (za :: zt))) (by rw [← hz]; exact (rows_app ql_ (List.take x1 (((x0a :: x0t)).set (y6_).toNat ((y9_.1), (w64 ((y9_.2.1) + 1)), (y3_.2.2.2.2.1)))) [(x3, (0 : Int), (y3_.2.2.1))])) <|
ww (p := Nat.add x1 1 = ((za :: zt)).length) (by rw [← hz]; exact (qm8_ hy20 rfl)) <|
ww (qd_ qw_ (za :: zt) 177) <|
ee) (by kernel_rfl)
theorem q_iOq1_1_10 (n : Nat) {rnd : Option Nat} (x0a : Int × Int × Int) (x0t : List (Int × Int × Int)) (x1 : Nat) (x2 x3 : Int) (hy1 : x3 < x2) (hy2 : 0 ≤ x3 ∧ x3 < (Args.A.length : Int)) (y3_ : R8) (hy3 : (some ((Args.A).getD (x3).toNat (0, 0, 0, 0, 0, 0, nl0, 0))) = some y3_) (hy4 : x3 > 0) (hy5 : ¬ (((x1 : Nat) : Int) = 0)) (y6_ : Int) (hy6 : (some (w64 (((x1 : Nat) : Int) - 1))) = some y6_) (hy7 : 0 ≤ y6_ ∧ y6_ < ((x1 : Nat) : Int)) (hy8 : (y6_).toNat < ((x0a :: x0t)).length) (y9_ : Int × Int × Int) (hy9 : (some (((x0a :: x0t)).getD (y6_).toNat (0, 0, 0))) = some y9_) (hy10 : 0 ≤ (y9_.1) ∧ (y9_.1) < (Args.A.length : Int)) (y11_ : R8) (hy11 : (some ((Args.A).getD ((y9_.1)).toNat (0, 0, 0, 0, 0, 0, nl0, 0))) = some y11_) (hy12 : 0 ≤ (y9_.2.1) ∧ (y9_.2.1) < (y11_.2.2.2.2.2.2.1.l.length : Int)) (hy13 : ((y9_.2.1)).toNat < (((y11_.2.2.2.2.2.2.1)).l).length) (y14_ : Int) (hy14 : (some ((((y11_.2.2.2.2.2.2.1)).l).getD ((y9_.2.1)).toNat 0)) = some y14_) (hy15 : y14_ = x3) (hy16 : ¬ ((y3_.2.2.1) < (y9_.2.2))) (hy17 : ¬ ((y3_.2.2.2.2.1) > (y11_.2.2.2.2.1))) (hy18 : ¬ ((w64 ((y9_.2.1) + 1)) = (y11_.2.2.2.2.2.2.1.l.length : Int))) (hy19 : ¬ ((y3_.2.2.2.2.2.2.1.l.length : Int) > 0)) : qb0_ rnd x2 ((x0a :: x0t), x1, x3) (.normal, qcv_ x2 ((((x0a :: x0t)).set (y6_).toNat ((y9_.1), (w64 ((y9_.2.1) + 1)), (y3_.2.2.2.2.1))), x1, (w64 (x3 + 1)))) :=
 by
 obtain ⟨za, zt, hz⟩ : ∃ a t, (((x0a :: x0t)).set (y6_).toNat ((y9_.1), (w64 ((y9_.2.1) + 1)), (y3_.2.2.2.2.1))) = a :: t := set_cons
 rw [hz]
 exact runC2 hm (L := lT []) ⟨[0, 3, 8, 9, 10], [(0, 0, true)], 1, 0⟩ (zz 1 (xdT hy1) <|
zz 8 (xk1 0 Args.cA hy2) <|
zz 9 (lk2 hy3 (qc_ hy2)) <|
zz 16 (xdT hy4) <|
zz 22 (xeF hy5) <|
zz 28 (xnm hy6) <|
zz 29 (xk13 0 U3 hy7) <|
zz 36 (ok14 hy9 (hy8)) <|
zz 37 (xk1 0 Args.cA hy10) <|
zz 38 (lk2 hy11 (qc_ hy10)) <|
zz 48 (ok15 hy9 (hy8)) <|
zz 49 (xk9 (Nat.add ((y11_.2.2.2.2.2.2.1)).num 64) ((y11_.2.2.2.2.2.2.1)).cap hy12) <|
zz 50 (nk10 hy14 hy13) <|
zz 52 (xnF hy15) <|
zz 59 (ok16 hy9 (hy8)) <|
zz 60 (xdF hy16) <|
zz 67 (xdF hy17) <|
zz 76 (ok15 hy9 (hy8)) <|
yy 82 (.sto (layT (rows ql_ (((x0a :: x0t)).set (y6_).toNat ((y9_.1), (w64 ((y9_.2.1) + 1)), (y9_.2.2)))))) <|
ww (p := ∃ old, rdT (layT (rows ql_ (x0a :: x0t))) 1 (Nat.add ((y6_).toNat * 3) 1) = some old) (Exists.elim (qfk_ qw_ (0, 0, 0) (hr := hy9) (i := (y6_).toNat) (j := 1) (l := [(i6 (w64 ((y9_.2.1) + 1)))]) ((y9_.1), (w64 ((y9_.2.1) + 1)), (y9_.2.2)) (Nat.add ((y6_).toNat * 3) 1) rfl (hy8) (Nat.le_of_ble_eq_true rfl) rfl) fun o h => ⟨o, h.1⟩) <|
ww (p := layL [(i6 (w64 ((y9_.2.1) + 1)))] (Nat.add ((y6_).toNat * 3) 1) (layT (rows ql_ (x0a :: x0t))) = layT (rows ql_ (((x0a :: x0t)).set (y6_).toNat ((y9_.1), (w64 ((y9_.2.1) + 1)), (y9_.2.2))))) (Exists.elim (qfk_ qw_ (0, 0, 0) (hr := hy9) (i := (y6_).toNat) (j := 1) (l := [(i6 (w64 ((y9_.2.1) + 1)))]) ((y9_.1), (w64 ((y9_.2.1) + 1)), (y9_.2.2)) (Nat.add ((y6_).toNat * 3) 1) rfl (hy8) (Nat.le_of_ble_eq_true rfl) rfl) fun o h => h.2) <|
yy 85 (.sto (layT (rows ql_ (za :: zt)))) <|
ww (p := ∃ old, rdT (layT (rows ql_ (((x0a :: x0t)).set (y6_).toNat ((y9_.1), (w64 ((y9_.2.1) + 1)), (y9_.2.2))))) 1 (Nat.add ((y6_).toNat * 3) 2) = some old) (Exists.elim (qfj_ qw_ (i := (y6_).toNat) (j := 2) (l := [(i6 (y3_.2.2.2.2.1))]) ((y9_.1), (w64 ((y9_.2.1) + 1)), (y9_.2.2)) ((y9_.1), (w64 ((y9_.2.1) + 1)), (y3_.2.2.2.2.1)) (Nat.add ((y6_).toNat * 3) 2) rfl (hy8) (Nat.le_of_ble_eq_true rfl) rfl) fun o h => ⟨o, h.1⟩) <|
ww (p := layL [(i6 (y3_.2.2.2.2.1))] (Nat.add ((y6_).toNat * 3) 2) (layT (rows ql_ (((x0a :: x0t)).set (y6_).toNat ((y9_.1), (w64 ((y9_.2.1) + 1)), (y9_.2.2))))) = layT (rows ql_ (za :: zt))) (by rw [← hz]; exact (Exists.elim (qfj_ qw_ (i := (y6_).toNat) (j := 2) (l := [(i6 (y3_.2.2.2.2.1))]) ((y9_.1), (w64 ((y9_.2.1) + 1)), (y9_.2.2)) ((y9_.1), (w64 ((y9_.2.1) + 1)), (y3_.2.2.2.2.1)) (Nat.add ((y6_).toNat * 3) 2) rfl (hy8) (Nat.le_of_ble_eq_true rfl) rfl) fun o h => h.2)) <|
yy 90 (.ld (i6 (w64 ((y9_.2.1) + 1)))) <|
ww (p := (layT (rows ql_ (za :: zt))).get (Nat.add ((y6_).toNat * 3) 1) = some (i6 (w64 ((y9_.2.1) + 1)))) (by rw [← hz]; exact (qdu_ qw_ (i := (y6_).toNat) (j := 1) ((y9_.1), (w64 ((y9_.2.1) + 1)), (y3_.2.2.2.2.1)) (Nat.add ((y6_).toNat * 3) 1) rfl (hy8) (by decide) rfl)) <|
zz 94 (xeF hy18) <|
zz 100 (xdF hy19) <|
ww (qd_ qw_ (za :: zt) 177) <|
ee) (by kernel_rfl)
theorem q_iOq1_1_11 (n : Nat) {rnd : Option Nat} (x0a : Int × Int × Int) (x0t : List (Int × Int × Int)) (x1 : Nat) (x2 x3 : Int) (hy1 : x3 < x2) (hy2 : 0 ≤ x3 ∧ x3 < (Args.A.length : Int)) (y3_ : R8) (hy3 : (some ((Args.A).getD (x3).toNat (0, 0, 0, 0, 0, 0, nl0, 0))) = some y3_) (hy4 : x3 > 0) (hy5 : ¬ (((x1 : Nat) : Int) = 0)) (y6_ : Int) (hy6 : (some (w64 (((x1 : Nat) : Int) - 1))) = some y6_) (hy7 : 0 ≤ y6_ ∧ y6_ < ((x1 : Nat) : Int)) (hy8 : (y6_).toNat < ((x0a :: x0t)).length) (y9_ : Int × Int × Int) (hy9 : (some (((x0a :: x0t)).getD (y6_).toNat (0, 0, 0))) = some y9_) (hy10 : 0 ≤ (y9_.1) ∧ (y9_.1) < (Args.A.length : Int)) (y11_ : R8) (hy11 : (some ((Args.A).getD ((y9_.1)).toNat (0, 0, 0, 0, 0, 0, nl0, 0))) = some y11_) (hy12 : 0 ≤ (y9_.2.1) ∧ (y9_.2.1) < (y11_.2.2.2.2.2.2.1.l.length : Int)) (hy13 : ((y9_.2.1)).toNat < (((y11_.2.2.2.2.2.2.1)).l).length) (y14_ : Int) (hy14 : (some ((((y11_.2.2.2.2.2.2.1)).l).getD ((y9_.2.1)).toNat 0)) = some y14_) (hy15 : ¬ (y14_ = x3)) : qb0_ rnd x2 ((x0a :: x0t), x1, x3) (qbl_ x2 (.inl ())) :=
 runC2 hm (L := lT []) ⟨[2], [], 0, 0⟩ (zz 1 (xdT hy1) <|
zz 8 (xk1 0 Args.cA hy2) <|
zz 9 (lk2 hy3 (qc_ hy2)) <|
zz 16 (xdT hy4) <|
zz 22 (xeF hy5) <|
zz 28 (xnm hy6) <|
zz 29 (xk13 0 U3 hy7) <|
zz 36 (ok14 hy9 (hy8)) <|
zz 37 (xk1 0 Args.cA hy10) <|
zz 38 (lk2 hy11 (qc_ hy10)) <|
zz 48 (ok15 hy9 (hy8)) <|
zz 49 (xk9 (Nat.add ((y11_.2.2.2.2.2.2.1)).num 64) ((y11_.2.2.2.2.2.2.1)).cap hy12) <|
zz 50 (nk10 hy14 hy13) <|
zz 52 (xnT hy15) <|
ee) (by kernel_rfl)
theorem q_iOq1_1_12 (n : Nat) {rnd : Option Nat} (x0a : Int × Int × Int) (x0t : List (Int × Int × Int)) (x1 : Nat) (x2 x3 : Int) (hy1 : x3 < x2) (hy2 : 0 ≤ x3 ∧ x3 < (Args.A.length : Int)) (y3_ : R8) (hy3 : (some ((Args.A).getD (x3).toNat (0, 0, 0, 0, 0, 0, nl0, 0))) = some y3_) (hy4 : ¬ (x3 > 0)) (hy5 : (y3_.2.2.2.2.2.2.1.l.length : Int) > 0) (hy6 : x1 ≤ ((x0a :: x0t)).length) (hy7 : (x1 + 1) * 24 ≤ 140737488355328) : qb0_ rnd x2 ((x0a :: x0t), x1, x3) (.normal, qcv_ x2 (((List.take x1 (x0a :: x0t)) ++ [(x3, (0 : Int), (y3_.2.2.1))]), ((((List.take x1 (x0a :: x0t)) ++ [(x3, (0 : Int), (y3_.2.2.1))])).length), (w64 (x3 + 1)))) :=
 by
 obtain ⟨za, zt, hz⟩ : ∃ a t, ((List.take x1 (x0a :: x0t)) ++ [(x3, (0 : Int), (y3_.2.2.1))]) = a :: t := qjc_ (List.take x1 (x0a :: x0t)) (x3, (0 : Int), (y3_.2.2.1))
 rw [hz]
 exact runC2 hm (L := lT []) ⟨[0, 3, 8, 9, 10], [(0, 3, true)], 1, 0⟩ (zz 1 (xdT hy1) <|
zz 8 (xk1 0 Args.cA hy2) <|
zz 9 (lk2 hy3 (qc_ hy2)) <|
zz 16 (xdF hy4) <|
zz 22 (xdT hy5) <|
yy 30 (.app ⟨none, rows ql_ (List.take x1 (x0a :: x0t)), (rows ql_ (za :: zt)), ((za :: zt)).length, false⟩) <|
ww (p := 0 < 1) ((by decide)) <|
ww (p := rdT (layT (rows ql_ (x0a :: x0t))) (Nat.mul x1 3) 0 = some (rows ql_ (List.take x1 (x0a :: x0t)))) (qh4_ qw_ _ _ hy6) <|
ww (p := fits (Nat.add x1 1) 24 = true) (qfi_ hy7 (by have := hy7; show (_ : Nat) + _ ≤ _; omega)) <|
ww (p := qp_ [(i6 x3), (i6 (0 : Int)), (i6 (y3_.2.2.1))] = true) (rfl) <|
ww (p := qp_ (rows ql_ (List.take x1 (x0a :: x0t))) = true) (qhe_ qw_ _) <|
ww (p := rows ql_ (List.take x1 (x0a :: x0t)) ++ [(i6 x3), (i6 (0 : Int)), (i6 (y3_.2.2.1))] = (rows ql_ (za :: zt))) (by rw [← hz]; exact (rows_app ql_ (List.take x1 (x0a :: x0t)) [(x3, (0 : Int), (y3_.2.2.1))])) <|
ww (p := Nat.add x1 1 = ((za :: zt)).length) (by rw [← hz]; exact (qm8_ hy6 rfl)) <|
ww (qd_ qw_ (za :: zt) 177) <|
ee) (by kernel_rfl)
theorem q_iOq1_1_13 (n : Nat) {rnd : Option Nat} (x0a : Int × Int × Int) (x0t : List (Int × Int × Int)) (x1 : Nat) (x2 x3 : Int) (hy1 : x3 < x2) (hy2 : 0 ≤ x3 ∧ x3 < (Args.A.length : Int)) (y3_ : R8) (hy3 : (some ((Args.A).getD (x3).toNat (0, 0, 0, 0, 0, 0, nl0, 0))) = some y3_) (hy4 : ¬ (x3 > 0)) (hy5 : ¬ ((y3_.2.2.2.2.2.2.1.l.length : Int) > 0)) : qb0_ rnd x2 ((x0a :: x0t), x1, x3) (.normal, qcv_ x2 ((x0a :: x0t), x1, (w64 (x3 + 1)))) :=
 runC2 hm (L := lT []) ⟨[0, 3, 8, 9, 10], [(0, 0, true)], 1, 0⟩ (zz 1 (xdT hy1) <|
zz 8 (xk1 0 Args.cA hy2) <|
zz 9 (lk2 hy3 (qc_ hy2)) <|
zz 16 (xdF hy4) <|
zz 22 (xdF hy5) <|
ww (qd_ qw_ (x0a :: x0t) 177) <|
ee) (by kernel_rfl)
theorem q_iOq1_1_14 (n : Nat) {rnd : Option Nat} (x0a : Int × Int × Int) (x0t : List (Int × Int × Int)) (x1 : Nat) (x2 x3 : Int) (hy1 : ¬ (x3 < x2)) : qb0_ rnd x2 ((x0a :: x0t), x1, x3) (qbl_ x2 (.inr ((x0a :: x0t), x1))) :=
 runC2 hm (L := lT []) ⟨[3], [(0, 0, true)], 1, 0⟩ (zz 1 (xdF hy1) <|
ww (qd_ qw_ (x0a :: x0t) 177) <|
ee) (by kernel_rfl)
theorem qf5_ (n : Nat) {rnd : Option Nat} (x2 : Int) (st : List (Int × Int × Int) × Nat × Int) (r : (Unit) ⊕ (List (Int × Int × Int) × Nat)) (h : qno_ n x2 st = some r) : CG P rnd (fnN P 57) 0 (qq_ P 57 [false, true, false, true, true]) (qcv_ x2 st) (qbl_ x2 r) :=
 CG.iter (b := qq_ P 57 [false, false, true, false, true, true]) (by kernel_rfl) (body := qbq_ n x2) (S := qcv_ x2) (X := qbl_ x2)
  (fun s s' h => by
  obtain ⟨x0, x1, x3⟩ := s
  unfold qbq_ at h
  dsimp only at h
  cases x0 with
  | nil =>
   dsimp only at h
   by_cases hy1 : x3 < x2
   ·rw [if_pos hy1] at h
    obtain ⟨hy2, h⟩ := gd h
    obtain ⟨y3_, hy3, h⟩ := oB h
    by_cases hy4 : x3 > 0
    ·rw [if_pos hy4] at h
     cases h
    ·rw [if_neg hy4] at h
     by_cases hy5 : (y3_.2.2.2.2.2.2.1.l.length : Int) > 0
     ·rw [if_pos hy5] at h
      obtain rfl := Sum.inl.inj (oI h); exact q_iOq1_1_1 n x1 x2 x3 hy1 hy2 y3_ hy3 hy4 hy5
     ·rw [if_neg hy5] at h
      obtain rfl := Sum.inl.inj (oI h); exact q_iOq1_1_2 n x1 x2 x3 hy1 hy2 y3_ hy3 hy4 hy5
   ·rw [if_neg hy1] at h
    cases h
  | cons x0a x0t =>
   dsimp only at h
   by_cases hy1 : x3 < x2
   ·rw [if_pos hy1] at h
    obtain ⟨hy2, h⟩ := gd h
    obtain ⟨y3_, hy3, h⟩ := oB h
    by_cases hy4 : x3 > 0
    ·rw [if_pos hy4] at h
     by_cases hy5 : ((x1 : Nat) : Int) = 0
     ·rw [if_pos hy5] at h
      cases h
     ·rw [if_neg hy5] at h
      obtain ⟨y6_, hy6, h⟩ := oB h
      obtain ⟨hy7, h⟩ := gd h
      obtain ⟨hy8, h⟩ := gd h
      obtain ⟨y9_, hy9, h⟩ := oB h
      obtain ⟨hy10, h⟩ := gd h
      obtain ⟨y11_, hy11, h⟩ := oB h
      obtain ⟨hy12, h⟩ := gd h
      obtain ⟨hy13, h⟩ := gd h
      obtain ⟨y14_, hy14, h⟩ := oB h
      by_cases hy15 : y14_ = x3
      ·rw [if_pos hy15] at h
       by_cases hy16 : (y3_.2.2.1) < (y9_.2.2)
       ·rw [if_pos hy16] at h
        cases h
       ·rw [if_neg hy16] at h
        by_cases hy17 : (y3_.2.2.2.2.1) > (y11_.2.2.2.2.1)
        ·rw [if_pos hy17] at h
         cases h
        ·rw [if_neg hy17] at h
         by_cases hy18 : (w64 ((y9_.2.1) + 1)) = (y11_.2.2.2.2.2.2.1.l.length : Int)
         ·rw [if_pos hy18] at h
          obtain ⟨hy19, h⟩ := gd h
          by_cases hy20 : (y3_.2.2.2.2.2.2.1.l.length : Int) > 0
          ·rw [if_pos hy20] at h
           obtain ⟨hy21, h⟩ := gd h
           obtain ⟨hy22, h⟩ := gd h
           obtain rfl := Sum.inl.inj (oI h); exact q_iOq1_1_7 n x0a x0t x1 x2 x3 hy1 hy2 y3_ hy3 hy4 hy5 y6_ hy6 hy7 hy8 y9_ hy9 hy10 y11_ hy11 hy12 hy13 y14_ hy14 hy15 hy16 hy17 hy18 hy19 hy20 hy21 hy22
          ·rw [if_neg hy20] at h
           obtain rfl := Sum.inl.inj (oI h); exact q_iOq1_1_8 n x0a x0t x1 x2 x3 hy1 hy2 y3_ hy3 hy4 hy5 y6_ hy6 hy7 hy8 y9_ hy9 hy10 y11_ hy11 hy12 hy13 y14_ hy14 hy15 hy16 hy17 hy18 hy19 hy20
         ·rw [if_neg hy18] at h
          by_cases hy19 : (y3_.2.2.2.2.2.2.1.l.length : Int) > 0
          ·rw [if_pos hy19] at h
           obtain ⟨hy20, h⟩ := gd h
           obtain ⟨hy21, h⟩ := gd h
           obtain rfl := Sum.inl.inj (oI h); exact q_iOq1_1_9 n x0a x0t x1 x2 x3 hy1 hy2 y3_ hy3 hy4 hy5 y6_ hy6 hy7 hy8 y9_ hy9 hy10 y11_ hy11 hy12 hy13 y14_ hy14 hy15 hy16 hy17 hy18 hy19 hy20 hy21
          ·rw [if_neg hy19] at h
           obtain rfl := Sum.inl.inj (oI h); exact q_iOq1_1_10 n x0a x0t x1 x2 x3 hy1 hy2 y3_ hy3 hy4 hy5 y6_ hy6 hy7 hy8 y9_ hy9 hy10 y11_ hy11 hy12 hy13 y14_ hy14 hy15 hy16 hy17 hy18 hy19
      ·rw [if_neg hy15] at h
       cases h
    ·rw [if_neg hy4] at h
     by_cases hy5 : (y3_.2.2.2.2.2.2.1.l.length : Int) > 0
     ·rw [if_pos hy5] at h
      obtain ⟨hy6, h⟩ := gd h
      obtain ⟨hy7, h⟩ := gd h
      obtain rfl := Sum.inl.inj (oI h); exact q_iOq1_1_12 n x0a x0t x1 x2 x3 hy1 hy2 y3_ hy3 hy4 hy5 hy6 hy7
     ·rw [if_neg hy5] at h
      obtain rfl := Sum.inl.inj (oI h); exact q_iOq1_1_13 n x0a x0t x1 x2 x3 hy1 hy2 y3_ hy3 hy4 hy5
   ·rw [if_neg hy1] at h
    cases h)
  (fun s r h => by
  obtain ⟨x0, x1, x3⟩ := s
  unfold qbq_ at h
  dsimp only at h
  cases x0 with
  | nil =>
   dsimp only at h
   by_cases hy1 : x3 < x2
   ·rw [if_pos hy1] at h
    obtain ⟨hy2, h⟩ := gd h
    obtain ⟨y3_, hy3, h⟩ := oB h
    by_cases hy4 : x3 > 0
    ·rw [if_pos hy4] at h
     obtain rfl := Sum.inr.inj (oI h); exact q_iOq1_1_0 n x1 x2 x3 hy1 hy2 y3_ hy3 hy4
    ·rw [if_neg hy4] at h
     by_cases hy5 : (y3_.2.2.2.2.2.2.1.l.length : Int) > 0
     ·rw [if_pos hy5] at h
      cases h
     ·rw [if_neg hy5] at h
      cases h
   ·rw [if_neg hy1] at h
    obtain rfl := Sum.inr.inj (oI h); exact q_iOq1_1_3 n x1 x2 x3 hy1
  | cons x0a x0t =>
   dsimp only at h
   by_cases hy1 : x3 < x2
   ·rw [if_pos hy1] at h
    obtain ⟨hy2, h⟩ := gd h
    obtain ⟨y3_, hy3, h⟩ := oB h
    by_cases hy4 : x3 > 0
    ·rw [if_pos hy4] at h
     by_cases hy5 : ((x1 : Nat) : Int) = 0
     ·rw [if_pos hy5] at h
      obtain rfl := Sum.inr.inj (oI h); exact q_iOq1_1_4 n x0a x0t x1 x2 x3 hy1 hy2 y3_ hy3 hy4 hy5
     ·rw [if_neg hy5] at h
      obtain ⟨y6_, hy6, h⟩ := oB h
      obtain ⟨hy7, h⟩ := gd h
      obtain ⟨hy8, h⟩ := gd h
      obtain ⟨y9_, hy9, h⟩ := oB h
      obtain ⟨hy10, h⟩ := gd h
      obtain ⟨y11_, hy11, h⟩ := oB h
      obtain ⟨hy12, h⟩ := gd h
      obtain ⟨hy13, h⟩ := gd h
      obtain ⟨y14_, hy14, h⟩ := oB h
      by_cases hy15 : y14_ = x3
      ·rw [if_pos hy15] at h
       by_cases hy16 : (y3_.2.2.1) < (y9_.2.2)
       ·rw [if_pos hy16] at h
        obtain rfl := Sum.inr.inj (oI h); exact q_iOq1_1_5 n x0a x0t x1 x2 x3 hy1 hy2 y3_ hy3 hy4 hy5 y6_ hy6 hy7 hy8 y9_ hy9 hy10 y11_ hy11 hy12 hy13 y14_ hy14 hy15 hy16
       ·rw [if_neg hy16] at h
        by_cases hy17 : (y3_.2.2.2.2.1) > (y11_.2.2.2.2.1)
        ·rw [if_pos hy17] at h
         obtain rfl := Sum.inr.inj (oI h); exact q_iOq1_1_6 n x0a x0t x1 x2 x3 hy1 hy2 y3_ hy3 hy4 hy5 y6_ hy6 hy7 hy8 y9_ hy9 hy10 y11_ hy11 hy12 hy13 y14_ hy14 hy15 hy16 hy17
        ·rw [if_neg hy17] at h
         by_cases hy18 : (w64 ((y9_.2.1) + 1)) = (y11_.2.2.2.2.2.2.1.l.length : Int)
         ·rw [if_pos hy18] at h
          obtain ⟨hy19, h⟩ := gd h
          by_cases hy20 : (y3_.2.2.2.2.2.2.1.l.length : Int) > 0
          ·rw [if_pos hy20] at h
           obtain ⟨hy21, h⟩ := gd h
           obtain ⟨hy22, h⟩ := gd h
           cases h
          ·rw [if_neg hy20] at h
           cases h
         ·rw [if_neg hy18] at h
          by_cases hy19 : (y3_.2.2.2.2.2.2.1.l.length : Int) > 0
          ·rw [if_pos hy19] at h
           obtain ⟨hy20, h⟩ := gd h
           obtain ⟨hy21, h⟩ := gd h
           cases h
          ·rw [if_neg hy19] at h
           cases h
      ·rw [if_neg hy15] at h
       obtain rfl := Sum.inr.inj (oI h); exact q_iOq1_1_11 n x0a x0t x1 x2 x3 hy1 hy2 y3_ hy3 hy4 hy5 y6_ hy6 hy7 hy8 y9_ hy9 hy10 y11_ hy11 hy12 hy13 y14_ hy14 hy15
    ·rw [if_neg hy4] at h
     by_cases hy5 : (y3_.2.2.2.2.2.2.1.l.length : Int) > 0
     ·rw [if_pos hy5] at h
      obtain ⟨hy6, h⟩ := gd h
      obtain ⟨hy7, h⟩ := gd h
      cases h
     ·rw [if_neg hy5] at h
      cases h
   ·rw [if_neg hy1] at h
    obtain rfl := Sum.inr.inj (oI h); exact q_iOq1_1_14 n x0a x0t x1 x2 x3 hy1)
  (fun r => by intro hx; rcases r with _ | _ <;> cases hx) h
def m_iOq1 (n : Nat) : Option (Bool) :=
 match qno_ n (Args.A.length : Int) (([] : List (Int × Int × Int)), 0, 0) with
 | none => none
 | some (.inl _) =>
  some false
 | some (.inr (c1_0, c1_1)) =>
  match c1_0 with
  | [] =>
   some true
  | c1_0a :: c1_0t =>
   if ((c1_1 : Nat) : Int) = 0 then
    some true
   else
    some false
theorem qnp_ (n : Nat) (r : Bool) (h : m_iOq1 n = some r) : Gv P (.func 57) A_iOq1 H_iOq1 (V_iOq1  r) (R_iOq1  r) := by
 unfold m_iOq1 at h
 rcases hc1 : qno_ n (Args.A.length : Int) (([] : List (Int × Int × Int)), 0, 0) with _ | (⟨⟩ | ⟨c1_0, c1_1⟩)
 ·rw [hc1] at h; cases h
 ·rw [hc1] at h
  dsimp only at h
  obtain rfl := oI h; exact (runF2 hm (L := lT [(10, ⟨⟨[0, 3, 8, 9, 10], [], 1, 0⟩, (qbl_ (Args.A.length : Int) (.inl ())).1, (qbl_ (Args.A.length : Int) (.inl ())).2⟩)]) ⟨[2], [], 0, 0⟩ (ww (p := qnn_ none (Args.A.length : Int) (([] : List (Int × Int × Int)), 0, 0) (.inl ())) (qf5_ n (Args.A.length : Int) (([] : List (Int × Int × Int)), 0, 0) (.inl ()) hc1) ee) (by kernel_rfl))
 ·rw [hc1] at h
  dsimp only at h
  cases c1_0 with
  | nil =>
   dsimp only at h
   obtain rfl := oI h; exact (runF2 hm (L := lT [(10, ⟨⟨[0, 3, 8, 9, 10], [], 1, 0⟩, (qbl_ (Args.A.length : Int) (.inr (([] : List (Int × Int × Int)), c1_1))).1, (qbl_ (Args.A.length : Int) (.inr (([] : List (Int × Int × Int)), c1_1))).2⟩)]) ⟨[2], [], 0, 0⟩ (ww (p := qnn_ none (Args.A.length : Int) (([] : List (Int × Int × Int)), 0, 0) (.inr (([] : List (Int × Int × Int)), c1_1))) (qf5_ n (Args.A.length : Int) (([] : List (Int × Int × Int)), 0, 0) (.inr (([] : List (Int × Int × Int)), c1_1)) hc1) ee) (by kernel_rfl))
  | cons c1_0a c1_0t =>
   dsimp only at h
   by_cases hc2 : ((c1_1 : Nat) : Int) = 0
   ·rw [if_pos hc2] at h
    obtain rfl := oI h; exact (runF2 hm (L := lT [(10, ⟨⟨[0, 3, 8, 9, 10], [], 1, 0⟩, (qbl_ (Args.A.length : Int) (.inr ((c1_0a :: c1_0t), c1_1))).1, (qbl_ (Args.A.length : Int) (.inr ((c1_0a :: c1_0t), c1_1))).2⟩)]) ⟨[2], [], 0, 0⟩ (ww (p := qnn_ none (Args.A.length : Int) (([] : List (Int × Int × Int)), 0, 0) (.inr ((c1_0a :: c1_0t), c1_1))) (qf5_ n (Args.A.length : Int) (([] : List (Int × Int × Int)), 0, 0) (.inr ((c1_0a :: c1_0t), c1_1)) hc1) <|
zz 14 (xeT hc2) ee) (by kernel_rfl))
   ·rw [if_neg hc2] at h
    obtain rfl := oI h; exact (runF2 hm (L := lT [(10, ⟨⟨[0, 3, 8, 9, 10], [], 1, 0⟩, (qbl_ (Args.A.length : Int) (.inr ((c1_0a :: c1_0t), c1_1))).1, (qbl_ (Args.A.length : Int) (.inr ((c1_0a :: c1_0t), c1_1))).2⟩)]) ⟨[2], [], 0, 0⟩ (ww (p := qnn_ none (Args.A.length : Int) (([] : List (Int × Int × Int)), 0, 0) (.inr ((c1_0a :: c1_0t), c1_1))) (qf5_ n (Args.A.length : Int) (([] : List (Int × Int × Int)), 0, 0) (.inr ((c1_0a :: c1_0t), c1_1)) hc1) <|
zz 14 (xeF hc2) ee) (by kernel_rfl))

def A_soq1 (a0 : Int) (a1 : Int) (a2 : Int) (a3 : Int) (a4 : Int) (a5 : Int) (a6 : NL) (a7 : Int) : List Value := [(Value.agg #[(i6 a0), (i6 a1), (i6 a2), (i6 a3), (i6 a4), (i6 a5), (nlV a6), (Value.int .u64 a7)])]
def H_soq1 (a0 : Int) (a1 : Int) (a2 : Int) (a3 : Int) (a4 : Int) (a5 : Int) (a6 : NL) (a7 : Int) : AH := ⟨sB [], 0, 0⟩
def V_soq1 (a0 : Int) (a1 : Int) (a2 : Int) (a3 : Int) (a4 : Int) (a5 : Int) (a6 : NL) (a7 : Int) (r : Bool) : Value := match r with
 | o0 => (bO o0)
def R_soq1 (a0 : Int) (a1 : Int) (a2 : Int) (a3 : Int) (a4 : Int) (a5 : Int) (a6 : NL) (a7 : Int) (r : Bool) : AH := match r with
 | o0 => ⟨sB [], 0, 0⟩
abbrev G_soq1 (a0 : Int) (a1 : Int) (a2 : Int) (a3 : Int) (a4 : Int) (a5 : Int) (a6 : NL) (a7 : Int) (r : Bool) : Prop := Gv P (.func 58) (A_soq1 a0 a1 a2 a3 a4 a5 a6 a7) (H_soq1 a0 a1 a2 a3 a4 a5 a6 a7) (V_soq1 a0 a1 a2 a3 a4 a5 a6 a7 r) (R_soq1 a0 a1 a2 a3 a4 a5 a6 a7 r)
abbrev C_soq1 (a0 : Int) (a1 : Int) (a2 : Int) (a3 : Int) (a4 : Int) (a5 : Int) (a6 : NL) (a7 : Int) (r : Bool) (ins outs : BL) : CallA := ⟨0, ins, V_soq1 a0 a1 a2 a3 a4 a5 a6 a7 r, R_soq1 a0 a1 a2 a3 a4 a5 a6 a7 r, outs⟩
def qlg_ (n : Nat) (a0 : Int) (a1 : Int) (a2 : Int) (a3 : Int) (a4 : Int) (a5 : Int) (a6 : NL) (a7 : Int) : Option (Bool) :=
 if a2 < 0 then
  some false
 else
  if a2 > a4 then
   some false
  else
   if a5 ≤ a2 then
    some false
   else
    if a1 = 1 then
     if a3 = a2 then
      some true
     else
      some false
    else
     if a1 = 2 then
      if a3 = a2 then
       some true
      else
       some false
     else
      if a1 = 4 then
       if a3 = a2 then
        if a4 = a2 then
         if (a6.l.length : Int) = 0 then
          some true
         else
          some false
        else
         some false
       else
        some false
      else
       if a1 = 3 then
        if a3 ≥ a2 then
         if a3 ≤ a4 then
          if (a6.l.length : Int) = 0 then
           some true
          else
           some false
         else
          some false
        else
         some false
       else
        if a1 = 5 then
         if a3 ≥ a2 then
          if a3 ≤ a4 then
           if (a6.l.length : Int) = 0 then
            some true
           else
            some false
          else
           some false
         else
          some false
        else
         if a1 = 6 then
          if a3 ≥ a2 then
           if a3 ≤ a4 then
            if (a6.l.length : Int) = 0 then
             some true
            else
             some false
           else
            some false
          else
           some false
         else
          some false
theorem qje_ (n : Nat) (a0 : Int) (a1 : Int) (a2 : Int) (a3 : Int) (a4 : Int) (a5 : Int) (a6 : NL) (a7 : Int) (r : Bool) (h : qlg_ n a0 a1 a2 a3 a4 a5 a6 a7 = some r) : Gv P (.func 58) (A_soq1 a0 a1 a2 a3 a4 a5 a6 a7) (H_soq1 a0 a1 a2 a3 a4 a5 a6 a7) (V_soq1 a0 a1 a2 a3 a4 a5 a6 a7 r) (R_soq1 a0 a1 a2 a3 a4 a5 a6 a7 r) := by
 unfold qlg_ at h
 by_cases hc1 : a2 < 0
 ·rw [if_pos hc1] at h
  obtain rfl := oI h; exact (runF2 hm (L := lT []) ⟨[2], [], 0, 0⟩ (zz 7 (xdT hc1) ee) (by kernel_rfl))
 ·rw [if_neg hc1] at h
  by_cases hc2 : a2 > a4
  ·rw [if_pos hc2] at h
   obtain rfl := oI h; exact (runF2 hm (L := lT []) ⟨[2], [], 0, 0⟩ (zz 7 (xdF hc1) <|
zz 13 (xdT hc2) ee) (by kernel_rfl))
  ·rw [if_neg hc2] at h
   by_cases hc3 : a5 ≤ a2
   ·rw [if_pos hc3] at h
    obtain rfl := oI h; exact (runF2 hm (L := lT []) ⟨[2], [], 0, 0⟩ (zz 7 (xdF hc1) <|
zz 13 (xdF hc2) <|
zz 20 (xdT hc3) ee) (by kernel_rfl))
   ·rw [if_neg hc3] at h
    by_cases hc4 : a1 = 1
    ·rw [if_pos hc4] at h
     by_cases hc5 : a3 = a2
     ·rw [if_pos hc5] at h
      obtain rfl := oI h; exact (runF2 hm (L := lT []) ⟨[2], [], 0, 0⟩ (zz 7 (xdF hc1) <|
zz 13 (xdF hc2) <|
zz 20 (xdF hc3) <|
zz 30 (xeT hc4) <|
zz 39 (xeT hc5) ee) (by kernel_rfl))
     ·rw [if_neg hc5] at h
      obtain rfl := oI h; exact (runF2 hm (L := lT []) ⟨[2], [], 0, 0⟩ (zz 7 (xdF hc1) <|
zz 13 (xdF hc2) <|
zz 20 (xdF hc3) <|
zz 30 (xeT hc4) <|
zz 39 (xeF hc5) ee) (by kernel_rfl))
    ·rw [if_neg hc4] at h
     by_cases hc5 : a1 = 2
     ·rw [if_pos hc5] at h
      by_cases hc6 : a3 = a2
      ·rw [if_pos hc6] at h
       obtain rfl := oI h; exact (runF2 hm (L := lT []) ⟨[2], [], 0, 0⟩ (zz 7 (xdF hc1) <|
zz 13 (xdF hc2) <|
zz 20 (xdF hc3) <|
zz 30 (xeF hc4) <|
zz 33 (xeT hc5) <|
zz 41 (xeT hc6) ee) (by kernel_rfl))
      ·rw [if_neg hc6] at h
       obtain rfl := oI h; exact (runF2 hm (L := lT []) ⟨[2], [], 0, 0⟩ (zz 7 (xdF hc1) <|
zz 13 (xdF hc2) <|
zz 20 (xdF hc3) <|
zz 30 (xeF hc4) <|
zz 33 (xeT hc5) <|
zz 41 (xeF hc6) ee) (by kernel_rfl))
     ·rw [if_neg hc5] at h
      by_cases hc6 : a1 = 4
      ·rw [if_pos hc6] at h
       by_cases hc7 : a3 = a2
       ·rw [if_pos hc7] at h
        by_cases hc8 : a4 = a2
        ·rw [if_pos hc8] at h
         by_cases hc9 : (a6.l.length : Int) = 0
         ·rw [if_pos hc9] at h
          obtain rfl := oI h; exact (runF2 hm (L := lT []) ⟨[2], [], 0, 0⟩ (zz 7 (xdF hc1) <|
zz 13 (xdF hc2) <|
zz 20 (xdF hc3) <|
zz 30 (xeF hc4) <|
zz 33 (xeF hc5) <|
zz 37 (xeT hc6) <|
zz 45 (xeT hc7) <|
zz 51 (xeT hc8) <|
zz 57 (xeT hc9) ee) (by kernel_rfl))
         ·rw [if_neg hc9] at h
          obtain rfl := oI h; exact (runF2 hm (L := lT []) ⟨[2], [], 0, 0⟩ (zz 7 (xdF hc1) <|
zz 13 (xdF hc2) <|
zz 20 (xdF hc3) <|
zz 30 (xeF hc4) <|
zz 33 (xeF hc5) <|
zz 37 (xeT hc6) <|
zz 45 (xeT hc7) <|
zz 51 (xeT hc8) <|
zz 57 (xeF hc9) ee) (by kernel_rfl))
        ·rw [if_neg hc8] at h
         obtain rfl := oI h; exact (runF2 hm (L := lT []) ⟨[2], [], 0, 0⟩ (zz 7 (xdF hc1) <|
zz 13 (xdF hc2) <|
zz 20 (xdF hc3) <|
zz 30 (xeF hc4) <|
zz 33 (xeF hc5) <|
zz 37 (xeT hc6) <|
zz 45 (xeT hc7) <|
zz 51 (xeF hc8) ee) (by kernel_rfl))
       ·rw [if_neg hc7] at h
        obtain rfl := oI h; exact (runF2 hm (L := lT []) ⟨[2], [], 0, 0⟩ (zz 7 (xdF hc1) <|
zz 13 (xdF hc2) <|
zz 20 (xdF hc3) <|
zz 30 (xeF hc4) <|
zz 33 (xeF hc5) <|
zz 37 (xeT hc6) <|
zz 45 (xeF hc7) ee) (by kernel_rfl))
      ·rw [if_neg hc6] at h
       by_cases hc7 : a1 = 3
       ·rw [if_pos hc7] at h
        by_cases hc8 : a3 ≥ a2
        ·rw [if_pos hc8] at h
         by_cases hc9 : a3 ≤ a4
         ·rw [if_pos hc9] at h
          by_cases hc10 : (a6.l.length : Int) = 0
          ·rw [if_pos hc10] at h
           obtain rfl := oI h; exact (runF2 hm (L := lT []) ⟨[2], [], 0, 0⟩ (zz 7 (xdF hc1) <|
zz 13 (xdF hc2) <|
zz 20 (xdF hc3) <|
zz 30 (xeF hc4) <|
zz 33 (xeF hc5) <|
zz 37 (xeF hc6) <|
zz 42 (xeT hc7) <|
zz 51 (xdT hc8) <|
zz 57 (xdT hc9) <|
zz 63 (xeT hc10) ee) (by kernel_rfl))
          ·rw [if_neg hc10] at h
           obtain rfl := oI h; exact (runF2 hm (L := lT []) ⟨[2], [], 0, 0⟩ (zz 7 (xdF hc1) <|
zz 13 (xdF hc2) <|
zz 20 (xdF hc3) <|
zz 30 (xeF hc4) <|
zz 33 (xeF hc5) <|
zz 37 (xeF hc6) <|
zz 42 (xeT hc7) <|
zz 51 (xdT hc8) <|
zz 57 (xdT hc9) <|
zz 63 (xeF hc10) ee) (by kernel_rfl))
         ·rw [if_neg hc9] at h
          obtain rfl := oI h; exact (runF2 hm (L := lT []) ⟨[2], [], 0, 0⟩ (zz 7 (xdF hc1) <|
zz 13 (xdF hc2) <|
zz 20 (xdF hc3) <|
zz 30 (xeF hc4) <|
zz 33 (xeF hc5) <|
zz 37 (xeF hc6) <|
zz 42 (xeT hc7) <|
zz 51 (xdT hc8) <|
zz 57 (xdF hc9) ee) (by kernel_rfl))
        ·rw [if_neg hc8] at h
         obtain rfl := oI h; exact (runF2 hm (L := lT []) ⟨[2], [], 0, 0⟩ (zz 7 (xdF hc1) <|
zz 13 (xdF hc2) <|
zz 20 (xdF hc3) <|
zz 30 (xeF hc4) <|
zz 33 (xeF hc5) <|
zz 37 (xeF hc6) <|
zz 42 (xeT hc7) <|
zz 51 (xdF hc8) ee) (by kernel_rfl))
       ·rw [if_neg hc7] at h
        by_cases hc8 : a1 = 5
        ·rw [if_pos hc8] at h
         by_cases hc9 : a3 ≥ a2
         ·rw [if_pos hc9] at h
          by_cases hc10 : a3 ≤ a4
          ·rw [if_pos hc10] at h
           by_cases hc11 : (a6.l.length : Int) = 0
           ·rw [if_pos hc11] at h
            obtain rfl := oI h; exact (runF2 hm (L := lT []) ⟨[2], [], 0, 0⟩ (zz 7 (xdF hc1) <|
zz 13 (xdF hc2) <|
zz 20 (xdF hc3) <|
zz 30 (xeF hc4) <|
zz 33 (xeF hc5) <|
zz 37 (xeF hc6) <|
zz 42 (xeF hc7) <|
zz 46 (xeT hc8) <|
zz 55 (xdT hc9) <|
zz 61 (xdT hc10) <|
zz 67 (xeT hc11) ee) (by kernel_rfl))
           ·rw [if_neg hc11] at h
            obtain rfl := oI h; exact (runF2 hm (L := lT []) ⟨[2], [], 0, 0⟩ (zz 7 (xdF hc1) <|
zz 13 (xdF hc2) <|
zz 20 (xdF hc3) <|
zz 30 (xeF hc4) <|
zz 33 (xeF hc5) <|
zz 37 (xeF hc6) <|
zz 42 (xeF hc7) <|
zz 46 (xeT hc8) <|
zz 55 (xdT hc9) <|
zz 61 (xdT hc10) <|
zz 67 (xeF hc11) ee) (by kernel_rfl))
          ·rw [if_neg hc10] at h
           obtain rfl := oI h; exact (runF2 hm (L := lT []) ⟨[2], [], 0, 0⟩ (zz 7 (xdF hc1) <|
zz 13 (xdF hc2) <|
zz 20 (xdF hc3) <|
zz 30 (xeF hc4) <|
zz 33 (xeF hc5) <|
zz 37 (xeF hc6) <|
zz 42 (xeF hc7) <|
zz 46 (xeT hc8) <|
zz 55 (xdT hc9) <|
zz 61 (xdF hc10) ee) (by kernel_rfl))
         ·rw [if_neg hc9] at h
          obtain rfl := oI h; exact (runF2 hm (L := lT []) ⟨[2], [], 0, 0⟩ (zz 7 (xdF hc1) <|
zz 13 (xdF hc2) <|
zz 20 (xdF hc3) <|
zz 30 (xeF hc4) <|
zz 33 (xeF hc5) <|
zz 37 (xeF hc6) <|
zz 42 (xeF hc7) <|
zz 46 (xeT hc8) <|
zz 55 (xdF hc9) ee) (by kernel_rfl))
        ·rw [if_neg hc8] at h
         by_cases hc9 : a1 = 6
         ·rw [if_pos hc9] at h
          by_cases hc10 : a3 ≥ a2
          ·rw [if_pos hc10] at h
           by_cases hc11 : a3 ≤ a4
           ·rw [if_pos hc11] at h
            by_cases hc12 : (a6.l.length : Int) = 0
            ·rw [if_pos hc12] at h
             obtain rfl := oI h; exact (runF2 hm (L := lT []) ⟨[2], [], 0, 0⟩ (zz 7 (xdF hc1) <|
zz 13 (xdF hc2) <|
zz 20 (xdF hc3) <|
zz 30 (xeF hc4) <|
zz 33 (xeF hc5) <|
zz 37 (xeF hc6) <|
zz 42 (xeF hc7) <|
zz 46 (xeF hc8) <|
zz 49 (xeT hc9) <|
zz 57 (xdT hc10) <|
zz 63 (xdT hc11) <|
zz 69 (xeT hc12) ee) (by kernel_rfl))
            ·rw [if_neg hc12] at h
             obtain rfl := oI h; exact (runF2 hm (L := lT []) ⟨[2], [], 0, 0⟩ (zz 7 (xdF hc1) <|
zz 13 (xdF hc2) <|
zz 20 (xdF hc3) <|
zz 30 (xeF hc4) <|
zz 33 (xeF hc5) <|
zz 37 (xeF hc6) <|
zz 42 (xeF hc7) <|
zz 46 (xeF hc8) <|
zz 49 (xeT hc9) <|
zz 57 (xdT hc10) <|
zz 63 (xdT hc11) <|
zz 69 (xeF hc12) ee) (by kernel_rfl))
           ·rw [if_neg hc11] at h
            obtain rfl := oI h; exact (runF2 hm (L := lT []) ⟨[2], [], 0, 0⟩ (zz 7 (xdF hc1) <|
zz 13 (xdF hc2) <|
zz 20 (xdF hc3) <|
zz 30 (xeF hc4) <|
zz 33 (xeF hc5) <|
zz 37 (xeF hc6) <|
zz 42 (xeF hc7) <|
zz 46 (xeF hc8) <|
zz 49 (xeT hc9) <|
zz 57 (xdT hc10) <|
zz 63 (xdF hc11) ee) (by kernel_rfl))
          ·rw [if_neg hc10] at h
           obtain rfl := oI h; exact (runF2 hm (L := lT []) ⟨[2], [], 0, 0⟩ (zz 7 (xdF hc1) <|
zz 13 (xdF hc2) <|
zz 20 (xdF hc3) <|
zz 30 (xeF hc4) <|
zz 33 (xeF hc5) <|
zz 37 (xeF hc6) <|
zz 42 (xeF hc7) <|
zz 46 (xeF hc8) <|
zz 49 (xeT hc9) <|
zz 57 (xdF hc10) ee) (by kernel_rfl))
         ·rw [if_neg hc9] at h
          obtain rfl := oI h; exact (runF2 hm (L := lT []) ⟨[2], [], 0, 0⟩ (zz 7 (xdF hc1) <|
zz 13 (xdF hc2) <|
zz 20 (xdF hc3) <|
zz 30 (xeF hc4) <|
zz 33 (xeF hc5) <|
zz 37 (xeF hc6) <|
zz 42 (xeF hc7) <|
zz 46 (xeF hc8) <|
zz 49 (xeF hc9) ee) (by kernel_rfl))

def A_tCq1 : List Value := [(sW 0 0 (Args.A).length Args.cA)]
def H_tCq1 : AH := ⟨sB [], 0, 0⟩
def V_tCq1 (r : Int) : Value := match r with
 | o0 => (i6 o0)
def R_tCq1 (r : Int) : AH := match r with
 | o0 => ⟨sB [], 0, 0⟩
abbrev G_tCq1 (r : Int) : Prop := Gv P (.func 29) A_tCq1 H_tCq1 (V_tCq1  r) (R_tCq1  r)
abbrev C_tCq1 (r : Int) (ins outs : BL) : CallA := ⟨0, ins, V_tCq1  r, R_tCq1  r, outs⟩
def qh7_ (x0 : Int) (st : Int) : XSt := match st with
 | x1 => (sT 36 [(16, (sW 0 0 (Args.A).length Args.cA)), (17, (i6 x0)), (18, (i6 x1))], [], ⟨sB [], 0, 0⟩)
def qdw_ (x0 : Int) (r : (Unit) ⊕ (Unit)) : Ex × XSt := match r with
 | .inl _ => (.ret, (sT 36 [(2, (i6 (2 : Int)))], [], ⟨sB [], 0, 0⟩))
 | .inr _ => (.exit 0, (sT 36 [], [], ⟨sB [], 0, 0⟩))
abbrev qkz_ (rnd : Option Nat) (x0 : Int) (st : Int) (c : Ex × XSt) : Prop := CG P rnd (fnN P 29) 0 (qq_ P 29 [false, false, true, false, true, true, true]) (qh7_ x0 st) c
abbrev U_tCq1_1 (rd : Option Nat) (x0 : Int) (st : Int) (r : (Unit) ⊕ (Unit)) : Prop := CG P rd (fnN P 29) 0 (qq_ P 29 [false, true, false, true, true, true]) (qh7_ x0 st) (qdw_ x0 r)
def qfo_ (n : Nat) (x0 : Int) (st : Int) : Option ((Int) ⊕ ((Unit) ⊕ (Unit))) := match st with
 | x1 =>
  if x1 < x0 then
   if 0 ≤ x1 ∧ x1 < (Args.A.length : Int) then
    ((some ((Args.A).getD (x1).toNat (0, 0, 0, 0, 0, 0, nl0, 0)))).bind fun y3_ =>
    (qlg_ n (y3_.1) (y3_.2.1) (y3_.2.2.1) (y3_.2.2.2.1) (y3_.2.2.2.2.1) (y3_.2.2.2.2.2.1) (y3_.2.2.2.2.2.2.1) (y3_.2.2.2.2.2.2.2)).bind fun y4_ =>
    if y4_ = true then
     if (y3_.2.1) = 1 then
      if x1 > 0 then
       some (.inr (.inl ()))
      else
       some (.inl (w64 (x1 + 1)))
     else
      some (.inl (w64 (x1 + 1)))
    else
     some (.inr (.inl ()))
   else none
  else
   some (.inr (.inr ()))
def qnq_ (n : Nat) (x0 : Int) (st : Int) : Option ((Unit) ⊕ (Unit)) := iterM (qfo_ n x0) n st
theorem q_tCq1_1_0 (n : Nat) {rnd : Option Nat} (x0 x1 : Int) (hy1 : x1 < x0) (hy2 : 0 ≤ x1 ∧ x1 < (Args.A.length : Int)) (y3_ : R8) (hy3 : (some ((Args.A).getD (x1).toNat (0, 0, 0, 0, 0, 0, nl0, 0))) = some y3_) (y4_ : Bool) (hy4 : qlg_ n (y3_.1) (y3_.2.1) (y3_.2.2.1) (y3_.2.2.2.1) (y3_.2.2.2.2.1) (y3_.2.2.2.2.2.1) (y3_.2.2.2.2.2.2.1) (y3_.2.2.2.2.2.2.2) = some y4_) (hy5 : y4_ = true) (hy6 : (y3_.2.1) = 1) (hy7 : x1 > 0) : qkz_ rnd x0 x1 (qdw_ x0 (.inl ())) :=
 runC2 hm (L := lT []) ⟨[2], [], 0, 0⟩ (zz 1 (xdT hy1) <|
zz 8 (xk1 0 Args.cA hy2) <|
zz 9 (lk2 hy3 (qc_ hy2)) <|
yy 15 (.call (C_soq1 (y3_.1) (y3_.2.1) (y3_.2.2.1) (y3_.2.2.2.1) (y3_.2.2.2.2.1) (y3_.2.2.2.2.2.1) (y3_.2.2.2.2.2.2.1) (y3_.2.2.2.2.2.2.2) y4_ [] [])) <|
ww (qje_ n (y3_.1) (y3_.2.1) (y3_.2.2.1) (y3_.2.2.2.1) (y3_.2.2.2.2.1) (y3_.2.2.2.2.2.1) (y3_.2.2.2.2.2.2.1) (y3_.2.2.2.2.2.2.2) y4_ hy4) <|
yy 16 (vf) <|
ww (p := (Value.bool (!y4_)) = (Value.bool false)) (vBn hy5) <|
zz 20 (xeT hy6) <|
zz 23 (xdT hy7) <|
ee) (by kernel_rfl)
theorem q_tCq1_1_1 (n : Nat) {rnd : Option Nat} (x0 x1 : Int) (hy1 : x1 < x0) (hy2 : 0 ≤ x1 ∧ x1 < (Args.A.length : Int)) (y3_ : R8) (hy3 : (some ((Args.A).getD (x1).toNat (0, 0, 0, 0, 0, 0, nl0, 0))) = some y3_) (y4_ : Bool) (hy4 : qlg_ n (y3_.1) (y3_.2.1) (y3_.2.2.1) (y3_.2.2.2.1) (y3_.2.2.2.2.1) (y3_.2.2.2.2.2.1) (y3_.2.2.2.2.2.2.1) (y3_.2.2.2.2.2.2.2) = some y4_) (hy5 : y4_ = true) (hy6 : (y3_.2.1) = 1) (hy7 : ¬ (x1 > 0)) : qkz_ rnd x0 x1 (.normal, qh7_ x0 (w64 (x1 + 1))) :=
 runC2 hm (L := lT []) ⟨[16, 17, 18], [], 0, 0⟩ (zz 1 (xdT hy1) <|
zz 8 (xk1 0 Args.cA hy2) <|
zz 9 (lk2 hy3 (qc_ hy2)) <|
yy 15 (.call (C_soq1 (y3_.1) (y3_.2.1) (y3_.2.2.1) (y3_.2.2.2.1) (y3_.2.2.2.2.1) (y3_.2.2.2.2.2.1) (y3_.2.2.2.2.2.2.1) (y3_.2.2.2.2.2.2.2) y4_ [] [])) <|
ww (qje_ n (y3_.1) (y3_.2.1) (y3_.2.2.1) (y3_.2.2.2.1) (y3_.2.2.2.2.1) (y3_.2.2.2.2.2.1) (y3_.2.2.2.2.2.2.1) (y3_.2.2.2.2.2.2.2) y4_ hy4) <|
yy 16 (vf) <|
ww (p := (Value.bool (!y4_)) = (Value.bool false)) (vBn hy5) <|
zz 20 (xeT hy6) <|
zz 23 (xdF hy7) <|
ee) (by kernel_rfl)
theorem q_tCq1_1_2 (n : Nat) {rnd : Option Nat} (x0 x1 : Int) (hy1 : x1 < x0) (hy2 : 0 ≤ x1 ∧ x1 < (Args.A.length : Int)) (y3_ : R8) (hy3 : (some ((Args.A).getD (x1).toNat (0, 0, 0, 0, 0, 0, nl0, 0))) = some y3_) (y4_ : Bool) (hy4 : qlg_ n (y3_.1) (y3_.2.1) (y3_.2.2.1) (y3_.2.2.2.1) (y3_.2.2.2.2.1) (y3_.2.2.2.2.2.1) (y3_.2.2.2.2.2.2.1) (y3_.2.2.2.2.2.2.2) = some y4_) (hy5 : y4_ = true) (hy6 : ¬ ((y3_.2.1) = 1)) : qkz_ rnd x0 x1 (.normal, qh7_ x0 (w64 (x1 + 1))) :=
 runC2 hm (L := lT []) ⟨[16, 17, 18], [], 0, 0⟩ (zz 1 (xdT hy1) <|
zz 8 (xk1 0 Args.cA hy2) <|
zz 9 (lk2 hy3 (qc_ hy2)) <|
yy 15 (.call (C_soq1 (y3_.1) (y3_.2.1) (y3_.2.2.1) (y3_.2.2.2.1) (y3_.2.2.2.2.1) (y3_.2.2.2.2.2.1) (y3_.2.2.2.2.2.2.1) (y3_.2.2.2.2.2.2.2) y4_ [] [])) <|
ww (qje_ n (y3_.1) (y3_.2.1) (y3_.2.2.1) (y3_.2.2.2.1) (y3_.2.2.2.2.1) (y3_.2.2.2.2.2.1) (y3_.2.2.2.2.2.2.1) (y3_.2.2.2.2.2.2.2) y4_ hy4) <|
yy 16 (vf) <|
ww (p := (Value.bool (!y4_)) = (Value.bool false)) (vBn hy5) <|
zz 20 (xeF hy6) <|
ee) (by kernel_rfl)
theorem q_tCq1_1_3 (n : Nat) {rnd : Option Nat} (x0 x1 : Int) (hy1 : x1 < x0) (hy2 : 0 ≤ x1 ∧ x1 < (Args.A.length : Int)) (y3_ : R8) (hy3 : (some ((Args.A).getD (x1).toNat (0, 0, 0, 0, 0, 0, nl0, 0))) = some y3_) (y4_ : Bool) (hy4 : qlg_ n (y3_.1) (y3_.2.1) (y3_.2.2.1) (y3_.2.2.2.1) (y3_.2.2.2.2.1) (y3_.2.2.2.2.2.1) (y3_.2.2.2.2.2.2.1) (y3_.2.2.2.2.2.2.2) = some y4_) (hy5 : ¬ (y4_ = true)) : qkz_ rnd x0 x1 (qdw_ x0 (.inl ())) :=
 runC2 hm (L := lT []) ⟨[2], [], 0, 0⟩ (zz 1 (xdT hy1) <|
zz 8 (xk1 0 Args.cA hy2) <|
zz 9 (lk2 hy3 (qc_ hy2)) <|
yy 15 (.call (C_soq1 (y3_.1) (y3_.2.1) (y3_.2.2.1) (y3_.2.2.2.1) (y3_.2.2.2.2.1) (y3_.2.2.2.2.2.1) (y3_.2.2.2.2.2.2.1) (y3_.2.2.2.2.2.2.2) y4_ [] [])) <|
ww (qje_ n (y3_.1) (y3_.2.1) (y3_.2.2.1) (y3_.2.2.2.1) (y3_.2.2.2.2.1) (y3_.2.2.2.2.2.1) (y3_.2.2.2.2.2.2.1) (y3_.2.2.2.2.2.2.2) y4_ hy4) <|
yy 16 (vt) <|
ww (p := (Value.bool (!y4_)) = (Value.bool true)) (vBn (Bool.eq_false_iff.2 hy5)) <|
ee) (by kernel_rfl)
theorem q_tCq1_1_4 (n : Nat) {rnd : Option Nat} (x0 x1 : Int) (hy1 : ¬ (x1 < x0)) : qkz_ rnd x0 x1 (qdw_ x0 (.inr ())) :=
 runC2 hm (L := lT []) ⟨[], [], 0, 0⟩ (zz 1 (xdF hy1) <|
ee) (by kernel_rfl)
theorem ql7_ (n : Nat) {rnd : Option Nat} (x0 : Int) (st : Int) (r : (Unit) ⊕ (Unit)) (h : qnq_ n x0 st = some r) : CG P rnd (fnN P 29) 0 (qq_ P 29 [false, true, false, true, true, true]) (qh7_ x0 st) (qdw_ x0 r) :=
 CG.iter (b := qq_ P 29 [false, false, true, false, true, true, true]) (by kernel_rfl) (body := qfo_ n x0) (S := qh7_ x0) (X := qdw_ x0)
  (fun x1 s' h => by
  unfold qfo_ at h
  dsimp only at h
  by_cases hy1 : x1 < x0
  ·rw [if_pos hy1] at h
   obtain ⟨hy2, h⟩ := gd h
   obtain ⟨y3_, hy3, h⟩ := oB h
   obtain ⟨y4_, hy4, h⟩ := oB h
   by_cases hy5 : y4_ = true
   ·rw [if_pos hy5] at h
    by_cases hy6 : (y3_.2.1) = 1
    ·rw [if_pos hy6] at h
     by_cases hy7 : x1 > 0
     ·rw [if_pos hy7] at h
      cases h
     ·rw [if_neg hy7] at h
      obtain rfl := Sum.inl.inj (oI h); exact q_tCq1_1_1 n x0 x1 hy1 hy2 y3_ hy3 y4_ hy4 hy5 hy6 hy7
    ·rw [if_neg hy6] at h
     obtain rfl := Sum.inl.inj (oI h); exact q_tCq1_1_2 n x0 x1 hy1 hy2 y3_ hy3 y4_ hy4 hy5 hy6
   ·rw [if_neg hy5] at h
    cases h
  ·rw [if_neg hy1] at h
   cases h)
  (fun x1 r h => by
  unfold qfo_ at h
  dsimp only at h
  by_cases hy1 : x1 < x0
  ·rw [if_pos hy1] at h
   obtain ⟨hy2, h⟩ := gd h
   obtain ⟨y3_, hy3, h⟩ := oB h
   obtain ⟨y4_, hy4, h⟩ := oB h
   by_cases hy5 : y4_ = true
   ·rw [if_pos hy5] at h
    by_cases hy6 : (y3_.2.1) = 1
    ·rw [if_pos hy6] at h
     by_cases hy7 : x1 > 0
     ·rw [if_pos hy7] at h
      obtain rfl := Sum.inr.inj (oI h); exact q_tCq1_1_0 n x0 x1 hy1 hy2 y3_ hy3 y4_ hy4 hy5 hy6 hy7
     ·rw [if_neg hy7] at h
      cases h
    ·rw [if_neg hy6] at h
     cases h
   ·rw [if_neg hy5] at h
    obtain rfl := Sum.inr.inj (oI h); exact q_tCq1_1_3 n x0 x1 hy1 hy2 y3_ hy3 y4_ hy4 hy5
  ·rw [if_neg hy1] at h
   obtain rfl := Sum.inr.inj (oI h); exact q_tCq1_1_4 n x0 x1 hy1)
  (fun r => by intro hx; rcases r with _ | _ <;> cases hx) h
def m_tCq1 (n : Nat) : Option (Int) :=
 if (Args.A.length : Int) > 524288 then
  some 3
 else
  if (Args.A.length : Int) = 0 then
   some 2
  else
   (m_iOq1 n).bind fun c3_ =>
   if c3_ = true then
    match qnq_ n (Args.A.length : Int) 0 with
    | none => none
    | some (.inl _) =>
     some 2
    | some (.inr _) =>
     some 0
   else
    some 2
theorem qeo_ (n : Nat) (r : Int) (h : m_tCq1 n = some r) : Gv P (.func 29) A_tCq1 H_tCq1 (V_tCq1  r) (R_tCq1  r) := by
 unfold m_tCq1 at h
 by_cases hc1 : (Args.A.length : Int) > 524288
 ·rw [if_pos hc1] at h
  obtain rfl := oI h; exact (runF2 hm (L := lT []) ⟨[2], [], 0, 0⟩ (zz 6 (xdT hc1) ee) (by kernel_rfl))
 ·rw [if_neg hc1] at h
  by_cases hc2 : (Args.A.length : Int) = 0
  ·rw [if_pos hc2] at h
   obtain rfl := oI h; exact (runF2 hm (L := lT []) ⟨[2], [], 0, 0⟩ (zz 6 (xdF hc1) <|
zz 12 (xeT hc2) ee) (by kernel_rfl))
  ·rw [if_neg hc2] at h
   obtain ⟨c3_, hc3, h⟩ := oB h
   by_cases hc4 : c3_ = true
   ·rw [if_pos hc4] at h
    rcases hc5 : qnq_ n (Args.A.length : Int) 0 with _ | (⟨⟩ | ⟨⟩)
    ·rw [hc5] at h; cases h
    ·rw [hc5] at h
     dsimp only at h
     obtain rfl := oI h; exact (runF2 hm (L := lT [(25, ⟨⟨[16, 17, 18], [], 0, 0⟩, (qdw_ (Args.A.length : Int) (.inl ())).1, (qdw_ (Args.A.length : Int) (.inl ())).2⟩)]) ⟨[2], [], 0, 0⟩ (zz 6 (xdF hc1) <|
zz 12 (xeF hc2) <|
yy 15 (.call (C_iOq1  c3_ [] [])) <|
ww (qnp_ n  c3_ hc3) <|
yy 16 (vf) <|
ww (p := (Value.bool (!c3_)) = (Value.bool false)) (vBn hc4) <|
ww (p := U_tCq1_1 none (Args.A.length : Int) 0 (.inl ())) (ql7_ n (Args.A.length : Int) 0 (.inl ()) hc5) ee) (by kernel_rfl))
    ·rw [hc5] at h
     dsimp only at h
     obtain rfl := oI h; exact (runF2 hm (L := lT [(25, ⟨⟨[16, 17, 18], [], 0, 0⟩, (qdw_ (Args.A.length : Int) (.inr ())).1, (qdw_ (Args.A.length : Int) (.inr ())).2⟩)]) ⟨[2], [], 0, 0⟩ (zz 6 (xdF hc1) <|
zz 12 (xeF hc2) <|
yy 15 (.call (C_iOq1  c3_ [] [])) <|
ww (qnp_ n  c3_ hc3) <|
yy 16 (vf) <|
ww (p := (Value.bool (!c3_)) = (Value.bool false)) (vBn hc4) <|
ww (p := U_tCq1_1 none (Args.A.length : Int) 0 (.inr ())) (ql7_ n (Args.A.length : Int) 0 (.inr ()) hc5) ee) (by kernel_rfl))
   ·rw [if_neg hc4] at h
    obtain rfl := oI h; exact (runF2 hm (L := lT []) ⟨[2], [], 0, 0⟩ (zz 6 (xdF hc1) <|
zz 12 (xeF hc2) <|
yy 15 (.call (C_iOq1  c3_ [] [])) <|
ww (qnp_ n  c3_ hc3) <|
yy 16 (vt) <|
ww (p := (Value.bool (!c3_)) = (Value.bool true)) (vBn (Bool.eq_false_iff.2 hc4)) ee) (by kernel_rfl))

def qhg_ (a0 : Int) : List Value := [(sW 0 0 (Args.A).length Args.cA), (i6 a0)]
def qhh_ (a0 : Int) : AH := ⟨sB [], 0, 0⟩
def qep_ (a0 : Int) (r : Unit) : Value := match r with
 | _ => (Value.func (.func 92) #[] #[(pN 0 0), (pN 1 0)])
def qeq_ (a0 : Int) (r : Unit) : AH := match r with
 | _ => ⟨sB [(0, (some (.cells (layT [(sW 0 0 (Args.A).length Args.cA)]) 22))), (1, (some (.cells (layT [(i6 a0)]) 3)))], 2, 0⟩
abbrev G_treeplacesq1 (a0 : Int) (r : Unit) : Prop := Gv P (.func 59) (qhg_ a0) (qhh_ a0) (qep_ a0 r) (qeq_ a0 r)
abbrev qhi_ (a0 : Int) (r : Unit) (ins outs : BL) : CallA := ⟨0, ins, qep_ a0 r, qeq_ a0 r, outs⟩
def qcz_ (n : Nat) (a0 : Int) : Option (Unit) :=
 some ()
theorem qez_ (n : Nat) (a0 : Int) (r : Unit) (h : qcz_ n a0 = some r) : Gv P (.func 59) (qhg_ a0) (qhh_ a0) (qep_ a0 r) (qeq_ a0 r) := by
 unfold qcz_ at h
 obtain rfl := oI h; exact (runF2 hm (L := lT []) ⟨[4], [(0, 0, false), (1, 1, false)], 2, 0⟩ (ee) (by kernel_rfl))

def qhj_ (a0 : Int) (a1 : Int) (a2 : Int) (a3 : Int) (a4 : Int) (a5 : Int) (a6 : NL) (a7 : Int) : List Value := [(Value.agg #[(i6 a0), (i6 a1), (i6 a2), (i6 a3), (i6 a4), (i6 a5), (nlV a6), (Value.int .u64 a7)])]
def qhk_ (a0 : Int) (a1 : Int) (a2 : Int) (a3 : Int) (a4 : Int) (a5 : Int) (a6 : NL) (a7 : Int) : AH := ⟨sB [], 0, 0⟩
def qer_ (a0 : Int) (a1 : Int) (a2 : Int) (a3 : Int) (a4 : Int) (a5 : Int) (a6 : NL) (a7 : Int) (r : Bool) : Value := match r with
 | o0 => (bO o0)
def qes_ (a0 : Int) (a1 : Int) (a2 : Int) (a3 : Int) (a4 : Int) (a5 : Int) (a6 : NL) (a7 : Int) (r : Bool) : AH := match r with
 | o0 => ⟨sB [], 0, 0⟩
abbrev qc0_ (a0 : Int) (a1 : Int) (a2 : Int) (a3 : Int) (a4 : Int) (a5 : Int) (a6 : NL) (a7 : Int) (r : Bool) : Prop := Gv P (.func 15) (qhj_ a0 a1 a2 a3 a4 a5 a6 a7) (qhk_ a0 a1 a2 a3 a4 a5 a6 a7) (qer_ a0 a1 a2 a3 a4 a5 a6 a7 r) (qes_ a0 a1 a2 a3 a4 a5 a6 a7 r)
abbrev qm_ (a0 : Int) (a1 : Int) (a2 : Int) (a3 : Int) (a4 : Int) (a5 : Int) (a6 : NL) (a7 : Int) (r : Bool) (ins outs : BL) : CallA := ⟨0, ins, qer_ a0 a1 a2 a3 a4 a5 a6 a7 r, qes_ a0 a1 a2 a3 a4 a5 a6 a7 r, outs⟩
def qg_ (n : Nat) (a0 : Int) (a1 : Int) (a2 : Int) (a3 : Int) (a4 : Int) (a5 : Int) (a6 : NL) (a7 : Int) : Option (Bool) :=
 if a1 = 1 then
  some true
 else
  if a1 = 2 then
   some true
  else
   some false
theorem qh_ (n : Nat) (a0 : Int) (a1 : Int) (a2 : Int) (a3 : Int) (a4 : Int) (a5 : Int) (a6 : NL) (a7 : Int) (r : Bool) (h : qg_ n a0 a1 a2 a3 a4 a5 a6 a7 = some r) : Gv P (.func 15) (qhj_ a0 a1 a2 a3 a4 a5 a6 a7) (qhk_ a0 a1 a2 a3 a4 a5 a6 a7) (qer_ a0 a1 a2 a3 a4 a5 a6 a7 r) (qes_ a0 a1 a2 a3 a4 a5 a6 a7 r) := by
 unfold qg_ at h
 by_cases hc1 : a1 = 1
 ·rw [if_pos hc1] at h
  obtain rfl := oI h; exact (runF2 hm (L := lT []) ⟨[2], [], 0, 0⟩ (zz 6 (xeT hc1) ee) (by kernel_rfl))
 ·rw [if_neg hc1] at h
  by_cases hc2 : a1 = 2
  ·rw [if_pos hc2] at h
   obtain rfl := oI h; exact (runF2 hm (L := lT []) ⟨[2], [], 0, 0⟩ (zz 6 (xeF hc1) <|
zz 10 (xeT hc2) ee) (by kernel_rfl))
  ·rw [if_neg hc2] at h
   obtain rfl := oI h; exact (runF2 hm (L := lT []) ⟨[2], [], 0, 0⟩ (zz 6 (xeF hc1) <|
zz 10 (xeF hc2) ee) (by kernel_rfl))

def qis_ (a0 : Int) (a1 : Int) : List Value := [(i6 a1)]
def qit_ (a0 : Int) (a1 : Int) : AH := ⟨sB [(0, (some (rblk P 30 [false, true, false, true, true, true] .ready none [(1, (pN 2 0)), (3, (pN 3 0)), (9, (Value.func (.func 92) #[] #[(pN 4 0), (pN 5 0)]))] 1))), (1, (some (.marks true))), (2, (some (.cells (layT [(sW 0 0 (Args.A).length Args.cA)]) 22))), (3, (some (.cells (layT [(Value.slice none 0 0)]) 27))), (4, (some (.cells (layT [(sW 0 0 (Args.A).length Args.cA)]) 22))), (5, (some (.cells (layT [(i6 a0)]) 3)))], 6, 6⟩
def qfp_ (a0 : Int) (a1 : Int) (r : List Int) : Value := match r with
 | o0 => (bO true)
def qfq_ (a0 : Int) (a1 : Int) (r : List Int) : AH := match r with
 | o0 => ⟨sB [(0, (some (rblk P 30 [false, true, false, true, true, true] .ready none [(1, (pN 2 0)), (3, (pN 3 0)), (9, (Value.func (.func 92) #[] #[(pN 4 0), (pN 5 0)]))] 1))), (1, (some (.marks true))), (2, (some (.cells (layT [(sW 0 0 (Args.A).length Args.cA)]) 22))), (3, (some (.cells (layT [(slN o0 6)]) 27))), (4, (some (.cells (layT [(sW 0 0 (Args.A).length Args.cA)]) 22))), (5, (some (.cells (layT [(i6 a0)]) 3))), (6, (nblk o0 3))], 7, 0⟩
abbrev G_tL_111010y1 (a0 : Int) (a1 : Int) (r : List Int) : Prop := Gv P (.yield 0) (qis_ a0 a1) (qit_ a0 a1) (qfp_ a0 a1 r) (qfq_ a0 a1 r)
abbrev qdr_ (a0 : Int) (a1 : Int) (r : List Int) (ins outs : BL) : CallA := ⟨6, ins, qfp_ a0 a1 r, qfq_ a0 a1 r, outs⟩
def qcr_ (n : Nat) (a0 : Int) (a1 : Int) : Option (List Int) :=
 if 0 ≤ a1 ∧ a1 < (Args.A.length : Int) then
  ((some ((Args.A).getD (a1).toNat (0, 0, 0, 0, 0, 0, nl0, 0)))).bind fun c2_ =>
  (qg_ n (c2_.1) (c2_.2.1) (c2_.2.2.1) (c2_.2.2.2.1) (c2_.2.2.2.2.1) (c2_.2.2.2.2.2.1) (c2_.2.2.2.2.2.2.1) (c2_.2.2.2.2.2.2.2)).bind fun c3_ =>
  if c3_ = true then
   some ([] : List Int)
  else
   some [a1]
 else none
theorem qcb_ (n : Nat) (a0 : Int) (a1 : Int) (r : List Int) (h : qcr_ n a0 a1 = some r) : Gv P (.yield 0) (qis_ a0 a1) (qit_ a0 a1) (qfp_ a0 a1 r) (qfq_ a0 a1 r) := by
 unfold qcr_ at h
 obtain ⟨hc1, h⟩ := gd h
 obtain ⟨c2_, hc2, h⟩ := oB h
 obtain ⟨c3_, hc3, h⟩ := oB h
 by_cases hc4 : c3_ = true
 ·rw [if_pos hc4] at h
  obtain rfl := oI h; exact (qkt_ hm (A1 := aT []) (L1 := lT []) (A2 := aT [(4, .pur (pW 0 ((a1).toNat * 8))), (5, .ld (Value.agg #[(i6 (c2_.1)), (i6 (c2_.2.1)), (i6 (c2_.2.2.1)), (i6 (c2_.2.2.2.1)), (i6 (c2_.2.2.2.2.1)), (i6 (c2_.2.2.2.2.2.1)), (nlV (c2_.2.2.2.2.2.2.1)), (Value.int .u64 (c2_.2.2.2.2.2.2.2))])), (6, .call (qm_ (c2_.1) (c2_.2.1) (c2_.2.2.1) (c2_.2.2.2.1) (c2_.2.2.2.2.1) (c2_.2.2.2.2.2.1) (c2_.2.2.2.2.2.2.1) (c2_.2.2.2.2.2.2.2) c3_ [] [])), (7, vf)]) (L2 := lT []) (wk := ⟨[], [(0, 0, false), (1, 1, false), (2, 2, false), (3, 3, false), (4, 4, false), (5, 5, false)], 7, 0⟩) (ps := [xp1 0 (Args.A).length Args.cA a1, lp2 (a1).toNat c2_, qc0_ (c2_.1) (c2_.2.1) (c2_.2.2.1) (c2_.2.2.2.1) (c2_.2.2.2.2.1) (c2_.2.2.2.2.2.1) (c2_.2.2.2.2.2.2.1) (c2_.2.2.2.2.2.2.2) c3_, (Value.bool (!c3_)) = (Value.bool false)]) (by kernel_rfl) ⟨((xk1 0 Args.cA hc1).p), ((lk2 hc2 (qc_ hc1)).p), (qh_ n (c2_.1) (c2_.2.1) (c2_.2.2.1) (c2_.2.2.2.1) (c2_.2.2.2.2.1) (c2_.2.2.2.2.2.1) (c2_.2.2.2.2.2.2.1) (c2_.2.2.2.2.2.2.2) c3_ hc3), (vBn hc4), trivial⟩)
 ·rw [if_neg hc4] at h
  obtain rfl := oI h; exact (qkt_ hm (A1 := aT []) (L1 := lT []) (A2 := aT [(4, .pur (pW 0 ((a1).toNat * 8))), (5, .ld (Value.agg #[(i6 (c2_.1)), (i6 (c2_.2.1)), (i6 (c2_.2.2.1)), (i6 (c2_.2.2.2.1)), (i6 (c2_.2.2.2.2.1)), (i6 (c2_.2.2.2.2.2.1)), (nlV (c2_.2.2.2.2.2.2.1)), (Value.int .u64 (c2_.2.2.2.2.2.2.2))])), (6, .call (qm_ (c2_.1) (c2_.2.1) (c2_.2.2.1) (c2_.2.2.2.1) (c2_.2.2.2.2.1) (c2_.2.2.2.2.2.1) (c2_.2.2.2.2.2.2.1) (c2_.2.2.2.2.2.2.2) c3_ [] [])), (7, vt)]) (L2 := lT []) (wk := ⟨[], [(0, 0, false), (1, 1, false), (2, 2, false), (3, 3, false), (4, 4, false), (5, 5, false), (6, 7, false)], 7, 0⟩) (ps := [xp1 0 (Args.A).length Args.cA a1, lp2 (a1).toNat c2_, qc0_ (c2_.1) (c2_.2.1) (c2_.2.2.1) (c2_.2.2.2.1) (c2_.2.2.2.2.1) (c2_.2.2.2.2.2.1) (c2_.2.2.2.2.2.2.1) (c2_.2.2.2.2.2.2.2) c3_, (Value.bool (!c3_)) = (Value.bool true)]) (by kernel_rfl) ⟨((xk1 0 Args.cA hc1).p), ((lk2 hc2 (qc_ hc1)).p), (qh_ n (c2_.1) (c2_.2.1) (c2_.2.2.1) (c2_.2.2.2.1) (c2_.2.2.2.2.1) (c2_.2.2.2.2.2.1) (c2_.2.2.2.2.2.2.1) (c2_.2.2.2.2.2.2.2) c3_ hc3), (vBn (Bool.eq_false_iff.2 hc4)), trivial⟩)

def qiu_ (a0 : List Int) (a1 : Int) (a2 : Int) : List Value := [(i6 a2)]
def qiv_ (a0 : List Int) (a1 : Int) (a2 : Int) : AH := ⟨sB [(0, (some (rblk P 30 [false, true, false, true, true, true] .ready none [(1, (pN 2 0)), (3, (pN 3 0)), (9, (Value.func (.func 92) #[] #[(pN 5 0), (pN 6 0)]))] 1))), (1, (some (.marks true))), (2, (some (.cells (layT [(sW 0 0 (Args.A).length Args.cA)]) 22))), (3, (some (.cells (layT [(sN 4 0 (a0).length (Nat.add big 1))]) 27))), (4, (some (.cells (layT (iv a0)) 3))), (5, (some (.cells (layT [(sW 0 0 (Args.A).length Args.cA)]) 22))), (6, (some (.cells (layT [(i6 a1)]) 3)))], 7, 7⟩
def qfr_ (a0 : List Int) (a1 : Int) (a2 : Int) (r : List Int) : Value := match r with
 | o0 => (bO true)
def qfs_ (a0 : List Int) (a1 : Int) (a2 : Int) (r : List Int) : AH := match r with
 | o0 => ⟨sB [(0, (some (rblk P 30 [false, true, false, true, true, true] .ready none [(1, (pN 2 0)), (3, (pN 3 0)), (9, (Value.func (.func 92) #[] #[(pN 5 0), (pN 6 0)]))] 1))), (1, (some (.marks true))), (2, (some (.cells (layT [(sW 0 0 (Args.A).length Args.cA)]) 22))), (3, (some (.cells (layT [(sN 7 0 (o0).length (Nat.add big 1))]) 27))), (5, (some (.cells (layT [(sW 0 0 (Args.A).length Args.cA)]) 22))), (6, (some (.cells (layT [(i6 a1)]) 3))), (7, (some (.cells (layT (iv o0)) 3)))], 8, 0⟩
abbrev G_tL_111010y2 (a0 : List Int) (a1 : Int) (a2 : Int) (r : List Int) : Prop := Gv P (.yield 0) (qiu_ a0 a1 a2) (qiv_ a0 a1 a2) (qfr_ a0 a1 a2 r) (qfs_ a0 a1 a2 r)
abbrev C_tL_111010y2 (a0 : List Int) (a1 : Int) (a2 : Int) (r : List Int) (ins outs : BL) : CallA := ⟨7, ins, qfr_ a0 a1 a2 r, qfs_ a0 a1 a2 r, outs⟩
def qcs_ (n : Nat) (a0 : List Int) (a1 : Int) (a2 : Int) : Option (List Int) :=
 if 0 ≤ a2 ∧ a2 < (Args.A.length : Int) then
  ((some ((Args.A).getD (a2).toNat (0, 0, 0, 0, 0, 0, nl0, 0)))).bind fun c2_ =>
  (qg_ n (c2_.1) (c2_.2.1) (c2_.2.2.1) (c2_.2.2.2.1) (c2_.2.2.2.2.1) (c2_.2.2.2.2.2.1) (c2_.2.2.2.2.2.2.1) (c2_.2.2.2.2.2.2.2)).bind fun c3_ =>
  if c3_ = true then
   some a0
  else
   if ((a0).length + 1) * 8 ≤ 140737488355328 then
    some (a0 ++ [a2])
   else none
 else none
theorem qk0_ (n : Nat) (a0 : List Int) (a1 : Int) (a2 : Int) (r : List Int) (h : qcs_ n a0 a1 a2 = some r) : Gv P (.yield 0) (qiu_ a0 a1 a2) (qiv_ a0 a1 a2) (qfr_ a0 a1 a2 r) (qfs_ a0 a1 a2 r) := by
 unfold qcs_ at h
 obtain ⟨hc1, h⟩ := gd h
 obtain ⟨c2_, hc2, h⟩ := oB h
 obtain ⟨c3_, hc3, h⟩ := oB h
 by_cases hc4 : c3_ = true
 ·rw [if_pos hc4] at h
  obtain rfl := oI h; exact (qkt_ hm (A1 := aT []) (L1 := lT []) (A2 := aT [(4, .pur (pW 0 ((a2).toNat * 8))), (5, .ld (Value.agg #[(i6 (c2_.1)), (i6 (c2_.2.1)), (i6 (c2_.2.2.1)), (i6 (c2_.2.2.2.1)), (i6 (c2_.2.2.2.2.1)), (i6 (c2_.2.2.2.2.2.1)), (nlV (c2_.2.2.2.2.2.2.1)), (Value.int .u64 (c2_.2.2.2.2.2.2.2))])), (6, .call (qm_ (c2_.1) (c2_.2.1) (c2_.2.2.1) (c2_.2.2.2.1) (c2_.2.2.2.2.1) (c2_.2.2.2.2.2.1) (c2_.2.2.2.2.2.2.1) (c2_.2.2.2.2.2.2.2) c3_ [] [])), (7, vf)]) (L2 := lT []) (wk := ⟨[], [(0, 0, false), (1, 1, false), (2, 2, false), (3, 3, false), (5, 5, false), (6, 6, false), (7, 4, true)], 8, 0⟩) (ps := [xp1 0 (Args.A).length Args.cA a2, lp2 (a2).toNat c2_, qc0_ (c2_.1) (c2_.2.1) (c2_.2.2.1) (c2_.2.2.2.1) (c2_.2.2.2.2.1) (c2_.2.2.2.2.2.1) (c2_.2.2.2.2.2.2.1) (c2_.2.2.2.2.2.2.2) c3_, (Value.bool (!c3_)) = (Value.bool false), FlatB (.cells (layT (iv a0)) 3)]) (by kernel_rfl) ⟨((xk1 0 Args.cA hc1).p), ((lk2 hc2 (qc_ hc1)).p), (qh_ n (c2_.1) (c2_.2.1) (c2_.2.2.1) (c2_.2.2.2.1) (c2_.2.2.2.2.1) (c2_.2.2.2.2.2.1) (c2_.2.2.2.2.2.2.1) (c2_.2.2.2.2.2.2.2) c3_ hc3), (vBn hc4), (qb_ a0 3), trivial⟩)
 ·rw [if_neg hc4] at h
  obtain ⟨hc5, h⟩ := gd h
  obtain rfl := oI h; exact (qkt_ hm (A1 := aT []) (L1 := lT []) (A2 := aT [(4, .pur (pW 0 ((a2).toNat * 8))), (5, .ld (Value.agg #[(i6 (c2_.1)), (i6 (c2_.2.1)), (i6 (c2_.2.2.1)), (i6 (c2_.2.2.2.1)), (i6 (c2_.2.2.2.2.1)), (i6 (c2_.2.2.2.2.2.1)), (nlV (c2_.2.2.2.2.2.2.1)), (Value.int .u64 (c2_.2.2.2.2.2.2.2))])), (6, .call (qm_ (c2_.1) (c2_.2.1) (c2_.2.2.1) (c2_.2.2.2.1) (c2_.2.2.2.2.1) (c2_.2.2.2.2.2.1) (c2_.2.2.2.2.2.2.1) (c2_.2.2.2.2.2.2.2) c3_ [] [])), (7, vt), (12, .app ⟨none, iv a0, (iv (a0 ++ [a2])), ((a0 ++ [a2])).length, false⟩)]) (L2 := lT []) (wk := ⟨[], [(0, 0, false), (1, 1, false), (2, 2, false), (3, 3, false), (5, 5, false), (6, 6, false), (7, 8, true)], 8, 0⟩) (ps := [xp1 0 (Args.A).length Args.cA a2, lp2 (a2).toNat c2_, qc0_ (c2_.1) (c2_.2.1) (c2_.2.2.1) (c2_.2.2.2.1) (c2_.2.2.2.2.1) (c2_.2.2.2.2.2.1) (c2_.2.2.2.2.2.2.1) (c2_.2.2.2.2.2.2.2) c3_, (Value.bool (!c3_)) = (Value.bool true), 0 < 1, rdT (layT (iv a0)) (Nat.mul (a0).length 1) 0 = some (iv a0), fits (Nat.add (a0).length 1) 8 = true, qp_ [(i6 a2)] = true, qp_ (iv a0) = true, iv a0 ++ [(i6 a2)] = (iv (a0 ++ [a2])), Nat.add (a0).length 1 = ((a0 ++ [a2])).length, FlatB (.cells (layT (iv (a0 ++ [a2]))) 3)]) (by kernel_rfl) ⟨((xk1 0 Args.cA hc1).p), ((lk2 hc2 (qc_ hc1)).p), (qh_ n (c2_.1) (c2_.2.1) (c2_.2.2.1) (c2_.2.2.2.1) (c2_.2.2.2.2.1) (c2_.2.2.2.2.2.1) (c2_.2.2.2.2.2.2.1) (c2_.2.2.2.2.2.2.2) c3_ hc3), (vBn (Bool.eq_false_iff.2 hc4)), ((by decide)), (iv_rd _), (qfi_ hc5 (by have := hc5; show (_ : Nat) + _ ≤ _; omega)), (rfl), (iv_cells _), (by simp [iv]), (by simp), (qb_ (a0 ++ [a2]) 3), trivial⟩)

def A_tvq2 (a0 : Int) (a1 : List Int) (a2 : Int) : List Value := [(sW 0 0 (Args.A).length Args.cA), (i6 a0), (Value.func (.yield 0) #[] #[])]
def H_tvq2 (a0 : Int) (a1 : List Int) (a2 : Int) : AH := ⟨sB [(0, (some (rblk P 30 [false, true, false, true, true, true] .ready none [(1, (pN 2 0)), (3, (pN 3 0)), (9, (Value.func (.func 92) #[] #[(pN 5 0), (pN 6 0)]))] 1))), (1, (some (.marks true))), (2, (some (.cells (layT [(sW 0 0 (Args.A).length Args.cA)]) 22))), (3, (some (.cells (layT [(sN 4 0 (a1).length (Nat.add big 1))]) 27))), (4, (some (.cells (layT (iv a1)) 3))), (5, (some (.cells (layT [(sW 0 0 (Args.A).length Args.cA)]) 22))), (6, (some (.cells (layT [(i6 a2)]) 3)))], 7, 7⟩
def V_tvq2 (a0 : Int) (a1 : List Int) (a2 : Int) (r : List Int) : Value := match r with
 | o0 => (bO true)
def R_tvq2 (a0 : Int) (a1 : List Int) (a2 : Int) (r : List Int) : AH := match r with
 | o0 => ⟨sB [(0, (some (rblk P 30 [false, true, false, true, true, true] .ready none [(1, (pN 2 0)), (3, (pN 3 0)), (9, (Value.func (.func 92) #[] #[(pN 5 0), (pN 6 0)]))] 1))), (1, (some (.marks true))), (2, (some (.cells (layT [(sW 0 0 (Args.A).length Args.cA)]) 22))), (3, (some (.cells (layT [(sN 7 0 (o0).length (Nat.add big 1))]) 27))), (5, (some (.cells (layT [(sW 0 0 (Args.A).length Args.cA)]) 22))), (6, (some (.cells (layT [(i6 a2)]) 3))), (7, (some (.cells (layT (iv o0)) 3)))], 8, 0⟩
abbrev G_tvq2 (a0 : Int) (a1 : List Int) (a2 : Int) (r : List Int) : Prop := Gv P (.func 93) (A_tvq2 a0 a1 a2) (H_tvq2 a0 a1 a2) (V_tvq2 a0 a1 a2 r) (R_tvq2 a0 a1 a2 r)
abbrev C_tvq2 (a0 : Int) (a1 : List Int) (a2 : Int) (r : List Int) (ins outs : BL) : CallA := ⟨7, ins, V_tvq2 a0 a1 a2 r, R_tvq2 a0 a1 a2 r, outs⟩
def qk1_ (x1 : Int) (x2 : NL) (x3 : Int) (st : List Int × Int) : XSt := match st with
 | (x0, x4) => (sT 29 [(0, (sW 0 0 (Args.A).length Args.cA)), (2, (Value.func (.yield 0) #[] #[])), (17, (nlV x2)), (18, (i6 x3)), (19, (i6 x4))], [], ⟨sB [(0, (some (rblk P 30 [false, true, false, true, true, true] .ready none [(1, (pN 2 0)), (3, (pN 3 0)), (9, (Value.func (.func 92) #[] #[(pN 5 0), (pN 6 0)]))] 1))), (1, (some (.marks true))), (2, (some (.cells (layT [(sW 0 0 (Args.A).length Args.cA)]) 22))), (3, (some (.cells (layT [(sN 7 0 (x0).length (Nat.add big 1))]) 27))), (5, (some (.cells (layT [(sW 0 0 (Args.A).length Args.cA)]) 22))), (6, (some (.cells (layT [(i6 x1)]) 3))), (7, (some (.cells (layT (iv x0)) 3)))], 8, 0⟩)
def qh8_ (x1 : Int) (x2 : NL) (x3 : Int) (r : List Int) : Ex × XSt := match r with
 | z0 => (.exit 0, (sT 29 [], [], ⟨sB [(0, (some (rblk P 30 [false, true, false, true, true, true] .ready none [(1, (pN 2 0)), (3, (pN 3 0)), (9, (Value.func (.func 92) #[] #[(pN 5 0), (pN 6 0)]))] 1))), (1, (some (.marks true))), (2, (some (.cells (layT [(sW 0 0 (Args.A).length Args.cA)]) 22))), (3, (some (.cells (layT [(sN 7 0 (z0).length (Nat.add big 1))]) 27))), (5, (some (.cells (layT [(sW 0 0 (Args.A).length Args.cA)]) 22))), (6, (some (.cells (layT [(i6 x1)]) 3))), (7, (some (.cells (layT (iv z0)) 3)))], 8, 0⟩))
abbrev Q_tvq2_1 (rnd : Option Nat) (x1 : Int) (x2 : NL) (x3 : Int) (st : List Int × Int) (c : Ex × XSt) : Prop := CG P rnd (fnN P 93) 7 (qq_ P 93 [false, false, true, false, true, true]) (qk1_ x1 x2 x3 st) c
abbrev U_tvq2_1 (rd : Option Nat) (x1 : Int) (x2 : NL) (x3 : Int) (st : List Int × Int) (r : List Int) : Prop := CG P rd (fnN P 93) 7 (qq_ P 93 [false, true, false, true, true]) (qk1_ x1 x2 x3 st) (qh8_ x1 x2 x3 r)
def qdx_ (rec_tvq2 : (Int) → (List Int) → (Int) → Option (List Int)) (n : Nat) (x1 : Int) (x2 : NL) (x3 : Int) (st : List Int × Int) : Option ((List Int × Int) ⊕ (List Int)) := match st with
 | (x0, x4) =>
  if x4 < x3 then
   if 0 ≤ x4 ∧ x4 < (x2.l.length : Int) then
    if (x4).toNat < ((x2).l).length then
     ((some (((x2).l).getD (x4).toNat 0))).bind fun y4_ =>
     (rec_tvq2 y4_ x0 x1).bind fun y5_ =>
     some (.inl (y5_, (w64 (x4 + 1))))
    else none
   else none
  else
   some (.inr x0)
def qnr_ (rec_tvq2 : (Int) → (List Int) → (Int) → Option (List Int)) (n : Nat) (x1 : Int) (x2 : NL) (x3 : Int) (st : List Int × Int) : Option (List Int) := iterM (qdx_ rec_tvq2 n x1 x2 x3) n st
theorem q_tvq2_1_0 (rec_tvq2 : (Int) → (List Int) → (Int) → Option (List Int)) (hrec_tvq2 : ∀ (a0 : Int) (a1 : List Int) (a2 : Int) (r : List Int), rec_tvq2 a0 a1 a2 = some r → Gv P (.func 93) (A_tvq2 a0 a1 a2) (H_tvq2 a0 a1 a2) (V_tvq2 a0 a1 a2 r) (R_tvq2 a0 a1 a2 r)) (n : Nat) {rnd : Option Nat} (x0 : List Int) (x1 : Int) (x2 : NL) (x3 x4 : Int) (hy1 : x4 < x3) (hy2 : 0 ≤ x4 ∧ x4 < (x2.l.length : Int)) (hy3 : (x4).toNat < ((x2).l).length) (y4_ : Int) (hy4 : (some (((x2).l).getD (x4).toNat 0)) = some y4_) (y5_ : List Int) (hy5 : rec_tvq2 y4_ x0 x1 = some y5_) : Q_tvq2_1 rnd x1 x2 x3 (x0, x4) (.normal, qk1_ x1 x2 x3 (y5_, (w64 (x4 + 1)))) :=
 runC2 hm (L := lT []) ⟨[0, 2, 17, 18, 19], [(0, 0, false), (1, 1, false), (2, 2, false), (3, 3, false), (5, 5, false), (6, 6, false), (7, 8, true)], 8, 0⟩ (zz 1 (xdT hy1) <|
zz 7 (xk9 (Nat.add (x2).num 64) (x2).cap hy2) <|
zz 8 (nk10 hy4 hy3) <|
yy 14 (.call (C_tvq2 y4_ x0 x1 y5_ [(0, 0, false), (1, 1, false), (2, 2, false), (3, 3, false), (4, 7, true), (5, 5, false), (6, 6, false)] [(0, 0, false), (1, 1, false), (2, 2, false), (3, 3, false), (5, 5, false), (6, 6, false), (8, 7, true)])) <|
ww (hrec_tvq2 y4_ x0 x1 y5_ hy5) <|
ww (qb_ x0 3) <|
ww (qb_ y5_ 3) <|
ww (qb_ y5_ 3) <|
ee) (by kernel_rfl)
theorem q_tvq2_1_1 (rec_tvq2 : (Int) → (List Int) → (Int) → Option (List Int)) (hrec_tvq2 : ∀ (a0 : Int) (a1 : List Int) (a2 : Int) (r : List Int), rec_tvq2 a0 a1 a2 = some r → Gv P (.func 93) (A_tvq2 a0 a1 a2) (H_tvq2 a0 a1 a2) (V_tvq2 a0 a1 a2 r) (R_tvq2 a0 a1 a2 r)) (n : Nat) {rnd : Option Nat} (x0 : List Int) (x1 : Int) (x2 : NL) (x3 x4 : Int) (hy1 : ¬ (x4 < x3)) : Q_tvq2_1 rnd x1 x2 x3 (x0, x4) (qh8_ x1 x2 x3 x0) :=
 runC2 hm (L := lT []) ⟨[], [(0, 0, false), (1, 1, false), (2, 2, false), (3, 3, false), (5, 5, false), (6, 6, false), (7, 7, true)], 8, 0⟩ (zz 1 (xdF hy1) <|
ww (qb_ x0 3) <|
ee) (by kernel_rfl)
theorem m_tvq2_1_ok (rec_tvq2 : (Int) → (List Int) → (Int) → Option (List Int)) (hrec_tvq2 : ∀ (a0 : Int) (a1 : List Int) (a2 : Int) (r : List Int), rec_tvq2 a0 a1 a2 = some r → Gv P (.func 93) (A_tvq2 a0 a1 a2) (H_tvq2 a0 a1 a2) (V_tvq2 a0 a1 a2 r) (R_tvq2 a0 a1 a2 r)) (n : Nat) {rnd : Option Nat} (x1 : Int) (x2 : NL) (x3 : Int) (st : List Int × Int) (r : List Int) (h : qnr_ rec_tvq2 n x1 x2 x3 st = some r) : CG P rnd (fnN P 93) 7 (qq_ P 93 [false, true, false, true, true]) (qk1_ x1 x2 x3 st) (qh8_ x1 x2 x3 r) :=
 CG.iter (b := qq_ P 93 [false, false, true, false, true, true]) (by kernel_rfl) (body := qdx_ rec_tvq2 n x1 x2 x3) (S := qk1_ x1 x2 x3) (X := qh8_ x1 x2 x3)
  (fun s s' h => by
  obtain ⟨x0, x4⟩ := s
  unfold qdx_ at h
  dsimp only at h
  by_cases hy1 : x4 < x3
  ·rw [if_pos hy1] at h
   obtain ⟨hy2, h⟩ := gd h
   obtain ⟨hy3, h⟩ := gd h
   obtain ⟨y4_, hy4, h⟩ := oB h
   obtain ⟨y5_, hy5, h⟩ := oB h
   obtain rfl := Sum.inl.inj (oI h); exact q_tvq2_1_0 rec_tvq2 hrec_tvq2 n x0 x1 x2 x3 x4 hy1 hy2 hy3 y4_ hy4 y5_ hy5
  ·rw [if_neg hy1] at h
   cases h)
  (fun s r h => by
  obtain ⟨x0, x4⟩ := s
  unfold qdx_ at h
  dsimp only at h
  by_cases hy1 : x4 < x3
  ·rw [if_pos hy1] at h
   obtain ⟨hy2, h⟩ := gd h
   obtain ⟨hy3, h⟩ := gd h
   obtain ⟨y4_, hy4, h⟩ := oB h
   obtain ⟨y5_, hy5, h⟩ := oB h
   cases h
  ·rw [if_neg hy1] at h
   obtain rfl := Sum.inr.inj (oI h); exact q_tvq2_1_1 rec_tvq2 hrec_tvq2 n x0 x1 x2 x3 x4 hy1)
  (fun r => by intro hx; cases hx) h
def s_tvq2 (rec_tvq2 : (Int) → (List Int) → (Int) → Option (List Int)) (n : Nat) (a0 : Int) (a1 : List Int) (a2 : Int) : Option (List Int) :=
 (qcs_ n a1 a2 a0).bind fun c1_ =>
 if 0 ≤ a0 ∧ a0 < (Args.A.length : Int) then
  ((some ((Args.A).getD (a0).toNat (0, 0, 0, 0, 0, 0, nl0, 0)))).bind fun c3_ =>
  (qnr_ rec_tvq2 n a2 (c3_.2.2.2.2.2.2.1) (c3_.2.2.2.2.2.2.1.l.length : Int) (c1_, 0)).bind fun c4_ =>
  some c4_
 else none
theorem s_tvq2_ok (rec_tvq2 : (Int) → (List Int) → (Int) → Option (List Int)) (hrec_tvq2 : ∀ (a0 : Int) (a1 : List Int) (a2 : Int) (r : List Int), rec_tvq2 a0 a1 a2 = some r → Gv P (.func 93) (A_tvq2 a0 a1 a2) (H_tvq2 a0 a1 a2) (V_tvq2 a0 a1 a2 r) (R_tvq2 a0 a1 a2 r)) (n : Nat) (a0 : Int) (a1 : List Int) (a2 : Int) (r : List Int) (h : s_tvq2 rec_tvq2 n a0 a1 a2 = some r) : Gv P (.func 93) (A_tvq2 a0 a1 a2) (H_tvq2 a0 a1 a2) (V_tvq2 a0 a1 a2 r) (R_tvq2 a0 a1 a2 r) := by
 unfold s_tvq2 at h
 obtain ⟨c1_, hc1, h⟩ := oB h
 obtain ⟨hc2, h⟩ := gd h
 obtain ⟨c3_, hc3, h⟩ := oB h
 obtain ⟨c4_, hc4, h⟩ := oB h
 obtain rfl := oI h; exact (runF2 hm (L := lT [(19, ⟨⟨[0, 2, 17, 18, 19], [(0, 0, false), (1, 1, false), (2, 2, false), (3, 3, false), (5, 5, false), (6, 6, false), (7, 7, true)], 8, 0⟩, (qh8_ a2 (c3_.2.2.2.2.2.2.1) (c3_.2.2.2.2.2.2.1.l.length : Int) c4_).1, (qh8_ a2 (c3_.2.2.2.2.2.2.1) (c3_.2.2.2.2.2.2.1.l.length : Int) c4_).2⟩)]) ⟨[6], [(0, 0, false), (1, 1, false), (2, 2, false), (3, 3, false), (5, 5, false), (6, 6, false), (7, 7, true)], 8, 0⟩ (yy 6 (.call (C_tL_111010y2 a1 a2 a0 c1_ [(0, 0, false), (1, 1, false), (2, 2, false), (3, 3, false), (4, 4, true), (5, 5, false), (6, 6, false)] [(0, 0, false), (1, 1, false), (2, 2, false), (3, 3, false), (5, 5, false), (6, 6, false), (7, 7, true)])) <|
ww (qk0_ n a1 a2 a0 c1_ hc1) <|
ww (qb_ a1 3) <|
ww (qb_ c1_ 3) <|
zz 13 (xk1 0 Args.cA hc2) <|
zz 14 (fk7 ((a0).toNat * 8)) <|
zz 15 (lk8 hc3 (qc_ hc2)) <|
ww (p := U_tvq2_1 none a2 (c3_.2.2.2.2.2.2.1) (c3_.2.2.2.2.2.2.1.l.length : Int) (c1_, 0) c4_) (m_tvq2_1_ok rec_tvq2 hrec_tvq2 n a2 (c3_.2.2.2.2.2.2.1) (c3_.2.2.2.2.2.2.1.l.length : Int) (c1_, 0) c4_ hc4) <|
ww (qb_ c1_ 3) <|
ww (qb_ c4_ 3) ee) (by kernel_rfl))
def qh9_ : Nat → (Int) → (List Int) → (Int) → Option (List Int)
 | 0 => fun _ _ _ => none
 | n + 1 => fun a0 a1 a2 => s_tvq2 (qh9_ n) n a0 a1 a2
theorem m_tvq2_ok : ∀ (n : Nat) (a0 : Int) (a1 : List Int) (a2 : Int) (r : List Int) (h : qh9_ n a0 a1 a2 = some r), Gv P (.func 93) (A_tvq2 a0 a1 a2) (H_tvq2 a0 a1 a2) (V_tvq2 a0 a1 a2 r) (R_tvq2 a0 a1 a2 r)
 | 0, _, _, _, _, h => nomatch h
 | n + 1, a0, a1, a2, r, h => s_tvq2_ok (qh9_ n) (m_tvq2_ok n) n a0 a1 a2 r h

def qlh_ (a0 : Int) (a1 : Int) : List Value := [(sW 0 0 (Args.A).length Args.cA), (i6 a0), (Value.func (.yield 0) #[] #[])]
def qli_ (a0 : Int) (a1 : Int) : AH := ⟨sB [(0, (some (rblk P 30 [false, true, false, true, true, true] .ready none [(1, (pN 2 0)), (3, (pN 3 0)), (9, (Value.func (.func 92) #[] #[(pN 4 0), (pN 5 0)]))] 1))), (1, (some (.marks true))), (2, (some (.cells (layT [(sW 0 0 (Args.A).length Args.cA)]) 22))), (3, (some (.cells (layT [(Value.slice none 0 0)]) 27))), (4, (some (.cells (layT [(sW 0 0 (Args.A).length Args.cA)]) 22))), (5, (some (.cells (layT [(i6 a1)]) 3)))], 6, 6⟩
def qk2_ (a0 : Int) (a1 : Int) (r : List Int) : Value := match r with
 | o0 => (bO true)
def qk3_ (a0 : Int) (a1 : Int) (r : List Int) : AH := match r with
 | o0 => ⟨sB [(0, (some (rblk P 30 [false, true, false, true, true, true] .ready none [(1, (pN 2 0)), (3, (pN 3 0)), (9, (Value.func (.func 92) #[] #[(pN 4 0), (pN 5 0)]))] 1))), (1, (some (.marks true))), (2, (some (.cells (layT [(sW 0 0 (Args.A).length Args.cA)]) 22))), (3, (some (.cells (layT [(slN o0 6)]) 27))), (4, (some (.cells (layT [(sW 0 0 (Args.A).length Args.cA)]) 22))), (5, (some (.cells (layT [(i6 a1)]) 3))), (6, (nblk o0 3))], 7, 0⟩
abbrev G_tvq1 (a0 : Int) (a1 : Int) (r : List Int) : Prop := Gv P (.func 93) (qlh_ a0 a1) (qli_ a0 a1) (qk2_ a0 a1 r) (qk3_ a0 a1 r)
abbrev C_tvq1 (a0 : Int) (a1 : Int) (r : List Int) (ins outs : BL) : CallA := ⟨6, ins, qk2_ a0 a1 r, qk3_ a0 a1 r, outs⟩
def qgs_ (x1 : Int) (x2 : NL) (x3 : Int) (st : List Int × Int) : XSt := match st with
 | (x0, x4) => (sT 29 [(0, (sW 0 0 (Args.A).length Args.cA)), (2, (Value.func (.yield 0) #[] #[])), (17, (nlV x2)), (18, (i6 x3)), (19, (i6 x4))], [], ⟨sB [(0, (some (rblk P 30 [false, true, false, true, true, true] .ready none [(1, (pN 2 0)), (3, (pN 3 0)), (9, (Value.func (.func 92) #[] #[(pN 4 0), (pN 5 0)]))] 1))), (1, (some (.marks true))), (2, (some (.cells (layT [(sW 0 0 (Args.A).length Args.cA)]) 22))), (3, (some (.cells (layT [(slN x0 6)]) 27))), (4, (some (.cells (layT [(sW 0 0 (Args.A).length Args.cA)]) 22))), (5, (some (.cells (layT [(i6 x1)]) 3))), (6, (nblk x0 3))], 7, 0⟩)
def qci_ (x1 : Int) (x2 : NL) (x3 : Int) (r : List Int) : Ex × XSt := match r with
 | z0 => (.exit 0, (sT 29 [], [], ⟨sB [(0, (some (rblk P 30 [false, true, false, true, true, true] .ready none [(1, (pN 2 0)), (3, (pN 3 0)), (9, (Value.func (.func 92) #[] #[(pN 4 0), (pN 5 0)]))] 1))), (1, (some (.marks true))), (2, (some (.cells (layT [(sW 0 0 (Args.A).length Args.cA)]) 22))), (3, (some (.cells (layT [(slN z0 6)]) 27))), (4, (some (.cells (layT [(sW 0 0 (Args.A).length Args.cA)]) 22))), (5, (some (.cells (layT [(i6 x1)]) 3))), (6, (nblk z0 3))], 7, 0⟩))
abbrev qk4_ (rnd : Option Nat) (x1 : Int) (x2 : NL) (x3 : Int) (st : List Int × Int) (c : Ex × XSt) : Prop := CG P rnd (fnN P 93) 6 (qq_ P 93 [false, false, true, false, true, true]) (qgs_ x1 x2 x3 st) c
abbrev qns_ (rd : Option Nat) (x1 : Int) (x2 : NL) (x3 : Int) (st : List Int × Int) (r : List Int) : Prop := CG P rd (fnN P 93) 6 (qq_ P 93 [false, true, false, true, true]) (qgs_ x1 x2 x3 st) (qci_ x1 x2 x3 r)
def qcw_ (rec_tvq1 : (Int) → (Int) → Option (List Int)) (n : Nat) (x1 : Int) (x2 : NL) (x3 : Int) (st : List Int × Int) : Option ((List Int × Int) ⊕ (List Int)) := match st with
 | (x0, x4) =>
  match x0 with
  | [] =>
   if x4 < x3 then
    if 0 ≤ x4 ∧ x4 < (x2.l.length : Int) then
     if (x4).toNat < ((x2).l).length then
      ((some (((x2).l).getD (x4).toNat 0))).bind fun y4_ =>
      (rec_tvq1 y4_ x1).bind fun y5_ =>
      match y5_ with
      | [] =>
       some (.inl (([] : List Int), (w64 (x4 + 1))))
      | y1_5_a :: y1_5_t =>
       some (.inl ((y1_5_a :: y1_5_t), (w64 (x4 + 1))))
     else none
    else none
   else
    some (.inr ([] : List Int))
  | x0a :: x0t =>
   if x4 < x3 then
    if 0 ≤ x4 ∧ x4 < (x2.l.length : Int) then
     if (x4).toNat < ((x2).l).length then
      ((some (((x2).l).getD (x4).toNat 0))).bind fun y4_ =>
      (qh9_ n y4_ (x0a :: x0t) x1).bind fun y5_ =>
      match y5_ with
      | [] =>
       none
      | y1_5_a :: y1_5_t =>
       some (.inl ((y1_5_a :: y1_5_t), (w64 (x4 + 1))))
     else none
    else none
   else
    some (.inr (x0a :: x0t))
def qk5_ (rec_tvq1 : (Int) → (Int) → Option (List Int)) (n : Nat) (x1 : Int) (x2 : NL) (x3 : Int) (st : List Int × Int) : Option (List Int) := iterM (qcw_ rec_tvq1 n x1 x2 x3) n st
theorem q_tvq1_1_0 (rec_tvq1 : (Int) → (Int) → Option (List Int)) (hrec_tvq1 : ∀ (a0 : Int) (a1 : Int) (r : List Int), rec_tvq1 a0 a1 = some r → Gv P (.func 93) (qlh_ a0 a1) (qli_ a0 a1) (qk2_ a0 a1 r) (qk3_ a0 a1 r)) (n : Nat) {rnd : Option Nat} (x1 : Int) (x2 : NL) (x3 x4 : Int) (hy1 : x4 < x3) (hy2 : 0 ≤ x4 ∧ x4 < (x2.l.length : Int)) (hy3 : (x4).toNat < ((x2).l).length) (y4_ : Int) (hy4 : (some (((x2).l).getD (x4).toNat 0)) = some y4_) (hy5 : rec_tvq1 y4_ x1 = some []) : qk4_ rnd x1 x2 x3 (([] : List Int), x4) (.normal, qgs_ x1 x2 x3 (([] : List Int), (w64 (x4 + 1)))) :=
 runC2 hm (L := lT []) ⟨[0, 2, 17, 18, 19], [(0, 0, false), (1, 1, false), (2, 2, false), (3, 3, false), (4, 4, false), (5, 5, false)], 7, 0⟩ (zz 1 (xdT hy1) <|
zz 7 (xk9 (Nat.add (x2).num 64) (x2).cap hy2) <|
zz 8 (nk10 hy4 hy3) <|
yy 14 (.call (C_tvq1 y4_ x1 ([] : List Int) [(0, 0, false), (1, 1, false), (2, 2, false), (3, 3, false), (4, 4, false), (5, 5, false)] [(0, 0, false), (1, 1, false), (2, 2, false), (3, 3, false), (4, 4, false), (5, 5, false)])) <|
ww (hrec_tvq1 y4_ x1 ([] : List Int) hy5) <|
ee) (by kernel_rfl)
theorem q_tvq1_1_1 (rec_tvq1 : (Int) → (Int) → Option (List Int)) (hrec_tvq1 : ∀ (a0 : Int) (a1 : Int) (r : List Int), rec_tvq1 a0 a1 = some r → Gv P (.func 93) (qlh_ a0 a1) (qli_ a0 a1) (qk2_ a0 a1 r) (qk3_ a0 a1 r)) (n : Nat) {rnd : Option Nat} (x1 : Int) (x2 : NL) (x3 x4 : Int) (hy1 : x4 < x3) (hy2 : 0 ≤ x4 ∧ x4 < (x2.l.length : Int)) (hy3 : (x4).toNat < ((x2).l).length) (y4_ : Int) (hy4 : (some (((x2).l).getD (x4).toNat 0)) = some y4_) (y1_5_a : Int) (y1_5_t : List (Int)) (hy5 : rec_tvq1 y4_ x1 = some (y1_5_a :: y1_5_t)) : qk4_ rnd x1 x2 x3 (([] : List Int), x4) (.normal, qgs_ x1 x2 x3 ((y1_5_a :: y1_5_t), (w64 (x4 + 1)))) :=
 runC2 hm (L := lT []) ⟨[0, 2, 17, 18, 19], [(0, 0, false), (1, 1, false), (2, 2, false), (3, 3, false), (4, 4, false), (5, 5, false), (6, 7, true)], 7, 0⟩ (zz 1 (xdT hy1) <|
zz 7 (xk9 (Nat.add (x2).num 64) (x2).cap hy2) <|
zz 8 (nk10 hy4 hy3) <|
yy 14 (.call (C_tvq1 y4_ x1 (y1_5_a :: y1_5_t) [(0, 0, false), (1, 1, false), (2, 2, false), (3, 3, false), (4, 4, false), (5, 5, false)] [(0, 0, false), (1, 1, false), (2, 2, false), (3, 3, false), (4, 4, false), (5, 5, false), (7, 6, true)])) <|
ww (hrec_tvq1 y4_ x1 (y1_5_a :: y1_5_t) hy5) <|
ww (qb_ (y1_5_a :: y1_5_t) 3) <|
ww (qb_ (y1_5_a :: y1_5_t) 3) <|
ee) (by kernel_rfl)
theorem q_tvq1_1_2 (rec_tvq1 : (Int) → (Int) → Option (List Int)) (hrec_tvq1 : ∀ (a0 : Int) (a1 : Int) (r : List Int), rec_tvq1 a0 a1 = some r → Gv P (.func 93) (qlh_ a0 a1) (qli_ a0 a1) (qk2_ a0 a1 r) (qk3_ a0 a1 r)) (n : Nat) {rnd : Option Nat} (x1 : Int) (x2 : NL) (x3 x4 : Int) (hy1 : ¬ (x4 < x3)) : qk4_ rnd x1 x2 x3 (([] : List Int), x4) (qci_ x1 x2 x3 ([] : List Int)) :=
 runC2 hm (L := lT []) ⟨[], [(0, 0, false), (1, 1, false), (2, 2, false), (3, 3, false), (4, 4, false), (5, 5, false)], 7, 0⟩ (zz 1 (xdF hy1) <|
ee) (by kernel_rfl)
theorem q_tvq1_1_3 (rec_tvq1 : (Int) → (Int) → Option (List Int)) (hrec_tvq1 : ∀ (a0 : Int) (a1 : Int) (r : List Int), rec_tvq1 a0 a1 = some r → Gv P (.func 93) (qlh_ a0 a1) (qli_ a0 a1) (qk2_ a0 a1 r) (qk3_ a0 a1 r)) (n : Nat) {rnd : Option Nat} (x0a : Int) (x0t : List (Int)) (x1 : Int) (x2 : NL) (x3 x4 : Int) (hy1 : x4 < x3) (hy2 : 0 ≤ x4 ∧ x4 < (x2.l.length : Int)) (hy3 : (x4).toNat < ((x2).l).length) (y4_ : Int) (hy4 : (some (((x2).l).getD (x4).toNat 0)) = some y4_) (y1_5_a : Int) (y1_5_t : List (Int)) (hy5 : qh9_ n y4_ (x0a :: x0t) x1 = some (y1_5_a :: y1_5_t)) : qk4_ rnd x1 x2 x3 ((x0a :: x0t), x4) (.normal, qgs_ x1 x2 x3 ((y1_5_a :: y1_5_t), (w64 (x4 + 1)))) :=
 runC2 hm (L := lT []) ⟨[0, 2, 17, 18, 19], [(0, 0, false), (1, 1, false), (2, 2, false), (3, 3, false), (4, 4, false), (5, 5, false), (6, 7, true)], 7, 0⟩ (zz 1 (xdT hy1) <|
zz 7 (xk9 (Nat.add (x2).num 64) (x2).cap hy2) <|
zz 8 (nk10 hy4 hy3) <|
yy 14 (.call (C_tvq2 y4_ (x0a :: x0t) x1 (y1_5_a :: y1_5_t) [(0, 0, false), (1, 1, false), (2, 2, false), (3, 3, false), (4, 6, true), (5, 4, false), (6, 5, false)] [(0, 0, false), (1, 1, false), (2, 2, false), (3, 3, false), (4, 5, false), (5, 6, false), (7, 7, true)])) <|
ww (m_tvq2_ok n y4_ (x0a :: x0t) x1 (y1_5_a :: y1_5_t) hy5) <|
ww (qb_ (x0a :: x0t) 3) <|
ww (qb_ (y1_5_a :: y1_5_t) 3) <|
ww (qb_ (y1_5_a :: y1_5_t) 3) <|
ee) (by kernel_rfl)
theorem q_tvq1_1_4 (rec_tvq1 : (Int) → (Int) → Option (List Int)) (hrec_tvq1 : ∀ (a0 : Int) (a1 : Int) (r : List Int), rec_tvq1 a0 a1 = some r → Gv P (.func 93) (qlh_ a0 a1) (qli_ a0 a1) (qk2_ a0 a1 r) (qk3_ a0 a1 r)) (n : Nat) {rnd : Option Nat} (x0a : Int) (x0t : List (Int)) (x1 : Int) (x2 : NL) (x3 x4 : Int) (hy1 : ¬ (x4 < x3)) : qk4_ rnd x1 x2 x3 ((x0a :: x0t), x4) (qci_ x1 x2 x3 (x0a :: x0t)) :=
 runC2 hm (L := lT []) ⟨[], [(0, 0, false), (1, 1, false), (2, 2, false), (3, 3, false), (4, 4, false), (5, 5, false), (6, 6, true)], 7, 0⟩ (zz 1 (xdF hy1) <|
ww (qb_ (x0a :: x0t) 3) <|
ee) (by kernel_rfl)
theorem qf6_ (rec_tvq1 : (Int) → (Int) → Option (List Int)) (hrec_tvq1 : ∀ (a0 : Int) (a1 : Int) (r : List Int), rec_tvq1 a0 a1 = some r → Gv P (.func 93) (qlh_ a0 a1) (qli_ a0 a1) (qk2_ a0 a1 r) (qk3_ a0 a1 r)) (n : Nat) {rnd : Option Nat} (x1 : Int) (x2 : NL) (x3 : Int) (st : List Int × Int) (r : List Int) (h : qk5_ rec_tvq1 n x1 x2 x3 st = some r) : CG P rnd (fnN P 93) 6 (qq_ P 93 [false, true, false, true, true]) (qgs_ x1 x2 x3 st) (qci_ x1 x2 x3 r) :=
 CG.iter (b := qq_ P 93 [false, false, true, false, true, true]) (by kernel_rfl) (body := qcw_ rec_tvq1 n x1 x2 x3) (S := qgs_ x1 x2 x3) (X := qci_ x1 x2 x3)
  (fun s s' h => by
  obtain ⟨x0, x4⟩ := s
  unfold qcw_ at h
  dsimp only at h
  cases x0 with
  | nil =>
   dsimp only at h
   by_cases hy1 : x4 < x3
   ·rw [if_pos hy1] at h
    obtain ⟨hy2, h⟩ := gd h
    obtain ⟨hy3, h⟩ := gd h
    obtain ⟨y4_, hy4, h⟩ := oB h
    obtain ⟨y5_, hy5, h⟩ := oB h
    cases y5_ with
    | nil =>
     dsimp only at h
     obtain rfl := Sum.inl.inj (oI h); exact q_tvq1_1_0 rec_tvq1 hrec_tvq1 n x1 x2 x3 x4 hy1 hy2 hy3 y4_ hy4 hy5
    | cons y1_5_a y1_5_t =>
     dsimp only at h
     obtain rfl := Sum.inl.inj (oI h); exact q_tvq1_1_1 rec_tvq1 hrec_tvq1 n x1 x2 x3 x4 hy1 hy2 hy3 y4_ hy4 y1_5_a y1_5_t hy5
   ·rw [if_neg hy1] at h
    cases h
  | cons x0a x0t =>
   dsimp only at h
   by_cases hy1 : x4 < x3
   ·rw [if_pos hy1] at h
    obtain ⟨hy2, h⟩ := gd h
    obtain ⟨hy3, h⟩ := gd h
    obtain ⟨y4_, hy4, h⟩ := oB h
    obtain ⟨y5_, hy5, h⟩ := oB h
    cases y5_ with
    | nil =>
     dsimp only at h
     cases h
    | cons y1_5_a y1_5_t =>
     dsimp only at h
     obtain rfl := Sum.inl.inj (oI h); exact q_tvq1_1_3 rec_tvq1 hrec_tvq1 n x0a x0t x1 x2 x3 x4 hy1 hy2 hy3 y4_ hy4 y1_5_a y1_5_t hy5
   ·rw [if_neg hy1] at h
    cases h)
  (fun s r h => by
  obtain ⟨x0, x4⟩ := s
  unfold qcw_ at h
  dsimp only at h
  cases x0 with
  | nil =>
   dsimp only at h
   by_cases hy1 : x4 < x3
   ·rw [if_pos hy1] at h
    obtain ⟨hy2, h⟩ := gd h
    obtain ⟨hy3, h⟩ := gd h
    obtain ⟨y4_, hy4, h⟩ := oB h
    obtain ⟨y5_, hy5, h⟩ := oB h
    cases y5_ with
    | nil =>
     dsimp only at h
     cases h
    | cons y1_5_a y1_5_t =>
     dsimp only at h
     cases h
   ·rw [if_neg hy1] at h
    obtain rfl := Sum.inr.inj (oI h); exact q_tvq1_1_2 rec_tvq1 hrec_tvq1 n x1 x2 x3 x4 hy1
  | cons x0a x0t =>
   dsimp only at h
   by_cases hy1 : x4 < x3
   ·rw [if_pos hy1] at h
    obtain ⟨hy2, h⟩ := gd h
    obtain ⟨hy3, h⟩ := gd h
    obtain ⟨y4_, hy4, h⟩ := oB h
    obtain ⟨y5_, hy5, h⟩ := oB h
    cases y5_ with
    | nil =>
     dsimp only at h
     cases h
    | cons y1_5_a y1_5_t =>
     dsimp only at h
     cases h
   ·rw [if_neg hy1] at h
    obtain rfl := Sum.inr.inj (oI h); exact q_tvq1_1_4 rec_tvq1 hrec_tvq1 n x0a x0t x1 x2 x3 x4 hy1)
  (fun r => by intro hx; cases hx) h
def s_tvq1 (rec_tvq1 : (Int) → (Int) → Option (List Int)) (n : Nat) (a0 : Int) (a1 : Int) : Option (List Int) :=
 (qcr_ n a1 a0).bind fun c1_ =>
 match c1_ with
 | [] =>
  if 0 ≤ a0 ∧ a0 < (Args.A.length : Int) then
   ((some ((Args.A).getD (a0).toNat (0, 0, 0, 0, 0, 0, nl0, 0)))).bind fun c3_ =>
   (qk5_ rec_tvq1 n a1 (c3_.2.2.2.2.2.2.1) (c3_.2.2.2.2.2.2.1.l.length : Int) (([] : List Int), 0)).bind fun c4_ =>
   match c4_ with
   | [] =>
    some ([] : List Int)
   | c4_a :: c4_t =>
    some (c4_a :: c4_t)
  else none
 | c1_a :: c1_t =>
  if 0 ≤ a0 ∧ a0 < (Args.A.length : Int) then
   ((some ((Args.A).getD (a0).toNat (0, 0, 0, 0, 0, 0, nl0, 0)))).bind fun c3_ =>
   (qk5_ rec_tvq1 n a1 (c3_.2.2.2.2.2.2.1) (c3_.2.2.2.2.2.2.1.l.length : Int) ((c1_a :: c1_t), 0)).bind fun c4_ =>
   match c4_ with
   | [] =>
    some ([] : List Int)
   | c4_a :: c4_t =>
    some (c4_a :: c4_t)
  else none
theorem s_tvq1_ok (rec_tvq1 : (Int) → (Int) → Option (List Int)) (hrec_tvq1 : ∀ (a0 : Int) (a1 : Int) (r : List Int), rec_tvq1 a0 a1 = some r → Gv P (.func 93) (qlh_ a0 a1) (qli_ a0 a1) (qk2_ a0 a1 r) (qk3_ a0 a1 r)) (n : Nat) (a0 : Int) (a1 : Int) (r : List Int) (h : s_tvq1 rec_tvq1 n a0 a1 = some r) : Gv P (.func 93) (qlh_ a0 a1) (qli_ a0 a1) (qk2_ a0 a1 r) (qk3_ a0 a1 r) := by
 unfold s_tvq1 at h
 obtain ⟨c1_, hc1, h⟩ := oB h
 cases c1_ with
 | nil =>
  dsimp only at h
  obtain ⟨hc2, h⟩ := gd h
  obtain ⟨c3_, hc3, h⟩ := oB h
  obtain ⟨c4_, hc4, h⟩ := oB h
  cases c4_ with
  | nil =>
   dsimp only at h
   obtain rfl := oI h; exact (runF2 hm (L := lT [(19, ⟨⟨[0, 2, 17, 18, 19], [(0, 0, false), (1, 1, false), (2, 2, false), (3, 3, false), (4, 4, false), (5, 5, false)], 7, 0⟩, (qci_ a1 (c3_.2.2.2.2.2.2.1) (c3_.2.2.2.2.2.2.1.l.length : Int) ([] : List Int)).1, (qci_ a1 (c3_.2.2.2.2.2.2.1) (c3_.2.2.2.2.2.2.1.l.length : Int) ([] : List Int)).2⟩)]) ⟨[6], [(0, 0, false), (1, 1, false), (2, 2, false), (3, 3, false), (4, 4, false), (5, 5, false)], 7, 0⟩ (yy 6 (.call (qdr_ a1 a0 ([] : List Int) [(0, 0, false), (1, 1, false), (2, 2, false), (3, 3, false), (4, 4, false), (5, 5, false)] [(0, 0, false), (1, 1, false), (2, 2, false), (3, 3, false), (4, 4, false), (5, 5, false)])) <|
ww (qcb_ n a1 a0 ([] : List Int) hc1) <|
zz 13 (xk1 0 Args.cA hc2) <|
zz 14 (fk7 ((a0).toNat * 8)) <|
zz 15 (lk8 hc3 (qc_ hc2)) <|
ww (p := qns_ none a1 (c3_.2.2.2.2.2.2.1) (c3_.2.2.2.2.2.2.1.l.length : Int) (([] : List Int), 0) ([] : List Int)) (qf6_ rec_tvq1 hrec_tvq1 n a1 (c3_.2.2.2.2.2.2.1) (c3_.2.2.2.2.2.2.1.l.length : Int) (([] : List Int), 0) ([] : List Int) hc4) ee) (by kernel_rfl))
  | cons c4_a c4_t =>
   dsimp only at h
   obtain rfl := oI h; exact (runF2 hm (L := lT [(19, ⟨⟨[0, 2, 17, 18, 19], [(0, 0, false), (1, 1, false), (2, 2, false), (3, 3, false), (4, 4, false), (5, 5, false)], 7, 0⟩, (qci_ a1 (c3_.2.2.2.2.2.2.1) (c3_.2.2.2.2.2.2.1.l.length : Int) (c4_a :: c4_t)).1, (qci_ a1 (c3_.2.2.2.2.2.2.1) (c3_.2.2.2.2.2.2.1.l.length : Int) (c4_a :: c4_t)).2⟩)]) ⟨[6], [(0, 0, false), (1, 1, false), (2, 2, false), (3, 3, false), (4, 4, false), (5, 5, false), (6, 6, true)], 7, 0⟩ (yy 6 (.call (qdr_ a1 a0 ([] : List Int) [(0, 0, false), (1, 1, false), (2, 2, false), (3, 3, false), (4, 4, false), (5, 5, false)] [(0, 0, false), (1, 1, false), (2, 2, false), (3, 3, false), (4, 4, false), (5, 5, false)])) <|
ww (qcb_ n a1 a0 ([] : List Int) hc1) <|
zz 13 (xk1 0 Args.cA hc2) <|
zz 14 (fk7 ((a0).toNat * 8)) <|
zz 15 (lk8 hc3 (qc_ hc2)) <|
ww (p := qns_ none a1 (c3_.2.2.2.2.2.2.1) (c3_.2.2.2.2.2.2.1.l.length : Int) (([] : List Int), 0) (c4_a :: c4_t)) (qf6_ rec_tvq1 hrec_tvq1 n a1 (c3_.2.2.2.2.2.2.1) (c3_.2.2.2.2.2.2.1.l.length : Int) (([] : List Int), 0) (c4_a :: c4_t) hc4) <|
ww (qb_ (c4_a :: c4_t) 3) ee) (by kernel_rfl))
 | cons c1_a c1_t =>
  dsimp only at h
  obtain ⟨hc2, h⟩ := gd h
  obtain ⟨c3_, hc3, h⟩ := oB h
  obtain ⟨c4_, hc4, h⟩ := oB h
  cases c4_ with
  | nil =>
   dsimp only at h
   obtain rfl := oI h; exact (runF2 hm (L := lT [(19, ⟨⟨[0, 2, 17, 18, 19], [(0, 0, false), (1, 1, false), (2, 2, false), (3, 3, false), (4, 4, false), (5, 5, false), (6, 6, true)], 7, 0⟩, (qci_ a1 (c3_.2.2.2.2.2.2.1) (c3_.2.2.2.2.2.2.1.l.length : Int) ([] : List Int)).1, (qci_ a1 (c3_.2.2.2.2.2.2.1) (c3_.2.2.2.2.2.2.1.l.length : Int) ([] : List Int)).2⟩)]) ⟨[6], [(0, 0, false), (1, 1, false), (2, 2, false), (3, 3, false), (4, 4, false), (5, 5, false)], 7, 0⟩ (yy 6 (.call (qdr_ a1 a0 (c1_a :: c1_t) [(0, 0, false), (1, 1, false), (2, 2, false), (3, 3, false), (4, 4, false), (5, 5, false)] [(0, 0, false), (1, 1, false), (2, 2, false), (3, 3, false), (4, 4, false), (5, 5, false), (6, 6, true)])) <|
ww (qcb_ n a1 a0 (c1_a :: c1_t) hc1) <|
ww (qb_ (c1_a :: c1_t) 3) <|
zz 13 (xk1 0 Args.cA hc2) <|
zz 14 (fk7 ((a0).toNat * 8)) <|
zz 15 (lk8 hc3 (qc_ hc2)) <|
ww (p := qns_ none a1 (c3_.2.2.2.2.2.2.1) (c3_.2.2.2.2.2.2.1.l.length : Int) ((c1_a :: c1_t), 0) ([] : List Int)) (qf6_ rec_tvq1 hrec_tvq1 n a1 (c3_.2.2.2.2.2.2.1) (c3_.2.2.2.2.2.2.1.l.length : Int) ((c1_a :: c1_t), 0) ([] : List Int) hc4) <|
ww (qb_ (c1_a :: c1_t) 3) ee) (by kernel_rfl))
  | cons c4_a c4_t =>
   dsimp only at h
   obtain rfl := oI h; exact (runF2 hm (L := lT [(19, ⟨⟨[0, 2, 17, 18, 19], [(0, 0, false), (1, 1, false), (2, 2, false), (3, 3, false), (4, 4, false), (5, 5, false), (6, 6, true)], 7, 0⟩, (qci_ a1 (c3_.2.2.2.2.2.2.1) (c3_.2.2.2.2.2.2.1.l.length : Int) (c4_a :: c4_t)).1, (qci_ a1 (c3_.2.2.2.2.2.2.1) (c3_.2.2.2.2.2.2.1.l.length : Int) (c4_a :: c4_t)).2⟩)]) ⟨[6], [(0, 0, false), (1, 1, false), (2, 2, false), (3, 3, false), (4, 4, false), (5, 5, false), (6, 6, true)], 7, 0⟩ (yy 6 (.call (qdr_ a1 a0 (c1_a :: c1_t) [(0, 0, false), (1, 1, false), (2, 2, false), (3, 3, false), (4, 4, false), (5, 5, false)] [(0, 0, false), (1, 1, false), (2, 2, false), (3, 3, false), (4, 4, false), (5, 5, false), (6, 6, true)])) <|
ww (qcb_ n a1 a0 (c1_a :: c1_t) hc1) <|
ww (qb_ (c1_a :: c1_t) 3) <|
zz 13 (xk1 0 Args.cA hc2) <|
zz 14 (fk7 ((a0).toNat * 8)) <|
zz 15 (lk8 hc3 (qc_ hc2)) <|
ww (p := qns_ none a1 (c3_.2.2.2.2.2.2.1) (c3_.2.2.2.2.2.2.1.l.length : Int) ((c1_a :: c1_t), 0) (c4_a :: c4_t)) (qf6_ rec_tvq1 hrec_tvq1 n a1 (c3_.2.2.2.2.2.2.1) (c3_.2.2.2.2.2.2.1.l.length : Int) ((c1_a :: c1_t), 0) (c4_a :: c4_t) hc4) <|
ww (qb_ (c1_a :: c1_t) 3) <|
ww (qb_ (c4_a :: c4_t) 3) ee) (by kernel_rfl))
def qhl_ : Nat → (Int) → (Int) → Option (List Int)
 | 0 => fun _ _ => none
 | n + 1 => fun a0 a1 => s_tvq1 (qhl_ n) n a0 a1
theorem qnt_ : ∀ (n : Nat) (a0 : Int) (a1 : Int) (r : List Int) (h : qhl_ n a0 a1 = some r), Gv P (.func 93) (qlh_ a0 a1) (qli_ a0 a1) (qk2_ a0 a1 r) (qk3_ a0 a1 r)
 | 0, _, _, _, h => nomatch h
 | n + 1, a0, a1, r, h => s_tvq1_ok (qhl_ n) (qnt_ n) n a0 a1 r h


end Go.Proofs.YtmjibnlojmdcgaaGreatDoor.mlt19
