/-
  What functions do, told by pure functions. No condition.
-/
import Derived.Test.YtggbmhhikafdhaaTedATold
set_option linter.unusedSimpArgs false
set_option linter.unusedVariables false
set_option linter.unusedSectionVars false
set_option linter.unnecessarySimpa false
set_option maxRecDepth 100000
noncomputable section
namespace Go.Proofs.Ytggbmhhikafdhaa.ted16
open Go Go.Proofs.Ytggbmhhikafdhaa Ax
variable [Args]
def A_iOq2 (a0 : List R8) (a1 : Nat) (a2 : Nat) : List Value := [(sN 0 0 a1 a2)]
def H_iOq2 (a0 : List R8) (a1 : Nat) (a2 : Nat) : AH := ⟨sB [(0, (some (.cells (layT (rows rw_iiiiiiLu a0)) 32)))], 1, 1⟩
def V_iOq2 (a0 : List R8) (a1 : Nat) (a2 : Nat) (r : Bool) : Value := match r with
 | o0 => (bO o0)
def R_iOq2 (a0 : List R8) (a1 : Nat) (a2 : Nat) (r : Bool) : AH := match r with
 | o0 => ⟨sB [], 1, 1⟩
abbrev G_iOq2 (a0 : List R8) (a1 : Nat) (a2 : Nat) (r : Bool) : Prop := Gv P (.func 18) (A_iOq2 a0 a1 a2) (H_iOq2 a0 a1 a2) (V_iOq2 a0 a1 a2 r) (R_iOq2 a0 a1 a2 r)
abbrev C_iOq2 (a0 : List R8) (a1 : Nat) (a2 : Nat) (r : Bool) (ins outs : BL) : CallA := ⟨1, ins, V_iOq2 a0 a1 a2 r, R_iOq2 a0 a1 a2 r, outs⟩
def S_iOq2_1 (x1_0 : List R8) (x1_1 : Nat) (x1_2 : Nat) (x1_5 : Int) (st : List (Int × Int × Int) × Nat × Int) : XSt := match st with
 | (x1_3, x1_4, x1_6) => (sT 99 [(0, (sN 0 0 x1_1 x1_2)), (3, (slQ x1_3 1 x1_4 3)), (8, (sN 0 0 x1_1 x1_2)), (9, (i6 x1_5)), (10, (i6 x1_6))], [], ⟨sB [(0, (some (.cells (layT (rows rw_iiiiiiLu x1_0)) 32))), (1, (nblkR rw_iii x1_3 65))], 2, 1⟩)
def X_iOq2_1 (x1_0 : List R8) (x1_1 : Nat) (x1_2 : Nat) (x1_5 : Int) (r : (Unit) ⊕ (List (Int × Int × Int) × Nat)) : Ex × XSt := match r with
 | .inl _ => (.ret, (sT 99 [(2, (bO false))], [], ⟨sB [(0, (some (.cells (layT (rows rw_iiiiiiLu x1_0)) 32)))], 1, 1⟩))
 | .inr (z1_0, z1_1) => (.exit 0, (sT 99 [(3, (slQ z1_0 1 z1_1 3))], [], ⟨sB [(0, (some (.cells (layT (rows rw_iiiiiiLu x1_0)) 32))), (1, (nblkR rw_iii z1_0 65))], 2, 1⟩))
abbrev Q_iOq2_1 (rnd : Option Nat) (x1_0 : List R8) (x1_1 : Nat) (x1_2 : Nat) (x1_5 : Int) (st : List (Int × Int × Int) × Nat × Int) (c : Ex × XSt) : Prop := CG P rnd (fnN P 18) 1 (codeOf P 18 [false, false, true, false, true, true]) (S_iOq2_1 x1_0 x1_1 x1_2 x1_5 st) c
abbrev U_iOq2_1 (rd : Option Nat) (x1_0 : List R8) (x1_1 : Nat) (x1_2 : Nat) (x1_5 : Int) (st : List (Int × Int × Int) × Nat × Int) (r : (Unit) ⊕ (List (Int × Int × Int) × Nat)) : Prop := CG P rd (fnN P 18) 1 (codeOf P 18 [false, true, false, true, true]) (S_iOq2_1 x1_0 x1_1 x1_2 x1_5 st) (X_iOq2_1 x1_0 x1_1 x1_2 x1_5 r)
def B_iOq2_1 (n : Nat) (x1_0 : List R8) (x1_1 : Nat) (x1_2 : Nat) (x1_5 : Int) (st : List (Int × Int × Int) × Nat × Int) : Option ((List (Int × Int × Int) × Nat × Int) ⊕ ((Unit) ⊕ (List (Int × Int × Int) × Nat))) := match st with
 | (x1_3, x1_4, x1_6) =>
  match x1_3 with
  | [] =>
   if x1_6 < x1_5 then
    if 0 ≤ x1_6 ∧ x1_6 < ((x1_1 : Nat) : Int) then
     if (x1_6).toNat < (x1_0).length then
      ((some ((x1_0).getD (x1_6).toNat (0, 0, 0, 0, 0, 0, nl0, 0)))).bind fun y1_4_ =>
      if x1_6 > (0 : Int) then
       some (.inr (.inl ()))
      else
       if (y1_4_.2.2.2.2.2.2.1.l.length : Int) > (0 : Int) then
        some (.inl ([(x1_6, (0 : Int), (y1_4_.2.2.1))], 1, (w64 (x1_6 + (1 : Int)))))
       else
        some (.inl (([] : List (Int × Int × Int)), 0, (w64 (x1_6 + (1 : Int)))))
     else none
    else none
   else
    some (.inr (.inr (([] : List (Int × Int × Int)), 0)))
  | x1_3a :: x1_3t =>
   if x1_6 < x1_5 then
    if 0 ≤ x1_6 ∧ x1_6 < ((x1_1 : Nat) : Int) then
     if (x1_6).toNat < (x1_0).length then
      ((some ((x1_0).getD (x1_6).toNat (0, 0, 0, 0, 0, 0, nl0, 0)))).bind fun y1_4_ =>
      if x1_6 > (0 : Int) then
       if ((x1_4 : Nat) : Int) = (0 : Int) then
        some (.inr (.inl ()))
       else
        ((some (w64 (((x1_4 : Nat) : Int) - (1 : Int))))).bind fun y1_7_ =>
        if 0 ≤ y1_7_ ∧ y1_7_ < ((x1_4 : Nat) : Int) then
         if (y1_7_).toNat < ((x1_3a :: x1_3t)).length then
          ((some (((x1_3a :: x1_3t)).getD (y1_7_).toNat (0, 0, 0)))).bind fun y1_10_ =>
          if 0 ≤ (y1_10_.1) ∧ (y1_10_.1) < ((x1_1 : Nat) : Int) then
           if ((y1_10_.1)).toNat < (x1_0).length then
            ((some ((x1_0).getD ((y1_10_.1)).toNat (0, 0, 0, 0, 0, 0, nl0, 0)))).bind fun y1_13_ =>
            if 0 ≤ (y1_10_.2.1) ∧ (y1_10_.2.1) < (y1_13_.2.2.2.2.2.2.1.l.length : Int) then
             if ((y1_10_.2.1)).toNat < (((y1_13_.2.2.2.2.2.2.1)).l).length then
              ((some ((((y1_13_.2.2.2.2.2.2.1)).l).getD ((y1_10_.2.1)).toNat 0))).bind fun y1_16_ =>
              if y1_16_ = x1_6 then
               if (y1_4_.2.2.1) < (y1_10_.2.2) then
                some (.inr (.inl ()))
               else
                if (y1_4_.2.2.2.2.1) > (y1_13_.2.2.2.2.1) then
                 some (.inr (.inl ()))
                else
                 if (w64 ((y1_10_.2.1) + (1 : Int))) = (y1_13_.2.2.2.2.2.2.1.l.length : Int) then
                  if 0 ≤ y1_7_ ∧ y1_7_ ≤ ((x1_4 : Nat) : Int) then
                   if (y1_4_.2.2.2.2.2.2.1.l.length : Int) > (0 : Int) then
                    if (y1_7_).toNat ≤ ((((x1_3a :: x1_3t)).set (y1_7_).toNat ((y1_10_.1), (w64 ((y1_10_.2.1) + (1 : Int))), (y1_4_.2.2.2.2.1)))).length then
                     if ((y1_7_).toNat + 1) * 24 ≤ 140737488355328 then
                      some (.inl (((List.take (y1_7_).toNat (((x1_3a :: x1_3t)).set (y1_7_).toNat ((y1_10_.1), (w64 ((y1_10_.2.1) + (1 : Int))), (y1_4_.2.2.2.2.1)))) ++ [(x1_6, (0 : Int), (y1_4_.2.2.1))]), ((((List.take (y1_7_).toNat (((x1_3a :: x1_3t)).set (y1_7_).toNat ((y1_10_.1), (w64 ((y1_10_.2.1) + (1 : Int))), (y1_4_.2.2.2.2.1)))) ++ [(x1_6, (0 : Int), (y1_4_.2.2.1))])).length), (w64 (x1_6 + (1 : Int)))))
                     else none
                    else none
                   else
                    some (.inl ((((x1_3a :: x1_3t)).set (y1_7_).toNat ((y1_10_.1), (w64 ((y1_10_.2.1) + (1 : Int))), (y1_4_.2.2.2.2.1))), ((y1_7_).toNat), (w64 (x1_6 + (1 : Int)))))
                  else none
                 else
                  if (y1_4_.2.2.2.2.2.2.1.l.length : Int) > (0 : Int) then
                   if x1_4 ≤ ((((x1_3a :: x1_3t)).set (y1_7_).toNat ((y1_10_.1), (w64 ((y1_10_.2.1) + (1 : Int))), (y1_4_.2.2.2.2.1)))).length then
                    if (x1_4 + 1) * 24 ≤ 140737488355328 then
                     some (.inl (((List.take x1_4 (((x1_3a :: x1_3t)).set (y1_7_).toNat ((y1_10_.1), (w64 ((y1_10_.2.1) + (1 : Int))), (y1_4_.2.2.2.2.1)))) ++ [(x1_6, (0 : Int), (y1_4_.2.2.1))]), ((((List.take x1_4 (((x1_3a :: x1_3t)).set (y1_7_).toNat ((y1_10_.1), (w64 ((y1_10_.2.1) + (1 : Int))), (y1_4_.2.2.2.2.1)))) ++ [(x1_6, (0 : Int), (y1_4_.2.2.1))])).length), (w64 (x1_6 + (1 : Int)))))
                    else none
                   else none
                  else
                   some (.inl ((((x1_3a :: x1_3t)).set (y1_7_).toNat ((y1_10_.1), (w64 ((y1_10_.2.1) + (1 : Int))), (y1_4_.2.2.2.2.1))), x1_4, (w64 (x1_6 + (1 : Int)))))
              else
               some (.inr (.inl ()))
             else none
            else none
           else none
          else none
         else none
        else none
      else
       if (y1_4_.2.2.2.2.2.2.1.l.length : Int) > (0 : Int) then
        if x1_4 ≤ ((x1_3a :: x1_3t)).length then
         if (x1_4 + 1) * 24 ≤ 140737488355328 then
          some (.inl (((List.take x1_4 (x1_3a :: x1_3t)) ++ [(x1_6, (0 : Int), (y1_4_.2.2.1))]), ((((List.take x1_4 (x1_3a :: x1_3t)) ++ [(x1_6, (0 : Int), (y1_4_.2.2.1))])).length), (w64 (x1_6 + (1 : Int)))))
         else none
        else none
       else
        some (.inl ((x1_3a :: x1_3t), x1_4, (w64 (x1_6 + (1 : Int)))))
     else none
    else none
   else
    some (.inr (.inr ((x1_3a :: x1_3t), x1_4)))
def m_iOq2_1 (n : Nat) (x1_0 : List R8) (x1_1 : Nat) (x1_2 : Nat) (x1_5 : Int) (st : List (Int × Int × Int) × Nat × Int) : Option ((Unit) ⊕ (List (Int × Int × Int) × Nat)) := iterM (B_iOq2_1 n x1_0 x1_1 x1_2 x1_5) n st
theorem q_iOq2_1_0 (n : Nat) {rnd : Option Nat} (x1_0 : List R8) (x1_1 x1_2 x1_4 : Nat) (x1_5 x1_6 : Int) (hy1_1 : x1_6 < x1_5) (hy1_2 : 0 ≤ x1_6 ∧ x1_6 < ((x1_1 : Nat) : Int)) (hy1_3 : (x1_6).toNat < (x1_0).length) (y1_4_ : R8) (hy1_4 : (some ((x1_0).getD (x1_6).toNat (0, 0, 0, 0, 0, 0, nl0, 0))) = some y1_4_) (hy1_5 : x1_6 > (0 : Int)) : Q_iOq2_1 rnd x1_0 x1_1 x1_2 x1_5 (([] : List (Int × Int × Int)), x1_4, x1_6) (X_iOq2_1 x1_0 x1_1 x1_2 x1_5 (.inl ())) :=
 runC2 hm (L := lT []) ⟨[2], [(0, 0, true)], 1, 1, [], false, []⟩ (zz 1 (xdT hy1_1) <|
zz 8 (xk18 0 x1_2 hy1_2) <|
yy 9 (.ld (Value.agg #[(i6 (y1_4_.1)), (i6 (y1_4_.2.1)), (i6 (y1_4_.2.2.1)), (i6 (y1_4_.2.2.2.1)), (i6 (y1_4_.2.2.2.2.1)), (i6 (y1_4_.2.2.2.2.2.1)), (nlV (y1_4_.2.2.2.2.2.2.1)), (Value.int .u64 (y1_4_.2.2.2.2.2.2.2))])) <|
ww (p := rdT (layT (rows rw_iiiiiiLu x1_0)) 8 ((x1_6).toNat * 8) = some [(i6 (y1_4_.1)), (i6 (y1_4_.2.1)), (i6 (y1_4_.2.2.1)), (i6 (y1_4_.2.2.2.1)), (i6 (y1_4_.2.2.2.2.1)), (i6 (y1_4_.2.2.2.2.2.1)), (nlV (y1_4_.2.2.2.2.2.2.1)), (Value.int .u64 (y1_4_.2.2.2.2.2.2.2))]) (rows_rdpN rwf_iiiiiiLu (0, 0, 0, 0, 0, 0, nl0, 0) (hr := hy1_4) (i := (x1_6).toNat) (j := 0) ((x1_6).toNat * 8) rfl (hy1_3) (by decide) rfl) <|
zz 16 (xdT hy1_5) <|
ww (rows_flat rwf_iiiiiiLu x1_0 32) <|
ee) (by kernel_rfl)
theorem q_iOq2_1_1 (n : Nat) {rnd : Option Nat} (x1_0 : List R8) (x1_1 x1_2 x1_4 : Nat) (x1_5 x1_6 : Int) (hy1_1 : x1_6 < x1_5) (hy1_2 : 0 ≤ x1_6 ∧ x1_6 < ((x1_1 : Nat) : Int)) (hy1_3 : (x1_6).toNat < (x1_0).length) (y1_4_ : R8) (hy1_4 : (some ((x1_0).getD (x1_6).toNat (0, 0, 0, 0, 0, 0, nl0, 0))) = some y1_4_) (hy1_5 : ¬ (x1_6 > (0 : Int))) (hy1_6 : (y1_4_.2.2.2.2.2.2.1.l.length : Int) > (0 : Int)) : Q_iOq2_1 rnd x1_0 x1_1 x1_2 x1_5 (([] : List (Int × Int × Int)), x1_4, x1_6) (.normal, S_iOq2_1 x1_0 x1_1 x1_2 x1_5 ([(x1_6, (0 : Int), (y1_4_.2.2.1))], 1, (w64 (x1_6 + (1 : Int))))) :=
 runC2 hm (L := lT []) ⟨[0, 3, 8, 9, 10], [(0, 0, true), (1, 4, false)], 2, 1, [], false, []⟩ (zz 1 (xdT hy1_1) <|
zz 8 (xk18 0 x1_2 hy1_2) <|
yy 9 (.ld (Value.agg #[(i6 (y1_4_.1)), (i6 (y1_4_.2.1)), (i6 (y1_4_.2.2.1)), (i6 (y1_4_.2.2.2.1)), (i6 (y1_4_.2.2.2.2.1)), (i6 (y1_4_.2.2.2.2.2.1)), (nlV (y1_4_.2.2.2.2.2.2.1)), (Value.int .u64 (y1_4_.2.2.2.2.2.2.2))])) <|
ww (p := rdT (layT (rows rw_iiiiiiLu x1_0)) 8 ((x1_6).toNat * 8) = some [(i6 (y1_4_.1)), (i6 (y1_4_.2.1)), (i6 (y1_4_.2.2.1)), (i6 (y1_4_.2.2.2.1)), (i6 (y1_4_.2.2.2.2.1)), (i6 (y1_4_.2.2.2.2.2.1)), (nlV (y1_4_.2.2.2.2.2.2.1)), (Value.int .u64 (y1_4_.2.2.2.2.2.2.2))]) (rows_rdpN rwf_iiiiiiLu (0, 0, 0, 0, 0, 0, nl0, 0) (hr := hy1_4) (i := (x1_6).toNat) (j := 0) ((x1_6).toNat * 8) rfl (hy1_3) (by decide) rfl) <|
zz 16 (xdF hy1_5) <|
zz 22 (xdT hy1_6) <|
ww (rows_flat rwf_iiiiiiLu x1_0 32) <|
ee) (by kernel_rfl)
theorem q_iOq2_1_2 (n : Nat) {rnd : Option Nat} (x1_0 : List R8) (x1_1 x1_2 x1_4 : Nat) (x1_5 x1_6 : Int) (hy1_1 : x1_6 < x1_5) (hy1_2 : 0 ≤ x1_6 ∧ x1_6 < ((x1_1 : Nat) : Int)) (hy1_3 : (x1_6).toNat < (x1_0).length) (y1_4_ : R8) (hy1_4 : (some ((x1_0).getD (x1_6).toNat (0, 0, 0, 0, 0, 0, nl0, 0))) = some y1_4_) (hy1_5 : ¬ (x1_6 > (0 : Int))) (hy1_6 : ¬ ((y1_4_.2.2.2.2.2.2.1.l.length : Int) > (0 : Int))) : Q_iOq2_1 rnd x1_0 x1_1 x1_2 x1_5 (([] : List (Int × Int × Int)), x1_4, x1_6) (.normal, S_iOq2_1 x1_0 x1_1 x1_2 x1_5 (([] : List (Int × Int × Int)), 0, (w64 (x1_6 + (1 : Int))))) :=
 runC2 hm (L := lT []) ⟨[0, 3, 8, 9, 10], [(0, 0, true)], 2, 1, [], false, []⟩ (zz 1 (xdT hy1_1) <|
zz 8 (xk18 0 x1_2 hy1_2) <|
yy 9 (.ld (Value.agg #[(i6 (y1_4_.1)), (i6 (y1_4_.2.1)), (i6 (y1_4_.2.2.1)), (i6 (y1_4_.2.2.2.1)), (i6 (y1_4_.2.2.2.2.1)), (i6 (y1_4_.2.2.2.2.2.1)), (nlV (y1_4_.2.2.2.2.2.2.1)), (Value.int .u64 (y1_4_.2.2.2.2.2.2.2))])) <|
ww (p := rdT (layT (rows rw_iiiiiiLu x1_0)) 8 ((x1_6).toNat * 8) = some [(i6 (y1_4_.1)), (i6 (y1_4_.2.1)), (i6 (y1_4_.2.2.1)), (i6 (y1_4_.2.2.2.1)), (i6 (y1_4_.2.2.2.2.1)), (i6 (y1_4_.2.2.2.2.2.1)), (nlV (y1_4_.2.2.2.2.2.2.1)), (Value.int .u64 (y1_4_.2.2.2.2.2.2.2))]) (rows_rdpN rwf_iiiiiiLu (0, 0, 0, 0, 0, 0, nl0, 0) (hr := hy1_4) (i := (x1_6).toNat) (j := 0) ((x1_6).toNat * 8) rfl (hy1_3) (by decide) rfl) <|
zz 16 (xdF hy1_5) <|
zz 22 (xdF hy1_6) <|
ww (rows_flat rwf_iiiiiiLu x1_0 32) <|
ee) (by kernel_rfl)
theorem q_iOq2_1_3 (n : Nat) {rnd : Option Nat} (x1_0 : List R8) (x1_1 x1_2 x1_4 : Nat) (x1_5 x1_6 : Int) (hy1_1 : ¬ (x1_6 < x1_5)) : Q_iOq2_1 rnd x1_0 x1_1 x1_2 x1_5 (([] : List (Int × Int × Int)), x1_4, x1_6) (X_iOq2_1 x1_0 x1_1 x1_2 x1_5 (.inr (([] : List (Int × Int × Int)), 0))) :=
 runC2 hm (L := lT []) ⟨[3], [(0, 0, true)], 2, 1, [], false, []⟩ (zz 1 (xdF hy1_1) <|
ww (rows_flat rwf_iiiiiiLu x1_0 32) <|
ee) (by kernel_rfl)
theorem q_iOq2_1_4 (n : Nat) {rnd : Option Nat} (x1_0 : List R8) (x1_1 x1_2 : Nat) (x1_3a : Int × Int × Int) (x1_3t : List (Int × Int × Int)) (x1_4 : Nat) (x1_5 x1_6 : Int) (hy1_1 : x1_6 < x1_5) (hy1_2 : 0 ≤ x1_6 ∧ x1_6 < ((x1_1 : Nat) : Int)) (hy1_3 : (x1_6).toNat < (x1_0).length) (y1_4_ : R8) (hy1_4 : (some ((x1_0).getD (x1_6).toNat (0, 0, 0, 0, 0, 0, nl0, 0))) = some y1_4_) (hy1_5 : x1_6 > (0 : Int)) (hy1_6 : ((x1_4 : Nat) : Int) = (0 : Int)) : Q_iOq2_1 rnd x1_0 x1_1 x1_2 x1_5 ((x1_3a :: x1_3t), x1_4, x1_6) (X_iOq2_1 x1_0 x1_1 x1_2 x1_5 (.inl ())) :=
 runC2 hm (L := lT []) ⟨[2], [(0, 0, true)], 1, 1, [], false, []⟩ (zz 1 (xdT hy1_1) <|
zz 8 (xk18 0 x1_2 hy1_2) <|
yy 9 (.ld (Value.agg #[(i6 (y1_4_.1)), (i6 (y1_4_.2.1)), (i6 (y1_4_.2.2.1)), (i6 (y1_4_.2.2.2.1)), (i6 (y1_4_.2.2.2.2.1)), (i6 (y1_4_.2.2.2.2.2.1)), (nlV (y1_4_.2.2.2.2.2.2.1)), (Value.int .u64 (y1_4_.2.2.2.2.2.2.2))])) <|
ww (p := rdT (layT (rows rw_iiiiiiLu x1_0)) 8 ((x1_6).toNat * 8) = some [(i6 (y1_4_.1)), (i6 (y1_4_.2.1)), (i6 (y1_4_.2.2.1)), (i6 (y1_4_.2.2.2.1)), (i6 (y1_4_.2.2.2.2.1)), (i6 (y1_4_.2.2.2.2.2.1)), (nlV (y1_4_.2.2.2.2.2.2.1)), (Value.int .u64 (y1_4_.2.2.2.2.2.2.2))]) (rows_rdpN rwf_iiiiiiLu (0, 0, 0, 0, 0, 0, nl0, 0) (hr := hy1_4) (i := (x1_6).toNat) (j := 0) ((x1_6).toNat * 8) rfl (hy1_3) (by decide) rfl) <|
zz 16 (xdT hy1_5) <|
zz 22 (xeT hy1_6) <|
ww (rows_flat rwf_iiiiiiLu x1_0 32) <|
ee) (by kernel_rfl)
theorem q_iOq2_1_5 (n : Nat) {rnd : Option Nat} (x1_0 : List R8) (x1_1 x1_2 : Nat) (x1_3a : Int × Int × Int) (x1_3t : List (Int × Int × Int)) (x1_4 : Nat) (x1_5 x1_6 : Int) (hy1_1 : x1_6 < x1_5) (hy1_2 : 0 ≤ x1_6 ∧ x1_6 < ((x1_1 : Nat) : Int)) (hy1_3 : (x1_6).toNat < (x1_0).length) (y1_4_ : R8) (hy1_4 : (some ((x1_0).getD (x1_6).toNat (0, 0, 0, 0, 0, 0, nl0, 0))) = some y1_4_) (hy1_5 : x1_6 > (0 : Int)) (hy1_6 : ¬ (((x1_4 : Nat) : Int) = (0 : Int))) (y1_7_ : Int) (hy1_7 : (some (w64 (((x1_4 : Nat) : Int) - (1 : Int)))) = some y1_7_) (hy1_8 : 0 ≤ y1_7_ ∧ y1_7_ < ((x1_4 : Nat) : Int)) (hy1_9 : (y1_7_).toNat < ((x1_3a :: x1_3t)).length) (y1_10_ : Int × Int × Int) (hy1_10 : (some (((x1_3a :: x1_3t)).getD (y1_7_).toNat (0, 0, 0))) = some y1_10_) (hy1_11 : 0 ≤ (y1_10_.1) ∧ (y1_10_.1) < ((x1_1 : Nat) : Int)) (hy1_12 : ((y1_10_.1)).toNat < (x1_0).length) (y1_13_ : R8) (hy1_13 : (some ((x1_0).getD ((y1_10_.1)).toNat (0, 0, 0, 0, 0, 0, nl0, 0))) = some y1_13_) (hy1_14 : 0 ≤ (y1_10_.2.1) ∧ (y1_10_.2.1) < (y1_13_.2.2.2.2.2.2.1.l.length : Int)) (hy1_15 : ((y1_10_.2.1)).toNat < (((y1_13_.2.2.2.2.2.2.1)).l).length) (y1_16_ : Int) (hy1_16 : (some ((((y1_13_.2.2.2.2.2.2.1)).l).getD ((y1_10_.2.1)).toNat 0)) = some y1_16_) (hy1_17 : y1_16_ = x1_6) (hy1_18 : (y1_4_.2.2.1) < (y1_10_.2.2)) : Q_iOq2_1 rnd x1_0 x1_1 x1_2 x1_5 ((x1_3a :: x1_3t), x1_4, x1_6) (X_iOq2_1 x1_0 x1_1 x1_2 x1_5 (.inl ())) :=
 runC2 hm (L := lT []) ⟨[2], [(0, 0, true)], 1, 1, [], false, []⟩ (zz 1 (xdT hy1_1) <|
zz 8 (xk18 0 x1_2 hy1_2) <|
yy 9 (.ld (Value.agg #[(i6 (y1_4_.1)), (i6 (y1_4_.2.1)), (i6 (y1_4_.2.2.1)), (i6 (y1_4_.2.2.2.1)), (i6 (y1_4_.2.2.2.2.1)), (i6 (y1_4_.2.2.2.2.2.1)), (nlV (y1_4_.2.2.2.2.2.2.1)), (Value.int .u64 (y1_4_.2.2.2.2.2.2.2))])) <|
ww (p := rdT (layT (rows rw_iiiiiiLu x1_0)) 8 ((x1_6).toNat * 8) = some [(i6 (y1_4_.1)), (i6 (y1_4_.2.1)), (i6 (y1_4_.2.2.1)), (i6 (y1_4_.2.2.2.1)), (i6 (y1_4_.2.2.2.2.1)), (i6 (y1_4_.2.2.2.2.2.1)), (nlV (y1_4_.2.2.2.2.2.2.1)), (Value.int .u64 (y1_4_.2.2.2.2.2.2.2))]) (rows_rdpN rwf_iiiiiiLu (0, 0, 0, 0, 0, 0, nl0, 0) (hr := hy1_4) (i := (x1_6).toNat) (j := 0) ((x1_6).toNat * 8) rfl (hy1_3) (by decide) rfl) <|
zz 16 (xdT hy1_5) <|
zz 22 (xeF hy1_6) <|
zz 28 (xnm hy1_7) <|
zz 29 (xk3 1 U3 hy1_8) <|
zz 36 (ok4 hy1_10 (hy1_9)) <|
zz 37 (xk18 0 x1_2 hy1_11) <|
yy 38 (.ld (Value.agg #[(i6 (y1_13_.1)), (i6 (y1_13_.2.1)), (i6 (y1_13_.2.2.1)), (i6 (y1_13_.2.2.2.1)), (i6 (y1_13_.2.2.2.2.1)), (i6 (y1_13_.2.2.2.2.2.1)), (nlV (y1_13_.2.2.2.2.2.2.1)), (Value.int .u64 (y1_13_.2.2.2.2.2.2.2))])) <|
ww (p := rdT (layT (rows rw_iiiiiiLu x1_0)) 8 (((y1_10_.1)).toNat * 8) = some [(i6 (y1_13_.1)), (i6 (y1_13_.2.1)), (i6 (y1_13_.2.2.1)), (i6 (y1_13_.2.2.2.1)), (i6 (y1_13_.2.2.2.2.1)), (i6 (y1_13_.2.2.2.2.2.1)), (nlV (y1_13_.2.2.2.2.2.2.1)), (Value.int .u64 (y1_13_.2.2.2.2.2.2.2))]) (rows_rdpN rwf_iiiiiiLu (0, 0, 0, 0, 0, 0, nl0, 0) (hr := hy1_13) (i := ((y1_10_.1)).toNat) (j := 0) (((y1_10_.1)).toNat * 8) rfl (hy1_12) (by decide) rfl) <|
zz 48 (ok5 hy1_10 (hy1_9)) <|
zz 49 (xk6 (Nat.add ((y1_13_.2.2.2.2.2.2.1)).num 64) ((y1_13_.2.2.2.2.2.2.1)).cap hy1_14) <|
zz 50 (nk7 hy1_16 hy1_15) <|
zz 52 (xnF hy1_17) <|
zz 59 (ok8 hy1_10 (hy1_9)) <|
zz 60 (xdT hy1_18) <|
ww (rows_flat rwf_iiiiiiLu x1_0 32) <|
ee) (by kernel_rfl)
theorem q_iOq2_1_6 (n : Nat) {rnd : Option Nat} (x1_0 : List R8) (x1_1 x1_2 : Nat) (x1_3a : Int × Int × Int) (x1_3t : List (Int × Int × Int)) (x1_4 : Nat) (x1_5 x1_6 : Int) (hy1_1 : x1_6 < x1_5) (hy1_2 : 0 ≤ x1_6 ∧ x1_6 < ((x1_1 : Nat) : Int)) (hy1_3 : (x1_6).toNat < (x1_0).length) (y1_4_ : R8) (hy1_4 : (some ((x1_0).getD (x1_6).toNat (0, 0, 0, 0, 0, 0, nl0, 0))) = some y1_4_) (hy1_5 : x1_6 > (0 : Int)) (hy1_6 : ¬ (((x1_4 : Nat) : Int) = (0 : Int))) (y1_7_ : Int) (hy1_7 : (some (w64 (((x1_4 : Nat) : Int) - (1 : Int)))) = some y1_7_) (hy1_8 : 0 ≤ y1_7_ ∧ y1_7_ < ((x1_4 : Nat) : Int)) (hy1_9 : (y1_7_).toNat < ((x1_3a :: x1_3t)).length) (y1_10_ : Int × Int × Int) (hy1_10 : (some (((x1_3a :: x1_3t)).getD (y1_7_).toNat (0, 0, 0))) = some y1_10_) (hy1_11 : 0 ≤ (y1_10_.1) ∧ (y1_10_.1) < ((x1_1 : Nat) : Int)) (hy1_12 : ((y1_10_.1)).toNat < (x1_0).length) (y1_13_ : R8) (hy1_13 : (some ((x1_0).getD ((y1_10_.1)).toNat (0, 0, 0, 0, 0, 0, nl0, 0))) = some y1_13_) (hy1_14 : 0 ≤ (y1_10_.2.1) ∧ (y1_10_.2.1) < (y1_13_.2.2.2.2.2.2.1.l.length : Int)) (hy1_15 : ((y1_10_.2.1)).toNat < (((y1_13_.2.2.2.2.2.2.1)).l).length) (y1_16_ : Int) (hy1_16 : (some ((((y1_13_.2.2.2.2.2.2.1)).l).getD ((y1_10_.2.1)).toNat 0)) = some y1_16_) (hy1_17 : y1_16_ = x1_6) (hy1_18 : ¬ ((y1_4_.2.2.1) < (y1_10_.2.2))) (hy1_19 : (y1_4_.2.2.2.2.1) > (y1_13_.2.2.2.2.1)) : Q_iOq2_1 rnd x1_0 x1_1 x1_2 x1_5 ((x1_3a :: x1_3t), x1_4, x1_6) (X_iOq2_1 x1_0 x1_1 x1_2 x1_5 (.inl ())) :=
 runC2 hm (L := lT []) ⟨[2], [(0, 0, true)], 1, 1, [], false, []⟩ (zz 1 (xdT hy1_1) <|
zz 8 (xk18 0 x1_2 hy1_2) <|
yy 9 (.ld (Value.agg #[(i6 (y1_4_.1)), (i6 (y1_4_.2.1)), (i6 (y1_4_.2.2.1)), (i6 (y1_4_.2.2.2.1)), (i6 (y1_4_.2.2.2.2.1)), (i6 (y1_4_.2.2.2.2.2.1)), (nlV (y1_4_.2.2.2.2.2.2.1)), (Value.int .u64 (y1_4_.2.2.2.2.2.2.2))])) <|
ww (p := rdT (layT (rows rw_iiiiiiLu x1_0)) 8 ((x1_6).toNat * 8) = some [(i6 (y1_4_.1)), (i6 (y1_4_.2.1)), (i6 (y1_4_.2.2.1)), (i6 (y1_4_.2.2.2.1)), (i6 (y1_4_.2.2.2.2.1)), (i6 (y1_4_.2.2.2.2.2.1)), (nlV (y1_4_.2.2.2.2.2.2.1)), (Value.int .u64 (y1_4_.2.2.2.2.2.2.2))]) (rows_rdpN rwf_iiiiiiLu (0, 0, 0, 0, 0, 0, nl0, 0) (hr := hy1_4) (i := (x1_6).toNat) (j := 0) ((x1_6).toNat * 8) rfl (hy1_3) (by decide) rfl) <|
zz 16 (xdT hy1_5) <|
zz 22 (xeF hy1_6) <|
zz 28 (xnm hy1_7) <|
zz 29 (xk3 1 U3 hy1_8) <|
zz 36 (ok4 hy1_10 (hy1_9)) <|
zz 37 (xk18 0 x1_2 hy1_11) <|
yy 38 (.ld (Value.agg #[(i6 (y1_13_.1)), (i6 (y1_13_.2.1)), (i6 (y1_13_.2.2.1)), (i6 (y1_13_.2.2.2.1)), (i6 (y1_13_.2.2.2.2.1)), (i6 (y1_13_.2.2.2.2.2.1)), (nlV (y1_13_.2.2.2.2.2.2.1)), (Value.int .u64 (y1_13_.2.2.2.2.2.2.2))])) <|
ww (p := rdT (layT (rows rw_iiiiiiLu x1_0)) 8 (((y1_10_.1)).toNat * 8) = some [(i6 (y1_13_.1)), (i6 (y1_13_.2.1)), (i6 (y1_13_.2.2.1)), (i6 (y1_13_.2.2.2.1)), (i6 (y1_13_.2.2.2.2.1)), (i6 (y1_13_.2.2.2.2.2.1)), (nlV (y1_13_.2.2.2.2.2.2.1)), (Value.int .u64 (y1_13_.2.2.2.2.2.2.2))]) (rows_rdpN rwf_iiiiiiLu (0, 0, 0, 0, 0, 0, nl0, 0) (hr := hy1_13) (i := ((y1_10_.1)).toNat) (j := 0) (((y1_10_.1)).toNat * 8) rfl (hy1_12) (by decide) rfl) <|
zz 48 (ok5 hy1_10 (hy1_9)) <|
zz 49 (xk6 (Nat.add ((y1_13_.2.2.2.2.2.2.1)).num 64) ((y1_13_.2.2.2.2.2.2.1)).cap hy1_14) <|
zz 50 (nk7 hy1_16 hy1_15) <|
zz 52 (xnF hy1_17) <|
zz 59 (ok8 hy1_10 (hy1_9)) <|
zz 60 (xdF hy1_18) <|
zz 67 (xdT hy1_19) <|
ww (rows_flat rwf_iiiiiiLu x1_0 32) <|
ee) (by kernel_rfl)
theorem q_iOq2_1_7 (n : Nat) {rnd : Option Nat} (x1_0 : List R8) (x1_1 x1_2 : Nat) (x1_3a : Int × Int × Int) (x1_3t : List (Int × Int × Int)) (x1_4 : Nat) (x1_5 x1_6 : Int) (hy1_1 : x1_6 < x1_5) (hy1_2 : 0 ≤ x1_6 ∧ x1_6 < ((x1_1 : Nat) : Int)) (hy1_3 : (x1_6).toNat < (x1_0).length) (y1_4_ : R8) (hy1_4 : (some ((x1_0).getD (x1_6).toNat (0, 0, 0, 0, 0, 0, nl0, 0))) = some y1_4_) (hy1_5 : x1_6 > (0 : Int)) (hy1_6 : ¬ (((x1_4 : Nat) : Int) = (0 : Int))) (y1_7_ : Int) (hy1_7 : (some (w64 (((x1_4 : Nat) : Int) - (1 : Int)))) = some y1_7_) (hy1_8 : 0 ≤ y1_7_ ∧ y1_7_ < ((x1_4 : Nat) : Int)) (hy1_9 : (y1_7_).toNat < ((x1_3a :: x1_3t)).length) (y1_10_ : Int × Int × Int) (hy1_10 : (some (((x1_3a :: x1_3t)).getD (y1_7_).toNat (0, 0, 0))) = some y1_10_) (hy1_11 : 0 ≤ (y1_10_.1) ∧ (y1_10_.1) < ((x1_1 : Nat) : Int)) (hy1_12 : ((y1_10_.1)).toNat < (x1_0).length) (y1_13_ : R8) (hy1_13 : (some ((x1_0).getD ((y1_10_.1)).toNat (0, 0, 0, 0, 0, 0, nl0, 0))) = some y1_13_) (hy1_14 : 0 ≤ (y1_10_.2.1) ∧ (y1_10_.2.1) < (y1_13_.2.2.2.2.2.2.1.l.length : Int)) (hy1_15 : ((y1_10_.2.1)).toNat < (((y1_13_.2.2.2.2.2.2.1)).l).length) (y1_16_ : Int) (hy1_16 : (some ((((y1_13_.2.2.2.2.2.2.1)).l).getD ((y1_10_.2.1)).toNat 0)) = some y1_16_) (hy1_17 : y1_16_ = x1_6) (hy1_18 : ¬ ((y1_4_.2.2.1) < (y1_10_.2.2))) (hy1_19 : ¬ ((y1_4_.2.2.2.2.1) > (y1_13_.2.2.2.2.1))) (hy1_20 : (w64 ((y1_10_.2.1) + (1 : Int))) = (y1_13_.2.2.2.2.2.2.1.l.length : Int)) (hy1_21 : 0 ≤ y1_7_ ∧ y1_7_ ≤ ((x1_4 : Nat) : Int)) (hy1_22 : (y1_4_.2.2.2.2.2.2.1.l.length : Int) > (0 : Int)) (hy1_23 : (y1_7_).toNat ≤ ((((x1_3a :: x1_3t)).set (y1_7_).toNat ((y1_10_.1), (w64 ((y1_10_.2.1) + (1 : Int))), (y1_4_.2.2.2.2.1)))).length) (hy1_24 : ((y1_7_).toNat + 1) * 24 ≤ 140737488355328) : Q_iOq2_1 rnd x1_0 x1_1 x1_2 x1_5 ((x1_3a :: x1_3t), x1_4, x1_6) (.normal, S_iOq2_1 x1_0 x1_1 x1_2 x1_5 (((List.take (y1_7_).toNat (((x1_3a :: x1_3t)).set (y1_7_).toNat ((y1_10_.1), (w64 ((y1_10_.2.1) + (1 : Int))), (y1_4_.2.2.2.2.1)))) ++ [(x1_6, (0 : Int), (y1_4_.2.2.1))]), ((((List.take (y1_7_).toNat (((x1_3a :: x1_3t)).set (y1_7_).toNat ((y1_10_.1), (w64 ((y1_10_.2.1) + (1 : Int))), (y1_4_.2.2.2.2.1)))) ++ [(x1_6, (0 : Int), (y1_4_.2.2.1))])).length), (w64 (x1_6 + (1 : Int))))) :=
 by
 obtain ⟨za, zt, hz⟩ : ∃ a t, ((List.take (y1_7_).toNat (((x1_3a :: x1_3t)).set (y1_7_).toNat ((y1_10_.1), (w64 ((y1_10_.2.1) + (1 : Int))), (y1_4_.2.2.2.2.1)))) ++ [(x1_6, (0 : Int), (y1_4_.2.2.1))]) = a :: t := snoc_cons (List.take (y1_7_).toNat (((x1_3a :: x1_3t)).set (y1_7_).toNat ((y1_10_.1), (w64 ((y1_10_.2.1) + (1 : Int))), (y1_4_.2.2.2.2.1)))) (x1_6, (0 : Int), (y1_4_.2.2.1))
 rw [hz]
 exact runC2 hm (L := lT []) ⟨[0, 3, 8, 9, 10], [(0, 0, true), (1, 5, true)], 2, 1, [], false, []⟩ (zz 1 (xdT hy1_1) <|
zz 8 (xk18 0 x1_2 hy1_2) <|
yy 9 (.ld (Value.agg #[(i6 (y1_4_.1)), (i6 (y1_4_.2.1)), (i6 (y1_4_.2.2.1)), (i6 (y1_4_.2.2.2.1)), (i6 (y1_4_.2.2.2.2.1)), (i6 (y1_4_.2.2.2.2.2.1)), (nlV (y1_4_.2.2.2.2.2.2.1)), (Value.int .u64 (y1_4_.2.2.2.2.2.2.2))])) <|
ww (p := rdT (layT (rows rw_iiiiiiLu x1_0)) 8 ((x1_6).toNat * 8) = some [(i6 (y1_4_.1)), (i6 (y1_4_.2.1)), (i6 (y1_4_.2.2.1)), (i6 (y1_4_.2.2.2.1)), (i6 (y1_4_.2.2.2.2.1)), (i6 (y1_4_.2.2.2.2.2.1)), (nlV (y1_4_.2.2.2.2.2.2.1)), (Value.int .u64 (y1_4_.2.2.2.2.2.2.2))]) (rows_rdpN rwf_iiiiiiLu (0, 0, 0, 0, 0, 0, nl0, 0) (hr := hy1_4) (i := (x1_6).toNat) (j := 0) ((x1_6).toNat * 8) rfl (hy1_3) (by decide) rfl) <|
zz 16 (xdT hy1_5) <|
zz 22 (xeF hy1_6) <|
zz 28 (xnm hy1_7) <|
zz 29 (xk3 1 U3 hy1_8) <|
zz 36 (ok4 hy1_10 (hy1_9)) <|
zz 37 (xk18 0 x1_2 hy1_11) <|
yy 38 (.ld (Value.agg #[(i6 (y1_13_.1)), (i6 (y1_13_.2.1)), (i6 (y1_13_.2.2.1)), (i6 (y1_13_.2.2.2.1)), (i6 (y1_13_.2.2.2.2.1)), (i6 (y1_13_.2.2.2.2.2.1)), (nlV (y1_13_.2.2.2.2.2.2.1)), (Value.int .u64 (y1_13_.2.2.2.2.2.2.2))])) <|
ww (p := rdT (layT (rows rw_iiiiiiLu x1_0)) 8 (((y1_10_.1)).toNat * 8) = some [(i6 (y1_13_.1)), (i6 (y1_13_.2.1)), (i6 (y1_13_.2.2.1)), (i6 (y1_13_.2.2.2.1)), (i6 (y1_13_.2.2.2.2.1)), (i6 (y1_13_.2.2.2.2.2.1)), (nlV (y1_13_.2.2.2.2.2.2.1)), (Value.int .u64 (y1_13_.2.2.2.2.2.2.2))]) (rows_rdpN rwf_iiiiiiLu (0, 0, 0, 0, 0, 0, nl0, 0) (hr := hy1_13) (i := ((y1_10_.1)).toNat) (j := 0) (((y1_10_.1)).toNat * 8) rfl (hy1_12) (by decide) rfl) <|
zz 48 (ok5 hy1_10 (hy1_9)) <|
zz 49 (xk6 (Nat.add ((y1_13_.2.2.2.2.2.2.1)).num 64) ((y1_13_.2.2.2.2.2.2.1)).cap hy1_14) <|
zz 50 (nk7 hy1_16 hy1_15) <|
zz 52 (xnF hy1_17) <|
zz 59 (ok8 hy1_10 (hy1_9)) <|
zz 60 (xdF hy1_18) <|
zz 67 (xdF hy1_19) <|
zz 76 (ok5 hy1_10 (hy1_9)) <|
yy 82 (.sto (layT (rows rw_iii (((x1_3a :: x1_3t)).set (y1_7_).toNat ((y1_10_.1), (w64 ((y1_10_.2.1) + (1 : Int))), (y1_10_.2.2)))))) <|
ww (p := ∃ old, rdT (layT (rows rw_iii (x1_3a :: x1_3t))) 1 (Nat.add ((y1_7_).toNat * 3) 1) = some old) (Exists.elim (rows_stN rwf_iii (0, 0, 0) (hr := hy1_10) (i := (y1_7_).toNat) (j := 1) (l := [(i6 (w64 ((y1_10_.2.1) + (1 : Int))))]) ((y1_10_.1), (w64 ((y1_10_.2.1) + (1 : Int))), (y1_10_.2.2)) (Nat.add ((y1_7_).toNat * 3) 1) rfl (hy1_9) (Nat.le_of_ble_eq_true rfl) rfl) fun o h => ⟨o, h.1⟩) <|
ww (p := layL [(i6 (w64 ((y1_10_.2.1) + (1 : Int))))] (Nat.add ((y1_7_).toNat * 3) 1) (layT (rows rw_iii (x1_3a :: x1_3t))) = layT (rows rw_iii (((x1_3a :: x1_3t)).set (y1_7_).toNat ((y1_10_.1), (w64 ((y1_10_.2.1) + (1 : Int))), (y1_10_.2.2))))) (Exists.elim (rows_stN rwf_iii (0, 0, 0) (hr := hy1_10) (i := (y1_7_).toNat) (j := 1) (l := [(i6 (w64 ((y1_10_.2.1) + (1 : Int))))]) ((y1_10_.1), (w64 ((y1_10_.2.1) + (1 : Int))), (y1_10_.2.2)) (Nat.add ((y1_7_).toNat * 3) 1) rfl (hy1_9) (Nat.le_of_ble_eq_true rfl) rfl) fun o h => h.2) <|
yy 85 (.sto (layT (rows rw_iii (((x1_3a :: x1_3t)).set (y1_7_).toNat ((y1_10_.1), (w64 ((y1_10_.2.1) + (1 : Int))), (y1_4_.2.2.2.2.1)))))) <|
ww (p := ∃ old, rdT (layT (rows rw_iii (((x1_3a :: x1_3t)).set (y1_7_).toNat ((y1_10_.1), (w64 ((y1_10_.2.1) + (1 : Int))), (y1_10_.2.2))))) 1 (Nat.add ((y1_7_).toNat * 3) 2) = some old) (Exists.elim (rows_stS rwf_iii (i := (y1_7_).toNat) (j := 2) (l := [(i6 (y1_4_.2.2.2.2.1))]) ((y1_10_.1), (w64 ((y1_10_.2.1) + (1 : Int))), (y1_10_.2.2)) ((y1_10_.1), (w64 ((y1_10_.2.1) + (1 : Int))), (y1_4_.2.2.2.2.1)) (Nat.add ((y1_7_).toNat * 3) 2) rfl (hy1_9) (Nat.le_of_ble_eq_true rfl) rfl) fun o h => ⟨o, h.1⟩) <|
ww (p := layL [(i6 (y1_4_.2.2.2.2.1))] (Nat.add ((y1_7_).toNat * 3) 2) (layT (rows rw_iii (((x1_3a :: x1_3t)).set (y1_7_).toNat ((y1_10_.1), (w64 ((y1_10_.2.1) + (1 : Int))), (y1_10_.2.2))))) = layT (rows rw_iii (((x1_3a :: x1_3t)).set (y1_7_).toNat ((y1_10_.1), (w64 ((y1_10_.2.1) + (1 : Int))), (y1_4_.2.2.2.2.1))))) (Exists.elim (rows_stS rwf_iii (i := (y1_7_).toNat) (j := 2) (l := [(i6 (y1_4_.2.2.2.2.1))]) ((y1_10_.1), (w64 ((y1_10_.2.1) + (1 : Int))), (y1_10_.2.2)) ((y1_10_.1), (w64 ((y1_10_.2.1) + (1 : Int))), (y1_4_.2.2.2.2.1)) (Nat.add ((y1_7_).toNat * 3) 2) rfl (hy1_9) (Nat.le_of_ble_eq_true rfl) rfl) fun o h => h.2) <|
yy 90 (.ld (i6 (w64 ((y1_10_.2.1) + (1 : Int))))) <|
ww (p := (layT (rows rw_iii (((x1_3a :: x1_3t)).set (y1_7_).toNat ((y1_10_.1), (w64 ((y1_10_.2.1) + (1 : Int))), (y1_4_.2.2.2.2.1))))).get (Nat.add ((y1_7_).toNat * 3) 1) = some (i6 (w64 ((y1_10_.2.1) + (1 : Int))))) (rows_ldS rwf_iii (i := (y1_7_).toNat) (j := 1) ((y1_10_.1), (w64 ((y1_10_.2.1) + (1 : Int))), (y1_4_.2.2.2.2.1)) (Nat.add ((y1_7_).toNat * 3) 1) rfl (hy1_9) (by decide) rfl) <|
zz 94 (xeT hy1_20) <|
zz 99 (xnm hy1_7) <|
yy 100 (.pur (sN 1 0 (y1_7_).toNat (Nat.add big 3))) <|
ww (p := opSlice P 62 (sN 1 0 x1_4 (Nat.add big 3)) none (some (i6 y1_7_)) none Ax.h0 = some ((sN 1 0 (y1_7_).toNat (Nat.add big 3)), Ax.h0)) (slRowHi (e := 65) (es := 3) (by kernel_rfl) (by kernel_rfl) rfl rfl hy1_21) <|
zz 106 (xdT hy1_22) <|
yy 114 (.app ⟨none, rows rw_iii (List.take (y1_7_).toNat (((x1_3a :: x1_3t)).set (y1_7_).toNat ((y1_10_.1), (w64 ((y1_10_.2.1) + (1 : Int))), (y1_4_.2.2.2.2.1)))), (rows rw_iii (za :: zt)), ((za :: zt)).length, false⟩) <|
ww (p := 0 < 1) ((by decide)) <|
ww (p := rdT (layT (rows rw_iii (((x1_3a :: x1_3t)).set (y1_7_).toNat ((y1_10_.1), (w64 ((y1_10_.2.1) + (1 : Int))), (y1_4_.2.2.2.2.1))))) (Nat.mul (y1_7_).toNat 3) 0 = some (rows rw_iii (List.take (y1_7_).toNat (((x1_3a :: x1_3t)).set (y1_7_).toNat ((y1_10_.1), (w64 ((y1_10_.2.1) + (1 : Int))), (y1_4_.2.2.2.2.1)))))) (rows_rdTake rwf_iii _ _ hy1_23) <|
ww (p := fits (Nat.add (y1_7_).toNat 1) 24 = true) (fits_ok hy1_24 (by have := hy1_24; show (_ : Nat) + _ ≤ _; omega)) <|
ww (p := allCells [(i6 x1_6), (i6 (0 : Int)), (i6 (y1_4_.2.2.1))] = true) (rfl) <|
ww (p := allCells (rows rw_iii (List.take (y1_7_).toNat (((x1_3a :: x1_3t)).set (y1_7_).toNat ((y1_10_.1), (w64 ((y1_10_.2.1) + (1 : Int))), (y1_4_.2.2.2.2.1))))) = true) (rows_cells rwf_iii _) <|
ww (p := rows rw_iii (List.take (y1_7_).toNat (((x1_3a :: x1_3t)).set (y1_7_).toNat ((y1_10_.1), (w64 ((y1_10_.2.1) + (1 : Int))), (y1_4_.2.2.2.2.1)))) ++ [(i6 x1_6), (i6 (0 : Int)), (i6 (y1_4_.2.2.1))] = (rows rw_iii (za :: zt))) (by rw [← hz]; exact (rows_app rw_iii (List.take (y1_7_).toNat (((x1_3a :: x1_3t)).set (y1_7_).toNat ((y1_10_.1), (w64 ((y1_10_.2.1) + (1 : Int))), (y1_4_.2.2.2.2.1)))) [(x1_6, (0 : Int), (y1_4_.2.2.1))])) <|
ww (p := Nat.add (y1_7_).toNat 1 = ((za :: zt)).length) (by rw [← hz]; exact (take_len hy1_23 rfl)) <|
ww (rows_flat rwf_iiiiiiLu x1_0 32) <|
ww (rows_flat rwf_iii (za :: zt) 65) <|
ee) (by kernel_rfl)
theorem q_iOq2_1_8 (n : Nat) {rnd : Option Nat} (x1_0 : List R8) (x1_1 x1_2 : Nat) (x1_3a : Int × Int × Int) (x1_3t : List (Int × Int × Int)) (x1_4 : Nat) (x1_5 x1_6 : Int) (hy1_1 : x1_6 < x1_5) (hy1_2 : 0 ≤ x1_6 ∧ x1_6 < ((x1_1 : Nat) : Int)) (hy1_3 : (x1_6).toNat < (x1_0).length) (y1_4_ : R8) (hy1_4 : (some ((x1_0).getD (x1_6).toNat (0, 0, 0, 0, 0, 0, nl0, 0))) = some y1_4_) (hy1_5 : x1_6 > (0 : Int)) (hy1_6 : ¬ (((x1_4 : Nat) : Int) = (0 : Int))) (y1_7_ : Int) (hy1_7 : (some (w64 (((x1_4 : Nat) : Int) - (1 : Int)))) = some y1_7_) (hy1_8 : 0 ≤ y1_7_ ∧ y1_7_ < ((x1_4 : Nat) : Int)) (hy1_9 : (y1_7_).toNat < ((x1_3a :: x1_3t)).length) (y1_10_ : Int × Int × Int) (hy1_10 : (some (((x1_3a :: x1_3t)).getD (y1_7_).toNat (0, 0, 0))) = some y1_10_) (hy1_11 : 0 ≤ (y1_10_.1) ∧ (y1_10_.1) < ((x1_1 : Nat) : Int)) (hy1_12 : ((y1_10_.1)).toNat < (x1_0).length) (y1_13_ : R8) (hy1_13 : (some ((x1_0).getD ((y1_10_.1)).toNat (0, 0, 0, 0, 0, 0, nl0, 0))) = some y1_13_) (hy1_14 : 0 ≤ (y1_10_.2.1) ∧ (y1_10_.2.1) < (y1_13_.2.2.2.2.2.2.1.l.length : Int)) (hy1_15 : ((y1_10_.2.1)).toNat < (((y1_13_.2.2.2.2.2.2.1)).l).length) (y1_16_ : Int) (hy1_16 : (some ((((y1_13_.2.2.2.2.2.2.1)).l).getD ((y1_10_.2.1)).toNat 0)) = some y1_16_) (hy1_17 : y1_16_ = x1_6) (hy1_18 : ¬ ((y1_4_.2.2.1) < (y1_10_.2.2))) (hy1_19 : ¬ ((y1_4_.2.2.2.2.1) > (y1_13_.2.2.2.2.1))) (hy1_20 : (w64 ((y1_10_.2.1) + (1 : Int))) = (y1_13_.2.2.2.2.2.2.1.l.length : Int)) (hy1_21 : 0 ≤ y1_7_ ∧ y1_7_ ≤ ((x1_4 : Nat) : Int)) (hy1_22 : ¬ ((y1_4_.2.2.2.2.2.2.1.l.length : Int) > (0 : Int))) : Q_iOq2_1 rnd x1_0 x1_1 x1_2 x1_5 ((x1_3a :: x1_3t), x1_4, x1_6) (.normal, S_iOq2_1 x1_0 x1_1 x1_2 x1_5 ((((x1_3a :: x1_3t)).set (y1_7_).toNat ((y1_10_.1), (w64 ((y1_10_.2.1) + (1 : Int))), (y1_4_.2.2.2.2.1))), ((y1_7_).toNat), (w64 (x1_6 + (1 : Int))))) :=
 by
 obtain ⟨za, zt, hz⟩ : ∃ a t, (((x1_3a :: x1_3t)).set (y1_7_).toNat ((y1_10_.1), (w64 ((y1_10_.2.1) + (1 : Int))), (y1_4_.2.2.2.2.1))) = a :: t := set_cons
 rw [hz]
 exact runC2 hm (L := lT []) ⟨[0, 3, 8, 9, 10], [(0, 0, true), (1, 1, true)], 2, 1, [], false, []⟩ (zz 1 (xdT hy1_1) <|
zz 8 (xk18 0 x1_2 hy1_2) <|
yy 9 (.ld (Value.agg #[(i6 (y1_4_.1)), (i6 (y1_4_.2.1)), (i6 (y1_4_.2.2.1)), (i6 (y1_4_.2.2.2.1)), (i6 (y1_4_.2.2.2.2.1)), (i6 (y1_4_.2.2.2.2.2.1)), (nlV (y1_4_.2.2.2.2.2.2.1)), (Value.int .u64 (y1_4_.2.2.2.2.2.2.2))])) <|
ww (p := rdT (layT (rows rw_iiiiiiLu x1_0)) 8 ((x1_6).toNat * 8) = some [(i6 (y1_4_.1)), (i6 (y1_4_.2.1)), (i6 (y1_4_.2.2.1)), (i6 (y1_4_.2.2.2.1)), (i6 (y1_4_.2.2.2.2.1)), (i6 (y1_4_.2.2.2.2.2.1)), (nlV (y1_4_.2.2.2.2.2.2.1)), (Value.int .u64 (y1_4_.2.2.2.2.2.2.2))]) (rows_rdpN rwf_iiiiiiLu (0, 0, 0, 0, 0, 0, nl0, 0) (hr := hy1_4) (i := (x1_6).toNat) (j := 0) ((x1_6).toNat * 8) rfl (hy1_3) (by decide) rfl) <|
zz 16 (xdT hy1_5) <|
zz 22 (xeF hy1_6) <|
zz 28 (xnm hy1_7) <|
zz 29 (xk3 1 U3 hy1_8) <|
zz 36 (ok4 hy1_10 (hy1_9)) <|
zz 37 (xk18 0 x1_2 hy1_11) <|
yy 38 (.ld (Value.agg #[(i6 (y1_13_.1)), (i6 (y1_13_.2.1)), (i6 (y1_13_.2.2.1)), (i6 (y1_13_.2.2.2.1)), (i6 (y1_13_.2.2.2.2.1)), (i6 (y1_13_.2.2.2.2.2.1)), (nlV (y1_13_.2.2.2.2.2.2.1)), (Value.int .u64 (y1_13_.2.2.2.2.2.2.2))])) <|
ww (p := rdT (layT (rows rw_iiiiiiLu x1_0)) 8 (((y1_10_.1)).toNat * 8) = some [(i6 (y1_13_.1)), (i6 (y1_13_.2.1)), (i6 (y1_13_.2.2.1)), (i6 (y1_13_.2.2.2.1)), (i6 (y1_13_.2.2.2.2.1)), (i6 (y1_13_.2.2.2.2.2.1)), (nlV (y1_13_.2.2.2.2.2.2.1)), (Value.int .u64 (y1_13_.2.2.2.2.2.2.2))]) (rows_rdpN rwf_iiiiiiLu (0, 0, 0, 0, 0, 0, nl0, 0) (hr := hy1_13) (i := ((y1_10_.1)).toNat) (j := 0) (((y1_10_.1)).toNat * 8) rfl (hy1_12) (by decide) rfl) <|
zz 48 (ok5 hy1_10 (hy1_9)) <|
zz 49 (xk6 (Nat.add ((y1_13_.2.2.2.2.2.2.1)).num 64) ((y1_13_.2.2.2.2.2.2.1)).cap hy1_14) <|
zz 50 (nk7 hy1_16 hy1_15) <|
zz 52 (xnF hy1_17) <|
zz 59 (ok8 hy1_10 (hy1_9)) <|
zz 60 (xdF hy1_18) <|
zz 67 (xdF hy1_19) <|
zz 76 (ok5 hy1_10 (hy1_9)) <|
yy 82 (.sto (layT (rows rw_iii (((x1_3a :: x1_3t)).set (y1_7_).toNat ((y1_10_.1), (w64 ((y1_10_.2.1) + (1 : Int))), (y1_10_.2.2)))))) <|
ww (p := ∃ old, rdT (layT (rows rw_iii (x1_3a :: x1_3t))) 1 (Nat.add ((y1_7_).toNat * 3) 1) = some old) (Exists.elim (rows_stN rwf_iii (0, 0, 0) (hr := hy1_10) (i := (y1_7_).toNat) (j := 1) (l := [(i6 (w64 ((y1_10_.2.1) + (1 : Int))))]) ((y1_10_.1), (w64 ((y1_10_.2.1) + (1 : Int))), (y1_10_.2.2)) (Nat.add ((y1_7_).toNat * 3) 1) rfl (hy1_9) (Nat.le_of_ble_eq_true rfl) rfl) fun o h => ⟨o, h.1⟩) <|
ww (p := layL [(i6 (w64 ((y1_10_.2.1) + (1 : Int))))] (Nat.add ((y1_7_).toNat * 3) 1) (layT (rows rw_iii (x1_3a :: x1_3t))) = layT (rows rw_iii (((x1_3a :: x1_3t)).set (y1_7_).toNat ((y1_10_.1), (w64 ((y1_10_.2.1) + (1 : Int))), (y1_10_.2.2))))) (Exists.elim (rows_stN rwf_iii (0, 0, 0) (hr := hy1_10) (i := (y1_7_).toNat) (j := 1) (l := [(i6 (w64 ((y1_10_.2.1) + (1 : Int))))]) ((y1_10_.1), (w64 ((y1_10_.2.1) + (1 : Int))), (y1_10_.2.2)) (Nat.add ((y1_7_).toNat * 3) 1) rfl (hy1_9) (Nat.le_of_ble_eq_true rfl) rfl) fun o h => h.2) <|
yy 85 (.sto (layT (rows rw_iii (za :: zt)))) <|
ww (p := ∃ old, rdT (layT (rows rw_iii (((x1_3a :: x1_3t)).set (y1_7_).toNat ((y1_10_.1), (w64 ((y1_10_.2.1) + (1 : Int))), (y1_10_.2.2))))) 1 (Nat.add ((y1_7_).toNat * 3) 2) = some old) (Exists.elim (rows_stS rwf_iii (i := (y1_7_).toNat) (j := 2) (l := [(i6 (y1_4_.2.2.2.2.1))]) ((y1_10_.1), (w64 ((y1_10_.2.1) + (1 : Int))), (y1_10_.2.2)) ((y1_10_.1), (w64 ((y1_10_.2.1) + (1 : Int))), (y1_4_.2.2.2.2.1)) (Nat.add ((y1_7_).toNat * 3) 2) rfl (hy1_9) (Nat.le_of_ble_eq_true rfl) rfl) fun o h => ⟨o, h.1⟩) <|
ww (p := layL [(i6 (y1_4_.2.2.2.2.1))] (Nat.add ((y1_7_).toNat * 3) 2) (layT (rows rw_iii (((x1_3a :: x1_3t)).set (y1_7_).toNat ((y1_10_.1), (w64 ((y1_10_.2.1) + (1 : Int))), (y1_10_.2.2))))) = layT (rows rw_iii (za :: zt))) (by rw [← hz]; exact (Exists.elim (rows_stS rwf_iii (i := (y1_7_).toNat) (j := 2) (l := [(i6 (y1_4_.2.2.2.2.1))]) ((y1_10_.1), (w64 ((y1_10_.2.1) + (1 : Int))), (y1_10_.2.2)) ((y1_10_.1), (w64 ((y1_10_.2.1) + (1 : Int))), (y1_4_.2.2.2.2.1)) (Nat.add ((y1_7_).toNat * 3) 2) rfl (hy1_9) (Nat.le_of_ble_eq_true rfl) rfl) fun o h => h.2)) <|
yy 90 (.ld (i6 (w64 ((y1_10_.2.1) + (1 : Int))))) <|
ww (p := (layT (rows rw_iii (za :: zt))).get (Nat.add ((y1_7_).toNat * 3) 1) = some (i6 (w64 ((y1_10_.2.1) + (1 : Int))))) (by rw [← hz]; exact (rows_ldS rwf_iii (i := (y1_7_).toNat) (j := 1) ((y1_10_.1), (w64 ((y1_10_.2.1) + (1 : Int))), (y1_4_.2.2.2.2.1)) (Nat.add ((y1_7_).toNat * 3) 1) rfl (hy1_9) (by decide) rfl)) <|
zz 94 (xeT hy1_20) <|
zz 99 (xnm hy1_7) <|
yy 100 (.pur (sN 1 0 (y1_7_).toNat (Nat.add big 3))) <|
ww (p := opSlice P 62 (sN 1 0 x1_4 (Nat.add big 3)) none (some (i6 y1_7_)) none Ax.h0 = some ((sN 1 0 (y1_7_).toNat (Nat.add big 3)), Ax.h0)) (slRowHi (e := 65) (es := 3) (by kernel_rfl) (by kernel_rfl) rfl rfl hy1_21) <|
zz 106 (xdF hy1_22) <|
ww (rows_flat rwf_iiiiiiLu x1_0 32) <|
ww (rows_flat rwf_iii (za :: zt) 65) <|
ee) (by kernel_rfl)
theorem q_iOq2_1_9 (n : Nat) {rnd : Option Nat} (x1_0 : List R8) (x1_1 x1_2 : Nat) (x1_3a : Int × Int × Int) (x1_3t : List (Int × Int × Int)) (x1_4 : Nat) (x1_5 x1_6 : Int) (hy1_1 : x1_6 < x1_5) (hy1_2 : 0 ≤ x1_6 ∧ x1_6 < ((x1_1 : Nat) : Int)) (hy1_3 : (x1_6).toNat < (x1_0).length) (y1_4_ : R8) (hy1_4 : (some ((x1_0).getD (x1_6).toNat (0, 0, 0, 0, 0, 0, nl0, 0))) = some y1_4_) (hy1_5 : x1_6 > (0 : Int)) (hy1_6 : ¬ (((x1_4 : Nat) : Int) = (0 : Int))) (y1_7_ : Int) (hy1_7 : (some (w64 (((x1_4 : Nat) : Int) - (1 : Int)))) = some y1_7_) (hy1_8 : 0 ≤ y1_7_ ∧ y1_7_ < ((x1_4 : Nat) : Int)) (hy1_9 : (y1_7_).toNat < ((x1_3a :: x1_3t)).length) (y1_10_ : Int × Int × Int) (hy1_10 : (some (((x1_3a :: x1_3t)).getD (y1_7_).toNat (0, 0, 0))) = some y1_10_) (hy1_11 : 0 ≤ (y1_10_.1) ∧ (y1_10_.1) < ((x1_1 : Nat) : Int)) (hy1_12 : ((y1_10_.1)).toNat < (x1_0).length) (y1_13_ : R8) (hy1_13 : (some ((x1_0).getD ((y1_10_.1)).toNat (0, 0, 0, 0, 0, 0, nl0, 0))) = some y1_13_) (hy1_14 : 0 ≤ (y1_10_.2.1) ∧ (y1_10_.2.1) < (y1_13_.2.2.2.2.2.2.1.l.length : Int)) (hy1_15 : ((y1_10_.2.1)).toNat < (((y1_13_.2.2.2.2.2.2.1)).l).length) (y1_16_ : Int) (hy1_16 : (some ((((y1_13_.2.2.2.2.2.2.1)).l).getD ((y1_10_.2.1)).toNat 0)) = some y1_16_) (hy1_17 : y1_16_ = x1_6) (hy1_18 : ¬ ((y1_4_.2.2.1) < (y1_10_.2.2))) (hy1_19 : ¬ ((y1_4_.2.2.2.2.1) > (y1_13_.2.2.2.2.1))) (hy1_20 : ¬ ((w64 ((y1_10_.2.1) + (1 : Int))) = (y1_13_.2.2.2.2.2.2.1.l.length : Int))) (hy1_21 : (y1_4_.2.2.2.2.2.2.1.l.length : Int) > (0 : Int)) (hy1_22 : x1_4 ≤ ((((x1_3a :: x1_3t)).set (y1_7_).toNat ((y1_10_.1), (w64 ((y1_10_.2.1) + (1 : Int))), (y1_4_.2.2.2.2.1)))).length) (hy1_23 : (x1_4 + 1) * 24 ≤ 140737488355328) : Q_iOq2_1 rnd x1_0 x1_1 x1_2 x1_5 ((x1_3a :: x1_3t), x1_4, x1_6) (.normal, S_iOq2_1 x1_0 x1_1 x1_2 x1_5 (((List.take x1_4 (((x1_3a :: x1_3t)).set (y1_7_).toNat ((y1_10_.1), (w64 ((y1_10_.2.1) + (1 : Int))), (y1_4_.2.2.2.2.1)))) ++ [(x1_6, (0 : Int), (y1_4_.2.2.1))]), ((((List.take x1_4 (((x1_3a :: x1_3t)).set (y1_7_).toNat ((y1_10_.1), (w64 ((y1_10_.2.1) + (1 : Int))), (y1_4_.2.2.2.2.1)))) ++ [(x1_6, (0 : Int), (y1_4_.2.2.1))])).length), (w64 (x1_6 + (1 : Int))))) :=
 by
 obtain ⟨za, zt, hz⟩ : ∃ a t, ((List.take x1_4 (((x1_3a :: x1_3t)).set (y1_7_).toNat ((y1_10_.1), (w64 ((y1_10_.2.1) + (1 : Int))), (y1_4_.2.2.2.2.1)))) ++ [(x1_6, (0 : Int), (y1_4_.2.2.1))]) = a :: t := snoc_cons (List.take x1_4 (((x1_3a :: x1_3t)).set (y1_7_).toNat ((y1_10_.1), (w64 ((y1_10_.2.1) + (1 : Int))), (y1_4_.2.2.2.2.1)))) (x1_6, (0 : Int), (y1_4_.2.2.1))
 rw [hz]
 exact runC2 hm (L := lT []) ⟨[0, 3, 8, 9, 10], [(0, 0, true), (1, 5, true)], 2, 1, [], false, []⟩ (zz 1 (xdT hy1_1) <|
zz 8 (xk18 0 x1_2 hy1_2) <|
yy 9 (.ld (Value.agg #[(i6 (y1_4_.1)), (i6 (y1_4_.2.1)), (i6 (y1_4_.2.2.1)), (i6 (y1_4_.2.2.2.1)), (i6 (y1_4_.2.2.2.2.1)), (i6 (y1_4_.2.2.2.2.2.1)), (nlV (y1_4_.2.2.2.2.2.2.1)), (Value.int .u64 (y1_4_.2.2.2.2.2.2.2))])) <|
ww (p := rdT (layT (rows rw_iiiiiiLu x1_0)) 8 ((x1_6).toNat * 8) = some [(i6 (y1_4_.1)), (i6 (y1_4_.2.1)), (i6 (y1_4_.2.2.1)), (i6 (y1_4_.2.2.2.1)), (i6 (y1_4_.2.2.2.2.1)), (i6 (y1_4_.2.2.2.2.2.1)), (nlV (y1_4_.2.2.2.2.2.2.1)), (Value.int .u64 (y1_4_.2.2.2.2.2.2.2))]) (rows_rdpN rwf_iiiiiiLu (0, 0, 0, 0, 0, 0, nl0, 0) (hr := hy1_4) (i := (x1_6).toNat) (j := 0) ((x1_6).toNat * 8) rfl (hy1_3) (by decide) rfl) <|
zz 16 (xdT hy1_5) <|
zz 22 (xeF hy1_6) <|
zz 28 (xnm hy1_7) <|
zz 29 (xk3 1 U3 hy1_8) <|
zz 36 (ok4 hy1_10 (hy1_9)) <|
zz 37 (xk18 0 x1_2 hy1_11) <|
yy 38 (.ld (Value.agg #[(i6 (y1_13_.1)), (i6 (y1_13_.2.1)), (i6 (y1_13_.2.2.1)), (i6 (y1_13_.2.2.2.1)), (i6 (y1_13_.2.2.2.2.1)), (i6 (y1_13_.2.2.2.2.2.1)), (nlV (y1_13_.2.2.2.2.2.2.1)), (Value.int .u64 (y1_13_.2.2.2.2.2.2.2))])) <|
ww (p := rdT (layT (rows rw_iiiiiiLu x1_0)) 8 (((y1_10_.1)).toNat * 8) = some [(i6 (y1_13_.1)), (i6 (y1_13_.2.1)), (i6 (y1_13_.2.2.1)), (i6 (y1_13_.2.2.2.1)), (i6 (y1_13_.2.2.2.2.1)), (i6 (y1_13_.2.2.2.2.2.1)), (nlV (y1_13_.2.2.2.2.2.2.1)), (Value.int .u64 (y1_13_.2.2.2.2.2.2.2))]) (rows_rdpN rwf_iiiiiiLu (0, 0, 0, 0, 0, 0, nl0, 0) (hr := hy1_13) (i := ((y1_10_.1)).toNat) (j := 0) (((y1_10_.1)).toNat * 8) rfl (hy1_12) (by decide) rfl) <|
zz 48 (ok5 hy1_10 (hy1_9)) <|
zz 49 (xk6 (Nat.add ((y1_13_.2.2.2.2.2.2.1)).num 64) ((y1_13_.2.2.2.2.2.2.1)).cap hy1_14) <|
zz 50 (nk7 hy1_16 hy1_15) <|
zz 52 (xnF hy1_17) <|
zz 59 (ok8 hy1_10 (hy1_9)) <|
zz 60 (xdF hy1_18) <|
zz 67 (xdF hy1_19) <|
zz 76 (ok5 hy1_10 (hy1_9)) <|
yy 82 (.sto (layT (rows rw_iii (((x1_3a :: x1_3t)).set (y1_7_).toNat ((y1_10_.1), (w64 ((y1_10_.2.1) + (1 : Int))), (y1_10_.2.2)))))) <|
ww (p := ∃ old, rdT (layT (rows rw_iii (x1_3a :: x1_3t))) 1 (Nat.add ((y1_7_).toNat * 3) 1) = some old) (Exists.elim (rows_stN rwf_iii (0, 0, 0) (hr := hy1_10) (i := (y1_7_).toNat) (j := 1) (l := [(i6 (w64 ((y1_10_.2.1) + (1 : Int))))]) ((y1_10_.1), (w64 ((y1_10_.2.1) + (1 : Int))), (y1_10_.2.2)) (Nat.add ((y1_7_).toNat * 3) 1) rfl (hy1_9) (Nat.le_of_ble_eq_true rfl) rfl) fun o h => ⟨o, h.1⟩) <|
ww (p := layL [(i6 (w64 ((y1_10_.2.1) + (1 : Int))))] (Nat.add ((y1_7_).toNat * 3) 1) (layT (rows rw_iii (x1_3a :: x1_3t))) = layT (rows rw_iii (((x1_3a :: x1_3t)).set (y1_7_).toNat ((y1_10_.1), (w64 ((y1_10_.2.1) + (1 : Int))), (y1_10_.2.2))))) (Exists.elim (rows_stN rwf_iii (0, 0, 0) (hr := hy1_10) (i := (y1_7_).toNat) (j := 1) (l := [(i6 (w64 ((y1_10_.2.1) + (1 : Int))))]) ((y1_10_.1), (w64 ((y1_10_.2.1) + (1 : Int))), (y1_10_.2.2)) (Nat.add ((y1_7_).toNat * 3) 1) rfl (hy1_9) (Nat.le_of_ble_eq_true rfl) rfl) fun o h => h.2) <|
yy 85 (.sto (layT (rows rw_iii (((x1_3a :: x1_3t)).set (y1_7_).toNat ((y1_10_.1), (w64 ((y1_10_.2.1) + (1 : Int))), (y1_4_.2.2.2.2.1)))))) <|
ww (p := ∃ old, rdT (layT (rows rw_iii (((x1_3a :: x1_3t)).set (y1_7_).toNat ((y1_10_.1), (w64 ((y1_10_.2.1) + (1 : Int))), (y1_10_.2.2))))) 1 (Nat.add ((y1_7_).toNat * 3) 2) = some old) (Exists.elim (rows_stS rwf_iii (i := (y1_7_).toNat) (j := 2) (l := [(i6 (y1_4_.2.2.2.2.1))]) ((y1_10_.1), (w64 ((y1_10_.2.1) + (1 : Int))), (y1_10_.2.2)) ((y1_10_.1), (w64 ((y1_10_.2.1) + (1 : Int))), (y1_4_.2.2.2.2.1)) (Nat.add ((y1_7_).toNat * 3) 2) rfl (hy1_9) (Nat.le_of_ble_eq_true rfl) rfl) fun o h => ⟨o, h.1⟩) <|
ww (p := layL [(i6 (y1_4_.2.2.2.2.1))] (Nat.add ((y1_7_).toNat * 3) 2) (layT (rows rw_iii (((x1_3a :: x1_3t)).set (y1_7_).toNat ((y1_10_.1), (w64 ((y1_10_.2.1) + (1 : Int))), (y1_10_.2.2))))) = layT (rows rw_iii (((x1_3a :: x1_3t)).set (y1_7_).toNat ((y1_10_.1), (w64 ((y1_10_.2.1) + (1 : Int))), (y1_4_.2.2.2.2.1))))) (Exists.elim (rows_stS rwf_iii (i := (y1_7_).toNat) (j := 2) (l := [(i6 (y1_4_.2.2.2.2.1))]) ((y1_10_.1), (w64 ((y1_10_.2.1) + (1 : Int))), (y1_10_.2.2)) ((y1_10_.1), (w64 ((y1_10_.2.1) + (1 : Int))), (y1_4_.2.2.2.2.1)) (Nat.add ((y1_7_).toNat * 3) 2) rfl (hy1_9) (Nat.le_of_ble_eq_true rfl) rfl) fun o h => h.2) <|
yy 90 (.ld (i6 (w64 ((y1_10_.2.1) + (1 : Int))))) <|
ww (p := (layT (rows rw_iii (((x1_3a :: x1_3t)).set (y1_7_).toNat ((y1_10_.1), (w64 ((y1_10_.2.1) + (1 : Int))), (y1_4_.2.2.2.2.1))))).get (Nat.add ((y1_7_).toNat * 3) 1) = some (i6 (w64 ((y1_10_.2.1) + (1 : Int))))) (rows_ldS rwf_iii (i := (y1_7_).toNat) (j := 1) ((y1_10_.1), (w64 ((y1_10_.2.1) + (1 : Int))), (y1_4_.2.2.2.2.1)) (Nat.add ((y1_7_).toNat * 3) 1) rfl (hy1_9) (by decide) rfl) <|
zz 94 (xeF hy1_20) <|
zz 100 (xdT hy1_21) <|
yy 108 (.app ⟨none, rows rw_iii (List.take x1_4 (((x1_3a :: x1_3t)).set (y1_7_).toNat ((y1_10_.1), (w64 ((y1_10_.2.1) + (1 : Int))), (y1_4_.2.2.2.2.1)))), (rows rw_iii (za :: zt)), ((za :: zt)).length, false⟩) <|
ww (p := 0 < 1) ((by decide)) <|
ww (p := rdT (layT (rows rw_iii (((x1_3a :: x1_3t)).set (y1_7_).toNat ((y1_10_.1), (w64 ((y1_10_.2.1) + (1 : Int))), (y1_4_.2.2.2.2.1))))) (Nat.mul x1_4 3) 0 = some (rows rw_iii (List.take x1_4 (((x1_3a :: x1_3t)).set (y1_7_).toNat ((y1_10_.1), (w64 ((y1_10_.2.1) + (1 : Int))), (y1_4_.2.2.2.2.1)))))) (rows_rdTake rwf_iii _ _ hy1_22) <|
ww (p := fits (Nat.add x1_4 1) 24 = true) (fits_ok hy1_23 (by have := hy1_23; show (_ : Nat) + _ ≤ _; omega)) <|
ww (p := allCells [(i6 x1_6), (i6 (0 : Int)), (i6 (y1_4_.2.2.1))] = true) (rfl) <|
ww (p := allCells (rows rw_iii (List.take x1_4 (((x1_3a :: x1_3t)).set (y1_7_).toNat ((y1_10_.1), (w64 ((y1_10_.2.1) + (1 : Int))), (y1_4_.2.2.2.2.1))))) = true) (rows_cells rwf_iii _) <|
ww (p := rows rw_iii (List.take x1_4 (((x1_3a :: x1_3t)).set (y1_7_).toNat ((y1_10_.1), (w64 ((y1_10_.2.1) + (1 : Int))), (y1_4_.2.2.2.2.1)))) ++ [(i6 x1_6), (i6 (0 : Int)), (i6 (y1_4_.2.2.1))] = (rows rw_iii (za :: zt))) (by rw [← hz]; exact (rows_app rw_iii (List.take x1_4 (((x1_3a :: x1_3t)).set (y1_7_).toNat ((y1_10_.1), (w64 ((y1_10_.2.1) + (1 : Int))), (y1_4_.2.2.2.2.1)))) [(x1_6, (0 : Int), (y1_4_.2.2.1))])) <|
ww (p := Nat.add x1_4 1 = ((za :: zt)).length) (by rw [← hz]; exact (take_len hy1_22 rfl)) <|
ww (rows_flat rwf_iiiiiiLu x1_0 32) <|
ww (rows_flat rwf_iii (za :: zt) 65) <|
ee) (by kernel_rfl)
theorem q_iOq2_1_10 (n : Nat) {rnd : Option Nat} (x1_0 : List R8) (x1_1 x1_2 : Nat) (x1_3a : Int × Int × Int) (x1_3t : List (Int × Int × Int)) (x1_4 : Nat) (x1_5 x1_6 : Int) (hy1_1 : x1_6 < x1_5) (hy1_2 : 0 ≤ x1_6 ∧ x1_6 < ((x1_1 : Nat) : Int)) (hy1_3 : (x1_6).toNat < (x1_0).length) (y1_4_ : R8) (hy1_4 : (some ((x1_0).getD (x1_6).toNat (0, 0, 0, 0, 0, 0, nl0, 0))) = some y1_4_) (hy1_5 : x1_6 > (0 : Int)) (hy1_6 : ¬ (((x1_4 : Nat) : Int) = (0 : Int))) (y1_7_ : Int) (hy1_7 : (some (w64 (((x1_4 : Nat) : Int) - (1 : Int)))) = some y1_7_) (hy1_8 : 0 ≤ y1_7_ ∧ y1_7_ < ((x1_4 : Nat) : Int)) (hy1_9 : (y1_7_).toNat < ((x1_3a :: x1_3t)).length) (y1_10_ : Int × Int × Int) (hy1_10 : (some (((x1_3a :: x1_3t)).getD (y1_7_).toNat (0, 0, 0))) = some y1_10_) (hy1_11 : 0 ≤ (y1_10_.1) ∧ (y1_10_.1) < ((x1_1 : Nat) : Int)) (hy1_12 : ((y1_10_.1)).toNat < (x1_0).length) (y1_13_ : R8) (hy1_13 : (some ((x1_0).getD ((y1_10_.1)).toNat (0, 0, 0, 0, 0, 0, nl0, 0))) = some y1_13_) (hy1_14 : 0 ≤ (y1_10_.2.1) ∧ (y1_10_.2.1) < (y1_13_.2.2.2.2.2.2.1.l.length : Int)) (hy1_15 : ((y1_10_.2.1)).toNat < (((y1_13_.2.2.2.2.2.2.1)).l).length) (y1_16_ : Int) (hy1_16 : (some ((((y1_13_.2.2.2.2.2.2.1)).l).getD ((y1_10_.2.1)).toNat 0)) = some y1_16_) (hy1_17 : y1_16_ = x1_6) (hy1_18 : ¬ ((y1_4_.2.2.1) < (y1_10_.2.2))) (hy1_19 : ¬ ((y1_4_.2.2.2.2.1) > (y1_13_.2.2.2.2.1))) (hy1_20 : ¬ ((w64 ((y1_10_.2.1) + (1 : Int))) = (y1_13_.2.2.2.2.2.2.1.l.length : Int))) (hy1_21 : ¬ ((y1_4_.2.2.2.2.2.2.1.l.length : Int) > (0 : Int))) : Q_iOq2_1 rnd x1_0 x1_1 x1_2 x1_5 ((x1_3a :: x1_3t), x1_4, x1_6) (.normal, S_iOq2_1 x1_0 x1_1 x1_2 x1_5 ((((x1_3a :: x1_3t)).set (y1_7_).toNat ((y1_10_.1), (w64 ((y1_10_.2.1) + (1 : Int))), (y1_4_.2.2.2.2.1))), x1_4, (w64 (x1_6 + (1 : Int))))) :=
 by
 obtain ⟨za, zt, hz⟩ : ∃ a t, (((x1_3a :: x1_3t)).set (y1_7_).toNat ((y1_10_.1), (w64 ((y1_10_.2.1) + (1 : Int))), (y1_4_.2.2.2.2.1))) = a :: t := set_cons
 rw [hz]
 exact runC2 hm (L := lT []) ⟨[0, 3, 8, 9, 10], [(0, 0, true), (1, 1, true)], 2, 1, [], false, []⟩ (zz 1 (xdT hy1_1) <|
zz 8 (xk18 0 x1_2 hy1_2) <|
yy 9 (.ld (Value.agg #[(i6 (y1_4_.1)), (i6 (y1_4_.2.1)), (i6 (y1_4_.2.2.1)), (i6 (y1_4_.2.2.2.1)), (i6 (y1_4_.2.2.2.2.1)), (i6 (y1_4_.2.2.2.2.2.1)), (nlV (y1_4_.2.2.2.2.2.2.1)), (Value.int .u64 (y1_4_.2.2.2.2.2.2.2))])) <|
ww (p := rdT (layT (rows rw_iiiiiiLu x1_0)) 8 ((x1_6).toNat * 8) = some [(i6 (y1_4_.1)), (i6 (y1_4_.2.1)), (i6 (y1_4_.2.2.1)), (i6 (y1_4_.2.2.2.1)), (i6 (y1_4_.2.2.2.2.1)), (i6 (y1_4_.2.2.2.2.2.1)), (nlV (y1_4_.2.2.2.2.2.2.1)), (Value.int .u64 (y1_4_.2.2.2.2.2.2.2))]) (rows_rdpN rwf_iiiiiiLu (0, 0, 0, 0, 0, 0, nl0, 0) (hr := hy1_4) (i := (x1_6).toNat) (j := 0) ((x1_6).toNat * 8) rfl (hy1_3) (by decide) rfl) <|
zz 16 (xdT hy1_5) <|
zz 22 (xeF hy1_6) <|
zz 28 (xnm hy1_7) <|
zz 29 (xk3 1 U3 hy1_8) <|
zz 36 (ok4 hy1_10 (hy1_9)) <|
zz 37 (xk18 0 x1_2 hy1_11) <|
yy 38 (.ld (Value.agg #[(i6 (y1_13_.1)), (i6 (y1_13_.2.1)), (i6 (y1_13_.2.2.1)), (i6 (y1_13_.2.2.2.1)), (i6 (y1_13_.2.2.2.2.1)), (i6 (y1_13_.2.2.2.2.2.1)), (nlV (y1_13_.2.2.2.2.2.2.1)), (Value.int .u64 (y1_13_.2.2.2.2.2.2.2))])) <|
ww (p := rdT (layT (rows rw_iiiiiiLu x1_0)) 8 (((y1_10_.1)).toNat * 8) = some [(i6 (y1_13_.1)), (i6 (y1_13_.2.1)), (i6 (y1_13_.2.2.1)), (i6 (y1_13_.2.2.2.1)), (i6 (y1_13_.2.2.2.2.1)), (i6 (y1_13_.2.2.2.2.2.1)), (nlV (y1_13_.2.2.2.2.2.2.1)), (Value.int .u64 (y1_13_.2.2.2.2.2.2.2))]) (rows_rdpN rwf_iiiiiiLu (0, 0, 0, 0, 0, 0, nl0, 0) (hr := hy1_13) (i := ((y1_10_.1)).toNat) (j := 0) (((y1_10_.1)).toNat * 8) rfl (hy1_12) (by decide) rfl) <|
zz 48 (ok5 hy1_10 (hy1_9)) <|
zz 49 (xk6 (Nat.add ((y1_13_.2.2.2.2.2.2.1)).num 64) ((y1_13_.2.2.2.2.2.2.1)).cap hy1_14) <|
zz 50 (nk7 hy1_16 hy1_15) <|
zz 52 (xnF hy1_17) <|
zz 59 (ok8 hy1_10 (hy1_9)) <|
zz 60 (xdF hy1_18) <|
zz 67 (xdF hy1_19) <|
zz 76 (ok5 hy1_10 (hy1_9)) <|
yy 82 (.sto (layT (rows rw_iii (((x1_3a :: x1_3t)).set (y1_7_).toNat ((y1_10_.1), (w64 ((y1_10_.2.1) + (1 : Int))), (y1_10_.2.2)))))) <|
ww (p := ∃ old, rdT (layT (rows rw_iii (x1_3a :: x1_3t))) 1 (Nat.add ((y1_7_).toNat * 3) 1) = some old) (Exists.elim (rows_stN rwf_iii (0, 0, 0) (hr := hy1_10) (i := (y1_7_).toNat) (j := 1) (l := [(i6 (w64 ((y1_10_.2.1) + (1 : Int))))]) ((y1_10_.1), (w64 ((y1_10_.2.1) + (1 : Int))), (y1_10_.2.2)) (Nat.add ((y1_7_).toNat * 3) 1) rfl (hy1_9) (Nat.le_of_ble_eq_true rfl) rfl) fun o h => ⟨o, h.1⟩) <|
ww (p := layL [(i6 (w64 ((y1_10_.2.1) + (1 : Int))))] (Nat.add ((y1_7_).toNat * 3) 1) (layT (rows rw_iii (x1_3a :: x1_3t))) = layT (rows rw_iii (((x1_3a :: x1_3t)).set (y1_7_).toNat ((y1_10_.1), (w64 ((y1_10_.2.1) + (1 : Int))), (y1_10_.2.2))))) (Exists.elim (rows_stN rwf_iii (0, 0, 0) (hr := hy1_10) (i := (y1_7_).toNat) (j := 1) (l := [(i6 (w64 ((y1_10_.2.1) + (1 : Int))))]) ((y1_10_.1), (w64 ((y1_10_.2.1) + (1 : Int))), (y1_10_.2.2)) (Nat.add ((y1_7_).toNat * 3) 1) rfl (hy1_9) (Nat.le_of_ble_eq_true rfl) rfl) fun o h => h.2) <|
yy 85 (.sto (layT (rows rw_iii (za :: zt)))) <|
ww (p := ∃ old, rdT (layT (rows rw_iii (((x1_3a :: x1_3t)).set (y1_7_).toNat ((y1_10_.1), (w64 ((y1_10_.2.1) + (1 : Int))), (y1_10_.2.2))))) 1 (Nat.add ((y1_7_).toNat * 3) 2) = some old) (Exists.elim (rows_stS rwf_iii (i := (y1_7_).toNat) (j := 2) (l := [(i6 (y1_4_.2.2.2.2.1))]) ((y1_10_.1), (w64 ((y1_10_.2.1) + (1 : Int))), (y1_10_.2.2)) ((y1_10_.1), (w64 ((y1_10_.2.1) + (1 : Int))), (y1_4_.2.2.2.2.1)) (Nat.add ((y1_7_).toNat * 3) 2) rfl (hy1_9) (Nat.le_of_ble_eq_true rfl) rfl) fun o h => ⟨o, h.1⟩) <|
ww (p := layL [(i6 (y1_4_.2.2.2.2.1))] (Nat.add ((y1_7_).toNat * 3) 2) (layT (rows rw_iii (((x1_3a :: x1_3t)).set (y1_7_).toNat ((y1_10_.1), (w64 ((y1_10_.2.1) + (1 : Int))), (y1_10_.2.2))))) = layT (rows rw_iii (za :: zt))) (by rw [← hz]; exact (Exists.elim (rows_stS rwf_iii (i := (y1_7_).toNat) (j := 2) (l := [(i6 (y1_4_.2.2.2.2.1))]) ((y1_10_.1), (w64 ((y1_10_.2.1) + (1 : Int))), (y1_10_.2.2)) ((y1_10_.1), (w64 ((y1_10_.2.1) + (1 : Int))), (y1_4_.2.2.2.2.1)) (Nat.add ((y1_7_).toNat * 3) 2) rfl (hy1_9) (Nat.le_of_ble_eq_true rfl) rfl) fun o h => h.2)) <|
yy 90 (.ld (i6 (w64 ((y1_10_.2.1) + (1 : Int))))) <|
ww (p := (layT (rows rw_iii (za :: zt))).get (Nat.add ((y1_7_).toNat * 3) 1) = some (i6 (w64 ((y1_10_.2.1) + (1 : Int))))) (by rw [← hz]; exact (rows_ldS rwf_iii (i := (y1_7_).toNat) (j := 1) ((y1_10_.1), (w64 ((y1_10_.2.1) + (1 : Int))), (y1_4_.2.2.2.2.1)) (Nat.add ((y1_7_).toNat * 3) 1) rfl (hy1_9) (by decide) rfl)) <|
zz 94 (xeF hy1_20) <|
zz 100 (xdF hy1_21) <|
ww (rows_flat rwf_iiiiiiLu x1_0 32) <|
ww (rows_flat rwf_iii (za :: zt) 65) <|
ee) (by kernel_rfl)
theorem q_iOq2_1_11 (n : Nat) {rnd : Option Nat} (x1_0 : List R8) (x1_1 x1_2 : Nat) (x1_3a : Int × Int × Int) (x1_3t : List (Int × Int × Int)) (x1_4 : Nat) (x1_5 x1_6 : Int) (hy1_1 : x1_6 < x1_5) (hy1_2 : 0 ≤ x1_6 ∧ x1_6 < ((x1_1 : Nat) : Int)) (hy1_3 : (x1_6).toNat < (x1_0).length) (y1_4_ : R8) (hy1_4 : (some ((x1_0).getD (x1_6).toNat (0, 0, 0, 0, 0, 0, nl0, 0))) = some y1_4_) (hy1_5 : x1_6 > (0 : Int)) (hy1_6 : ¬ (((x1_4 : Nat) : Int) = (0 : Int))) (y1_7_ : Int) (hy1_7 : (some (w64 (((x1_4 : Nat) : Int) - (1 : Int)))) = some y1_7_) (hy1_8 : 0 ≤ y1_7_ ∧ y1_7_ < ((x1_4 : Nat) : Int)) (hy1_9 : (y1_7_).toNat < ((x1_3a :: x1_3t)).length) (y1_10_ : Int × Int × Int) (hy1_10 : (some (((x1_3a :: x1_3t)).getD (y1_7_).toNat (0, 0, 0))) = some y1_10_) (hy1_11 : 0 ≤ (y1_10_.1) ∧ (y1_10_.1) < ((x1_1 : Nat) : Int)) (hy1_12 : ((y1_10_.1)).toNat < (x1_0).length) (y1_13_ : R8) (hy1_13 : (some ((x1_0).getD ((y1_10_.1)).toNat (0, 0, 0, 0, 0, 0, nl0, 0))) = some y1_13_) (hy1_14 : 0 ≤ (y1_10_.2.1) ∧ (y1_10_.2.1) < (y1_13_.2.2.2.2.2.2.1.l.length : Int)) (hy1_15 : ((y1_10_.2.1)).toNat < (((y1_13_.2.2.2.2.2.2.1)).l).length) (y1_16_ : Int) (hy1_16 : (some ((((y1_13_.2.2.2.2.2.2.1)).l).getD ((y1_10_.2.1)).toNat 0)) = some y1_16_) (hy1_17 : ¬ (y1_16_ = x1_6)) : Q_iOq2_1 rnd x1_0 x1_1 x1_2 x1_5 ((x1_3a :: x1_3t), x1_4, x1_6) (X_iOq2_1 x1_0 x1_1 x1_2 x1_5 (.inl ())) :=
 runC2 hm (L := lT []) ⟨[2], [(0, 0, true)], 1, 1, [], false, []⟩ (zz 1 (xdT hy1_1) <|
zz 8 (xk18 0 x1_2 hy1_2) <|
yy 9 (.ld (Value.agg #[(i6 (y1_4_.1)), (i6 (y1_4_.2.1)), (i6 (y1_4_.2.2.1)), (i6 (y1_4_.2.2.2.1)), (i6 (y1_4_.2.2.2.2.1)), (i6 (y1_4_.2.2.2.2.2.1)), (nlV (y1_4_.2.2.2.2.2.2.1)), (Value.int .u64 (y1_4_.2.2.2.2.2.2.2))])) <|
ww (p := rdT (layT (rows rw_iiiiiiLu x1_0)) 8 ((x1_6).toNat * 8) = some [(i6 (y1_4_.1)), (i6 (y1_4_.2.1)), (i6 (y1_4_.2.2.1)), (i6 (y1_4_.2.2.2.1)), (i6 (y1_4_.2.2.2.2.1)), (i6 (y1_4_.2.2.2.2.2.1)), (nlV (y1_4_.2.2.2.2.2.2.1)), (Value.int .u64 (y1_4_.2.2.2.2.2.2.2))]) (rows_rdpN rwf_iiiiiiLu (0, 0, 0, 0, 0, 0, nl0, 0) (hr := hy1_4) (i := (x1_6).toNat) (j := 0) ((x1_6).toNat * 8) rfl (hy1_3) (by decide) rfl) <|
zz 16 (xdT hy1_5) <|
zz 22 (xeF hy1_6) <|
zz 28 (xnm hy1_7) <|
zz 29 (xk3 1 U3 hy1_8) <|
zz 36 (ok4 hy1_10 (hy1_9)) <|
zz 37 (xk18 0 x1_2 hy1_11) <|
yy 38 (.ld (Value.agg #[(i6 (y1_13_.1)), (i6 (y1_13_.2.1)), (i6 (y1_13_.2.2.1)), (i6 (y1_13_.2.2.2.1)), (i6 (y1_13_.2.2.2.2.1)), (i6 (y1_13_.2.2.2.2.2.1)), (nlV (y1_13_.2.2.2.2.2.2.1)), (Value.int .u64 (y1_13_.2.2.2.2.2.2.2))])) <|
ww (p := rdT (layT (rows rw_iiiiiiLu x1_0)) 8 (((y1_10_.1)).toNat * 8) = some [(i6 (y1_13_.1)), (i6 (y1_13_.2.1)), (i6 (y1_13_.2.2.1)), (i6 (y1_13_.2.2.2.1)), (i6 (y1_13_.2.2.2.2.1)), (i6 (y1_13_.2.2.2.2.2.1)), (nlV (y1_13_.2.2.2.2.2.2.1)), (Value.int .u64 (y1_13_.2.2.2.2.2.2.2))]) (rows_rdpN rwf_iiiiiiLu (0, 0, 0, 0, 0, 0, nl0, 0) (hr := hy1_13) (i := ((y1_10_.1)).toNat) (j := 0) (((y1_10_.1)).toNat * 8) rfl (hy1_12) (by decide) rfl) <|
zz 48 (ok5 hy1_10 (hy1_9)) <|
zz 49 (xk6 (Nat.add ((y1_13_.2.2.2.2.2.2.1)).num 64) ((y1_13_.2.2.2.2.2.2.1)).cap hy1_14) <|
zz 50 (nk7 hy1_16 hy1_15) <|
zz 52 (xnT hy1_17) <|
ww (rows_flat rwf_iiiiiiLu x1_0 32) <|
ee) (by kernel_rfl)
theorem q_iOq2_1_12 (n : Nat) {rnd : Option Nat} (x1_0 : List R8) (x1_1 x1_2 : Nat) (x1_3a : Int × Int × Int) (x1_3t : List (Int × Int × Int)) (x1_4 : Nat) (x1_5 x1_6 : Int) (hy1_1 : x1_6 < x1_5) (hy1_2 : 0 ≤ x1_6 ∧ x1_6 < ((x1_1 : Nat) : Int)) (hy1_3 : (x1_6).toNat < (x1_0).length) (y1_4_ : R8) (hy1_4 : (some ((x1_0).getD (x1_6).toNat (0, 0, 0, 0, 0, 0, nl0, 0))) = some y1_4_) (hy1_5 : ¬ (x1_6 > (0 : Int))) (hy1_6 : (y1_4_.2.2.2.2.2.2.1.l.length : Int) > (0 : Int)) (hy1_7 : x1_4 ≤ ((x1_3a :: x1_3t)).length) (hy1_8 : (x1_4 + 1) * 24 ≤ 140737488355328) : Q_iOq2_1 rnd x1_0 x1_1 x1_2 x1_5 ((x1_3a :: x1_3t), x1_4, x1_6) (.normal, S_iOq2_1 x1_0 x1_1 x1_2 x1_5 (((List.take x1_4 (x1_3a :: x1_3t)) ++ [(x1_6, (0 : Int), (y1_4_.2.2.1))]), ((((List.take x1_4 (x1_3a :: x1_3t)) ++ [(x1_6, (0 : Int), (y1_4_.2.2.1))])).length), (w64 (x1_6 + (1 : Int))))) :=
 by
 obtain ⟨za, zt, hz⟩ : ∃ a t, ((List.take x1_4 (x1_3a :: x1_3t)) ++ [(x1_6, (0 : Int), (y1_4_.2.2.1))]) = a :: t := snoc_cons (List.take x1_4 (x1_3a :: x1_3t)) (x1_6, (0 : Int), (y1_4_.2.2.1))
 rw [hz]
 exact runC2 hm (L := lT []) ⟨[0, 3, 8, 9, 10], [(0, 0, true), (1, 4, true)], 2, 1, [], false, []⟩ (zz 1 (xdT hy1_1) <|
zz 8 (xk18 0 x1_2 hy1_2) <|
yy 9 (.ld (Value.agg #[(i6 (y1_4_.1)), (i6 (y1_4_.2.1)), (i6 (y1_4_.2.2.1)), (i6 (y1_4_.2.2.2.1)), (i6 (y1_4_.2.2.2.2.1)), (i6 (y1_4_.2.2.2.2.2.1)), (nlV (y1_4_.2.2.2.2.2.2.1)), (Value.int .u64 (y1_4_.2.2.2.2.2.2.2))])) <|
ww (p := rdT (layT (rows rw_iiiiiiLu x1_0)) 8 ((x1_6).toNat * 8) = some [(i6 (y1_4_.1)), (i6 (y1_4_.2.1)), (i6 (y1_4_.2.2.1)), (i6 (y1_4_.2.2.2.1)), (i6 (y1_4_.2.2.2.2.1)), (i6 (y1_4_.2.2.2.2.2.1)), (nlV (y1_4_.2.2.2.2.2.2.1)), (Value.int .u64 (y1_4_.2.2.2.2.2.2.2))]) (rows_rdpN rwf_iiiiiiLu (0, 0, 0, 0, 0, 0, nl0, 0) (hr := hy1_4) (i := (x1_6).toNat) (j := 0) ((x1_6).toNat * 8) rfl (hy1_3) (by decide) rfl) <|
zz 16 (xdF hy1_5) <|
zz 22 (xdT hy1_6) <|
yy 30 (.app ⟨none, rows rw_iii (List.take x1_4 (x1_3a :: x1_3t)), (rows rw_iii (za :: zt)), ((za :: zt)).length, false⟩) <|
ww (p := 0 < 1) ((by decide)) <|
ww (p := rdT (layT (rows rw_iii (x1_3a :: x1_3t))) (Nat.mul x1_4 3) 0 = some (rows rw_iii (List.take x1_4 (x1_3a :: x1_3t)))) (rows_rdTake rwf_iii _ _ hy1_7) <|
ww (p := fits (Nat.add x1_4 1) 24 = true) (fits_ok hy1_8 (by have := hy1_8; show (_ : Nat) + _ ≤ _; omega)) <|
ww (p := allCells [(i6 x1_6), (i6 (0 : Int)), (i6 (y1_4_.2.2.1))] = true) (rfl) <|
ww (p := allCells (rows rw_iii (List.take x1_4 (x1_3a :: x1_3t))) = true) (rows_cells rwf_iii _) <|
ww (p := rows rw_iii (List.take x1_4 (x1_3a :: x1_3t)) ++ [(i6 x1_6), (i6 (0 : Int)), (i6 (y1_4_.2.2.1))] = (rows rw_iii (za :: zt))) (by rw [← hz]; exact (rows_app rw_iii (List.take x1_4 (x1_3a :: x1_3t)) [(x1_6, (0 : Int), (y1_4_.2.2.1))])) <|
ww (p := Nat.add x1_4 1 = ((za :: zt)).length) (by rw [← hz]; exact (take_len hy1_7 rfl)) <|
ww (rows_flat rwf_iiiiiiLu x1_0 32) <|
ww (rows_flat rwf_iii (za :: zt) 65) <|
ee) (by kernel_rfl)
theorem q_iOq2_1_13 (n : Nat) {rnd : Option Nat} (x1_0 : List R8) (x1_1 x1_2 : Nat) (x1_3a : Int × Int × Int) (x1_3t : List (Int × Int × Int)) (x1_4 : Nat) (x1_5 x1_6 : Int) (hy1_1 : x1_6 < x1_5) (hy1_2 : 0 ≤ x1_6 ∧ x1_6 < ((x1_1 : Nat) : Int)) (hy1_3 : (x1_6).toNat < (x1_0).length) (y1_4_ : R8) (hy1_4 : (some ((x1_0).getD (x1_6).toNat (0, 0, 0, 0, 0, 0, nl0, 0))) = some y1_4_) (hy1_5 : ¬ (x1_6 > (0 : Int))) (hy1_6 : ¬ ((y1_4_.2.2.2.2.2.2.1.l.length : Int) > (0 : Int))) : Q_iOq2_1 rnd x1_0 x1_1 x1_2 x1_5 ((x1_3a :: x1_3t), x1_4, x1_6) (.normal, S_iOq2_1 x1_0 x1_1 x1_2 x1_5 ((x1_3a :: x1_3t), x1_4, (w64 (x1_6 + (1 : Int))))) :=
 runC2 hm (L := lT []) ⟨[0, 3, 8, 9, 10], [(0, 0, true), (1, 1, true)], 2, 1, [], false, []⟩ (zz 1 (xdT hy1_1) <|
zz 8 (xk18 0 x1_2 hy1_2) <|
yy 9 (.ld (Value.agg #[(i6 (y1_4_.1)), (i6 (y1_4_.2.1)), (i6 (y1_4_.2.2.1)), (i6 (y1_4_.2.2.2.1)), (i6 (y1_4_.2.2.2.2.1)), (i6 (y1_4_.2.2.2.2.2.1)), (nlV (y1_4_.2.2.2.2.2.2.1)), (Value.int .u64 (y1_4_.2.2.2.2.2.2.2))])) <|
ww (p := rdT (layT (rows rw_iiiiiiLu x1_0)) 8 ((x1_6).toNat * 8) = some [(i6 (y1_4_.1)), (i6 (y1_4_.2.1)), (i6 (y1_4_.2.2.1)), (i6 (y1_4_.2.2.2.1)), (i6 (y1_4_.2.2.2.2.1)), (i6 (y1_4_.2.2.2.2.2.1)), (nlV (y1_4_.2.2.2.2.2.2.1)), (Value.int .u64 (y1_4_.2.2.2.2.2.2.2))]) (rows_rdpN rwf_iiiiiiLu (0, 0, 0, 0, 0, 0, nl0, 0) (hr := hy1_4) (i := (x1_6).toNat) (j := 0) ((x1_6).toNat * 8) rfl (hy1_3) (by decide) rfl) <|
zz 16 (xdF hy1_5) <|
zz 22 (xdF hy1_6) <|
ww (rows_flat rwf_iiiiiiLu x1_0 32) <|
ww (rows_flat rwf_iii (x1_3a :: x1_3t) 65) <|
ee) (by kernel_rfl)
theorem q_iOq2_1_14 (n : Nat) {rnd : Option Nat} (x1_0 : List R8) (x1_1 x1_2 : Nat) (x1_3a : Int × Int × Int) (x1_3t : List (Int × Int × Int)) (x1_4 : Nat) (x1_5 x1_6 : Int) (hy1_1 : ¬ (x1_6 < x1_5)) : Q_iOq2_1 rnd x1_0 x1_1 x1_2 x1_5 ((x1_3a :: x1_3t), x1_4, x1_6) (X_iOq2_1 x1_0 x1_1 x1_2 x1_5 (.inr ((x1_3a :: x1_3t), x1_4))) :=
 runC2 hm (L := lT []) ⟨[3], [(0, 0, true), (1, 1, true)], 2, 1, [], false, []⟩ (zz 1 (xdF hy1_1) <|
ww (rows_flat rwf_iiiiiiLu x1_0 32) <|
ww (rows_flat rwf_iii (x1_3a :: x1_3t) 65) <|
ee) (by kernel_rfl)
theorem m_iOq2_1_ok (n : Nat) {rnd : Option Nat} (x1_0 : List R8) (x1_1 : Nat) (x1_2 : Nat) (x1_5 : Int) (st : List (Int × Int × Int) × Nat × Int) (r : (Unit) ⊕ (List (Int × Int × Int) × Nat)) (h : m_iOq2_1 n x1_0 x1_1 x1_2 x1_5 st = some r) : CG P rnd (fnN P 18) 1 (codeOf P 18 [false, true, false, true, true]) (S_iOq2_1 x1_0 x1_1 x1_2 x1_5 st) (X_iOq2_1 x1_0 x1_1 x1_2 x1_5 r) :=
 CG.iter (b := codeOf P 18 [false, false, true, false, true, true]) (by kernel_rfl) (body := B_iOq2_1 n x1_0 x1_1 x1_2 x1_5) (S := S_iOq2_1 x1_0 x1_1 x1_2 x1_5) (X := X_iOq2_1 x1_0 x1_1 x1_2 x1_5)
  (fun s s' h => by
  obtain ⟨x1_3, x1_4, x1_6⟩ := s
  unfold B_iOq2_1 at h
  dsimp only at h
  cases x1_3 with
  | nil =>
   dsimp only at h
   by_cases hy1_1 : x1_6 < x1_5
   ·rw [if_pos hy1_1] at h
    by_cases hy1_2 : 0 ≤ x1_6 ∧ x1_6 < ((x1_1 : Nat) : Int)
    ·rw [if_pos hy1_2] at h
     by_cases hy1_3 : (x1_6).toNat < (x1_0).length
     ·rw [if_pos hy1_3] at h
      obtain ⟨y1_4_, hy1_4, h⟩ := Option.bind_eq_some_iff.1 h
      by_cases hy1_5 : x1_6 > (0 : Int)
      ·rw [if_pos hy1_5] at h
       cases h
      ·rw [if_neg hy1_5] at h
       by_cases hy1_6 : (y1_4_.2.2.2.2.2.2.1.l.length : Int) > (0 : Int)
       ·rw [if_pos hy1_6] at h
        obtain rfl := Sum.inl.inj (oI h); exact q_iOq2_1_1 n x1_0 x1_1 x1_2 x1_4 x1_5 x1_6 hy1_1 hy1_2 hy1_3 y1_4_ hy1_4 hy1_5 hy1_6
       ·rw [if_neg hy1_6] at h
        obtain rfl := Sum.inl.inj (oI h); exact q_iOq2_1_2 n x1_0 x1_1 x1_2 x1_4 x1_5 x1_6 hy1_1 hy1_2 hy1_3 y1_4_ hy1_4 hy1_5 hy1_6
     ·rw [if_neg hy1_3] at h; cases h
    ·rw [if_neg hy1_2] at h; cases h
   ·rw [if_neg hy1_1] at h
    cases h
  | cons x1_3a x1_3t =>
   dsimp only at h
   by_cases hy1_1 : x1_6 < x1_5
   ·rw [if_pos hy1_1] at h
    by_cases hy1_2 : 0 ≤ x1_6 ∧ x1_6 < ((x1_1 : Nat) : Int)
    ·rw [if_pos hy1_2] at h
     by_cases hy1_3 : (x1_6).toNat < (x1_0).length
     ·rw [if_pos hy1_3] at h
      obtain ⟨y1_4_, hy1_4, h⟩ := Option.bind_eq_some_iff.1 h
      by_cases hy1_5 : x1_6 > (0 : Int)
      ·rw [if_pos hy1_5] at h
       by_cases hy1_6 : ((x1_4 : Nat) : Int) = (0 : Int)
       ·rw [if_pos hy1_6] at h
        cases h
       ·rw [if_neg hy1_6] at h
        obtain ⟨y1_7_, hy1_7, h⟩ := Option.bind_eq_some_iff.1 h
        by_cases hy1_8 : 0 ≤ y1_7_ ∧ y1_7_ < ((x1_4 : Nat) : Int)
        ·rw [if_pos hy1_8] at h
         by_cases hy1_9 : (y1_7_).toNat < ((x1_3a :: x1_3t)).length
         ·rw [if_pos hy1_9] at h
          obtain ⟨y1_10_, hy1_10, h⟩ := Option.bind_eq_some_iff.1 h
          by_cases hy1_11 : 0 ≤ (y1_10_.1) ∧ (y1_10_.1) < ((x1_1 : Nat) : Int)
          ·rw [if_pos hy1_11] at h
           by_cases hy1_12 : ((y1_10_.1)).toNat < (x1_0).length
           ·rw [if_pos hy1_12] at h
            obtain ⟨y1_13_, hy1_13, h⟩ := Option.bind_eq_some_iff.1 h
            by_cases hy1_14 : 0 ≤ (y1_10_.2.1) ∧ (y1_10_.2.1) < (y1_13_.2.2.2.2.2.2.1.l.length : Int)
            ·rw [if_pos hy1_14] at h
             by_cases hy1_15 : ((y1_10_.2.1)).toNat < (((y1_13_.2.2.2.2.2.2.1)).l).length
             ·rw [if_pos hy1_15] at h
              obtain ⟨y1_16_, hy1_16, h⟩ := Option.bind_eq_some_iff.1 h
              by_cases hy1_17 : y1_16_ = x1_6
              ·rw [if_pos hy1_17] at h
               by_cases hy1_18 : (y1_4_.2.2.1) < (y1_10_.2.2)
               ·rw [if_pos hy1_18] at h
                cases h
               ·rw [if_neg hy1_18] at h
                by_cases hy1_19 : (y1_4_.2.2.2.2.1) > (y1_13_.2.2.2.2.1)
                ·rw [if_pos hy1_19] at h
                 cases h
                ·rw [if_neg hy1_19] at h
                 by_cases hy1_20 : (w64 ((y1_10_.2.1) + (1 : Int))) = (y1_13_.2.2.2.2.2.2.1.l.length : Int)
                 ·rw [if_pos hy1_20] at h
                  by_cases hy1_21 : 0 ≤ y1_7_ ∧ y1_7_ ≤ ((x1_4 : Nat) : Int)
                  ·rw [if_pos hy1_21] at h
                   by_cases hy1_22 : (y1_4_.2.2.2.2.2.2.1.l.length : Int) > (0 : Int)
                   ·rw [if_pos hy1_22] at h
                    by_cases hy1_23 : (y1_7_).toNat ≤ ((((x1_3a :: x1_3t)).set (y1_7_).toNat ((y1_10_.1), (w64 ((y1_10_.2.1) + (1 : Int))), (y1_4_.2.2.2.2.1)))).length
                    ·rw [if_pos hy1_23] at h
                     by_cases hy1_24 : ((y1_7_).toNat + 1) * 24 ≤ 140737488355328
                     ·rw [if_pos hy1_24] at h
                      obtain rfl := Sum.inl.inj (oI h); exact q_iOq2_1_7 n x1_0 x1_1 x1_2 x1_3a x1_3t x1_4 x1_5 x1_6 hy1_1 hy1_2 hy1_3 y1_4_ hy1_4 hy1_5 hy1_6 y1_7_ hy1_7 hy1_8 hy1_9 y1_10_ hy1_10 hy1_11 hy1_12 y1_13_ hy1_13 hy1_14 hy1_15 y1_16_ hy1_16 hy1_17 hy1_18 hy1_19 hy1_20 hy1_21 hy1_22 hy1_23 hy1_24
                     ·rw [if_neg hy1_24] at h; cases h
                    ·rw [if_neg hy1_23] at h; cases h
                   ·rw [if_neg hy1_22] at h
                    obtain rfl := Sum.inl.inj (oI h); exact q_iOq2_1_8 n x1_0 x1_1 x1_2 x1_3a x1_3t x1_4 x1_5 x1_6 hy1_1 hy1_2 hy1_3 y1_4_ hy1_4 hy1_5 hy1_6 y1_7_ hy1_7 hy1_8 hy1_9 y1_10_ hy1_10 hy1_11 hy1_12 y1_13_ hy1_13 hy1_14 hy1_15 y1_16_ hy1_16 hy1_17 hy1_18 hy1_19 hy1_20 hy1_21 hy1_22
                  ·rw [if_neg hy1_21] at h; cases h
                 ·rw [if_neg hy1_20] at h
                  by_cases hy1_21 : (y1_4_.2.2.2.2.2.2.1.l.length : Int) > (0 : Int)
                  ·rw [if_pos hy1_21] at h
                   by_cases hy1_22 : x1_4 ≤ ((((x1_3a :: x1_3t)).set (y1_7_).toNat ((y1_10_.1), (w64 ((y1_10_.2.1) + (1 : Int))), (y1_4_.2.2.2.2.1)))).length
                   ·rw [if_pos hy1_22] at h
                    by_cases hy1_23 : (x1_4 + 1) * 24 ≤ 140737488355328
                    ·rw [if_pos hy1_23] at h
                     obtain rfl := Sum.inl.inj (oI h); exact q_iOq2_1_9 n x1_0 x1_1 x1_2 x1_3a x1_3t x1_4 x1_5 x1_6 hy1_1 hy1_2 hy1_3 y1_4_ hy1_4 hy1_5 hy1_6 y1_7_ hy1_7 hy1_8 hy1_9 y1_10_ hy1_10 hy1_11 hy1_12 y1_13_ hy1_13 hy1_14 hy1_15 y1_16_ hy1_16 hy1_17 hy1_18 hy1_19 hy1_20 hy1_21 hy1_22 hy1_23
                    ·rw [if_neg hy1_23] at h; cases h
                   ·rw [if_neg hy1_22] at h; cases h
                  ·rw [if_neg hy1_21] at h
                   obtain rfl := Sum.inl.inj (oI h); exact q_iOq2_1_10 n x1_0 x1_1 x1_2 x1_3a x1_3t x1_4 x1_5 x1_6 hy1_1 hy1_2 hy1_3 y1_4_ hy1_4 hy1_5 hy1_6 y1_7_ hy1_7 hy1_8 hy1_9 y1_10_ hy1_10 hy1_11 hy1_12 y1_13_ hy1_13 hy1_14 hy1_15 y1_16_ hy1_16 hy1_17 hy1_18 hy1_19 hy1_20 hy1_21
              ·rw [if_neg hy1_17] at h
               cases h
             ·rw [if_neg hy1_15] at h; cases h
            ·rw [if_neg hy1_14] at h; cases h
           ·rw [if_neg hy1_12] at h; cases h
          ·rw [if_neg hy1_11] at h; cases h
         ·rw [if_neg hy1_9] at h; cases h
        ·rw [if_neg hy1_8] at h; cases h
      ·rw [if_neg hy1_5] at h
       by_cases hy1_6 : (y1_4_.2.2.2.2.2.2.1.l.length : Int) > (0 : Int)
       ·rw [if_pos hy1_6] at h
        by_cases hy1_7 : x1_4 ≤ ((x1_3a :: x1_3t)).length
        ·rw [if_pos hy1_7] at h
         by_cases hy1_8 : (x1_4 + 1) * 24 ≤ 140737488355328
         ·rw [if_pos hy1_8] at h
          obtain rfl := Sum.inl.inj (oI h); exact q_iOq2_1_12 n x1_0 x1_1 x1_2 x1_3a x1_3t x1_4 x1_5 x1_6 hy1_1 hy1_2 hy1_3 y1_4_ hy1_4 hy1_5 hy1_6 hy1_7 hy1_8
         ·rw [if_neg hy1_8] at h; cases h
        ·rw [if_neg hy1_7] at h; cases h
       ·rw [if_neg hy1_6] at h
        obtain rfl := Sum.inl.inj (oI h); exact q_iOq2_1_13 n x1_0 x1_1 x1_2 x1_3a x1_3t x1_4 x1_5 x1_6 hy1_1 hy1_2 hy1_3 y1_4_ hy1_4 hy1_5 hy1_6
     ·rw [if_neg hy1_3] at h; cases h
    ·rw [if_neg hy1_2] at h; cases h
   ·rw [if_neg hy1_1] at h
    cases h)
  (fun s r h => by
  obtain ⟨x1_3, x1_4, x1_6⟩ := s
  unfold B_iOq2_1 at h
  dsimp only at h
  cases x1_3 with
  | nil =>
   dsimp only at h
   by_cases hy1_1 : x1_6 < x1_5
   ·rw [if_pos hy1_1] at h
    by_cases hy1_2 : 0 ≤ x1_6 ∧ x1_6 < ((x1_1 : Nat) : Int)
    ·rw [if_pos hy1_2] at h
     by_cases hy1_3 : (x1_6).toNat < (x1_0).length
     ·rw [if_pos hy1_3] at h
      obtain ⟨y1_4_, hy1_4, h⟩ := Option.bind_eq_some_iff.1 h
      by_cases hy1_5 : x1_6 > (0 : Int)
      ·rw [if_pos hy1_5] at h
       obtain rfl := Sum.inr.inj (oI h); exact q_iOq2_1_0 n x1_0 x1_1 x1_2 x1_4 x1_5 x1_6 hy1_1 hy1_2 hy1_3 y1_4_ hy1_4 hy1_5
      ·rw [if_neg hy1_5] at h
       by_cases hy1_6 : (y1_4_.2.2.2.2.2.2.1.l.length : Int) > (0 : Int)
       ·rw [if_pos hy1_6] at h
        cases h
       ·rw [if_neg hy1_6] at h
        cases h
     ·rw [if_neg hy1_3] at h; cases h
    ·rw [if_neg hy1_2] at h; cases h
   ·rw [if_neg hy1_1] at h
    obtain rfl := Sum.inr.inj (oI h); exact q_iOq2_1_3 n x1_0 x1_1 x1_2 x1_4 x1_5 x1_6 hy1_1
  | cons x1_3a x1_3t =>
   dsimp only at h
   by_cases hy1_1 : x1_6 < x1_5
   ·rw [if_pos hy1_1] at h
    by_cases hy1_2 : 0 ≤ x1_6 ∧ x1_6 < ((x1_1 : Nat) : Int)
    ·rw [if_pos hy1_2] at h
     by_cases hy1_3 : (x1_6).toNat < (x1_0).length
     ·rw [if_pos hy1_3] at h
      obtain ⟨y1_4_, hy1_4, h⟩ := Option.bind_eq_some_iff.1 h
      by_cases hy1_5 : x1_6 > (0 : Int)
      ·rw [if_pos hy1_5] at h
       by_cases hy1_6 : ((x1_4 : Nat) : Int) = (0 : Int)
       ·rw [if_pos hy1_6] at h
        obtain rfl := Sum.inr.inj (oI h); exact q_iOq2_1_4 n x1_0 x1_1 x1_2 x1_3a x1_3t x1_4 x1_5 x1_6 hy1_1 hy1_2 hy1_3 y1_4_ hy1_4 hy1_5 hy1_6
       ·rw [if_neg hy1_6] at h
        obtain ⟨y1_7_, hy1_7, h⟩ := Option.bind_eq_some_iff.1 h
        by_cases hy1_8 : 0 ≤ y1_7_ ∧ y1_7_ < ((x1_4 : Nat) : Int)
        ·rw [if_pos hy1_8] at h
         by_cases hy1_9 : (y1_7_).toNat < ((x1_3a :: x1_3t)).length
         ·rw [if_pos hy1_9] at h
          obtain ⟨y1_10_, hy1_10, h⟩ := Option.bind_eq_some_iff.1 h
          by_cases hy1_11 : 0 ≤ (y1_10_.1) ∧ (y1_10_.1) < ((x1_1 : Nat) : Int)
          ·rw [if_pos hy1_11] at h
           by_cases hy1_12 : ((y1_10_.1)).toNat < (x1_0).length
           ·rw [if_pos hy1_12] at h
            obtain ⟨y1_13_, hy1_13, h⟩ := Option.bind_eq_some_iff.1 h
            by_cases hy1_14 : 0 ≤ (y1_10_.2.1) ∧ (y1_10_.2.1) < (y1_13_.2.2.2.2.2.2.1.l.length : Int)
            ·rw [if_pos hy1_14] at h
             by_cases hy1_15 : ((y1_10_.2.1)).toNat < (((y1_13_.2.2.2.2.2.2.1)).l).length
             ·rw [if_pos hy1_15] at h
              obtain ⟨y1_16_, hy1_16, h⟩ := Option.bind_eq_some_iff.1 h
              by_cases hy1_17 : y1_16_ = x1_6
              ·rw [if_pos hy1_17] at h
               by_cases hy1_18 : (y1_4_.2.2.1) < (y1_10_.2.2)
               ·rw [if_pos hy1_18] at h
                obtain rfl := Sum.inr.inj (oI h); exact q_iOq2_1_5 n x1_0 x1_1 x1_2 x1_3a x1_3t x1_4 x1_5 x1_6 hy1_1 hy1_2 hy1_3 y1_4_ hy1_4 hy1_5 hy1_6 y1_7_ hy1_7 hy1_8 hy1_9 y1_10_ hy1_10 hy1_11 hy1_12 y1_13_ hy1_13 hy1_14 hy1_15 y1_16_ hy1_16 hy1_17 hy1_18
               ·rw [if_neg hy1_18] at h
                by_cases hy1_19 : (y1_4_.2.2.2.2.1) > (y1_13_.2.2.2.2.1)
                ·rw [if_pos hy1_19] at h
                 obtain rfl := Sum.inr.inj (oI h); exact q_iOq2_1_6 n x1_0 x1_1 x1_2 x1_3a x1_3t x1_4 x1_5 x1_6 hy1_1 hy1_2 hy1_3 y1_4_ hy1_4 hy1_5 hy1_6 y1_7_ hy1_7 hy1_8 hy1_9 y1_10_ hy1_10 hy1_11 hy1_12 y1_13_ hy1_13 hy1_14 hy1_15 y1_16_ hy1_16 hy1_17 hy1_18 hy1_19
                ·rw [if_neg hy1_19] at h
                 by_cases hy1_20 : (w64 ((y1_10_.2.1) + (1 : Int))) = (y1_13_.2.2.2.2.2.2.1.l.length : Int)
                 ·rw [if_pos hy1_20] at h
                  by_cases hy1_21 : 0 ≤ y1_7_ ∧ y1_7_ ≤ ((x1_4 : Nat) : Int)
                  ·rw [if_pos hy1_21] at h
                   by_cases hy1_22 : (y1_4_.2.2.2.2.2.2.1.l.length : Int) > (0 : Int)
                   ·rw [if_pos hy1_22] at h
                    by_cases hy1_23 : (y1_7_).toNat ≤ ((((x1_3a :: x1_3t)).set (y1_7_).toNat ((y1_10_.1), (w64 ((y1_10_.2.1) + (1 : Int))), (y1_4_.2.2.2.2.1)))).length
                    ·rw [if_pos hy1_23] at h
                     by_cases hy1_24 : ((y1_7_).toNat + 1) * 24 ≤ 140737488355328
                     ·rw [if_pos hy1_24] at h
                      cases h
                     ·rw [if_neg hy1_24] at h; cases h
                    ·rw [if_neg hy1_23] at h; cases h
                   ·rw [if_neg hy1_22] at h
                    cases h
                  ·rw [if_neg hy1_21] at h; cases h
                 ·rw [if_neg hy1_20] at h
                  by_cases hy1_21 : (y1_4_.2.2.2.2.2.2.1.l.length : Int) > (0 : Int)
                  ·rw [if_pos hy1_21] at h
                   by_cases hy1_22 : x1_4 ≤ ((((x1_3a :: x1_3t)).set (y1_7_).toNat ((y1_10_.1), (w64 ((y1_10_.2.1) + (1 : Int))), (y1_4_.2.2.2.2.1)))).length
                   ·rw [if_pos hy1_22] at h
                    by_cases hy1_23 : (x1_4 + 1) * 24 ≤ 140737488355328
                    ·rw [if_pos hy1_23] at h
                     cases h
                    ·rw [if_neg hy1_23] at h; cases h
                   ·rw [if_neg hy1_22] at h; cases h
                  ·rw [if_neg hy1_21] at h
                   cases h
              ·rw [if_neg hy1_17] at h
               obtain rfl := Sum.inr.inj (oI h); exact q_iOq2_1_11 n x1_0 x1_1 x1_2 x1_3a x1_3t x1_4 x1_5 x1_6 hy1_1 hy1_2 hy1_3 y1_4_ hy1_4 hy1_5 hy1_6 y1_7_ hy1_7 hy1_8 hy1_9 y1_10_ hy1_10 hy1_11 hy1_12 y1_13_ hy1_13 hy1_14 hy1_15 y1_16_ hy1_16 hy1_17
             ·rw [if_neg hy1_15] at h; cases h
            ·rw [if_neg hy1_14] at h; cases h
           ·rw [if_neg hy1_12] at h; cases h
          ·rw [if_neg hy1_11] at h; cases h
         ·rw [if_neg hy1_9] at h; cases h
        ·rw [if_neg hy1_8] at h; cases h
      ·rw [if_neg hy1_5] at h
       by_cases hy1_6 : (y1_4_.2.2.2.2.2.2.1.l.length : Int) > (0 : Int)
       ·rw [if_pos hy1_6] at h
        by_cases hy1_7 : x1_4 ≤ ((x1_3a :: x1_3t)).length
        ·rw [if_pos hy1_7] at h
         by_cases hy1_8 : (x1_4 + 1) * 24 ≤ 140737488355328
         ·rw [if_pos hy1_8] at h
          cases h
         ·rw [if_neg hy1_8] at h; cases h
        ·rw [if_neg hy1_7] at h; cases h
       ·rw [if_neg hy1_6] at h
        cases h
     ·rw [if_neg hy1_3] at h; cases h
    ·rw [if_neg hy1_2] at h; cases h
   ·rw [if_neg hy1_1] at h
    obtain rfl := Sum.inr.inj (oI h); exact q_iOq2_1_14 n x1_0 x1_1 x1_2 x1_3a x1_3t x1_4 x1_5 x1_6 hy1_1)
  (fun r => by intro hx; rcases r with _ | _ <;> cases hx) h
def m_iOq2 (n : Nat) (a0 : List R8) (a1 : Nat) (a2 : Nat) : Option (Bool) :=
 match m_iOq2_1 n a0 a1 a2 ((a1 : Nat) : Int) (([] : List (Int × Int × Int)), 0, 0) with
 | none => none
 | some (.inl _) =>
  some false
 | some (.inr (c1_0, c1_1)) =>
  match c1_0 with
  | [] =>
   some true
  | c1_0a :: c1_0t =>
   if ((c1_1 : Nat) : Int) = (0 : Int) then
    some true
   else
    some false
theorem m_iOq2_ok (n : Nat) (a0 : List R8) (a1 : Nat) (a2 : Nat) (r : Bool) (h : m_iOq2 n a0 a1 a2 = some r) : Gv P (.func 18) (A_iOq2 a0 a1 a2) (H_iOq2 a0 a1 a2) (V_iOq2 a0 a1 a2 r) (R_iOq2 a0 a1 a2 r) := by
 unfold m_iOq2 at h
 rcases hc1 : m_iOq2_1 n a0 a1 a2 ((a1 : Nat) : Int) (([] : List (Int × Int × Int)), 0, 0) with _ | (⟨⟩ | ⟨c1_0, c1_1⟩)
 ·rw [hc1] at h; cases h
 ·rw [hc1] at h
  dsimp only at h
  obtain rfl := oI h; exact (runF2 hm (L := lT [(10, ⟨⟨[0, 3, 8, 9, 10], [(0, 0, true)], 2, 1, [], false, []⟩, (X_iOq2_1 a0 a1 a2 ((a1 : Nat) : Int) (.inl ())).1, (X_iOq2_1 a0 a1 a2 ((a1 : Nat) : Int) (.inl ())).2⟩)]) ⟨[2], [], 1, 1, [], false, []⟩ (ww (p := U_iOq2_1 none a0 a1 a2 ((a1 : Nat) : Int) (([] : List (Int × Int × Int)), 0, 0) (.inl ())) (m_iOq2_1_ok n a0 a1 a2 ((a1 : Nat) : Int) (([] : List (Int × Int × Int)), 0, 0) (.inl ()) hc1) <|
ww (rows_flat rwf_iiiiiiLu a0 32) ee) (by kernel_rfl))
 ·rw [hc1] at h
  dsimp only at h
  cases c1_0 with
  | nil =>
   dsimp only at h
   obtain rfl := oI h; exact (runF2 hm (L := lT [(10, ⟨⟨[0, 3, 8, 9, 10], [(0, 0, true)], 2, 1, [], false, []⟩, (X_iOq2_1 a0 a1 a2 ((a1 : Nat) : Int) (.inr (([] : List (Int × Int × Int)), c1_1))).1, (X_iOq2_1 a0 a1 a2 ((a1 : Nat) : Int) (.inr (([] : List (Int × Int × Int)), c1_1))).2⟩)]) ⟨[2], [], 1, 1, [], false, []⟩ (ww (p := U_iOq2_1 none a0 a1 a2 ((a1 : Nat) : Int) (([] : List (Int × Int × Int)), 0, 0) (.inr (([] : List (Int × Int × Int)), c1_1))) (m_iOq2_1_ok n a0 a1 a2 ((a1 : Nat) : Int) (([] : List (Int × Int × Int)), 0, 0) (.inr (([] : List (Int × Int × Int)), c1_1)) hc1) <|
ww (rows_flat rwf_iiiiiiLu a0 32) ee) (by kernel_rfl))
  | cons c1_0a c1_0t =>
   dsimp only at h
   by_cases hc2 : ((c1_1 : Nat) : Int) = (0 : Int)
   ·rw [if_pos hc2] at h
    obtain rfl := oI h; exact (runF2 hm (L := lT [(10, ⟨⟨[0, 3, 8, 9, 10], [(0, 0, true)], 2, 1, [], false, []⟩, (X_iOq2_1 a0 a1 a2 ((a1 : Nat) : Int) (.inr ((c1_0a :: c1_0t), c1_1))).1, (X_iOq2_1 a0 a1 a2 ((a1 : Nat) : Int) (.inr ((c1_0a :: c1_0t), c1_1))).2⟩)]) ⟨[2], [], 1, 1, [], false, []⟩ (ww (p := U_iOq2_1 none a0 a1 a2 ((a1 : Nat) : Int) (([] : List (Int × Int × Int)), 0, 0) (.inr ((c1_0a :: c1_0t), c1_1))) (m_iOq2_1_ok n a0 a1 a2 ((a1 : Nat) : Int) (([] : List (Int × Int × Int)), 0, 0) (.inr ((c1_0a :: c1_0t), c1_1)) hc1) <|
ww (rows_flat rwf_iiiiiiLu a0 32) <|
zz 14 (xeT hc2) ee) (by kernel_rfl))
   ·rw [if_neg hc2] at h
    obtain rfl := oI h; exact (runF2 hm (L := lT [(10, ⟨⟨[0, 3, 8, 9, 10], [(0, 0, true)], 2, 1, [], false, []⟩, (X_iOq2_1 a0 a1 a2 ((a1 : Nat) : Int) (.inr ((c1_0a :: c1_0t), c1_1))).1, (X_iOq2_1 a0 a1 a2 ((a1 : Nat) : Int) (.inr ((c1_0a :: c1_0t), c1_1))).2⟩)]) ⟨[2], [], 1, 1, [], false, []⟩ (ww (p := U_iOq2_1 none a0 a1 a2 ((a1 : Nat) : Int) (([] : List (Int × Int × Int)), 0, 0) (.inr ((c1_0a :: c1_0t), c1_1))) (m_iOq2_1_ok n a0 a1 a2 ((a1 : Nat) : Int) (([] : List (Int × Int × Int)), 0, 0) (.inr ((c1_0a :: c1_0t), c1_1)) hc1) <|
ww (rows_flat rwf_iiiiiiLu a0 32) <|
zz 14 (xeF hc2) ee) (by kernel_rfl))

def A_tCq2 (a0 : List R8) (a1 : Nat) (a2 : Nat) : List Value := [(sN 0 0 a1 a2)]
def H_tCq2 (a0 : List R8) (a1 : Nat) (a2 : Nat) : AH := ⟨sB [(0, (some (.cells (layT (rows rw_iiiiiiLu a0)) 32)))], 1, 1⟩
def V_tCq2 (a0 : List R8) (a1 : Nat) (a2 : Nat) (r : Int) : Value := match r with
 | o0 => (i6 o0)
def R_tCq2 (a0 : List R8) (a1 : Nat) (a2 : Nat) (r : Int) : AH := match r with
 | o0 => ⟨sB [], 1, 1⟩
abbrev G_tCq2 (a0 : List R8) (a1 : Nat) (a2 : Nat) (r : Int) : Prop := Gv P (.func 6) (A_tCq2 a0 a1 a2) (H_tCq2 a0 a1 a2) (V_tCq2 a0 a1 a2 r) (R_tCq2 a0 a1 a2 r)
abbrev C_tCq2 (a0 : List R8) (a1 : Nat) (a2 : Nat) (r : Int) (ins outs : BL) : CallA := ⟨1, ins, V_tCq2 a0 a1 a2 r, R_tCq2 a0 a1 a2 r, outs⟩
def S_tCq2_1 (x1_0 : List R8) (x1_1 : Nat) (x1_2 : Nat) (x1_3 : Int) (st : Int) : XSt := match st with
 | x1_4 => (sT 36 [(16, (sN 0 0 x1_1 x1_2)), (17, (i6 x1_3)), (18, (i6 x1_4))], [], ⟨sB [(0, (some (.cells (layT (rows rw_iiiiiiLu x1_0)) 32)))], 1, 1⟩)
def X_tCq2_1 (x1_0 : List R8) (x1_1 : Nat) (x1_2 : Nat) (x1_3 : Int) (r : (Unit) ⊕ (Unit)) : Ex × XSt := match r with
 | .inl _ => (.ret, (sT 36 [(2, (i6 (2 : Int)))], [], ⟨sB [(0, (some (.cells (layT (rows rw_iiiiiiLu x1_0)) 32)))], 1, 1⟩))
 | .inr _ => (.exit 0, (sT 36 [], [], ⟨sB [(0, (some (.cells (layT (rows rw_iiiiiiLu x1_0)) 32)))], 1, 1⟩))
abbrev Q_tCq2_1 (rnd : Option Nat) (x1_0 : List R8) (x1_1 : Nat) (x1_2 : Nat) (x1_3 : Int) (st : Int) (c : Ex × XSt) : Prop := CG P rnd (fnN P 6) 1 (codeOf P 6 [false, false, true, false, true, true, true]) (S_tCq2_1 x1_0 x1_1 x1_2 x1_3 st) c
abbrev U_tCq2_1 (rd : Option Nat) (x1_0 : List R8) (x1_1 : Nat) (x1_2 : Nat) (x1_3 : Int) (st : Int) (r : (Unit) ⊕ (Unit)) : Prop := CG P rd (fnN P 6) 1 (codeOf P 6 [false, true, false, true, true, true]) (S_tCq2_1 x1_0 x1_1 x1_2 x1_3 st) (X_tCq2_1 x1_0 x1_1 x1_2 x1_3 r)
def B_tCq2_1 (n : Nat) (x1_0 : List R8) (x1_1 : Nat) (x1_2 : Nat) (x1_3 : Int) (st : Int) : Option ((Int) ⊕ ((Unit) ⊕ (Unit))) := match st with
 | x1_4 =>
  if x1_4 < x1_3 then
   if 0 ≤ x1_4 ∧ x1_4 < ((x1_1 : Nat) : Int) then
    if (x1_4).toNat < (x1_0).length then
     ((some ((x1_0).getD (x1_4).toNat (0, 0, 0, 0, 0, 0, nl0, 0)))).bind fun y1_4_ =>
     (m_soq1 n (y1_4_.1) (y1_4_.2.1) (y1_4_.2.2.1) (y1_4_.2.2.2.1) (y1_4_.2.2.2.2.1) (y1_4_.2.2.2.2.2.1) (y1_4_.2.2.2.2.2.2.1) (y1_4_.2.2.2.2.2.2.2)).bind fun y1_5_ =>
     if y1_5_ = true then
      if (y1_4_.2.1) = (1 : Int) then
       if x1_4 > (0 : Int) then
        some (.inr (.inl ()))
       else
        some (.inl (w64 (x1_4 + (1 : Int))))
      else
       some (.inl (w64 (x1_4 + (1 : Int))))
     else
      some (.inr (.inl ()))
    else none
   else none
  else
   some (.inr (.inr ()))
def m_tCq2_1 (n : Nat) (x1_0 : List R8) (x1_1 : Nat) (x1_2 : Nat) (x1_3 : Int) (st : Int) : Option ((Unit) ⊕ (Unit)) := iterM (B_tCq2_1 n x1_0 x1_1 x1_2 x1_3) n st
theorem q_tCq2_1_0 (n : Nat) {rnd : Option Nat} (x1_0 : List R8) (x1_1 x1_2 : Nat) (x1_3 x1_4 : Int) (hy1_1 : x1_4 < x1_3) (hy1_2 : 0 ≤ x1_4 ∧ x1_4 < ((x1_1 : Nat) : Int)) (hy1_3 : (x1_4).toNat < (x1_0).length) (y1_4_ : R8) (hy1_4 : (some ((x1_0).getD (x1_4).toNat (0, 0, 0, 0, 0, 0, nl0, 0))) = some y1_4_) (y1_5_ : Bool) (hy1_5 : m_soq1 n (y1_4_.1) (y1_4_.2.1) (y1_4_.2.2.1) (y1_4_.2.2.2.1) (y1_4_.2.2.2.2.1) (y1_4_.2.2.2.2.2.1) (y1_4_.2.2.2.2.2.2.1) (y1_4_.2.2.2.2.2.2.2) = some y1_5_) (hy1_6 : y1_5_ = true) (hy1_7 : (y1_4_.2.1) = (1 : Int)) (hy1_8 : x1_4 > (0 : Int)) : Q_tCq2_1 rnd x1_0 x1_1 x1_2 x1_3 x1_4 (X_tCq2_1 x1_0 x1_1 x1_2 x1_3 (.inl ())) :=
 runC2 hm (L := lT []) ⟨[2], [(0, 0, true)], 1, 1, [], false, []⟩ (zz 1 (xdT hy1_1) <|
zz 8 (xk18 0 x1_2 hy1_2) <|
yy 9 (.ld (Value.agg #[(i6 (y1_4_.1)), (i6 (y1_4_.2.1)), (i6 (y1_4_.2.2.1)), (i6 (y1_4_.2.2.2.1)), (i6 (y1_4_.2.2.2.2.1)), (i6 (y1_4_.2.2.2.2.2.1)), (nlV (y1_4_.2.2.2.2.2.2.1)), (Value.int .u64 (y1_4_.2.2.2.2.2.2.2))])) <|
ww (p := rdT (layT (rows rw_iiiiiiLu x1_0)) 8 ((x1_4).toNat * 8) = some [(i6 (y1_4_.1)), (i6 (y1_4_.2.1)), (i6 (y1_4_.2.2.1)), (i6 (y1_4_.2.2.2.1)), (i6 (y1_4_.2.2.2.2.1)), (i6 (y1_4_.2.2.2.2.2.1)), (nlV (y1_4_.2.2.2.2.2.2.1)), (Value.int .u64 (y1_4_.2.2.2.2.2.2.2))]) (rows_rdpN rwf_iiiiiiLu (0, 0, 0, 0, 0, 0, nl0, 0) (hr := hy1_4) (i := (x1_4).toNat) (j := 0) ((x1_4).toNat * 8) rfl (hy1_3) (by decide) rfl) <|
yy 15 (.call (C_soq1 (y1_4_.1) (y1_4_.2.1) (y1_4_.2.2.1) (y1_4_.2.2.2.1) (y1_4_.2.2.2.2.1) (y1_4_.2.2.2.2.2.1) (y1_4_.2.2.2.2.2.2.1) (y1_4_.2.2.2.2.2.2.2) y1_5_ [] [])) <|
ww (m_soq1_ok n (y1_4_.1) (y1_4_.2.1) (y1_4_.2.2.1) (y1_4_.2.2.2.1) (y1_4_.2.2.2.2.1) (y1_4_.2.2.2.2.2.1) (y1_4_.2.2.2.2.2.2.1) (y1_4_.2.2.2.2.2.2.2) y1_5_ hy1_5) <|
yy 16 (vf) <|
ww (p := (Value.bool (!y1_5_)) = (Value.bool false)) (vBn hy1_6) <|
zz 20 (xeT hy1_7) <|
zz 23 (xdT hy1_8) <|
ww (rows_flat rwf_iiiiiiLu x1_0 32) <|
ee) (by kernel_rfl)
theorem q_tCq2_1_1 (n : Nat) {rnd : Option Nat} (x1_0 : List R8) (x1_1 x1_2 : Nat) (x1_3 x1_4 : Int) (hy1_1 : x1_4 < x1_3) (hy1_2 : 0 ≤ x1_4 ∧ x1_4 < ((x1_1 : Nat) : Int)) (hy1_3 : (x1_4).toNat < (x1_0).length) (y1_4_ : R8) (hy1_4 : (some ((x1_0).getD (x1_4).toNat (0, 0, 0, 0, 0, 0, nl0, 0))) = some y1_4_) (y1_5_ : Bool) (hy1_5 : m_soq1 n (y1_4_.1) (y1_4_.2.1) (y1_4_.2.2.1) (y1_4_.2.2.2.1) (y1_4_.2.2.2.2.1) (y1_4_.2.2.2.2.2.1) (y1_4_.2.2.2.2.2.2.1) (y1_4_.2.2.2.2.2.2.2) = some y1_5_) (hy1_6 : y1_5_ = true) (hy1_7 : (y1_4_.2.1) = (1 : Int)) (hy1_8 : ¬ (x1_4 > (0 : Int))) : Q_tCq2_1 rnd x1_0 x1_1 x1_2 x1_3 x1_4 (.normal, S_tCq2_1 x1_0 x1_1 x1_2 x1_3 (w64 (x1_4 + (1 : Int)))) :=
 runC2 hm (L := lT []) ⟨[16, 17, 18], [(0, 0, true)], 1, 1, [], false, []⟩ (zz 1 (xdT hy1_1) <|
zz 8 (xk18 0 x1_2 hy1_2) <|
yy 9 (.ld (Value.agg #[(i6 (y1_4_.1)), (i6 (y1_4_.2.1)), (i6 (y1_4_.2.2.1)), (i6 (y1_4_.2.2.2.1)), (i6 (y1_4_.2.2.2.2.1)), (i6 (y1_4_.2.2.2.2.2.1)), (nlV (y1_4_.2.2.2.2.2.2.1)), (Value.int .u64 (y1_4_.2.2.2.2.2.2.2))])) <|
ww (p := rdT (layT (rows rw_iiiiiiLu x1_0)) 8 ((x1_4).toNat * 8) = some [(i6 (y1_4_.1)), (i6 (y1_4_.2.1)), (i6 (y1_4_.2.2.1)), (i6 (y1_4_.2.2.2.1)), (i6 (y1_4_.2.2.2.2.1)), (i6 (y1_4_.2.2.2.2.2.1)), (nlV (y1_4_.2.2.2.2.2.2.1)), (Value.int .u64 (y1_4_.2.2.2.2.2.2.2))]) (rows_rdpN rwf_iiiiiiLu (0, 0, 0, 0, 0, 0, nl0, 0) (hr := hy1_4) (i := (x1_4).toNat) (j := 0) ((x1_4).toNat * 8) rfl (hy1_3) (by decide) rfl) <|
yy 15 (.call (C_soq1 (y1_4_.1) (y1_4_.2.1) (y1_4_.2.2.1) (y1_4_.2.2.2.1) (y1_4_.2.2.2.2.1) (y1_4_.2.2.2.2.2.1) (y1_4_.2.2.2.2.2.2.1) (y1_4_.2.2.2.2.2.2.2) y1_5_ [] [])) <|
ww (m_soq1_ok n (y1_4_.1) (y1_4_.2.1) (y1_4_.2.2.1) (y1_4_.2.2.2.1) (y1_4_.2.2.2.2.1) (y1_4_.2.2.2.2.2.1) (y1_4_.2.2.2.2.2.2.1) (y1_4_.2.2.2.2.2.2.2) y1_5_ hy1_5) <|
yy 16 (vf) <|
ww (p := (Value.bool (!y1_5_)) = (Value.bool false)) (vBn hy1_6) <|
zz 20 (xeT hy1_7) <|
zz 23 (xdF hy1_8) <|
ww (rows_flat rwf_iiiiiiLu x1_0 32) <|
ee) (by kernel_rfl)
theorem q_tCq2_1_2 (n : Nat) {rnd : Option Nat} (x1_0 : List R8) (x1_1 x1_2 : Nat) (x1_3 x1_4 : Int) (hy1_1 : x1_4 < x1_3) (hy1_2 : 0 ≤ x1_4 ∧ x1_4 < ((x1_1 : Nat) : Int)) (hy1_3 : (x1_4).toNat < (x1_0).length) (y1_4_ : R8) (hy1_4 : (some ((x1_0).getD (x1_4).toNat (0, 0, 0, 0, 0, 0, nl0, 0))) = some y1_4_) (y1_5_ : Bool) (hy1_5 : m_soq1 n (y1_4_.1) (y1_4_.2.1) (y1_4_.2.2.1) (y1_4_.2.2.2.1) (y1_4_.2.2.2.2.1) (y1_4_.2.2.2.2.2.1) (y1_4_.2.2.2.2.2.2.1) (y1_4_.2.2.2.2.2.2.2) = some y1_5_) (hy1_6 : y1_5_ = true) (hy1_7 : ¬ ((y1_4_.2.1) = (1 : Int))) : Q_tCq2_1 rnd x1_0 x1_1 x1_2 x1_3 x1_4 (.normal, S_tCq2_1 x1_0 x1_1 x1_2 x1_3 (w64 (x1_4 + (1 : Int)))) :=
 runC2 hm (L := lT []) ⟨[16, 17, 18], [(0, 0, true)], 1, 1, [], false, []⟩ (zz 1 (xdT hy1_1) <|
zz 8 (xk18 0 x1_2 hy1_2) <|
yy 9 (.ld (Value.agg #[(i6 (y1_4_.1)), (i6 (y1_4_.2.1)), (i6 (y1_4_.2.2.1)), (i6 (y1_4_.2.2.2.1)), (i6 (y1_4_.2.2.2.2.1)), (i6 (y1_4_.2.2.2.2.2.1)), (nlV (y1_4_.2.2.2.2.2.2.1)), (Value.int .u64 (y1_4_.2.2.2.2.2.2.2))])) <|
ww (p := rdT (layT (rows rw_iiiiiiLu x1_0)) 8 ((x1_4).toNat * 8) = some [(i6 (y1_4_.1)), (i6 (y1_4_.2.1)), (i6 (y1_4_.2.2.1)), (i6 (y1_4_.2.2.2.1)), (i6 (y1_4_.2.2.2.2.1)), (i6 (y1_4_.2.2.2.2.2.1)), (nlV (y1_4_.2.2.2.2.2.2.1)), (Value.int .u64 (y1_4_.2.2.2.2.2.2.2))]) (rows_rdpN rwf_iiiiiiLu (0, 0, 0, 0, 0, 0, nl0, 0) (hr := hy1_4) (i := (x1_4).toNat) (j := 0) ((x1_4).toNat * 8) rfl (hy1_3) (by decide) rfl) <|
yy 15 (.call (C_soq1 (y1_4_.1) (y1_4_.2.1) (y1_4_.2.2.1) (y1_4_.2.2.2.1) (y1_4_.2.2.2.2.1) (y1_4_.2.2.2.2.2.1) (y1_4_.2.2.2.2.2.2.1) (y1_4_.2.2.2.2.2.2.2) y1_5_ [] [])) <|
ww (m_soq1_ok n (y1_4_.1) (y1_4_.2.1) (y1_4_.2.2.1) (y1_4_.2.2.2.1) (y1_4_.2.2.2.2.1) (y1_4_.2.2.2.2.2.1) (y1_4_.2.2.2.2.2.2.1) (y1_4_.2.2.2.2.2.2.2) y1_5_ hy1_5) <|
yy 16 (vf) <|
ww (p := (Value.bool (!y1_5_)) = (Value.bool false)) (vBn hy1_6) <|
zz 20 (xeF hy1_7) <|
ww (rows_flat rwf_iiiiiiLu x1_0 32) <|
ee) (by kernel_rfl)
theorem q_tCq2_1_3 (n : Nat) {rnd : Option Nat} (x1_0 : List R8) (x1_1 x1_2 : Nat) (x1_3 x1_4 : Int) (hy1_1 : x1_4 < x1_3) (hy1_2 : 0 ≤ x1_4 ∧ x1_4 < ((x1_1 : Nat) : Int)) (hy1_3 : (x1_4).toNat < (x1_0).length) (y1_4_ : R8) (hy1_4 : (some ((x1_0).getD (x1_4).toNat (0, 0, 0, 0, 0, 0, nl0, 0))) = some y1_4_) (y1_5_ : Bool) (hy1_5 : m_soq1 n (y1_4_.1) (y1_4_.2.1) (y1_4_.2.2.1) (y1_4_.2.2.2.1) (y1_4_.2.2.2.2.1) (y1_4_.2.2.2.2.2.1) (y1_4_.2.2.2.2.2.2.1) (y1_4_.2.2.2.2.2.2.2) = some y1_5_) (hy1_6 : ¬ (y1_5_ = true)) : Q_tCq2_1 rnd x1_0 x1_1 x1_2 x1_3 x1_4 (X_tCq2_1 x1_0 x1_1 x1_2 x1_3 (.inl ())) :=
 runC2 hm (L := lT []) ⟨[2], [(0, 0, true)], 1, 1, [], false, []⟩ (zz 1 (xdT hy1_1) <|
zz 8 (xk18 0 x1_2 hy1_2) <|
yy 9 (.ld (Value.agg #[(i6 (y1_4_.1)), (i6 (y1_4_.2.1)), (i6 (y1_4_.2.2.1)), (i6 (y1_4_.2.2.2.1)), (i6 (y1_4_.2.2.2.2.1)), (i6 (y1_4_.2.2.2.2.2.1)), (nlV (y1_4_.2.2.2.2.2.2.1)), (Value.int .u64 (y1_4_.2.2.2.2.2.2.2))])) <|
ww (p := rdT (layT (rows rw_iiiiiiLu x1_0)) 8 ((x1_4).toNat * 8) = some [(i6 (y1_4_.1)), (i6 (y1_4_.2.1)), (i6 (y1_4_.2.2.1)), (i6 (y1_4_.2.2.2.1)), (i6 (y1_4_.2.2.2.2.1)), (i6 (y1_4_.2.2.2.2.2.1)), (nlV (y1_4_.2.2.2.2.2.2.1)), (Value.int .u64 (y1_4_.2.2.2.2.2.2.2))]) (rows_rdpN rwf_iiiiiiLu (0, 0, 0, 0, 0, 0, nl0, 0) (hr := hy1_4) (i := (x1_4).toNat) (j := 0) ((x1_4).toNat * 8) rfl (hy1_3) (by decide) rfl) <|
yy 15 (.call (C_soq1 (y1_4_.1) (y1_4_.2.1) (y1_4_.2.2.1) (y1_4_.2.2.2.1) (y1_4_.2.2.2.2.1) (y1_4_.2.2.2.2.2.1) (y1_4_.2.2.2.2.2.2.1) (y1_4_.2.2.2.2.2.2.2) y1_5_ [] [])) <|
ww (m_soq1_ok n (y1_4_.1) (y1_4_.2.1) (y1_4_.2.2.1) (y1_4_.2.2.2.1) (y1_4_.2.2.2.2.1) (y1_4_.2.2.2.2.2.1) (y1_4_.2.2.2.2.2.2.1) (y1_4_.2.2.2.2.2.2.2) y1_5_ hy1_5) <|
yy 16 (vt) <|
ww (p := (Value.bool (!y1_5_)) = (Value.bool true)) (vBn (Bool.eq_false_iff.2 hy1_6)) <|
ww (rows_flat rwf_iiiiiiLu x1_0 32) <|
ee) (by kernel_rfl)
theorem q_tCq2_1_4 (n : Nat) {rnd : Option Nat} (x1_0 : List R8) (x1_1 x1_2 : Nat) (x1_3 x1_4 : Int) (hy1_1 : ¬ (x1_4 < x1_3)) : Q_tCq2_1 rnd x1_0 x1_1 x1_2 x1_3 x1_4 (X_tCq2_1 x1_0 x1_1 x1_2 x1_3 (.inr ())) :=
 runC2 hm (L := lT []) ⟨[], [(0, 0, true)], 1, 1, [], false, []⟩ (zz 1 (xdF hy1_1) <|
ww (rows_flat rwf_iiiiiiLu x1_0 32) <|
ee) (by kernel_rfl)
theorem m_tCq2_1_ok (n : Nat) {rnd : Option Nat} (x1_0 : List R8) (x1_1 : Nat) (x1_2 : Nat) (x1_3 : Int) (st : Int) (r : (Unit) ⊕ (Unit)) (h : m_tCq2_1 n x1_0 x1_1 x1_2 x1_3 st = some r) : CG P rnd (fnN P 6) 1 (codeOf P 6 [false, true, false, true, true, true]) (S_tCq2_1 x1_0 x1_1 x1_2 x1_3 st) (X_tCq2_1 x1_0 x1_1 x1_2 x1_3 r) :=
 CG.iter (b := codeOf P 6 [false, false, true, false, true, true, true]) (by kernel_rfl) (body := B_tCq2_1 n x1_0 x1_1 x1_2 x1_3) (S := S_tCq2_1 x1_0 x1_1 x1_2 x1_3) (X := X_tCq2_1 x1_0 x1_1 x1_2 x1_3)
  (fun x1_4 s' h => by
  unfold B_tCq2_1 at h
  dsimp only at h
  by_cases hy1_1 : x1_4 < x1_3
  ·rw [if_pos hy1_1] at h
   by_cases hy1_2 : 0 ≤ x1_4 ∧ x1_4 < ((x1_1 : Nat) : Int)
   ·rw [if_pos hy1_2] at h
    by_cases hy1_3 : (x1_4).toNat < (x1_0).length
    ·rw [if_pos hy1_3] at h
     obtain ⟨y1_4_, hy1_4, h⟩ := Option.bind_eq_some_iff.1 h
     obtain ⟨y1_5_, hy1_5, h⟩ := Option.bind_eq_some_iff.1 h
     by_cases hy1_6 : y1_5_ = true
     ·rw [if_pos hy1_6] at h
      by_cases hy1_7 : (y1_4_.2.1) = (1 : Int)
      ·rw [if_pos hy1_7] at h
       by_cases hy1_8 : x1_4 > (0 : Int)
       ·rw [if_pos hy1_8] at h
        cases h
       ·rw [if_neg hy1_8] at h
        obtain rfl := Sum.inl.inj (oI h); exact q_tCq2_1_1 n x1_0 x1_1 x1_2 x1_3 x1_4 hy1_1 hy1_2 hy1_3 y1_4_ hy1_4 y1_5_ hy1_5 hy1_6 hy1_7 hy1_8
      ·rw [if_neg hy1_7] at h
       obtain rfl := Sum.inl.inj (oI h); exact q_tCq2_1_2 n x1_0 x1_1 x1_2 x1_3 x1_4 hy1_1 hy1_2 hy1_3 y1_4_ hy1_4 y1_5_ hy1_5 hy1_6 hy1_7
     ·rw [if_neg hy1_6] at h
      cases h
    ·rw [if_neg hy1_3] at h; cases h
   ·rw [if_neg hy1_2] at h; cases h
  ·rw [if_neg hy1_1] at h
   cases h)
  (fun x1_4 r h => by
  unfold B_tCq2_1 at h
  dsimp only at h
  by_cases hy1_1 : x1_4 < x1_3
  ·rw [if_pos hy1_1] at h
   by_cases hy1_2 : 0 ≤ x1_4 ∧ x1_4 < ((x1_1 : Nat) : Int)
   ·rw [if_pos hy1_2] at h
    by_cases hy1_3 : (x1_4).toNat < (x1_0).length
    ·rw [if_pos hy1_3] at h
     obtain ⟨y1_4_, hy1_4, h⟩ := Option.bind_eq_some_iff.1 h
     obtain ⟨y1_5_, hy1_5, h⟩ := Option.bind_eq_some_iff.1 h
     by_cases hy1_6 : y1_5_ = true
     ·rw [if_pos hy1_6] at h
      by_cases hy1_7 : (y1_4_.2.1) = (1 : Int)
      ·rw [if_pos hy1_7] at h
       by_cases hy1_8 : x1_4 > (0 : Int)
       ·rw [if_pos hy1_8] at h
        obtain rfl := Sum.inr.inj (oI h); exact q_tCq2_1_0 n x1_0 x1_1 x1_2 x1_3 x1_4 hy1_1 hy1_2 hy1_3 y1_4_ hy1_4 y1_5_ hy1_5 hy1_6 hy1_7 hy1_8
       ·rw [if_neg hy1_8] at h
        cases h
      ·rw [if_neg hy1_7] at h
       cases h
     ·rw [if_neg hy1_6] at h
      obtain rfl := Sum.inr.inj (oI h); exact q_tCq2_1_3 n x1_0 x1_1 x1_2 x1_3 x1_4 hy1_1 hy1_2 hy1_3 y1_4_ hy1_4 y1_5_ hy1_5 hy1_6
    ·rw [if_neg hy1_3] at h; cases h
   ·rw [if_neg hy1_2] at h; cases h
  ·rw [if_neg hy1_1] at h
   obtain rfl := Sum.inr.inj (oI h); exact q_tCq2_1_4 n x1_0 x1_1 x1_2 x1_3 x1_4 hy1_1)
  (fun r => by intro hx; rcases r with _ | _ <;> cases hx) h
def m_tCq2 (n : Nat) (a0 : List R8) (a1 : Nat) (a2 : Nat) : Option (Int) :=
 if ((a1 : Nat) : Int) > (524288 : Int) then
  some 3
 else
  if ((a1 : Nat) : Int) = (0 : Int) then
   some 2
  else
   (m_iOq2 n a0 a1 a2).bind fun c3_ =>
   if c3_ = true then
    match m_tCq2_1 n a0 a1 a2 ((a1 : Nat) : Int) 0 with
    | none => none
    | some (.inl _) =>
     some 2
    | some (.inr _) =>
     some 0
   else
    some 2
theorem m_tCq2_ok (n : Nat) (a0 : List R8) (a1 : Nat) (a2 : Nat) (r : Int) (h : m_tCq2 n a0 a1 a2 = some r) : Gv P (.func 6) (A_tCq2 a0 a1 a2) (H_tCq2 a0 a1 a2) (V_tCq2 a0 a1 a2 r) (R_tCq2 a0 a1 a2 r) := by
 unfold m_tCq2 at h
 by_cases hc1 : ((a1 : Nat) : Int) > (524288 : Int)
 ·rw [if_pos hc1] at h
  obtain rfl := oI h; exact (runF2 hm (L := lT []) ⟨[2], [], 1, 1, [], false, []⟩ (zz 6 (xdT hc1) ee) (by kernel_rfl))
 ·rw [if_neg hc1] at h
  by_cases hc2 : ((a1 : Nat) : Int) = (0 : Int)
  ·rw [if_pos hc2] at h
   obtain rfl := oI h; exact (runF2 hm (L := lT []) ⟨[2], [], 1, 1, [], false, []⟩ (zz 6 (xdF hc1) <|
zz 12 (xeT hc2) ee) (by kernel_rfl))
  ·rw [if_neg hc2] at h
   obtain ⟨c3_, hc3, h⟩ := Option.bind_eq_some_iff.1 h
   by_cases hc4 : c3_ = true
   ·rw [if_pos hc4] at h
    rcases hc5 : m_tCq2_1 n a0 a1 a2 ((a1 : Nat) : Int) 0 with _ | (⟨⟩ | ⟨⟩)
    ·rw [hc5] at h; cases h
    ·rw [hc5] at h
     dsimp only at h
     obtain rfl := oI h; exact (runF2 hm (L := lT [(25, ⟨⟨[16, 17, 18], [(0, 0, true)], 1, 1, [], false, []⟩, (X_tCq2_1 a0 a1 a2 ((a1 : Nat) : Int) (.inl ())).1, (X_tCq2_1 a0 a1 a2 ((a1 : Nat) : Int) (.inl ())).2⟩)]) ⟨[2], [], 1, 1, [], false, []⟩ (zz 6 (xdF hc1) <|
zz 12 (xeF hc2) <|
yy 15 (.call (C_iOq2 a0 a1 a2 c3_ [(0, 0, true)] [])) <|
ww (m_iOq2_ok n a0 a1 a2 c3_ hc3) <|
ww (rows_flat rwf_iiiiiiLu a0 32) <|
yy 16 (vf) <|
ww (p := (Value.bool (!c3_)) = (Value.bool false)) (vBn hc4) <|
ww (p := U_tCq2_1 none a0 a1 a2 ((a1 : Nat) : Int) 0 (.inl ())) (m_tCq2_1_ok n a0 a1 a2 ((a1 : Nat) : Int) 0 (.inl ()) hc5) <|
ww (rows_flat rwf_iiiiiiLu a0 32) ee) (by kernel_rfl))
    ·rw [hc5] at h
     dsimp only at h
     obtain rfl := oI h; exact (runF2 hm (L := lT [(25, ⟨⟨[16, 17, 18], [(0, 0, true)], 1, 1, [], false, []⟩, (X_tCq2_1 a0 a1 a2 ((a1 : Nat) : Int) (.inr ())).1, (X_tCq2_1 a0 a1 a2 ((a1 : Nat) : Int) (.inr ())).2⟩)]) ⟨[2], [], 1, 1, [], false, []⟩ (zz 6 (xdF hc1) <|
zz 12 (xeF hc2) <|
yy 15 (.call (C_iOq2 a0 a1 a2 c3_ [(0, 0, true)] [])) <|
ww (m_iOq2_ok n a0 a1 a2 c3_ hc3) <|
ww (rows_flat rwf_iiiiiiLu a0 32) <|
yy 16 (vf) <|
ww (p := (Value.bool (!c3_)) = (Value.bool false)) (vBn hc4) <|
ww (p := U_tCq2_1 none a0 a1 a2 ((a1 : Nat) : Int) 0 (.inr ())) (m_tCq2_1_ok n a0 a1 a2 ((a1 : Nat) : Int) 0 (.inr ()) hc5) <|
ww (rows_flat rwf_iiiiiiLu a0 32) ee) (by kernel_rfl))
   ·rw [if_neg hc4] at h
    obtain rfl := oI h; exact (runF2 hm (L := lT []) ⟨[2], [], 1, 1, [], false, []⟩ (zz 6 (xdF hc1) <|
zz 12 (xeF hc2) <|
yy 15 (.call (C_iOq2 a0 a1 a2 c3_ [(0, 0, true)] [])) <|
ww (m_iOq2_ok n a0 a1 a2 c3_ hc3) <|
ww (rows_flat rwf_iiiiiiLu a0 32) <|
yy 16 (vt) <|
ww (p := (Value.bool (!c3_)) = (Value.bool true)) (vBn (Bool.eq_false_iff.2 hc4)) ee) (by kernel_rfl))

def A_ePq2 (a0 : List R8) (a1 : Nat) (a2 : Nat) : List Value := [(sN 0 0 a1 a2), (Value.func (.func 30) #[] #[])]
def H_ePq2 (a0 : List R8) (a1 : Nat) (a2 : Nat) : AH := ⟨sB [(0, (some (.cells (layT (rows rw_iiiiiiLu a0)) 32)))], 1, 1⟩
def V_ePq2 (a0 : List R8) (a1 : Nat) (a2 : Nat) (r : (Unit) ⊕ (List R8)) : Value := match r with
 | .inl _ => (Value.slice none 0 0)
 | .inr o0 => (sN 1 0 ((((a1 : Nat) : Int)).toNat) ((((a1 : Nat) : Int)).toNat))
def R_ePq2 (a0 : List R8) (a1 : Nat) (a2 : Nat) (r : (Unit) ⊕ (List R8)) : AH := match r with
 | .inl _ => ⟨sB [], 1, 1⟩
 | .inr o0 => ⟨sB [(1, (some (.cells (layT (rows rw_iiiiiiLu o0)) 32)))], 2, 1⟩
abbrev G_ePq2 (a0 : List R8) (a1 : Nat) (a2 : Nat) (r : (Unit) ⊕ (List R8)) : Prop := Gv P (.func 29) (A_ePq2 a0 a1 a2) (H_ePq2 a0 a1 a2) (V_ePq2 a0 a1 a2 r) (R_ePq2 a0 a1 a2 r)
abbrev C_ePq2 (a0 : List R8) (a1 : Nat) (a2 : Nat) (r : (Unit) ⊕ (List R8)) (ins outs : BL) : CallA := ⟨1, ins, V_ePq2 a0 a1 a2 r, R_ePq2 a0 a1 a2 r, outs⟩
def S_ePq2_1 (x1_0 : List R8) (x1_2 : Nat) (x1_3 : Nat) (x1_4 : Nat) (x1_5 : Int) (st : List R8 × Int) : XSt := match st with
 | (x1_1, x1_6) => (sT 29 [(1, (Value.func (.func 30) #[] #[])), (5, (sN 1 0 x1_2 x1_2)), (14, (sN 0 0 x1_3 x1_4)), (15, (i6 x1_5)), (16, (i6 x1_6))], [], ⟨sB [(0, (some (.cells (layT (rows rw_iiiiiiLu x1_0)) 32))), (1, (some (.cells (layT (rows rw_iiiiiiLu x1_1)) 32)))], 2, 1⟩)
def X_ePq2_1 (x1_0 : List R8) (x1_2 : Nat) (x1_3 : Nat) (x1_4 : Nat) (x1_5 : Int) (r : List R8) : Ex × XSt := match r with
 | z1_0 => (.exit 0, (sT 29 [(5, (sN 1 0 x1_2 x1_2))], [], ⟨sB [(0, (some (.cells (layT (rows rw_iiiiiiLu x1_0)) 32))), (1, (some (.cells (layT (rows rw_iiiiiiLu z1_0)) 32)))], 2, 1⟩))
abbrev Q_ePq2_1 (rnd : Option Nat) (x1_0 : List R8) (x1_2 : Nat) (x1_3 : Nat) (x1_4 : Nat) (x1_5 : Int) (st : List R8 × Int) (c : Ex × XSt) : Prop := CG P rnd (fnN P 29) 1 (codeOf P 29 [false, false, true, false, true, true, true]) (S_ePq2_1 x1_0 x1_2 x1_3 x1_4 x1_5 st) c
abbrev U_ePq2_1 (rd : Option Nat) (x1_0 : List R8) (x1_2 : Nat) (x1_3 : Nat) (x1_4 : Nat) (x1_5 : Int) (st : List R8 × Int) (r : List R8) : Prop := CG P rd (fnN P 29) 1 (codeOf P 29 [false, true, false, true, true, true]) (S_ePq2_1 x1_0 x1_2 x1_3 x1_4 x1_5 st) (X_ePq2_1 x1_0 x1_2 x1_3 x1_4 x1_5 r)
def B_ePq2_1 (n : Nat) (x1_0 : List R8) (x1_2 : Nat) (x1_3 : Nat) (x1_4 : Nat) (x1_5 : Int) (st : List R8 × Int) : Option ((List R8 × Int) ⊕ (List R8)) := match st with
 | (x1_1, x1_6) =>
  if x1_6 < x1_5 then
   if 0 ≤ x1_6 ∧ x1_6 < ((x1_3 : Nat) : Int) then
    if (x1_6).toNat < (x1_0).length then
     ((some ((x1_0).getD (x1_6).toNat (0, 0, 0, 0, 0, 0, nl0, 0)))).bind fun y1_4_ =>
     (m_treeCopy1q1 n (y1_4_.1) (y1_4_.2.1) (y1_4_.2.2.1) (y1_4_.2.2.2.1) (y1_4_.2.2.2.2.1) (y1_4_.2.2.2.2.2.1) (y1_4_.2.2.2.2.2.2.1) (y1_4_.2.2.2.2.2.2.2)).bind fun y1_5_ =>
     if 0 ≤ x1_6 ∧ x1_6 < ((x1_2 : Nat) : Int) then
      if (x1_6).toNat < (x1_1).length then
       some (.inl (((x1_1).set (x1_6).toNat ((y1_4_.1), (y1_4_.2.1), (y1_4_.2.2.1), (y1_4_.2.2.2.1), (y1_4_.2.2.2.2.1), (y1_4_.2.2.2.2.2.1), y1_5_, (y1_4_.2.2.2.2.2.2.2))), (w64 (x1_6 + (1 : Int)))))
      else none
     else none
    else none
   else none
  else
   some (.inr x1_1)
def m_ePq2_1 (n : Nat) (x1_0 : List R8) (x1_2 : Nat) (x1_3 : Nat) (x1_4 : Nat) (x1_5 : Int) (st : List R8 × Int) : Option (List R8) := iterM (B_ePq2_1 n x1_0 x1_2 x1_3 x1_4 x1_5) n st
theorem q_ePq2_1_0 (n : Nat) {rnd : Option Nat} (x1_0 x1_1 : List R8) (x1_2 x1_3 x1_4 : Nat) (x1_5 x1_6 : Int) (hy1_1 : x1_6 < x1_5) (hy1_2 : 0 ≤ x1_6 ∧ x1_6 < ((x1_3 : Nat) : Int)) (hy1_3 : (x1_6).toNat < (x1_0).length) (y1_4_ : R8) (hy1_4 : (some ((x1_0).getD (x1_6).toNat (0, 0, 0, 0, 0, 0, nl0, 0))) = some y1_4_) (y1_5_ : NL) (hy1_5 : m_treeCopy1q1 n (y1_4_.1) (y1_4_.2.1) (y1_4_.2.2.1) (y1_4_.2.2.2.1) (y1_4_.2.2.2.2.1) (y1_4_.2.2.2.2.2.1) (y1_4_.2.2.2.2.2.2.1) (y1_4_.2.2.2.2.2.2.2) = some y1_5_) (hy1_6 : 0 ≤ x1_6 ∧ x1_6 < ((x1_2 : Nat) : Int)) (hy1_7 : (x1_6).toNat < (x1_1).length) : Q_ePq2_1 rnd x1_0 x1_2 x1_3 x1_4 x1_5 (x1_1, x1_6) (.normal, S_ePq2_1 x1_0 x1_2 x1_3 x1_4 x1_5 (((x1_1).set (x1_6).toNat ((y1_4_.1), (y1_4_.2.1), (y1_4_.2.2.1), (y1_4_.2.2.2.1), (y1_4_.2.2.2.2.1), (y1_4_.2.2.2.2.2.1), y1_5_, (y1_4_.2.2.2.2.2.2.2))), (w64 (x1_6 + (1 : Int))))) :=
 runC2 hm (L := lT []) ⟨[1, 5, 14, 15, 16], [(0, 0, true), (1, 1, true)], 2, 1, [], false, []⟩ (zz 1 (xdT hy1_1) <|
zz 8 (xk18 0 x1_4 hy1_2) <|
yy 9 (.ld (Value.agg #[(i6 (y1_4_.1)), (i6 (y1_4_.2.1)), (i6 (y1_4_.2.2.1)), (i6 (y1_4_.2.2.2.1)), (i6 (y1_4_.2.2.2.2.1)), (i6 (y1_4_.2.2.2.2.2.1)), (nlV (y1_4_.2.2.2.2.2.2.1)), (Value.int .u64 (y1_4_.2.2.2.2.2.2.2))])) <|
ww (p := rdT (layT (rows rw_iiiiiiLu x1_0)) 8 ((x1_6).toNat * 8) = some [(i6 (y1_4_.1)), (i6 (y1_4_.2.1)), (i6 (y1_4_.2.2.1)), (i6 (y1_4_.2.2.2.1)), (i6 (y1_4_.2.2.2.2.1)), (i6 (y1_4_.2.2.2.2.2.1)), (nlV (y1_4_.2.2.2.2.2.2.1)), (Value.int .u64 (y1_4_.2.2.2.2.2.2.2))]) (rows_rdpN rwf_iiiiiiLu (0, 0, 0, 0, 0, 0, nl0, 0) (hr := hy1_4) (i := (x1_6).toNat) (j := 0) ((x1_6).toNat * 8) rfl (hy1_3) (by decide) rfl) <|
yy 17 (.call (C_treeCopy1q1 (y1_4_.1) (y1_4_.2.1) (y1_4_.2.2.1) (y1_4_.2.2.2.1) (y1_4_.2.2.2.2.1) (y1_4_.2.2.2.2.2.1) (y1_4_.2.2.2.2.2.2.1) (y1_4_.2.2.2.2.2.2.2) y1_5_ [] [(3, 0, false)])) <|
ww (m_treeCopy1q1_ok n (y1_4_.1) (y1_4_.2.1) (y1_4_.2.2.1) (y1_4_.2.2.2.1) (y1_4_.2.2.2.2.1) (y1_4_.2.2.2.2.2.1) (y1_4_.2.2.2.2.2.2.1) (y1_4_.2.2.2.2.2.2.2) y1_5_ hy1_5) <|
zz 18 (xk18 1 x1_2 hy1_6) <|
yy 19 (.sto (layT (rows rw_iiiiiiLu ((x1_1).set (x1_6).toNat ((y1_4_.1), (y1_4_.2.1), (y1_4_.2.2.1), (y1_4_.2.2.2.1), (y1_4_.2.2.2.2.1), (y1_4_.2.2.2.2.2.1), y1_5_, (y1_4_.2.2.2.2.2.2.2)))))) <|
ww (p := ∃ old, rdT (layT (rows rw_iiiiiiLu x1_1)) 8 ((x1_6).toNat * 8) = some old) (Exists.elim (rows_st rwf_iiiiiiLu (0, 0, 0, 0, 0, 0, nl0, 0) (i := (x1_6).toNat) (j := 0) (l := [(i6 (y1_4_.1)), (i6 (y1_4_.2.1)), (i6 (y1_4_.2.2.1)), (i6 (y1_4_.2.2.2.1)), (i6 (y1_4_.2.2.2.2.1)), (i6 (y1_4_.2.2.2.2.2.1)), (nlV y1_5_), (Value.int .u64 (y1_4_.2.2.2.2.2.2.2))]) ((y1_4_.1), (y1_4_.2.1), (y1_4_.2.2.1), (y1_4_.2.2.2.1), (y1_4_.2.2.2.2.1), (y1_4_.2.2.2.2.2.1), y1_5_, (y1_4_.2.2.2.2.2.2.2)) ((x1_6).toNat * 8) rfl (hy1_7) (Nat.le_of_ble_eq_true rfl) rfl) fun o h => ⟨o, h.1⟩) <|
ww (p := layL [(i6 (y1_4_.1)), (i6 (y1_4_.2.1)), (i6 (y1_4_.2.2.1)), (i6 (y1_4_.2.2.2.1)), (i6 (y1_4_.2.2.2.2.1)), (i6 (y1_4_.2.2.2.2.2.1)), (nlV y1_5_), (Value.int .u64 (y1_4_.2.2.2.2.2.2.2))] ((x1_6).toNat * 8) (layT (rows rw_iiiiiiLu x1_1)) = layT (rows rw_iiiiiiLu ((x1_1).set (x1_6).toNat ((y1_4_.1), (y1_4_.2.1), (y1_4_.2.2.1), (y1_4_.2.2.2.1), (y1_4_.2.2.2.2.1), (y1_4_.2.2.2.2.2.1), y1_5_, (y1_4_.2.2.2.2.2.2.2))))) (Exists.elim (rows_st rwf_iiiiiiLu (0, 0, 0, 0, 0, 0, nl0, 0) (i := (x1_6).toNat) (j := 0) (l := [(i6 (y1_4_.1)), (i6 (y1_4_.2.1)), (i6 (y1_4_.2.2.1)), (i6 (y1_4_.2.2.2.1)), (i6 (y1_4_.2.2.2.2.1)), (i6 (y1_4_.2.2.2.2.2.1)), (nlV y1_5_), (Value.int .u64 (y1_4_.2.2.2.2.2.2.2))]) ((y1_4_.1), (y1_4_.2.1), (y1_4_.2.2.1), (y1_4_.2.2.2.1), (y1_4_.2.2.2.2.1), (y1_4_.2.2.2.2.2.1), y1_5_, (y1_4_.2.2.2.2.2.2.2)) ((x1_6).toNat * 8) rfl (hy1_7) (Nat.le_of_ble_eq_true rfl) rfl) fun o h => h.2) <|
ww (rows_flat rwf_iiiiiiLu x1_0 32) <|
ww (rows_flat rwf_iiiiiiLu ((x1_1).set (x1_6).toNat ((y1_4_.1), (y1_4_.2.1), (y1_4_.2.2.1), (y1_4_.2.2.2.1), (y1_4_.2.2.2.2.1), (y1_4_.2.2.2.2.2.1), y1_5_, (y1_4_.2.2.2.2.2.2.2))) 32) <|
ee) (by kernel_rfl)
theorem q_ePq2_1_1 (n : Nat) {rnd : Option Nat} (x1_0 x1_1 : List R8) (x1_2 x1_3 x1_4 : Nat) (x1_5 x1_6 : Int) (hy1_1 : ¬ (x1_6 < x1_5)) : Q_ePq2_1 rnd x1_0 x1_2 x1_3 x1_4 x1_5 (x1_1, x1_6) (X_ePq2_1 x1_0 x1_2 x1_3 x1_4 x1_5 x1_1) :=
 runC2 hm (L := lT []) ⟨[5], [(0, 0, true), (1, 1, true)], 2, 1, [], false, []⟩ (zz 1 (xdF hy1_1) <|
ww (rows_flat rwf_iiiiiiLu x1_0 32) <|
ww (rows_flat rwf_iiiiiiLu x1_1 32) <|
ee) (by kernel_rfl)
theorem m_ePq2_1_ok (n : Nat) {rnd : Option Nat} (x1_0 : List R8) (x1_2 : Nat) (x1_3 : Nat) (x1_4 : Nat) (x1_5 : Int) (st : List R8 × Int) (r : List R8) (h : m_ePq2_1 n x1_0 x1_2 x1_3 x1_4 x1_5 st = some r) : CG P rnd (fnN P 29) 1 (codeOf P 29 [false, true, false, true, true, true]) (S_ePq2_1 x1_0 x1_2 x1_3 x1_4 x1_5 st) (X_ePq2_1 x1_0 x1_2 x1_3 x1_4 x1_5 r) :=
 CG.iter (b := codeOf P 29 [false, false, true, false, true, true, true]) (by kernel_rfl) (body := B_ePq2_1 n x1_0 x1_2 x1_3 x1_4 x1_5) (S := S_ePq2_1 x1_0 x1_2 x1_3 x1_4 x1_5) (X := X_ePq2_1 x1_0 x1_2 x1_3 x1_4 x1_5)
  (fun s s' h => by
  obtain ⟨x1_1, x1_6⟩ := s
  unfold B_ePq2_1 at h
  dsimp only at h
  by_cases hy1_1 : x1_6 < x1_5
  ·rw [if_pos hy1_1] at h
   by_cases hy1_2 : 0 ≤ x1_6 ∧ x1_6 < ((x1_3 : Nat) : Int)
   ·rw [if_pos hy1_2] at h
    by_cases hy1_3 : (x1_6).toNat < (x1_0).length
    ·rw [if_pos hy1_3] at h
     obtain ⟨y1_4_, hy1_4, h⟩ := Option.bind_eq_some_iff.1 h
     obtain ⟨y1_5_, hy1_5, h⟩ := Option.bind_eq_some_iff.1 h
     by_cases hy1_6 : 0 ≤ x1_6 ∧ x1_6 < ((x1_2 : Nat) : Int)
     ·rw [if_pos hy1_6] at h
      by_cases hy1_7 : (x1_6).toNat < (x1_1).length
      ·rw [if_pos hy1_7] at h
       obtain rfl := Sum.inl.inj (oI h); exact q_ePq2_1_0 n x1_0 x1_1 x1_2 x1_3 x1_4 x1_5 x1_6 hy1_1 hy1_2 hy1_3 y1_4_ hy1_4 y1_5_ hy1_5 hy1_6 hy1_7
      ·rw [if_neg hy1_7] at h; cases h
     ·rw [if_neg hy1_6] at h; cases h
    ·rw [if_neg hy1_3] at h; cases h
   ·rw [if_neg hy1_2] at h; cases h
  ·rw [if_neg hy1_1] at h
   cases h)
  (fun s r h => by
  obtain ⟨x1_1, x1_6⟩ := s
  unfold B_ePq2_1 at h
  dsimp only at h
  by_cases hy1_1 : x1_6 < x1_5
  ·rw [if_pos hy1_1] at h
   by_cases hy1_2 : 0 ≤ x1_6 ∧ x1_6 < ((x1_3 : Nat) : Int)
   ·rw [if_pos hy1_2] at h
    by_cases hy1_3 : (x1_6).toNat < (x1_0).length
    ·rw [if_pos hy1_3] at h
     obtain ⟨y1_4_, hy1_4, h⟩ := Option.bind_eq_some_iff.1 h
     obtain ⟨y1_5_, hy1_5, h⟩ := Option.bind_eq_some_iff.1 h
     by_cases hy1_6 : 0 ≤ x1_6 ∧ x1_6 < ((x1_2 : Nat) : Int)
     ·rw [if_pos hy1_6] at h
      by_cases hy1_7 : (x1_6).toNat < (x1_1).length
      ·rw [if_pos hy1_7] at h
       cases h
      ·rw [if_neg hy1_7] at h; cases h
     ·rw [if_neg hy1_6] at h; cases h
    ·rw [if_neg hy1_3] at h; cases h
   ·rw [if_neg hy1_2] at h; cases h
  ·rw [if_neg hy1_1] at h
   obtain rfl := Sum.inr.inj (oI h); exact q_ePq2_1_1 n x1_0 x1_1 x1_2 x1_3 x1_4 x1_5 x1_6 hy1_1)
  (fun r => by intro hx; cases hx) h
def m_ePq2 (n : Nat) (a0 : List R8) (a1 : Nat) (a2 : Nat) : Option ((Unit) ⊕ (List R8)) :=
 if ((a1 : Nat) : Int) = (0 : Int) then
  some (.inl ())
 else
  if 0 ≤ ((a1 : Nat) : Int) then
   if (((a1 : Nat) : Int)).toNat * 80 ≤ 140737488355328 then
    (m_ePq2_1 n a0 ((((a1 : Nat) : Int)).toNat) a1 a2 ((a1 : Nat) : Int) ((List.replicate (((a1 : Nat) : Int)).toNat (0, 0, 0, 0, 0, 0, nl0, 0)), 0)).bind fun c4_ =>
    some (.inr c4_)
   else none
  else none
theorem m_ePq2_ok (n : Nat) (a0 : List R8) (a1 : Nat) (a2 : Nat) (r : (Unit) ⊕ (List R8)) (h : m_ePq2 n a0 a1 a2 = some r) : Gv P (.func 29) (A_ePq2 a0 a1 a2) (H_ePq2 a0 a1 a2) (V_ePq2 a0 a1 a2 r) (R_ePq2 a0 a1 a2 r) := by
 unfold m_ePq2 at h
 by_cases hc1 : ((a1 : Nat) : Int) = (0 : Int)
 ·rw [if_pos hc1] at h
  obtain rfl := oI h; exact (runF2 hm (L := lT []) ⟨[4], [], 1, 1, [], false, []⟩ (zz 6 (xeT hc1) ee) (by kernel_rfl))
 ·rw [if_neg hc1] at h
  by_cases hc2 : 0 ≤ ((a1 : Nat) : Int)
  ·rw [if_pos hc2] at h
   by_cases hc3 : (((a1 : Nat) : Int)).toNat * 80 ≤ 140737488355328
   ·rw [if_pos hc3] at h
    obtain ⟨c4_, hc4, h⟩ := Option.bind_eq_some_iff.1 h
    obtain rfl := oI h; exact (runF2 hm (L := lT [(19, ⟨⟨[1, 5, 14, 15, 16], [(0, 0, true), (1, 1, true)], 2, 1, [], false, []⟩, (X_ePq2_1 a0 ((((a1 : Nat) : Int)).toNat) a1 a2 ((a1 : Nat) : Int) c4_).1, (X_ePq2_1 a0 ((((a1 : Nat) : Int)).toNat) a1 a2 ((a1 : Nat) : Int) c4_).2⟩)]) ⟨[4], [(1, 1, true)], 2, 1, [], false, []⟩ (zz 6 (xeF hc1) <|
yy 11 (.mk (((a1 : Nat) : Int)).toNat (rows rw_iiiiiiLu (List.replicate (((a1 : Nat) : Int)).toNat (0, 0, 0, 0, 0, 0, nl0, 0)))) <|
ww (p := natOf (i6 ((a1 : Nat) : Int)) = some (((a1 : Nat) : Int)).toNat) (natOf_toNat hc2) <|
ww (p := natOf (i6 ((a1 : Nat) : Int)) = some (((a1 : Nat) : Int)).toNat) (natOf_toNat hc2) <|
ww (p := fits (((a1 : Nat) : Int)).toNat 80 = true) (fits_ok hc3 (by omega)) <|
ww (p := isZ8 [(i6 (0 : Int)), (i6 (0 : Int)), (i6 (0 : Int)), (i6 (0 : Int)), (i6 (0 : Int)), (i6 (0 : Int)), (nlV nl0), (Value.int .u64 (0 : Int))] = false) (rfl) <|
ww (p := reps [(i6 (0 : Int)), (i6 (0 : Int)), (i6 (0 : Int)), (i6 (0 : Int)), (i6 (0 : Int)), (i6 (0 : Int)), (nlV nl0), (Value.int .u64 (0 : Int))] (((a1 : Nat) : Int)).toNat = (rows rw_iiiiiiLu (List.replicate (((a1 : Nat) : Int)).toNat (0, 0, 0, 0, 0, 0, nl0, 0)))) (reps_rows rw_iiiiiiLu (0, 0, 0, 0, 0, 0, nl0, 0) _ rfl _) <|
ww (p := U_ePq2_1 none a0 ((((a1 : Nat) : Int)).toNat) a1 a2 ((a1 : Nat) : Int) ((List.replicate (((a1 : Nat) : Int)).toNat (0, 0, 0, 0, 0, 0, nl0, 0)), 0) c4_) (m_ePq2_1_ok n a0 ((((a1 : Nat) : Int)).toNat) a1 a2 ((a1 : Nat) : Int) ((List.replicate (((a1 : Nat) : Int)).toNat (0, 0, 0, 0, 0, 0, nl0, 0)), 0) c4_ hc4) <|
ww (rows_flat rwf_iiiiiiLu a0 32) <|
ww (rows_flat rwf_iiiiiiLu (List.replicate (((a1 : Nat) : Int)).toNat (0, 0, 0, 0, 0, 0, nl0, 0)) 32) <|
ww (rows_flat rwf_iiiiiiLu c4_ 32) ee) (by kernel_rfl))
   ·rw [if_neg hc3] at h; cases h
  ·rw [if_neg hc2] at h; cases h

def A_treeCopyq2 (a0 : List R8) (a1 : Nat) (a2 : Nat) : List Value := [(sN 0 0 a1 a2)]
def H_treeCopyq2 (a0 : List R8) (a1 : Nat) (a2 : Nat) : AH := ⟨sB [(0, (some (.cells (layT (rows rw_iiiiiiLu a0)) 32)))], 1, 1⟩
def V_treeCopyq2 (a0 : List R8) (a1 : Nat) (a2 : Nat) (r : List R8) : Value := match r with
 | o0 => (sN 1 0 ((((a1 : Nat) : Int)).toNat) ((((a1 : Nat) : Int)).toNat))
def R_treeCopyq2 (a0 : List R8) (a1 : Nat) (a2 : Nat) (r : List R8) : AH := match r with
 | o0 => ⟨sB [(1, (some (.cells (layT (rows rw_iiiiiiLu o0)) 32)))], 2, 1⟩
abbrev G_treeCopyq2 (a0 : List R8) (a1 : Nat) (a2 : Nat) (r : List R8) : Prop := Gv P (.func 20) (A_treeCopyq2 a0 a1 a2) (H_treeCopyq2 a0 a1 a2) (V_treeCopyq2 a0 a1 a2 r) (R_treeCopyq2 a0 a1 a2 r)
abbrev C_treeCopyq2 (a0 : List R8) (a1 : Nat) (a2 : Nat) (r : List R8) (ins outs : BL) : CallA := ⟨1, ins, V_treeCopyq2 a0 a1 a2 r, R_treeCopyq2 a0 a1 a2 r, outs⟩
def m_treeCopyq2 (n : Nat) (a0 : List R8) (a1 : Nat) (a2 : Nat) : Option (List R8) :=
 match m_ePq2 n a0 a1 a2 with
 | none => none
 | some (.inl _) =>
  none
 | some (.inr c1_) =>
  some c1_
theorem m_treeCopyq2_ok (n : Nat) (a0 : List R8) (a1 : Nat) (a2 : Nat) (r : List R8) (h : m_treeCopyq2 n a0 a1 a2 = some r) : Gv P (.func 20) (A_treeCopyq2 a0 a1 a2) (H_treeCopyq2 a0 a1 a2) (V_treeCopyq2 a0 a1 a2 r) (R_treeCopyq2 a0 a1 a2 r) := by
 unfold m_treeCopyq2 at h
 rcases hc1 : m_ePq2 n a0 a1 a2 with _ | (⟨⟩ | c1_)
 ·rw [hc1] at h; cases h
 ·rw [hc1] at h
  dsimp only at h
  cases h
 ·rw [hc1] at h
  dsimp only at h
  obtain rfl := oI h; exact (runF2 hm (L := lT []) ⟨[2], [(1, 1, true)], 2, 1, [], false, []⟩ (yy 4 (.call (C_ePq2 a0 a1 a2 (.inr c1_) [(0, 0, true)] [(1, 1, true)])) <|
ww (m_ePq2_ok n a0 a1 a2 (.inr c1_) hc1) <|
ww (rows_flat rwf_iiiiiiLu a0 32) <|
ww (rows_flat rwf_iiiiiiLu c1_ 32) <|
ww (rows_flat rwf_iiiiiiLu c1_ 32) ee) (by kernel_rfl))

def A_bKq1 (a0 : List R8) (a1 : Nat) (a2 : Nat) : List Value := [(sN 0 0 a1 a2)]
def H_bKq1 (a0 : List R8) (a1 : Nat) (a2 : Nat) : AH := ⟨sB [(0, (some (.cells (layT (rows rw_iiiiiiLu a0)) 32)))], 1, 1⟩
def V_bKq1 (a0 : List R8) (a1 : Nat) (a2 : Nat) (r : Unit) : Value := match r with
 | _ => (Value.func (.func 33) #[] #[(pN 1 0)])
def R_bKq1 (a0 : List R8) (a1 : Nat) (a2 : Nat) (r : Unit) : AH := match r with
 | _ => ⟨sB [(0, (some (.cells (layT (rows rw_iiiiiiLu a0)) 32))), (1, (some (.cells (layT [(sN 0 0 a1 a2)]) 22)))], 2, 1⟩
abbrev G_bKq1 (a0 : List R8) (a1 : Nat) (a2 : Nat) (r : Unit) : Prop := Gv P (.func 21) (A_bKq1 a0 a1 a2) (H_bKq1 a0 a1 a2) (V_bKq1 a0 a1 a2 r) (R_bKq1 a0 a1 a2 r)
abbrev C_bKq1 (a0 : List R8) (a1 : Nat) (a2 : Nat) (r : Unit) (ins outs : BL) : CallA := ⟨1, ins, V_bKq1 a0 a1 a2 r, R_bKq1 a0 a1 a2 r, outs⟩
def m_bKq1 (n : Nat) (a0 : List R8) (a1 : Nat) (a2 : Nat) : Option (Unit) :=
 some ()
theorem m_bKq1_ok (n : Nat) (a0 : List R8) (a1 : Nat) (a2 : Nat) (r : Unit) (h : m_bKq1 n a0 a1 a2 = some r) : Gv P (.func 21) (A_bKq1 a0 a1 a2) (H_bKq1 a0 a1 a2) (V_bKq1 a0 a1 a2 r) (R_bKq1 a0 a1 a2 r) := by
 unfold m_bKq1 at h
 obtain rfl := oI h; exact (runF2 hm (L := lT []) ⟨[2], [(0, 0, true), (1, 1, false)], 2, 1, [], false, []⟩ (ww (rows_flat rwf_iiiiiiLu a0 32) ee) (by kernel_rfl))

def A_shiftboundintq1 (a0 : Int) (a1 : Int) (a2 : Int) : List Value := [(i6 a0), (i6 a1), (sN 0 0 1 1)]
def H_shiftboundintq1 (a0 : Int) (a1 : Int) (a2 : Int) : AH := ⟨sB [(0, (some (.cells (layT [(pN 1 0)]) 77))), (1, (some (.cells (layT [(i6 a2)]) 3)))], 2, 2⟩
def V_shiftboundintq1 (a0 : Int) (a1 : Int) (a2 : Int) (r : Unit) : Value := match r with
 | _ => (Value.tuple #[])
def R_shiftboundintq1 (a0 : Int) (a1 : Int) (a2 : Int) (r : Unit) : AH := match r with
 | _ => ⟨sB [(1, (some (.cells (layT [(i6 (minB (maxB a2 a0) a1))]) 3)))], 2, 1⟩
abbrev G_shiftboundintq1 (a0 : Int) (a1 : Int) (a2 : Int) (r : Unit) : Prop := Gv P (.func 47) (A_shiftboundintq1 a0 a1 a2) (H_shiftboundintq1 a0 a1 a2) (V_shiftboundintq1 a0 a1 a2 r) (R_shiftboundintq1 a0 a1 a2 r)
abbrev C_shiftboundintq1 (a0 : Int) (a1 : Int) (a2 : Int) (r : Unit) (ins outs : BL) : CallA := ⟨2, ins, V_shiftboundintq1 a0 a1 a2 r, R_shiftboundintq1 a0 a1 a2 r, outs⟩
def m_shiftboundintq1 (n : Nat) (a0 : Int) (a1 : Int) (a2 : Int) : Option (Unit) :=
 some ()
theorem m_shiftboundintq1_ok (n : Nat) (a0 : Int) (a1 : Int) (a2 : Int) (r : Unit) (h : m_shiftboundintq1 n a0 a1 a2 = some r) : Gv P (.func 47) (A_shiftboundintq1 a0 a1 a2) (H_shiftboundintq1 a0 a1 a2) (V_shiftboundintq1 a0 a1 a2 r) (R_shiftboundintq1 a0 a1 a2 r) := by
 unfold m_shiftboundintq1 at h
 obtain rfl := oI h; exact (runF2 hm (L := lT []) ⟨[], [(1, 1, false)], 2, 1, [], false, []⟩ (ee) (by kernel_rfl))

def A_shiftnumberq1 (a0 : Int) : List Value := [(i6 a0)]
def H_shiftnumberq1 (a0 : Int) : AH := ⟨sB [], 0, 0⟩
def V_shiftnumberq1 (a0 : Int) (r : Unit) : Value := match r with
 | _ => (i6 (minB (maxB a0 (-1099511627776)) 1099511627776))
def R_shiftnumberq1 (a0 : Int) (r : Unit) : AH := match r with
 | _ => ⟨sB [], 0, 0⟩
abbrev G_shiftnumberq1 (a0 : Int) (r : Unit) : Prop := Gv P (.func 44) (A_shiftnumberq1 a0) (H_shiftnumberq1 a0) (V_shiftnumberq1 a0 r) (R_shiftnumberq1 a0 r)
abbrev C_shiftnumberq1 (a0 : Int) (r : Unit) (ins outs : BL) : CallA := ⟨0, ins, V_shiftnumberq1 a0 r, R_shiftnumberq1 a0 r, outs⟩
def m_shiftnumberq1 (n : Nat) (a0 : Int) : Option (Unit) :=
 (m_shiftboundintq1 n (-1099511627776) 1099511627776 a0).bind fun _ =>
 some ()
theorem m_shiftnumberq1_ok (n : Nat) (a0 : Int) (r : Unit) (h : m_shiftnumberq1 n a0 = some r) : Gv P (.func 44) (A_shiftnumberq1 a0) (H_shiftnumberq1 a0) (V_shiftnumberq1 a0 r) (R_shiftnumberq1 a0 r) := by
 unfold m_shiftnumberq1 at h
 obtain ⟨_, hc1, h⟩ := Option.bind_eq_some_iff.1 h
 obtain rfl := oI h; exact (runF2 hm (L := lT []) ⟨[2], [], 0, 0, [], false, []⟩ (yy 5 (.call (C_shiftboundintq1 (-1099511627776) 1099511627776 a0 () [(0, 1, false), (1, 0, false)] [(0, 1, false)])) <|
ww (m_shiftboundintq1_ok n (-1099511627776) 1099511627776 a0 () hc1) ee) (by kernel_rfl))

def A_shiftboundintq2 (a0 : Int) (a1 : Int) (a2 : Int) (a3 : Int) (a4 : Int) : List Value := [(i6 a0), (i6 a1), (sN 0 0 3 3)]
def H_shiftboundintq2 (a0 : Int) (a1 : Int) (a2 : Int) (a3 : Int) (a4 : Int) : AH := ⟨sB [(0, (some (.cells (layT [(pN 1 0), (pN 1 1), (pN 1 2)]) 77))), (1, (some (.cells (layT [(i6 a2), (i6 a3), (i6 a4)]) 24)))], 2, 2⟩
def V_shiftboundintq2 (a0 : Int) (a1 : Int) (a2 : Int) (a3 : Int) (a4 : Int) (r : Unit) : Value := match r with
 | _ => (Value.tuple #[])
def R_shiftboundintq2 (a0 : Int) (a1 : Int) (a2 : Int) (a3 : Int) (a4 : Int) (r : Unit) : AH := match r with
 | _ => ⟨sB [(1, (some (.cells (layT [(i6 (minB (maxB a2 a0) a1)), (i6 (minB (maxB a3 a0) a1)), (i6 (minB (maxB a4 a0) a1))]) 24)))], 2, 1⟩
abbrev G_shiftboundintq2 (a0 : Int) (a1 : Int) (a2 : Int) (a3 : Int) (a4 : Int) (r : Unit) : Prop := Gv P (.func 47) (A_shiftboundintq2 a0 a1 a2 a3 a4) (H_shiftboundintq2 a0 a1 a2 a3 a4) (V_shiftboundintq2 a0 a1 a2 a3 a4 r) (R_shiftboundintq2 a0 a1 a2 a3 a4 r)
abbrev C_shiftboundintq2 (a0 : Int) (a1 : Int) (a2 : Int) (a3 : Int) (a4 : Int) (r : Unit) (ins outs : BL) : CallA := ⟨2, ins, V_shiftboundintq2 a0 a1 a2 a3 a4 r, R_shiftboundintq2 a0 a1 a2 a3 a4 r, outs⟩
def m_shiftboundintq2 (n : Nat) (a0 : Int) (a1 : Int) (a2 : Int) (a3 : Int) (a4 : Int) : Option (Unit) :=
 some ()
theorem m_shiftboundintq2_ok (n : Nat) (a0 : Int) (a1 : Int) (a2 : Int) (a3 : Int) (a4 : Int) (r : Unit) (h : m_shiftboundintq2 n a0 a1 a2 a3 a4 = some r) : Gv P (.func 47) (A_shiftboundintq2 a0 a1 a2 a3 a4) (H_shiftboundintq2 a0 a1 a2 a3 a4) (V_shiftboundintq2 a0 a1 a2 a3 a4 r) (R_shiftboundintq2 a0 a1 a2 a3 a4 r) := by
 unfold m_shiftboundintq2 at h
 obtain rfl := oI h; exact (runF2 hm (L := lT []) ⟨[], [(1, 1, false)], 2, 1, [], false, []⟩ (ee) (by kernel_rfl))

def A_shifteditq1 (a0 : Int) (a1 : Int) (a2 : Int) : List Value := [(Value.agg #[(i6 a0), (i6 a1), (i6 a2)])]
def H_shifteditq1 (a0 : Int) (a1 : Int) (a2 : Int) : AH := ⟨sB [], 0, 0⟩
def V_shifteditq1 (a0 : Int) (a1 : Int) (a2 : Int) (r : Unit) : Value := match r with
 | _ => (Value.agg #[(i6 (minB (maxB a0 (-1099511627776)) 1099511627776)), (i6 (minB (maxB a1 (-1099511627776)) 1099511627776)), (i6 (minB (maxB a2 (-1099511627776)) 1099511627776))])
def R_shifteditq1 (a0 : Int) (a1 : Int) (a2 : Int) (r : Unit) : AH := match r with
 | _ => ⟨sB [(0, (some (.cells (layT [(i6 (minB (maxB a0 (-1099511627776)) 1099511627776)), (i6 (minB (maxB a1 (-1099511627776)) 1099511627776)), (i6 (minB (maxB a2 (-1099511627776)) 1099511627776))]) 24)))], 1, 0⟩
abbrev G_shifteditq1 (a0 : Int) (a1 : Int) (a2 : Int) (r : Unit) : Prop := Gv P (.func 45) (A_shifteditq1 a0 a1 a2) (H_shifteditq1 a0 a1 a2) (V_shifteditq1 a0 a1 a2 r) (R_shifteditq1 a0 a1 a2 r)
abbrev C_shifteditq1 (a0 : Int) (a1 : Int) (a2 : Int) (r : Unit) (ins outs : BL) : CallA := ⟨0, ins, V_shifteditq1 a0 a1 a2 r, R_shifteditq1 a0 a1 a2 r, outs⟩
def m_shifteditq1 (n : Nat) (a0 : Int) (a1 : Int) (a2 : Int) : Option (Unit) :=
 (m_shiftboundintq2 n (-1099511627776) 1099511627776 a0 a1 a2).bind fun _ =>
 some ()
theorem m_shifteditq1_ok (n : Nat) (a0 : Int) (a1 : Int) (a2 : Int) (r : Unit) (h : m_shifteditq1 n a0 a1 a2 = some r) : Gv P (.func 45) (A_shifteditq1 a0 a1 a2) (H_shifteditq1 a0 a1 a2) (V_shifteditq1 a0 a1 a2 r) (R_shifteditq1 a0 a1 a2 r) := by
 unfold m_shifteditq1 at h
 obtain ⟨_, hc1, h⟩ := Option.bind_eq_some_iff.1 h
 obtain rfl := oI h; exact (runF2 hm (L := lT []) ⟨[2], [(0, 1, false)], 1, 0, [], false, []⟩ (yy 8 (.call (C_shiftboundintq2 (-1099511627776) 1099511627776 a0 a1 a2 () [(0, 2, false), (1, 0, false)] [(0, 1, false)])) <|
ww (m_shiftboundintq2_ok n (-1099511627776) 1099511627776 a0 a1 a2 () hc1) ee) (by kernel_rfl))

def A_sStq1 (a0 : Int) (a1 : Int) (a2 : Int) (a3 : Int) : List Value := [(i6 a0), (Value.agg #[(i6 a1), (i6 a2), (i6 a3)])]
def H_sStq1 (a0 : Int) (a1 : Int) (a2 : Int) (a3 : Int) : AH := ⟨sB [], 0, 0⟩
def V_sStq1 (a0 : Int) (a1 : Int) (a2 : Int) (a3 : Int) (r : Int) : Value := match r with
 | o0 => (i6 o0)
def R_sStq1 (a0 : Int) (a1 : Int) (a2 : Int) (a3 : Int) (r : Int) : AH := match r with
 | o0 => ⟨sB [], 0, 0⟩
abbrev G_sStq1 (a0 : Int) (a1 : Int) (a2 : Int) (a3 : Int) (r : Int) : Prop := Gv P (.func 34) (A_sStq1 a0 a1 a2 a3) (H_sStq1 a0 a1 a2 a3) (V_sStq1 a0 a1 a2 a3 r) (R_sStq1 a0 a1 a2 a3 r)
abbrev C_sStq1 (a0 : Int) (a1 : Int) (a2 : Int) (a3 : Int) (r : Int) (ins outs : BL) : CallA := ⟨0, ins, V_sStq1 a0 a1 a2 a3 r, R_sStq1 a0 a1 a2 a3 r, outs⟩
def m_sStq1 (n : Nat) (a0 : Int) (a1 : Int) (a2 : Int) (a3 : Int) : Option (Int) :=
 (m_shiftnumberq1 n a0).bind fun _ =>
 (m_shifteditq1 n a1 a2 a3).bind fun _ =>
 if (minB (maxB a0 (-1099511627776)) 1099511627776) < (minB (maxB a1 (-1099511627776)) 1099511627776) then
  some (minB (maxB a0 (-1099511627776)) 1099511627776)
 else
  ((some (w64 ((minB (maxB a1 (-1099511627776)) 1099511627776) + (minB (maxB a2 (-1099511627776)) 1099511627776))))).bind fun c4_ =>
  if (minB (maxB a0 (-1099511627776)) 1099511627776) ≥ c4_ then
   ((some (w64 ((minB (maxB a0 (-1099511627776)) 1099511627776) - (minB (maxB a2 (-1099511627776)) 1099511627776))))).bind fun c6_ =>
   ((some (w64 (c6_ + (minB (maxB a3 (-1099511627776)) 1099511627776))))).bind fun c7_ =>
   some c7_
  else
   ((some (w64 ((minB (maxB a1 (-1099511627776)) 1099511627776) + (minB (maxB a3 (-1099511627776)) 1099511627776))))).bind fun c6_ =>
   some c6_
theorem m_sStq1_ok (n : Nat) (a0 : Int) (a1 : Int) (a2 : Int) (a3 : Int) (r : Int) (h : m_sStq1 n a0 a1 a2 a3 = some r) : Gv P (.func 34) (A_sStq1 a0 a1 a2 a3) (H_sStq1 a0 a1 a2 a3) (V_sStq1 a0 a1 a2 a3 r) (R_sStq1 a0 a1 a2 a3 r) := by
 unfold m_sStq1 at h
 obtain ⟨_, hc1, h⟩ := Option.bind_eq_some_iff.1 h
 obtain ⟨_, hc2, h⟩ := Option.bind_eq_some_iff.1 h
 by_cases hc3 : (minB (maxB a0 (-1099511627776)) 1099511627776) < (minB (maxB a1 (-1099511627776)) 1099511627776)
 ·rw [if_pos hc3] at h
  obtain rfl := oI h; exact (runF2 hm (L := lT []) ⟨[4], [], 0, 0, [], false, []⟩ (yy 5 (.call (C_shiftnumberq1 a0 () [] [])) <|
ww (m_shiftnumberq1_ok n a0 () hc1) <|
yy 7 (.call (C_shifteditq1 a1 a2 a3 () [] [(1, 0, false)])) <|
ww (m_shifteditq1_ok n a1 a2 a3 () hc2) <|
zz 16 (xdT hc3) ee) (by kernel_rfl))
 ·rw [if_neg hc3] at h
  obtain ⟨c4_, hc4, h⟩ := Option.bind_eq_some_iff.1 h
  by_cases hc5 : (minB (maxB a0 (-1099511627776)) 1099511627776) ≥ c4_
  ·rw [if_pos hc5] at h
   obtain ⟨c6_, hc6, h⟩ := Option.bind_eq_some_iff.1 h
   obtain ⟨c7_, hc7, h⟩ := Option.bind_eq_some_iff.1 h
   obtain rfl := oI h; exact (runF2 hm (L := lT []) ⟨[4], [], 0, 0, [], false, []⟩ (yy 5 (.call (C_shiftnumberq1 a0 () [] [])) <|
ww (m_shiftnumberq1_ok n a0 () hc1) <|
yy 7 (.call (C_shifteditq1 a1 a2 a3 () [] [(1, 0, false)])) <|
ww (m_shifteditq1_ok n a1 a2 a3 () hc2) <|
zz 16 (xdF hc3) <|
zz 25 (xnm hc4) <|
zz 26 (xdT hc5) <|
zz 33 (xnm hc6) <|
zz 36 (xnm hc7) ee) (by kernel_rfl))
  ·rw [if_neg hc5] at h
   obtain ⟨c6_, hc6, h⟩ := Option.bind_eq_some_iff.1 h
   obtain rfl := oI h; exact (runF2 hm (L := lT []) ⟨[4], [], 0, 0, [], false, []⟩ (yy 5 (.call (C_shiftnumberq1 a0 () [] [])) <|
ww (m_shiftnumberq1_ok n a0 () hc1) <|
yy 7 (.call (C_shifteditq1 a1 a2 a3 () [] [(1, 0, false)])) <|
ww (m_shifteditq1_ok n a1 a2 a3 () hc2) <|
zz 16 (xdF hc3) <|
zz 25 (xnm hc4) <|
zz 26 (xdF hc5) <|
zz 34 (xnm hc6) ee) (by kernel_rfl))

def A_shiftEndq1 (a0 : Int) (a1 : Int) (a2 : Int) (a3 : Int) : List Value := [(i6 a0), (Value.agg #[(i6 a1), (i6 a2), (i6 a3)])]
def H_shiftEndq1 (a0 : Int) (a1 : Int) (a2 : Int) (a3 : Int) : AH := ⟨sB [], 0, 0⟩
def V_shiftEndq1 (a0 : Int) (a1 : Int) (a2 : Int) (a3 : Int) (r : Int) : Value := match r with
 | o0 => (i6 o0)
def R_shiftEndq1 (a0 : Int) (a1 : Int) (a2 : Int) (a3 : Int) (r : Int) : AH := match r with
 | o0 => ⟨sB [], 0, 0⟩
abbrev G_shiftEndq1 (a0 : Int) (a1 : Int) (a2 : Int) (a3 : Int) (r : Int) : Prop := Gv P (.func 35) (A_shiftEndq1 a0 a1 a2 a3) (H_shiftEndq1 a0 a1 a2 a3) (V_shiftEndq1 a0 a1 a2 a3 r) (R_shiftEndq1 a0 a1 a2 a3 r)
abbrev C_shiftEndq1 (a0 : Int) (a1 : Int) (a2 : Int) (a3 : Int) (r : Int) (ins outs : BL) : CallA := ⟨0, ins, V_shiftEndq1 a0 a1 a2 a3 r, R_shiftEndq1 a0 a1 a2 a3 r, outs⟩
def m_shiftEndq1 (n : Nat) (a0 : Int) (a1 : Int) (a2 : Int) (a3 : Int) : Option (Int) :=
 (m_shiftnumberq1 n a0).bind fun _ =>
 (m_shifteditq1 n a1 a2 a3).bind fun _ =>
 if (minB (maxB a0 (-1099511627776)) 1099511627776) ≤ (minB (maxB a1 (-1099511627776)) 1099511627776) then
  some (minB (maxB a0 (-1099511627776)) 1099511627776)
 else
  ((some (w64 ((minB (maxB a1 (-1099511627776)) 1099511627776) + (minB (maxB a2 (-1099511627776)) 1099511627776))))).bind fun c4_ =>
  if (minB (maxB a0 (-1099511627776)) 1099511627776) ≥ c4_ then
   ((some (w64 ((minB (maxB a0 (-1099511627776)) 1099511627776) - (minB (maxB a2 (-1099511627776)) 1099511627776))))).bind fun c6_ =>
   ((some (w64 (c6_ + (minB (maxB a3 (-1099511627776)) 1099511627776))))).bind fun c7_ =>
   some c7_
  else
   some (minB (maxB a1 (-1099511627776)) 1099511627776)
theorem m_shiftEndq1_ok (n : Nat) (a0 : Int) (a1 : Int) (a2 : Int) (a3 : Int) (r : Int) (h : m_shiftEndq1 n a0 a1 a2 a3 = some r) : Gv P (.func 35) (A_shiftEndq1 a0 a1 a2 a3) (H_shiftEndq1 a0 a1 a2 a3) (V_shiftEndq1 a0 a1 a2 a3 r) (R_shiftEndq1 a0 a1 a2 a3 r) := by
 unfold m_shiftEndq1 at h
 obtain ⟨_, hc1, h⟩ := Option.bind_eq_some_iff.1 h
 obtain ⟨_, hc2, h⟩ := Option.bind_eq_some_iff.1 h
 by_cases hc3 : (minB (maxB a0 (-1099511627776)) 1099511627776) ≤ (minB (maxB a1 (-1099511627776)) 1099511627776)
 ·rw [if_pos hc3] at h
  obtain rfl := oI h; exact (runF2 hm (L := lT []) ⟨[4], [], 0, 0, [], false, []⟩ (yy 5 (.call (C_shiftnumberq1 a0 () [] [])) <|
ww (m_shiftnumberq1_ok n a0 () hc1) <|
yy 7 (.call (C_shifteditq1 a1 a2 a3 () [] [(1, 0, false)])) <|
ww (m_shifteditq1_ok n a1 a2 a3 () hc2) <|
zz 16 (xdT hc3) ee) (by kernel_rfl))
 ·rw [if_neg hc3] at h
  obtain ⟨c4_, hc4, h⟩ := Option.bind_eq_some_iff.1 h
  by_cases hc5 : (minB (maxB a0 (-1099511627776)) 1099511627776) ≥ c4_
  ·rw [if_pos hc5] at h
   obtain ⟨c6_, hc6, h⟩ := Option.bind_eq_some_iff.1 h
   obtain ⟨c7_, hc7, h⟩ := Option.bind_eq_some_iff.1 h
   obtain rfl := oI h; exact (runF2 hm (L := lT []) ⟨[4], [], 0, 0, [], false, []⟩ (yy 5 (.call (C_shiftnumberq1 a0 () [] [])) <|
ww (m_shiftnumberq1_ok n a0 () hc1) <|
yy 7 (.call (C_shifteditq1 a1 a2 a3 () [] [(1, 0, false)])) <|
ww (m_shifteditq1_ok n a1 a2 a3 () hc2) <|
zz 16 (xdF hc3) <|
zz 25 (xnm hc4) <|
zz 26 (xdT hc5) <|
zz 33 (xnm hc6) <|
zz 36 (xnm hc7) ee) (by kernel_rfl))
  ·rw [if_neg hc5] at h
   obtain rfl := oI h; exact (runF2 hm (L := lT []) ⟨[4], [], 0, 0, [], false, []⟩ (yy 5 (.call (C_shiftnumberq1 a0 () [] [])) <|
ww (m_shiftnumberq1_ok n a0 () hc1) <|
yy 7 (.call (C_shifteditq1 a1 a2 a3 () [] [(1, 0, false)])) <|
ww (m_shifteditq1_ok n a1 a2 a3 () hc2) <|
zz 16 (xdF hc3) <|
zz 25 (xnm hc4) <|
zz 26 (xdF hc5) ee) (by kernel_rfl))

def A_shiftLenq1 (a0 : Int) (a1 : Int) (a2 : Int) (a3 : Int) : List Value := [(Value.agg #[(i6 a0), (i6 a1), (i6 a2)]), (i6 a3)]
def H_shiftLenq1 (a0 : Int) (a1 : Int) (a2 : Int) (a3 : Int) : AH := ⟨sB [], 0, 0⟩
def V_shiftLenq1 (a0 : Int) (a1 : Int) (a2 : Int) (a3 : Int) (r : Int) : Value := match r with
 | o0 => (i6 o0)
def R_shiftLenq1 (a0 : Int) (a1 : Int) (a2 : Int) (a3 : Int) (r : Int) : AH := match r with
 | o0 => ⟨sB [], 0, 0⟩
abbrev G_shiftLenq1 (a0 : Int) (a1 : Int) (a2 : Int) (a3 : Int) (r : Int) : Prop := Gv P (.func 36) (A_shiftLenq1 a0 a1 a2 a3) (H_shiftLenq1 a0 a1 a2 a3) (V_shiftLenq1 a0 a1 a2 a3 r) (R_shiftLenq1 a0 a1 a2 a3 r)
abbrev C_shiftLenq1 (a0 : Int) (a1 : Int) (a2 : Int) (a3 : Int) (r : Int) (ins outs : BL) : CallA := ⟨0, ins, V_shiftLenq1 a0 a1 a2 a3 r, R_shiftLenq1 a0 a1 a2 a3 r, outs⟩
def m_shiftLenq1 (n : Nat) (a0 : Int) (a1 : Int) (a2 : Int) (a3 : Int) : Option (Int) :=
 (m_shifteditq1 n a0 a1 a2).bind fun _ =>
 (m_shiftnumberq1 n a3).bind fun _ =>
 ((some (w64 ((minB (maxB a3 (-1099511627776)) 1099511627776) - (minB (maxB a1 (-1099511627776)) 1099511627776))))).bind fun c3_ =>
 ((some (w64 (c3_ + (minB (maxB a2 (-1099511627776)) 1099511627776))))).bind fun c4_ =>
 some c4_
theorem m_shiftLenq1_ok (n : Nat) (a0 : Int) (a1 : Int) (a2 : Int) (a3 : Int) (r : Int) (h : m_shiftLenq1 n a0 a1 a2 a3 = some r) : Gv P (.func 36) (A_shiftLenq1 a0 a1 a2 a3) (H_shiftLenq1 a0 a1 a2 a3) (V_shiftLenq1 a0 a1 a2 a3 r) (R_shiftLenq1 a0 a1 a2 a3 r) := by
 unfold m_shiftLenq1 at h
 obtain ⟨_, hc1, h⟩ := Option.bind_eq_some_iff.1 h
 obtain ⟨_, hc2, h⟩ := Option.bind_eq_some_iff.1 h
 obtain ⟨c3_, hc3, h⟩ := Option.bind_eq_some_iff.1 h
 obtain ⟨c4_, hc4, h⟩ := Option.bind_eq_some_iff.1 h
 obtain rfl := oI h; exact (runF2 hm (L := lT []) ⟨[4], [], 0, 0, [], false, []⟩ (yy 5 (.call (C_shifteditq1 a0 a1 a2 () [] [(1, 0, false)])) <|
ww (m_shifteditq1_ok n a0 a1 a2 () hc1) <|
yy 7 (.call (C_shiftnumberq1 a3 () [] [])) <|
ww (m_shiftnumberq1_ok n a3 () hc2) <|
zz 14 (xnm hc3) <|
zz 17 (xnm hc4) ee) (by kernel_rfl))

def A_treeownq1 (a0 : Int) (a1 : Int) (a2 : Int) (a3 : Int) (a4 : Int) (a5 : Int) (a6 : NL) (a7 : Int) : List Value := [(Value.agg #[(i6 a0), (i6 a1), (i6 a2), (i6 a3), (i6 a4), (i6 a5), (nlV a6), (Value.int .u64 a7)])]
def H_treeownq1 (a0 : Int) (a1 : Int) (a2 : Int) (a3 : Int) (a4 : Int) (a5 : Int) (a6 : NL) (a7 : Int) : AH := ⟨sB [], 0, 0⟩
def V_treeownq1 (a0 : Int) (a1 : Int) (a2 : Int) (a3 : Int) (a4 : Int) (a5 : Int) (a6 : NL) (a7 : Int) (r : Int) : Value := match r with
 | o0 => (Value.agg #[(i6 o0), (i6 a5)])
def R_treeownq1 (a0 : Int) (a1 : Int) (a2 : Int) (a3 : Int) (a4 : Int) (a5 : Int) (a6 : NL) (a7 : Int) (r : Int) : AH := match r with
 | o0 => ⟨sB [(0, (some (.cells (layT [(i6 o0), (i6 a5)]) 41)))], 1, 0⟩
abbrev G_treeownq1 (a0 : Int) (a1 : Int) (a2 : Int) (a3 : Int) (a4 : Int) (a5 : Int) (a6 : NL) (a7 : Int) (r : Int) : Prop := Gv P (.func 38) (A_treeownq1 a0 a1 a2 a3 a4 a5 a6 a7) (H_treeownq1 a0 a1 a2 a3 a4 a5 a6 a7) (V_treeownq1 a0 a1 a2 a3 a4 a5 a6 a7 r) (R_treeownq1 a0 a1 a2 a3 a4 a5 a6 a7 r)
abbrev C_treeownq1 (a0 : Int) (a1 : Int) (a2 : Int) (a3 : Int) (a4 : Int) (a5 : Int) (a6 : NL) (a7 : Int) (r : Int) (ins outs : BL) : CallA := ⟨0, ins, V_treeownq1 a0 a1 a2 a3 a4 a5 a6 a7 r, R_treeownq1 a0 a1 a2 a3 a4 a5 a6 a7 r, outs⟩
def m_treeownq1 (n : Nat) (a0 : Int) (a1 : Int) (a2 : Int) (a3 : Int) (a4 : Int) (a5 : Int) (a6 : NL) (a7 : Int) : Option (Int) :=
 if a1 = (1 : Int) then
  some (-1)
 else
  some a2
theorem m_treeownq1_ok (n : Nat) (a0 : Int) (a1 : Int) (a2 : Int) (a3 : Int) (a4 : Int) (a5 : Int) (a6 : NL) (a7 : Int) (r : Int) (h : m_treeownq1 n a0 a1 a2 a3 a4 a5 a6 a7 = some r) : Gv P (.func 38) (A_treeownq1 a0 a1 a2 a3 a4 a5 a6 a7) (H_treeownq1 a0 a1 a2 a3 a4 a5 a6 a7) (V_treeownq1 a0 a1 a2 a3 a4 a5 a6 a7 r) (R_treeownq1 a0 a1 a2 a3 a4 a5 a6 a7 r) := by
 unfold m_treeownq1 at h
 by_cases hc1 : a1 = (1 : Int)
 ·rw [if_pos hc1] at h
  obtain rfl := oI h; exact (runF2 hm (L := lT []) ⟨[2], [(0, 1, false)], 1, 0, [], false, []⟩ (zz 7 (xeT hc1) ee) (by kernel_rfl))
 ·rw [if_neg hc1] at h
  obtain rfl := oI h; exact (runF2 hm (L := lT []) ⟨[2], [(0, 1, false)], 1, 0, [], false, []⟩ (zz 7 (xeF hc1) ee) (by kernel_rfl))

def A_shiftboundintq3 (a0 : Int) (a1 : Int) (a2 : Int) (a3 : Int) : List Value := [(i6 a0), (i6 a1), (sN 0 0 2 2)]
def H_shiftboundintq3 (a0 : Int) (a1 : Int) (a2 : Int) (a3 : Int) : AH := ⟨sB [(0, (some (.cells (layT [(pN 1 0), (pN 1 1)]) 77))), (1, (some (.cells (layT [(i6 a2), (i6 a3)]) 41)))], 2, 2⟩
def V_shiftboundintq3 (a0 : Int) (a1 : Int) (a2 : Int) (a3 : Int) (r : Unit) : Value := match r with
 | _ => (Value.tuple #[])
def R_shiftboundintq3 (a0 : Int) (a1 : Int) (a2 : Int) (a3 : Int) (r : Unit) : AH := match r with
 | _ => ⟨sB [(1, (some (.cells (layT [(i6 (minB (maxB a2 a0) a1)), (i6 (minB (maxB a3 a0) a1))]) 41)))], 2, 1⟩
abbrev G_shiftboundintq3 (a0 : Int) (a1 : Int) (a2 : Int) (a3 : Int) (r : Unit) : Prop := Gv P (.func 47) (A_shiftboundintq3 a0 a1 a2 a3) (H_shiftboundintq3 a0 a1 a2 a3) (V_shiftboundintq3 a0 a1 a2 a3 r) (R_shiftboundintq3 a0 a1 a2 a3 r)
abbrev C_shiftboundintq3 (a0 : Int) (a1 : Int) (a2 : Int) (a3 : Int) (r : Unit) (ins outs : BL) : CallA := ⟨2, ins, V_shiftboundintq3 a0 a1 a2 a3 r, R_shiftboundintq3 a0 a1 a2 a3 r, outs⟩
def m_shiftboundintq3 (n : Nat) (a0 : Int) (a1 : Int) (a2 : Int) (a3 : Int) : Option (Unit) :=
 some ()
theorem m_shiftboundintq3_ok (n : Nat) (a0 : Int) (a1 : Int) (a2 : Int) (a3 : Int) (r : Unit) (h : m_shiftboundintq3 n a0 a1 a2 a3 = some r) : Gv P (.func 47) (A_shiftboundintq3 a0 a1 a2 a3) (H_shiftboundintq3 a0 a1 a2 a3) (V_shiftboundintq3 a0 a1 a2 a3 r) (R_shiftboundintq3 a0 a1 a2 a3 r) := by
 unfold m_shiftboundintq3 at h
 obtain rfl := oI h; exact (runF2 hm (L := lT []) ⟨[], [(1, 1, false)], 2, 1, [], false, []⟩ (ee) (by kernel_rfl))

def A_shiftspanq1 (a0 : Int) (a1 : Int) : List Value := [(Value.agg #[(i6 a0), (i6 a1)])]
def H_shiftspanq1 (a0 : Int) (a1 : Int) : AH := ⟨sB [], 0, 0⟩
def V_shiftspanq1 (a0 : Int) (a1 : Int) (r : Unit) : Value := match r with
 | _ => (Value.agg #[(i6 (minB (maxB a0 (-1099511627776)) 1099511627776)), (i6 (minB (maxB a1 (-1099511627776)) 1099511627776))])
def R_shiftspanq1 (a0 : Int) (a1 : Int) (r : Unit) : AH := match r with
 | _ => ⟨sB [(0, (some (.cells (layT [(i6 (minB (maxB a0 (-1099511627776)) 1099511627776)), (i6 (minB (maxB a1 (-1099511627776)) 1099511627776))]) 41)))], 1, 0⟩
abbrev G_shiftspanq1 (a0 : Int) (a1 : Int) (r : Unit) : Prop := Gv P (.func 46) (A_shiftspanq1 a0 a1) (H_shiftspanq1 a0 a1) (V_shiftspanq1 a0 a1 r) (R_shiftspanq1 a0 a1 r)
abbrev C_shiftspanq1 (a0 : Int) (a1 : Int) (r : Unit) (ins outs : BL) : CallA := ⟨0, ins, V_shiftspanq1 a0 a1 r, R_shiftspanq1 a0 a1 r, outs⟩
def m_shiftspanq1 (n : Nat) (a0 : Int) (a1 : Int) : Option (Unit) :=
 (m_shiftboundintq3 n (-1099511627776) 1099511627776 a0 a1).bind fun _ =>
 some ()
theorem m_shiftspanq1_ok (n : Nat) (a0 : Int) (a1 : Int) (r : Unit) (h : m_shiftspanq1 n a0 a1 = some r) : Gv P (.func 46) (A_shiftspanq1 a0 a1) (H_shiftspanq1 a0 a1) (V_shiftspanq1 a0 a1 r) (R_shiftspanq1 a0 a1 r) := by
 unfold m_shiftspanq1 at h
 obtain ⟨_, hc1, h⟩ := Option.bind_eq_some_iff.1 h
 obtain rfl := oI h; exact (runF2 hm (L := lT []) ⟨[2], [(0, 1, false)], 1, 0, [], false, []⟩ (yy 7 (.call (C_shiftboundintq3 (-1099511627776) 1099511627776 a0 a1 () [(0, 2, false), (1, 0, false)] [(0, 1, false)])) <|
ww (m_shiftboundintq3_ok n (-1099511627776) 1099511627776 a0 a1 () hc1) ee) (by kernel_rfl))

def A_sMeq1 (a0 : Int) (a1 : Int) (a2 : Int) (a3 : Int) (a4 : Int) : List Value := [(Value.agg #[(i6 a0), (i6 a1)]), (Value.agg #[(i6 a2), (i6 a3), (i6 a4)])]
def H_sMeq1 (a0 : Int) (a1 : Int) (a2 : Int) (a3 : Int) (a4 : Int) : AH := ⟨sB [], 0, 0⟩
def V_sMeq1 (a0 : Int) (a1 : Int) (a2 : Int) (a3 : Int) (a4 : Int) (r : Bool) : Value := match r with
 | o0 => (bO o0)
def R_sMeq1 (a0 : Int) (a1 : Int) (a2 : Int) (a3 : Int) (a4 : Int) (r : Bool) : AH := match r with
 | o0 => ⟨sB [], 0, 0⟩
abbrev G_sMeq1 (a0 : Int) (a1 : Int) (a2 : Int) (a3 : Int) (a4 : Int) (r : Bool) : Prop := Gv P (.func 37) (A_sMeq1 a0 a1 a2 a3 a4) (H_sMeq1 a0 a1 a2 a3 a4) (V_sMeq1 a0 a1 a2 a3 a4 r) (R_sMeq1 a0 a1 a2 a3 a4 r)
abbrev C_sMeq1 (a0 : Int) (a1 : Int) (a2 : Int) (a3 : Int) (a4 : Int) (r : Bool) (ins outs : BL) : CallA := ⟨0, ins, V_sMeq1 a0 a1 a2 a3 a4 r, R_sMeq1 a0 a1 a2 a3 a4 r, outs⟩
def m_sMeq1 (n : Nat) (a0 : Int) (a1 : Int) (a2 : Int) (a3 : Int) (a4 : Int) : Option (Bool) :=
 (m_shiftspanq1 n a0 a1).bind fun _ =>
 (m_shifteditq1 n a2 a3 a4).bind fun _ =>
 if (minB (maxB a3 (-1099511627776)) 1099511627776) > (0 : Int) then
  if (minB (maxB a2 (-1099511627776)) 1099511627776) < (minB (maxB a1 (-1099511627776)) 1099511627776) then
   ((some (w64 ((minB (maxB a2 (-1099511627776)) 1099511627776) + (minB (maxB a3 (-1099511627776)) 1099511627776))))).bind fun c5_ =>
   if c5_ > (minB (maxB a0 (-1099511627776)) 1099511627776) then
    if (minB (maxB a4 (-1099511627776)) 1099511627776) > (0 : Int) then
     if (minB (maxB a0 (-1099511627776)) 1099511627776) < (minB (maxB a2 (-1099511627776)) 1099511627776) then
      some true
     else
      some true
    else
     some true
   else
    if (minB (maxB a4 (-1099511627776)) 1099511627776) > (0 : Int) then
     if (minB (maxB a0 (-1099511627776)) 1099511627776) < (minB (maxB a2 (-1099511627776)) 1099511627776) then
      some true
     else
      some false
    else
     some false
  else
   if (minB (maxB a4 (-1099511627776)) 1099511627776) > (0 : Int) then
    if (minB (maxB a0 (-1099511627776)) 1099511627776) < (minB (maxB a2 (-1099511627776)) 1099511627776) then
     some false
    else
     some false
   else
    some false
 else
  if (minB (maxB a4 (-1099511627776)) 1099511627776) > (0 : Int) then
   if (minB (maxB a0 (-1099511627776)) 1099511627776) < (minB (maxB a2 (-1099511627776)) 1099511627776) then
    if (minB (maxB a2 (-1099511627776)) 1099511627776) < (minB (maxB a1 (-1099511627776)) 1099511627776) then
     some true
    else
     some false
   else
    some false
  else
   some false
theorem m_sMeq1_ok (n : Nat) (a0 : Int) (a1 : Int) (a2 : Int) (a3 : Int) (a4 : Int) (r : Bool) (h : m_sMeq1 n a0 a1 a2 a3 a4 = some r) : Gv P (.func 37) (A_sMeq1 a0 a1 a2 a3 a4) (H_sMeq1 a0 a1 a2 a3 a4) (V_sMeq1 a0 a1 a2 a3 a4 r) (R_sMeq1 a0 a1 a2 a3 a4 r) := by
 unfold m_sMeq1 at h
 obtain ⟨_, hc1, h⟩ := Option.bind_eq_some_iff.1 h
 obtain ⟨_, hc2, h⟩ := Option.bind_eq_some_iff.1 h
 by_cases hc3 : (minB (maxB a3 (-1099511627776)) 1099511627776) > (0 : Int)
 ·rw [if_pos hc3] at h
  by_cases hc4 : (minB (maxB a2 (-1099511627776)) 1099511627776) < (minB (maxB a1 (-1099511627776)) 1099511627776)
  ·rw [if_pos hc4] at h
   obtain ⟨c5_, hc5, h⟩ := Option.bind_eq_some_iff.1 h
   by_cases hc6 : c5_ > (minB (maxB a0 (-1099511627776)) 1099511627776)
   ·rw [if_pos hc6] at h
    by_cases hc7 : (minB (maxB a4 (-1099511627776)) 1099511627776) > (0 : Int)
    ·rw [if_pos hc7] at h
     by_cases hc8 : (minB (maxB a0 (-1099511627776)) 1099511627776) < (minB (maxB a2 (-1099511627776)) 1099511627776)
     ·rw [if_pos hc8] at h
      obtain rfl := oI h; exact (runF2 hm (L := lT []) ⟨[4], [], 0, 0, [], false, []⟩ (yy 6 (.call (C_shiftspanq1 a0 a1 () [] [(2, 0, false)])) <|
ww (m_shiftspanq1_ok n a0 a1 () hc1) <|
yy 8 (.call (C_shifteditq1 a2 a3 a4 () [] [(3, 0, false)])) <|
ww (m_shifteditq1_ok n a2 a3 a4 () hc2) <|
zz 14 (xdT hc3) <|
zz 20 (xdT hc4) <|
zz 27 (xnm hc5) <|
zz 30 (xdT hc6) <|
zz 36 (xdT hc7) <|
zz 42 (xdT hc8) <|
zz 49 (xdT hc4) ee) (by kernel_rfl))
     ·rw [if_neg hc8] at h
      obtain rfl := oI h; exact (runF2 hm (L := lT []) ⟨[4], [], 0, 0, [], false, []⟩ (yy 6 (.call (C_shiftspanq1 a0 a1 () [] [(2, 0, false)])) <|
ww (m_shiftspanq1_ok n a0 a1 () hc1) <|
yy 8 (.call (C_shifteditq1 a2 a3 a4 () [] [(3, 0, false)])) <|
ww (m_shifteditq1_ok n a2 a3 a4 () hc2) <|
zz 14 (xdT hc3) <|
zz 20 (xdT hc4) <|
zz 27 (xnm hc5) <|
zz 30 (xdT hc6) <|
zz 36 (xdT hc7) <|
zz 42 (xdF hc8) ee) (by kernel_rfl))
    ·rw [if_neg hc7] at h
     obtain rfl := oI h; exact (runF2 hm (L := lT []) ⟨[4], [], 0, 0, [], false, []⟩ (yy 6 (.call (C_shiftspanq1 a0 a1 () [] [(2, 0, false)])) <|
ww (m_shiftspanq1_ok n a0 a1 () hc1) <|
yy 8 (.call (C_shifteditq1 a2 a3 a4 () [] [(3, 0, false)])) <|
ww (m_shifteditq1_ok n a2 a3 a4 () hc2) <|
zz 14 (xdT hc3) <|
zz 20 (xdT hc4) <|
zz 27 (xnm hc5) <|
zz 30 (xdT hc6) <|
zz 36 (xdF hc7) ee) (by kernel_rfl))
   ·rw [if_neg hc6] at h
    by_cases hc7 : (minB (maxB a4 (-1099511627776)) 1099511627776) > (0 : Int)
    ·rw [if_pos hc7] at h
     by_cases hc8 : (minB (maxB a0 (-1099511627776)) 1099511627776) < (minB (maxB a2 (-1099511627776)) 1099511627776)
     ·rw [if_pos hc8] at h
      obtain rfl := oI h; exact (runF2 hm (L := lT []) ⟨[4], [], 0, 0, [], false, []⟩ (yy 6 (.call (C_shiftspanq1 a0 a1 () [] [(2, 0, false)])) <|
ww (m_shiftspanq1_ok n a0 a1 () hc1) <|
yy 8 (.call (C_shifteditq1 a2 a3 a4 () [] [(3, 0, false)])) <|
ww (m_shifteditq1_ok n a2 a3 a4 () hc2) <|
zz 14 (xdT hc3) <|
zz 20 (xdT hc4) <|
zz 27 (xnm hc5) <|
zz 30 (xdF hc6) <|
zz 36 (xdT hc7) <|
zz 42 (xdT hc8) <|
zz 49 (xdT hc4) ee) (by kernel_rfl))
     ·rw [if_neg hc8] at h
      obtain rfl := oI h; exact (runF2 hm (L := lT []) ⟨[4], [], 0, 0, [], false, []⟩ (yy 6 (.call (C_shiftspanq1 a0 a1 () [] [(2, 0, false)])) <|
ww (m_shiftspanq1_ok n a0 a1 () hc1) <|
yy 8 (.call (C_shifteditq1 a2 a3 a4 () [] [(3, 0, false)])) <|
ww (m_shifteditq1_ok n a2 a3 a4 () hc2) <|
zz 14 (xdT hc3) <|
zz 20 (xdT hc4) <|
zz 27 (xnm hc5) <|
zz 30 (xdF hc6) <|
zz 36 (xdT hc7) <|
zz 42 (xdF hc8) ee) (by kernel_rfl))
    ·rw [if_neg hc7] at h
     obtain rfl := oI h; exact (runF2 hm (L := lT []) ⟨[4], [], 0, 0, [], false, []⟩ (yy 6 (.call (C_shiftspanq1 a0 a1 () [] [(2, 0, false)])) <|
ww (m_shiftspanq1_ok n a0 a1 () hc1) <|
yy 8 (.call (C_shifteditq1 a2 a3 a4 () [] [(3, 0, false)])) <|
ww (m_shifteditq1_ok n a2 a3 a4 () hc2) <|
zz 14 (xdT hc3) <|
zz 20 (xdT hc4) <|
zz 27 (xnm hc5) <|
zz 30 (xdF hc6) <|
zz 36 (xdF hc7) ee) (by kernel_rfl))
  ·rw [if_neg hc4] at h
   by_cases hc5 : (minB (maxB a4 (-1099511627776)) 1099511627776) > (0 : Int)
   ·rw [if_pos hc5] at h
    by_cases hc6 : (minB (maxB a0 (-1099511627776)) 1099511627776) < (minB (maxB a2 (-1099511627776)) 1099511627776)
    ·rw [if_pos hc6] at h
     obtain rfl := oI h; exact (runF2 hm (L := lT []) ⟨[4], [], 0, 0, [], false, []⟩ (yy 6 (.call (C_shiftspanq1 a0 a1 () [] [(2, 0, false)])) <|
ww (m_shiftspanq1_ok n a0 a1 () hc1) <|
yy 8 (.call (C_shifteditq1 a2 a3 a4 () [] [(3, 0, false)])) <|
ww (m_shifteditq1_ok n a2 a3 a4 () hc2) <|
zz 14 (xdT hc3) <|
zz 20 (xdF hc4) <|
zz 36 (xdT hc5) <|
zz 42 (xdT hc6) <|
zz 49 (xdF hc4) ee) (by kernel_rfl))
    ·rw [if_neg hc6] at h
     obtain rfl := oI h; exact (runF2 hm (L := lT []) ⟨[4], [], 0, 0, [], false, []⟩ (yy 6 (.call (C_shiftspanq1 a0 a1 () [] [(2, 0, false)])) <|
ww (m_shiftspanq1_ok n a0 a1 () hc1) <|
yy 8 (.call (C_shifteditq1 a2 a3 a4 () [] [(3, 0, false)])) <|
ww (m_shifteditq1_ok n a2 a3 a4 () hc2) <|
zz 14 (xdT hc3) <|
zz 20 (xdF hc4) <|
zz 36 (xdT hc5) <|
zz 42 (xdF hc6) ee) (by kernel_rfl))
   ·rw [if_neg hc5] at h
    obtain rfl := oI h; exact (runF2 hm (L := lT []) ⟨[4], [], 0, 0, [], false, []⟩ (yy 6 (.call (C_shiftspanq1 a0 a1 () [] [(2, 0, false)])) <|
ww (m_shiftspanq1_ok n a0 a1 () hc1) <|
yy 8 (.call (C_shifteditq1 a2 a3 a4 () [] [(3, 0, false)])) <|
ww (m_shifteditq1_ok n a2 a3 a4 () hc2) <|
zz 14 (xdT hc3) <|
zz 20 (xdF hc4) <|
zz 36 (xdF hc5) ee) (by kernel_rfl))
 ·rw [if_neg hc3] at h
  by_cases hc4 : (minB (maxB a4 (-1099511627776)) 1099511627776) > (0 : Int)
  ·rw [if_pos hc4] at h
   by_cases hc5 : (minB (maxB a0 (-1099511627776)) 1099511627776) < (minB (maxB a2 (-1099511627776)) 1099511627776)
   ·rw [if_pos hc5] at h
    by_cases hc6 : (minB (maxB a2 (-1099511627776)) 1099511627776) < (minB (maxB a1 (-1099511627776)) 1099511627776)
    ·rw [if_pos hc6] at h
     obtain rfl := oI h; exact (runF2 hm (L := lT []) ⟨[4], [], 0, 0, [], false, []⟩ (yy 6 (.call (C_shiftspanq1 a0 a1 () [] [(2, 0, false)])) <|
ww (m_shiftspanq1_ok n a0 a1 () hc1) <|
yy 8 (.call (C_shifteditq1 a2 a3 a4 () [] [(3, 0, false)])) <|
ww (m_shifteditq1_ok n a2 a3 a4 () hc2) <|
zz 14 (xdF hc3) <|
zz 36 (xdT hc4) <|
zz 42 (xdT hc5) <|
zz 49 (xdT hc6) ee) (by kernel_rfl))
    ·rw [if_neg hc6] at h
     obtain rfl := oI h; exact (runF2 hm (L := lT []) ⟨[4], [], 0, 0, [], false, []⟩ (yy 6 (.call (C_shiftspanq1 a0 a1 () [] [(2, 0, false)])) <|
ww (m_shiftspanq1_ok n a0 a1 () hc1) <|
yy 8 (.call (C_shifteditq1 a2 a3 a4 () [] [(3, 0, false)])) <|
ww (m_shifteditq1_ok n a2 a3 a4 () hc2) <|
zz 14 (xdF hc3) <|
zz 36 (xdT hc4) <|
zz 42 (xdT hc5) <|
zz 49 (xdF hc6) ee) (by kernel_rfl))
   ·rw [if_neg hc5] at h
    obtain rfl := oI h; exact (runF2 hm (L := lT []) ⟨[4], [], 0, 0, [], false, []⟩ (yy 6 (.call (C_shiftspanq1 a0 a1 () [] [(2, 0, false)])) <|
ww (m_shiftspanq1_ok n a0 a1 () hc1) <|
yy 8 (.call (C_shifteditq1 a2 a3 a4 () [] [(3, 0, false)])) <|
ww (m_shifteditq1_ok n a2 a3 a4 () hc2) <|
zz 14 (xdF hc3) <|
zz 36 (xdT hc4) <|
zz 42 (xdF hc5) ee) (by kernel_rfl))
  ·rw [if_neg hc4] at h
   obtain rfl := oI h; exact (runF2 hm (L := lT []) ⟨[4], [], 0, 0, [], false, []⟩ (yy 6 (.call (C_shiftspanq1 a0 a1 () [] [(2, 0, false)])) <|
ww (m_shiftspanq1_ok n a0 a1 () hc1) <|
yy 8 (.call (C_shifteditq1 a2 a3 a4 () [] [(3, 0, false)])) <|
ww (m_shifteditq1_ok n a2 a3 a4 () hc2) <|
zz 14 (xdF hc3) <|
zz 36 (xdF hc4) ee) (by kernel_rfl))

def A_tdq1 (a0 : Int) (a1 : Int) (a2 : Int) (a3 : Int) (a4 : Int) (a5 : Int) (a6 : NL) (a7 : Int) (a8 : Int) (a9 : Int) (a10 : Int) (a11 : Int) : List Value := [(Value.agg #[(i6 a0), (i6 a1), (i6 a2), (i6 a3), (i6 a4), (i6 a5), (nlV a6), (Value.int .u64 a7)]), (Value.agg #[(i6 a8), (i6 a9), (i6 a10)]), (Value.int .u64 a11)]
def H_tdq1 (a0 : Int) (a1 : Int) (a2 : Int) (a3 : Int) (a4 : Int) (a5 : Int) (a6 : NL) (a7 : Int) (a8 : Int) (a9 : Int) (a10 : Int) (a11 : Int) : AH := ⟨sB [], 0, 0⟩
def V_tdq1 (a0 : Int) (a1 : Int) (a2 : Int) (a3 : Int) (a4 : Int) (a5 : Int) (a6 : NL) (a7 : Int) (a8 : Int) (a9 : Int) (a10 : Int) (a11 : Int) (r : Int × Int × Int × Int × Int) : Value := match r with
 | (o0, o1, o2, o3, o4) => (Value.agg #[(i6 a0), (i6 a1), (i6 o0), (i6 o1), (i6 o2), (i6 o3), (nlV a6), (Value.int .u64 o4)])
def R_tdq1 (a0 : Int) (a1 : Int) (a2 : Int) (a3 : Int) (a4 : Int) (a5 : Int) (a6 : NL) (a7 : Int) (a8 : Int) (a9 : Int) (a10 : Int) (a11 : Int) (r : Int × Int × Int × Int × Int) : AH := match r with
 | (o0, o1, o2, o3, o4) => ⟨sB [(0, (some (.cells (layT [(i6 a0), (i6 a1), (i6 o0), (i6 o1), (i6 o2), (i6 o3), (nlV a6), (Value.int .u64 o4)]) 32)))], 1, 0⟩
abbrev G_tdq1 (a0 : Int) (a1 : Int) (a2 : Int) (a3 : Int) (a4 : Int) (a5 : Int) (a6 : NL) (a7 : Int) (a8 : Int) (a9 : Int) (a10 : Int) (a11 : Int) (r : Int × Int × Int × Int × Int) : Prop := Gv P (.func 22) (A_tdq1 a0 a1 a2 a3 a4 a5 a6 a7 a8 a9 a10 a11) (H_tdq1 a0 a1 a2 a3 a4 a5 a6 a7 a8 a9 a10 a11) (V_tdq1 a0 a1 a2 a3 a4 a5 a6 a7 a8 a9 a10 a11 r) (R_tdq1 a0 a1 a2 a3 a4 a5 a6 a7 a8 a9 a10 a11 r)
abbrev C_tdq1 (a0 : Int) (a1 : Int) (a2 : Int) (a3 : Int) (a4 : Int) (a5 : Int) (a6 : NL) (a7 : Int) (a8 : Int) (a9 : Int) (a10 : Int) (a11 : Int) (r : Int × Int × Int × Int × Int) (ins outs : BL) : CallA := ⟨0, ins, V_tdq1 a0 a1 a2 a3 a4 a5 a6 a7 a8 a9 a10 a11 r, R_tdq1 a0 a1 a2 a3 a4 a5 a6 a7 a8 a9 a10 a11 r, outs⟩
def m_tdq1 (n : Nat) (a0 : Int) (a1 : Int) (a2 : Int) (a3 : Int) (a4 : Int) (a5 : Int) (a6 : NL) (a7 : Int) (a8 : Int) (a9 : Int) (a10 : Int) (a11 : Int) : Option (Int × Int × Int × Int × Int) :=
 if a1 = (1 : Int) then
  (m_sStq1 n a2 a8 a9 a10).bind fun c2_ =>
  (m_shiftEndq1 n a4 a8 a9 a10).bind fun c3_ =>
  (m_shiftLenq1 n a8 a9 a10 a4).bind fun c4_ =>
  if a3 = a2 then
   (m_shiftEndq1 n a5 a8 a9 a10).bind fun c6_ =>
   (m_treeownq1 n a0 a1 a2 a3 a4 a5 a6 a7).bind fun c7_ =>
   (m_sMeq1 n c7_ a5 a8 a9 a10).bind fun c8_ =>
   if c8_ = true then
    some (0, 0, (maxB c4_ (0 : Int)), 1, (bOr .u64 a7 a11))
   else
    some (0, 0, (maxB c4_ (0 : Int)), 1, a7)
  else
   (m_sStq1 n a3 a8 a9 a10).bind fun c6_ =>
   (m_shiftEndq1 n a5 a8 a9 a10).bind fun c7_ =>
   (m_treeownq1 n a0 a1 a2 a3 a4 a5 a6 a7).bind fun c8_ =>
   (m_sMeq1 n c8_ a5 a8 a9 a10).bind fun c9_ =>
   if c9_ = true then
    some (0, (minB (maxB c6_ (0 : Int)) (maxB c4_ (0 : Int))), (maxB c4_ (0 : Int)), 1, (bOr .u64 a7 a11))
   else
    some (0, (minB (maxB c6_ (0 : Int)) (maxB c4_ (0 : Int))), (maxB c4_ (0 : Int)), 1, a7)
 else
  (m_sStq1 n a2 a8 a9 a10).bind fun c2_ =>
  (m_shiftEndq1 n a4 a8 a9 a10).bind fun c3_ =>
  if a3 = a2 then
   (m_shiftEndq1 n a5 a8 a9 a10).bind fun c5_ =>
   (m_treeownq1 n a0 a1 a2 a3 a4 a5 a6 a7).bind fun c6_ =>
   (m_sMeq1 n c6_ a5 a8 a9 a10).bind fun c7_ =>
   if c7_ = true then
    some (c2_, c2_, (maxB c3_ c2_), (maxB (maxB c5_ (w64 (c2_ + (1 : Int)))) (w64 (a8 + (1 : Int)))), (bOr .u64 a7 a11))
   else
    some (c2_, c2_, (maxB c3_ c2_), (maxB c5_ (w64 (c2_ + (1 : Int)))), a7)
  else
   (m_sStq1 n a3 a8 a9 a10).bind fun c5_ =>
   (m_shiftEndq1 n a5 a8 a9 a10).bind fun c6_ =>
   (m_treeownq1 n a0 a1 a2 a3 a4 a5 a6 a7).bind fun c7_ =>
   (m_sMeq1 n c7_ a5 a8 a9 a10).bind fun c8_ =>
   if c8_ = true then
    some (c2_, (minB (maxB c5_ c2_) (maxB c3_ c2_)), (maxB c3_ c2_), (maxB (maxB c6_ (w64 (c2_ + (1 : Int)))) (w64 (a8 + (1 : Int)))), (bOr .u64 a7 a11))
   else
    some (c2_, (minB (maxB c5_ c2_) (maxB c3_ c2_)), (maxB c3_ c2_), (maxB c6_ (w64 (c2_ + (1 : Int)))), a7)
theorem m_tdq1_ok (n : Nat) (a0 : Int) (a1 : Int) (a2 : Int) (a3 : Int) (a4 : Int) (a5 : Int) (a6 : NL) (a7 : Int) (a8 : Int) (a9 : Int) (a10 : Int) (a11 : Int) (r : Int × Int × Int × Int × Int) (h : m_tdq1 n a0 a1 a2 a3 a4 a5 a6 a7 a8 a9 a10 a11 = some r) : Gv P (.func 22) (A_tdq1 a0 a1 a2 a3 a4 a5 a6 a7 a8 a9 a10 a11) (H_tdq1 a0 a1 a2 a3 a4 a5 a6 a7 a8 a9 a10 a11) (V_tdq1 a0 a1 a2 a3 a4 a5 a6 a7 a8 a9 a10 a11 r) (R_tdq1 a0 a1 a2 a3 a4 a5 a6 a7 a8 a9 a10 a11 r) := by
 unfold m_tdq1 at h
 by_cases hc1 : a1 = (1 : Int)
 ·rw [if_pos hc1] at h
  obtain ⟨c2_, hc2, h⟩ := Option.bind_eq_some_iff.1 h
  obtain ⟨c3_, hc3, h⟩ := Option.bind_eq_some_iff.1 h
  obtain ⟨c4_, hc4, h⟩ := Option.bind_eq_some_iff.1 h
  by_cases hc5 : a3 = a2
  ·rw [if_pos hc5] at h
   obtain ⟨c6_, hc6, h⟩ := Option.bind_eq_some_iff.1 h
   obtain ⟨c7_, hc7, h⟩ := Option.bind_eq_some_iff.1 h
   obtain ⟨c8_, hc8, h⟩ := Option.bind_eq_some_iff.1 h
   by_cases hc9 : c8_ = true
   ·rw [if_pos hc9] at h
    obtain rfl := oI h; exact (runF2 hm (L := lT []) ⟨[6], [(0, 2, false)], 1, 0, [], false, []⟩ (zz 7 (xeT hc1) <|
yy 17 (.call (C_sStq1 a2 a8 a9 a10 c2_ [] [])) <|
ww (m_sStq1_ok n a2 a8 a9 a10 c2_ hc2) <|
yy 21 (.call (C_shiftEndq1 a4 a8 a9 a10 c3_ [] [])) <|
ww (m_shiftEndq1_ok n a4 a8 a9 a10 c3_ hc3) <|
yy 33 (.call (C_shiftLenq1 a8 a9 a10 a4 c4_ [] [])) <|
ww (m_shiftLenq1_ok n a8 a9 a10 a4 c4_ hc4) <|
zz 57 (xnF hc5) <|
yy 63 (.call (C_shiftEndq1 a5 a8 a9 a10 c6_ [] [])) <|
ww (m_shiftEndq1_ok n a5 a8 a9 a10 c6_ hc6) <|
yy 73 (.call (C_treeownq1 a0 a1 a2 a3 a4 a5 a6 a7 c7_ [] [(4, 0, false)])) <|
ww (m_treeownq1_ok n a0 a1 a2 a3 a4 a5 a6 a7 c7_ hc7) <|
yy 75 (.call (C_sMeq1 c7_ a5 a8 a9 a10 c8_ [] [])) <|
ww (m_sMeq1_ok n c7_ a5 a8 a9 a10 c8_ hc8) <|
zz 76 (xbT hc9) ee) (by kernel_rfl))
   ·rw [if_neg hc9] at h
    obtain rfl := oI h; exact (runF2 hm (L := lT []) ⟨[6], [(0, 2, false)], 1, 0, [], false, []⟩ (zz 7 (xeT hc1) <|
yy 17 (.call (C_sStq1 a2 a8 a9 a10 c2_ [] [])) <|
ww (m_sStq1_ok n a2 a8 a9 a10 c2_ hc2) <|
yy 21 (.call (C_shiftEndq1 a4 a8 a9 a10 c3_ [] [])) <|
ww (m_shiftEndq1_ok n a4 a8 a9 a10 c3_ hc3) <|
yy 33 (.call (C_shiftLenq1 a8 a9 a10 a4 c4_ [] [])) <|
ww (m_shiftLenq1_ok n a8 a9 a10 a4 c4_ hc4) <|
zz 57 (xnF hc5) <|
yy 63 (.call (C_shiftEndq1 a5 a8 a9 a10 c6_ [] [])) <|
ww (m_shiftEndq1_ok n a5 a8 a9 a10 c6_ hc6) <|
yy 73 (.call (C_treeownq1 a0 a1 a2 a3 a4 a5 a6 a7 c7_ [] [(4, 0, false)])) <|
ww (m_treeownq1_ok n a0 a1 a2 a3 a4 a5 a6 a7 c7_ hc7) <|
yy 75 (.call (C_sMeq1 c7_ a5 a8 a9 a10 c8_ [] [])) <|
ww (m_sMeq1_ok n c7_ a5 a8 a9 a10 c8_ hc8) <|
zz 76 (xbF hc9) ee) (by kernel_rfl))
  ·rw [if_neg hc5] at h
   obtain ⟨c6_, hc6, h⟩ := Option.bind_eq_some_iff.1 h
   obtain ⟨c7_, hc7, h⟩ := Option.bind_eq_some_iff.1 h
   obtain ⟨c8_, hc8, h⟩ := Option.bind_eq_some_iff.1 h
   obtain ⟨c9_, hc9, h⟩ := Option.bind_eq_some_iff.1 h
   by_cases hc10 : c9_ = true
   ·rw [if_pos hc10] at h
    obtain rfl := oI h; exact (runF2 hm (L := lT []) ⟨[6], [(0, 2, false)], 1, 0, [], false, []⟩ (zz 7 (xeT hc1) <|
yy 17 (.call (C_sStq1 a2 a8 a9 a10 c2_ [] [])) <|
ww (m_sStq1_ok n a2 a8 a9 a10 c2_ hc2) <|
yy 21 (.call (C_shiftEndq1 a4 a8 a9 a10 c3_ [] [])) <|
ww (m_shiftEndq1_ok n a4 a8 a9 a10 c3_ hc3) <|
yy 33 (.call (C_shiftLenq1 a8 a9 a10 a4 c4_ [] [])) <|
ww (m_shiftLenq1_ok n a8 a9 a10 a4 c4_ hc4) <|
zz 57 (xnT hc5) <|
yy 62 (.call (C_sStq1 a3 a8 a9 a10 c6_ [] [])) <|
ww (m_sStq1_ok n a3 a8 a9 a10 c6_ hc6) <|
yy 75 (.call (C_shiftEndq1 a5 a8 a9 a10 c7_ [] [])) <|
ww (m_shiftEndq1_ok n a5 a8 a9 a10 c7_ hc7) <|
yy 85 (.call (C_treeownq1 a0 a1 a2 a3 a4 a5 a6 a7 c8_ [] [(4, 0, false)])) <|
ww (m_treeownq1_ok n a0 a1 a2 a3 a4 a5 a6 a7 c8_ hc8) <|
yy 87 (.call (C_sMeq1 c8_ a5 a8 a9 a10 c9_ [] [])) <|
ww (m_sMeq1_ok n c8_ a5 a8 a9 a10 c9_ hc9) <|
zz 88 (xbT hc10) ee) (by kernel_rfl))
   ·rw [if_neg hc10] at h
    obtain rfl := oI h; exact (runF2 hm (L := lT []) ⟨[6], [(0, 2, false)], 1, 0, [], false, []⟩ (zz 7 (xeT hc1) <|
yy 17 (.call (C_sStq1 a2 a8 a9 a10 c2_ [] [])) <|
ww (m_sStq1_ok n a2 a8 a9 a10 c2_ hc2) <|
yy 21 (.call (C_shiftEndq1 a4 a8 a9 a10 c3_ [] [])) <|
ww (m_shiftEndq1_ok n a4 a8 a9 a10 c3_ hc3) <|
yy 33 (.call (C_shiftLenq1 a8 a9 a10 a4 c4_ [] [])) <|
ww (m_shiftLenq1_ok n a8 a9 a10 a4 c4_ hc4) <|
zz 57 (xnT hc5) <|
yy 62 (.call (C_sStq1 a3 a8 a9 a10 c6_ [] [])) <|
ww (m_sStq1_ok n a3 a8 a9 a10 c6_ hc6) <|
yy 75 (.call (C_shiftEndq1 a5 a8 a9 a10 c7_ [] [])) <|
ww (m_shiftEndq1_ok n a5 a8 a9 a10 c7_ hc7) <|
yy 85 (.call (C_treeownq1 a0 a1 a2 a3 a4 a5 a6 a7 c8_ [] [(4, 0, false)])) <|
ww (m_treeownq1_ok n a0 a1 a2 a3 a4 a5 a6 a7 c8_ hc8) <|
yy 87 (.call (C_sMeq1 c8_ a5 a8 a9 a10 c9_ [] [])) <|
ww (m_sMeq1_ok n c8_ a5 a8 a9 a10 c9_ hc9) <|
zz 88 (xbF hc10) ee) (by kernel_rfl))
 ·rw [if_neg hc1] at h
  obtain ⟨c2_, hc2, h⟩ := Option.bind_eq_some_iff.1 h
  obtain ⟨c3_, hc3, h⟩ := Option.bind_eq_some_iff.1 h
  by_cases hc4 : a3 = a2
  ·rw [if_pos hc4] at h
   obtain ⟨c5_, hc5, h⟩ := Option.bind_eq_some_iff.1 h
   obtain ⟨c6_, hc6, h⟩ := Option.bind_eq_some_iff.1 h
   obtain ⟨c7_, hc7, h⟩ := Option.bind_eq_some_iff.1 h
   by_cases hc8 : c7_ = true
   ·rw [if_pos hc8] at h
    obtain rfl := oI h; exact (runF2 hm (L := lT []) ⟨[6], [(0, 2, false)], 1, 0, [], false, []⟩ (zz 7 (xeF hc1) <|
yy 17 (.call (C_sStq1 a2 a8 a9 a10 c2_ [] [])) <|
ww (m_sStq1_ok n a2 a8 a9 a10 c2_ hc2) <|
yy 21 (.call (C_shiftEndq1 a4 a8 a9 a10 c3_ [] [])) <|
ww (m_shiftEndq1_ok n a4 a8 a9 a10 c3_ hc3) <|
zz 49 (xnF hc4) <|
yy 55 (.call (C_shiftEndq1 a5 a8 a9 a10 c5_ [] [])) <|
ww (m_shiftEndq1_ok n a5 a8 a9 a10 c5_ hc5) <|
yy 65 (.call (C_treeownq1 a0 a1 a2 a3 a4 a5 a6 a7 c6_ [] [(4, 0, false)])) <|
ww (m_treeownq1_ok n a0 a1 a2 a3 a4 a5 a6 a7 c6_ hc6) <|
yy 67 (.call (C_sMeq1 c6_ a5 a8 a9 a10 c7_ [] [])) <|
ww (m_sMeq1_ok n c6_ a5 a8 a9 a10 c7_ hc7) <|
zz 68 (xbT hc8) ee) (by kernel_rfl))
   ·rw [if_neg hc8] at h
    obtain rfl := oI h; exact (runF2 hm (L := lT []) ⟨[6], [(0, 2, false)], 1, 0, [], false, []⟩ (zz 7 (xeF hc1) <|
yy 17 (.call (C_sStq1 a2 a8 a9 a10 c2_ [] [])) <|
ww (m_sStq1_ok n a2 a8 a9 a10 c2_ hc2) <|
yy 21 (.call (C_shiftEndq1 a4 a8 a9 a10 c3_ [] [])) <|
ww (m_shiftEndq1_ok n a4 a8 a9 a10 c3_ hc3) <|
zz 49 (xnF hc4) <|
yy 55 (.call (C_shiftEndq1 a5 a8 a9 a10 c5_ [] [])) <|
ww (m_shiftEndq1_ok n a5 a8 a9 a10 c5_ hc5) <|
yy 65 (.call (C_treeownq1 a0 a1 a2 a3 a4 a5 a6 a7 c6_ [] [(4, 0, false)])) <|
ww (m_treeownq1_ok n a0 a1 a2 a3 a4 a5 a6 a7 c6_ hc6) <|
yy 67 (.call (C_sMeq1 c6_ a5 a8 a9 a10 c7_ [] [])) <|
ww (m_sMeq1_ok n c6_ a5 a8 a9 a10 c7_ hc7) <|
zz 68 (xbF hc8) ee) (by kernel_rfl))
  ·rw [if_neg hc4] at h
   obtain ⟨c5_, hc5, h⟩ := Option.bind_eq_some_iff.1 h
   obtain ⟨c6_, hc6, h⟩ := Option.bind_eq_some_iff.1 h
   obtain ⟨c7_, hc7, h⟩ := Option.bind_eq_some_iff.1 h
   obtain ⟨c8_, hc8, h⟩ := Option.bind_eq_some_iff.1 h
   by_cases hc9 : c8_ = true
   ·rw [if_pos hc9] at h
    obtain rfl := oI h; exact (runF2 hm (L := lT []) ⟨[6], [(0, 2, false)], 1, 0, [], false, []⟩ (zz 7 (xeF hc1) <|
yy 17 (.call (C_sStq1 a2 a8 a9 a10 c2_ [] [])) <|
ww (m_sStq1_ok n a2 a8 a9 a10 c2_ hc2) <|
yy 21 (.call (C_shiftEndq1 a4 a8 a9 a10 c3_ [] [])) <|
ww (m_shiftEndq1_ok n a4 a8 a9 a10 c3_ hc3) <|
zz 49 (xnT hc4) <|
yy 54 (.call (C_sStq1 a3 a8 a9 a10 c5_ [] [])) <|
ww (m_sStq1_ok n a3 a8 a9 a10 c5_ hc5) <|
yy 67 (.call (C_shiftEndq1 a5 a8 a9 a10 c6_ [] [])) <|
ww (m_shiftEndq1_ok n a5 a8 a9 a10 c6_ hc6) <|
yy 77 (.call (C_treeownq1 a0 a1 a2 a3 a4 a5 a6 a7 c7_ [] [(4, 0, false)])) <|
ww (m_treeownq1_ok n a0 a1 a2 a3 a4 a5 a6 a7 c7_ hc7) <|
yy 79 (.call (C_sMeq1 c7_ a5 a8 a9 a10 c8_ [] [])) <|
ww (m_sMeq1_ok n c7_ a5 a8 a9 a10 c8_ hc8) <|
zz 80 (xbT hc9) ee) (by kernel_rfl))
   ·rw [if_neg hc9] at h
    obtain rfl := oI h; exact (runF2 hm (L := lT []) ⟨[6], [(0, 2, false)], 1, 0, [], false, []⟩ (zz 7 (xeF hc1) <|
yy 17 (.call (C_sStq1 a2 a8 a9 a10 c2_ [] [])) <|
ww (m_sStq1_ok n a2 a8 a9 a10 c2_ hc2) <|
yy 21 (.call (C_shiftEndq1 a4 a8 a9 a10 c3_ [] [])) <|
ww (m_shiftEndq1_ok n a4 a8 a9 a10 c3_ hc3) <|
zz 49 (xnT hc4) <|
yy 54 (.call (C_sStq1 a3 a8 a9 a10 c5_ [] [])) <|
ww (m_sStq1_ok n a3 a8 a9 a10 c5_ hc5) <|
yy 67 (.call (C_shiftEndq1 a5 a8 a9 a10 c6_ [] [])) <|
ww (m_shiftEndq1_ok n a5 a8 a9 a10 c6_ hc6) <|
yy 77 (.call (C_treeownq1 a0 a1 a2 a3 a4 a5 a6 a7 c7_ [] [(4, 0, false)])) <|
ww (m_treeownq1_ok n a0 a1 a2 a3 a4 a5 a6 a7 c7_ hc7) <|
yy 79 (.call (C_sMeq1 c7_ a5 a8 a9 a10 c8_ [] [])) <|
ww (m_sMeq1_ok n c7_ a5 a8 a9 a10 c8_ hc8) <|
zz 80 (xbF hc9) ee) (by kernel_rfl))


end Go.Proofs.Ytggbmhhikafdhaa.ted16
