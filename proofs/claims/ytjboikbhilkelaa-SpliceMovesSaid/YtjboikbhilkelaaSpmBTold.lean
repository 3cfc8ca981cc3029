/-
  What functions do, told by pure functions. No condition.
-/
import Derived.Test.YtjboikbhilkelaaSpmATold
set_option linter.unusedSimpArgs false
set_option linter.unusedVariables false
set_option linter.unusedSectionVars false
set_option linter.unnecessarySimpa false
set_option maxRecDepth 100000
namespace Go.Proofs.Ytjboikbhilkelaa.spm
open Go Go.Proofs.Ytjboikbhilkelaa Ax
variable [Args]
noncomputable def A_Rmovedq1 (a0 : List R8) (a1 : Nat) (a2 : Nat) (a3 : Int) : List Value := [(sN 0 0 a1 a2), (i6 a3)]
noncomputable def H_Rmovedq1 (a0 : List R8) (a1 : Nat) (a2 : Nat) (a3 : Int) : AH := ⟨sB [(0, (some (.cells (layT (rows rw_iiiiiiLu a0)) 41)))], 1, 1⟩
noncomputable def V_Rmovedq1 (a0 : List R8) (a1 : Nat) (a2 : Nat) (a3 : Int) (r : List R8) : Value := match r with
 | o0 => (sN 1 0 (o0).length (Nat.add big 8))
noncomputable def R_Rmovedq1 (a0 : List R8) (a1 : Nat) (a2 : Nat) (a3 : Int) (r : List R8) : AH := match r with
 | o0 => ⟨sB [(1, (some (.cells (layT (rows rw_iiiiiiLu o0)) 41)))], 2, 1⟩
noncomputable abbrev G_Rmovedq1 (a0 : List R8) (a1 : Nat) (a2 : Nat) (a3 : Int) (r : List R8) : Prop := Gv P (.func 26) (A_Rmovedq1 a0 a1 a2 a3) (H_Rmovedq1 a0 a1 a2 a3) (V_Rmovedq1 a0 a1 a2 a3 r) (R_Rmovedq1 a0 a1 a2 a3 r)
noncomputable abbrev C_Rmovedq1 (a0 : List R8) (a1 : Nat) (a2 : Nat) (a3 : Int) (r : List R8) (ins outs : BL) : CallA := ⟨1, ins, V_Rmovedq1 a0 a1 a2 a3 r, R_Rmovedq1 a0 a1 a2 a3 r, outs⟩
noncomputable def S_Rmovedq1_2 (x2_0 : List R8) (x2_1 : Nat) (x2_2 : Nat) (x2_3 : Int) (x2_5 : Int) (x2_6 : Int) (x2_7 : Int) (x2_8 : Int) (x2_9 : Int) (x2_10 : Int) (x2_11 : Int) (x2_13 : Int) (st : List R8 × List Int × Int) : XSt := match st with
 | (x2_4, x2_12, x2_14) => (sT 50 [(0, (sN 0 0 x2_1 x2_2)), (1, (i6 x2_3)), (5, (slR x2_4 1 8)), (6, (i6 x2_5)), (7, (pN 2 0)), (8, (i6 x2_14))], [], ⟨sB [(0, (some (.cells (layT (rows rw_iiiiiiLu x2_0)) 41))), (1, (nblkR rw_iiiiiiLu x2_4 41)), (2, (some (.cells (layT [(i6 x2_6), (i6 x2_7), (i6 x2_8), (i6 x2_9), (i6 x2_10), (i6 x2_11), (slN x2_12 3), (Value.int .u64 x2_13)]) 41))), (3, (nblk x2_12 3))], 4, 1⟩)
noncomputable def X_Rmovedq1_2 (x2_0 : List R8) (x2_1 : Nat) (x2_2 : Nat) (x2_3 : Int) (x2_5 : Int) (x2_6 : Int) (x2_7 : Int) (x2_8 : Int) (x2_9 : Int) (x2_10 : Int) (x2_11 : Int) (x2_13 : Int) (r : List R8 × NL) : Ex × XSt := match r with
 | (z2_0, z2_1) => (.exit 2, (sT 50 [(0, (sN 0 0 x2_1 x2_2)), (1, (i6 x2_3)), (5, (slR z2_0 1 8)), (6, (i6 x2_5)), (7, (pN 2 0))], [], ⟨sB [(0, (some (.cells (layT (rows rw_iiiiiiLu x2_0)) 41))), (1, (nblkR rw_iiiiiiLu z2_0 41)), (2, (some (.cells (layT [(i6 x2_6), (i6 x2_7), (i6 x2_8), (i6 x2_9), (i6 x2_10), (i6 x2_11), (nlV z2_1), (Value.int .u64 x2_13)]) 41)))], 3, 1⟩))
noncomputable abbrev Q_Rmovedq1_2 (rnd : Option Nat) (x2_0 : List R8) (x2_1 : Nat) (x2_2 : Nat) (x2_3 : Int) (x2_5 : Int) (x2_6 : Int) (x2_7 : Int) (x2_8 : Int) (x2_9 : Int) (x2_10 : Int) (x2_11 : Int) (x2_13 : Int) (st : List R8 × List Int × Int) (c : Ex × XSt) : Prop := CG P rnd (fnN P 26) 1 (codeOf P 26 [false, false, true, false, true, true, false, false, true, false, false, true, false, true, true]) (S_Rmovedq1_2 x2_0 x2_1 x2_2 x2_3 x2_5 x2_6 x2_7 x2_8 x2_9 x2_10 x2_11 x2_13 st) c
noncomputable abbrev U_Rmovedq1_2 (rd : Option Nat) (x2_0 : List R8) (x2_1 : Nat) (x2_2 : Nat) (x2_3 : Int) (x2_5 : Int) (x2_6 : Int) (x2_7 : Int) (x2_8 : Int) (x2_9 : Int) (x2_10 : Int) (x2_11 : Int) (x2_13 : Int) (st : List R8 × List Int × Int) (r : List R8 × NL) : Prop := CG P rd (fnN P 26) 1 (codeOf P 26 [false, true, false, true, true, false, false, true, false, false, true, false, true, true]) (S_Rmovedq1_2 x2_0 x2_1 x2_2 x2_3 x2_5 x2_6 x2_7 x2_8 x2_9 x2_10 x2_11 x2_13 st) (X_Rmovedq1_2 x2_0 x2_1 x2_2 x2_3 x2_5 x2_6 x2_7 x2_8 x2_9 x2_10 x2_11 x2_13 r)
def B_Rmovedq1_2 (n : Nat) (x2_0 : List R8) (x2_1 : Nat) (x2_2 : Nat) (x2_3 : Int) (x2_5 : Int) (x2_6 : Int) (x2_7 : Int) (x2_8 : Int) (x2_9 : Int) (x2_10 : Int) (x2_11 : Int) (x2_13 : Int) (st : List R8 × List Int × Int) : Option ((List R8 × List Int × Int) ⊕ (List R8 × NL)) := match st with
 | (x2_4, x2_12, x2_14) =>
  match x2_4 with
  | [] =>
   match x2_12 with
   | [] =>
    if 0 ≤ x2_5 ∧ x2_5 < ((x2_1 : Nat) : Int) then
     if (x2_5).toNat < (x2_0).length then
      ((some ((x2_0).getD (x2_5).toNat (0, 0, 0, 0, 0, 0, nl0, 0)))).bind fun y2_3_ =>
      if x2_14 < ((((y2_3_.2.2.2.2.2.2.1)).l.length : Nat) : Int) then
       if 0 ≤ x2_14 ∧ x2_14 < ((((y2_3_.2.2.2.2.2.2.1)).l.length : Nat) : Int) then
        if (x2_14).toNat < (((y2_3_.2.2.2.2.2.2.1)).l).length then
         ((some ((((y2_3_.2.2.2.2.2.2.1)).l).getD (x2_14).toNat 0))).bind fun y2_7_ =>
         some (.inl (([] : List R8), [(w64 (y2_7_ + x2_3))], (w64 (x2_14 + (1 : Int)))))
        else none
       else none
      else
       some (.inr (([] : List R8), nl0))
     else none
    else none
   | x2_12a :: x2_12t =>
    if 0 ≤ x2_5 ∧ x2_5 < ((x2_1 : Nat) : Int) then
     if (x2_5).toNat < (x2_0).length then
      ((some ((x2_0).getD (x2_5).toNat (0, 0, 0, 0, 0, 0, nl0, 0)))).bind fun y2_3_ =>
      if x2_14 < ((((y2_3_.2.2.2.2.2.2.1)).l.length : Nat) : Int) then
       if 0 ≤ x2_14 ∧ x2_14 < ((((y2_3_.2.2.2.2.2.2.1)).l.length : Nat) : Int) then
        if (x2_14).toNat < (((y2_3_.2.2.2.2.2.2.1)).l).length then
         ((some ((((y2_3_.2.2.2.2.2.2.1)).l).getD (x2_14).toNat 0))).bind fun y2_7_ =>
         if (((x2_12a :: x2_12t)).length + 1) * 8 ≤ 140737488355328 then
          some (.inl (([] : List R8), ((x2_12a :: x2_12t) ++ [(w64 (y2_7_ + x2_3))]), (w64 (x2_14 + (1 : Int)))))
         else none
        else none
       else none
      else
       if hy2_5 : (x2_12a :: x2_12t).length ≤ 9223372036854775807 then
        some (.inr (([] : List R8), (frzL (x2_12a :: x2_12t) hy2_5)))
       else none
     else none
    else none
  | x2_4a :: x2_4t =>
   match x2_12 with
   | [] =>
    if 0 ≤ x2_5 ∧ x2_5 < ((x2_1 : Nat) : Int) then
     if (x2_5).toNat < (x2_0).length then
      ((some ((x2_0).getD (x2_5).toNat (0, 0, 0, 0, 0, 0, nl0, 0)))).bind fun y2_3_ =>
      if x2_14 < ((((y2_3_.2.2.2.2.2.2.1)).l.length : Nat) : Int) then
       if 0 ≤ x2_14 ∧ x2_14 < ((((y2_3_.2.2.2.2.2.2.1)).l.length : Nat) : Int) then
        if (x2_14).toNat < (((y2_3_.2.2.2.2.2.2.1)).l).length then
         ((some ((((y2_3_.2.2.2.2.2.2.1)).l).getD (x2_14).toNat 0))).bind fun y2_7_ =>
         some (.inl ((x2_4a :: x2_4t), [(w64 (y2_7_ + x2_3))], (w64 (x2_14 + (1 : Int)))))
        else none
       else none
      else
       some (.inr ((x2_4a :: x2_4t), nl0))
     else none
    else none
   | x2_12a :: x2_12t =>
    if 0 ≤ x2_5 ∧ x2_5 < ((x2_1 : Nat) : Int) then
     if (x2_5).toNat < (x2_0).length then
      ((some ((x2_0).getD (x2_5).toNat (0, 0, 0, 0, 0, 0, nl0, 0)))).bind fun y2_3_ =>
      if x2_14 < ((((y2_3_.2.2.2.2.2.2.1)).l.length : Nat) : Int) then
       if 0 ≤ x2_14 ∧ x2_14 < ((((y2_3_.2.2.2.2.2.2.1)).l.length : Nat) : Int) then
        if (x2_14).toNat < (((y2_3_.2.2.2.2.2.2.1)).l).length then
         ((some ((((y2_3_.2.2.2.2.2.2.1)).l).getD (x2_14).toNat 0))).bind fun y2_7_ =>
         if (((x2_12a :: x2_12t)).length + 1) * 8 ≤ 140737488355328 then
          some (.inl ((x2_4a :: x2_4t), ((x2_12a :: x2_12t) ++ [(w64 (y2_7_ + x2_3))]), (w64 (x2_14 + (1 : Int)))))
         else none
        else none
       else none
      else
       if hy2_5 : (x2_12a :: x2_12t).length ≤ 9223372036854775807 then
        some (.inr ((x2_4a :: x2_4t), (frzL (x2_12a :: x2_12t) hy2_5)))
       else none
     else none
    else none
def m_Rmovedq1_2 (n : Nat) (x2_0 : List R8) (x2_1 : Nat) (x2_2 : Nat) (x2_3 : Int) (x2_5 : Int) (x2_6 : Int) (x2_7 : Int) (x2_8 : Int) (x2_9 : Int) (x2_10 : Int) (x2_11 : Int) (x2_13 : Int) (st : List R8 × List Int × Int) : Option (List R8 × NL) := iterM (B_Rmovedq1_2 n x2_0 x2_1 x2_2 x2_3 x2_5 x2_6 x2_7 x2_8 x2_9 x2_10 x2_11 x2_13) n st
theorem q_Rmovedq1_2_0 (n : Nat) {rnd : Option Nat} (x2_0 : List R8) (x2_1 x2_2 : Nat) (x2_3 x2_5 x2_6 x2_7 x2_8 x2_9 x2_10 x2_11 x2_13 x2_14 : Int) (hy2_1 : 0 ≤ x2_5 ∧ x2_5 < ((x2_1 : Nat) : Int)) (hy2_2 : (x2_5).toNat < (x2_0).length) (y2_3_ : R8) (hy2_3 : (some ((x2_0).getD (x2_5).toNat (0, 0, 0, 0, 0, 0, nl0, 0))) = some y2_3_) (hy2_4 : x2_14 < ((((y2_3_.2.2.2.2.2.2.1)).l.length : Nat) : Int)) (hy2_5 : 0 ≤ x2_14 ∧ x2_14 < ((((y2_3_.2.2.2.2.2.2.1)).l.length : Nat) : Int)) (hy2_6 : (x2_14).toNat < (((y2_3_.2.2.2.2.2.2.1)).l).length) (y2_7_ : Int) (hy2_7 : (some ((((y2_3_.2.2.2.2.2.2.1)).l).getD (x2_14).toNat 0)) = some y2_7_) : Q_Rmovedq1_2 rnd x2_0 x2_1 x2_2 x2_3 x2_5 x2_6 x2_7 x2_8 x2_9 x2_10 x2_11 x2_13 (([] : List R8), ([] : List Int), x2_14) (.normal, S_Rmovedq1_2 x2_0 x2_1 x2_2 x2_3 x2_5 x2_6 x2_7 x2_8 x2_9 x2_10 x2_11 x2_13 (([] : List R8), [(w64 (y2_7_ + x2_3))], (w64 (x2_14 + (1 : Int))))) :=
 runC2 hm (L := lT []) ⟨[0, 1, 5, 6, 7, 8], [(0, 0, true), (2, 2, false), (3, 17, false)], 4, 1, [], false, []⟩ (zz 5 (xk14 0 x2_2 hy2_1) <|
zz 7 (ok20 hy2_3 (hy2_2)) <|
zz 9 (xdT hy2_4) <|
zz 17 (xk14 0 x2_2 hy2_1) <|
zz 19 (ok20 hy2_3 (hy2_2)) <|
zz 21 (xk9 (Nat.add ((y2_3_.2.2.2.2.2.2.1)).num 64) ((y2_3_.2.2.2.2.2.2.1)).cap hy2_5) <|
zz 22 (nk10 hy2_7 hy2_6) <|
ww (rows_flat rwf_iiiiiiLu x2_0 41) <|
ee) (by kernel_rfl)
theorem q_Rmovedq1_2_1 (n : Nat) {rnd : Option Nat} (x2_0 : List R8) (x2_1 x2_2 : Nat) (x2_3 x2_5 x2_6 x2_7 x2_8 x2_9 x2_10 x2_11 x2_13 x2_14 : Int) (hy2_1 : 0 ≤ x2_5 ∧ x2_5 < ((x2_1 : Nat) : Int)) (hy2_2 : (x2_5).toNat < (x2_0).length) (y2_3_ : R8) (hy2_3 : (some ((x2_0).getD (x2_5).toNat (0, 0, 0, 0, 0, 0, nl0, 0))) = some y2_3_) (hy2_4 : ¬ (x2_14 < ((((y2_3_.2.2.2.2.2.2.1)).l.length : Nat) : Int))) : Q_Rmovedq1_2 rnd x2_0 x2_1 x2_2 x2_3 x2_5 x2_6 x2_7 x2_8 x2_9 x2_10 x2_11 x2_13 (([] : List R8), ([] : List Int), x2_14) (X_Rmovedq1_2 x2_0 x2_1 x2_2 x2_3 x2_5 x2_6 x2_7 x2_8 x2_9 x2_10 x2_11 x2_13 (([] : List R8), nl0)) :=
 runC2 hm (L := lT []) ⟨[0, 1, 5, 6, 7], [(0, 0, true), (2, 2, false)], 3, 1, [], true, [41]⟩ (zz 5 (xk14 0 x2_2 hy2_1) <|
zz 7 (ok20 hy2_3 (hy2_2)) <|
zz 9 (xdF hy2_4) <|
ww (rows_flat rwf_iiiiiiLu x2_0 41) <|
ww (rows_flat rwf_iiiiiiLu x2_0 41) <|
ee) (by kernel_rfl)
theorem q_Rmovedq1_2_2 (n : Nat) {rnd : Option Nat} (x2_0 : List R8) (x2_1 x2_2 : Nat) (x2_3 x2_5 x2_6 x2_7 x2_8 x2_9 x2_10 x2_11 x2_12a : Int) (x2_12t : List (Int)) (x2_13 x2_14 : Int) (hy2_1 : 0 ≤ x2_5 ∧ x2_5 < ((x2_1 : Nat) : Int)) (hy2_2 : (x2_5).toNat < (x2_0).length) (y2_3_ : R8) (hy2_3 : (some ((x2_0).getD (x2_5).toNat (0, 0, 0, 0, 0, 0, nl0, 0))) = some y2_3_) (hy2_4 : x2_14 < ((((y2_3_.2.2.2.2.2.2.1)).l.length : Nat) : Int)) (hy2_5 : 0 ≤ x2_14 ∧ x2_14 < ((((y2_3_.2.2.2.2.2.2.1)).l.length : Nat) : Int)) (hy2_6 : (x2_14).toNat < (((y2_3_.2.2.2.2.2.2.1)).l).length) (y2_7_ : Int) (hy2_7 : (some ((((y2_3_.2.2.2.2.2.2.1)).l).getD (x2_14).toNat 0)) = some y2_7_) (hy2_8 : (((x2_12a :: x2_12t)).length + 1) * 8 ≤ 140737488355328) : Q_Rmovedq1_2 rnd x2_0 x2_1 x2_2 x2_3 x2_5 x2_6 x2_7 x2_8 x2_9 x2_10 x2_11 x2_13 (([] : List R8), (x2_12a :: x2_12t), x2_14) (.normal, S_Rmovedq1_2 x2_0 x2_1 x2_2 x2_3 x2_5 x2_6 x2_7 x2_8 x2_9 x2_10 x2_11 x2_13 (([] : List R8), ((x2_12a :: x2_12t) ++ [(w64 (y2_7_ + x2_3))]), (w64 (x2_14 + (1 : Int))))) :=
 runC2 hm (L := lT []) ⟨[0, 1, 5, 6, 7, 8], [(0, 0, true), (2, 2, false), (3, 17, true)], 4, 1, [], false, []⟩ (zz 5 (xk14 0 x2_2 hy2_1) <|
zz 7 (ok20 hy2_3 (hy2_2)) <|
zz 9 (xdT hy2_4) <|
zz 17 (xk14 0 x2_2 hy2_1) <|
zz 19 (ok20 hy2_3 (hy2_2)) <|
zz 21 (xk9 (Nat.add ((y2_3_.2.2.2.2.2.2.1)).num 64) ((y2_3_.2.2.2.2.2.2.1)).cap hy2_5) <|
zz 22 (nk10 hy2_7 hy2_6) <|
yy 26 (.app ⟨none, iv (x2_12a :: x2_12t), (iv ((x2_12a :: x2_12t) ++ [(w64 (y2_7_ + x2_3))])), (((x2_12a :: x2_12t) ++ [(w64 (y2_7_ + x2_3))])).length, false⟩) <|
ww (p := 0 < 1) ((by decide)) <|
ww (p := rdT (layT (iv (x2_12a :: x2_12t))) (Nat.mul ((x2_12a :: x2_12t)).length 1) 0 = some (iv (x2_12a :: x2_12t))) (iv_rd _) <|
ww (p := fits (Nat.add ((x2_12a :: x2_12t)).length 1) 8 = true) (fits_ok hy2_8 (by have := hy2_8; show (_ : Nat) + _ ≤ _; omega)) <|
ww (p := allCells [(i6 (w64 (y2_7_ + x2_3)))] = true) (rfl) <|
ww (p := allCells (iv (x2_12a :: x2_12t)) = true) (iv_cells _) <|
ww (p := iv (x2_12a :: x2_12t) ++ [(i6 (w64 (y2_7_ + x2_3)))] = (iv ((x2_12a :: x2_12t) ++ [(w64 (y2_7_ + x2_3))]))) (by simp [iv]) <|
ww (p := Nat.add ((x2_12a :: x2_12t)).length 1 = (((x2_12a :: x2_12t) ++ [(w64 (y2_7_ + x2_3))])).length) (by simp) <|
ww (rows_flat rwf_iiiiiiLu x2_0 41) <|
ww (iv_flat ((x2_12a :: x2_12t) ++ [(w64 (y2_7_ + x2_3))]) 3) <|
ee) (by kernel_rfl)
theorem q_Rmovedq1_2_3 (n : Nat) {rnd : Option Nat} (x2_0 : List R8) (x2_1 x2_2 : Nat) (x2_3 x2_5 x2_6 x2_7 x2_8 x2_9 x2_10 x2_11 x2_12a : Int) (x2_12t : List (Int)) (x2_13 x2_14 : Int) (hy2_1 : 0 ≤ x2_5 ∧ x2_5 < ((x2_1 : Nat) : Int)) (hy2_2 : (x2_5).toNat < (x2_0).length) (y2_3_ : R8) (hy2_3 : (some ((x2_0).getD (x2_5).toNat (0, 0, 0, 0, 0, 0, nl0, 0))) = some y2_3_) (hy2_4 : ¬ (x2_14 < ((((y2_3_.2.2.2.2.2.2.1)).l.length : Nat) : Int))) (hy2_5 : (x2_12a :: x2_12t).length ≤ 9223372036854775807) : Q_Rmovedq1_2 rnd x2_0 x2_1 x2_2 x2_3 x2_5 x2_6 x2_7 x2_8 x2_9 x2_10 x2_11 x2_13 (([] : List R8), (x2_12a :: x2_12t), x2_14) (X_Rmovedq1_2 x2_0 x2_1 x2_2 x2_3 x2_5 x2_6 x2_7 x2_8 x2_9 x2_10 x2_11 x2_13 (([] : List R8), (frzL (x2_12a :: x2_12t) hy2_5))) :=
 runC2 hm (L := lT []) ⟨[0, 1, 5, 6, 7], [(0, 0, true), (2, 2, false)], 3, 1, [(3, Nat.add (2 * cod (x2_12a :: x2_12t) + 1) 64)], true, []⟩ (zz 5 (xk14 0 x2_2 hy2_1) <|
zz 7 (ok20 hy2_3 (hy2_2)) <|
zz 9 (xdF hy2_4) <|
ww (rows_flat rwf_iiiiiiLu x2_0 41) <|
ww (frz_ok wins_nest wins_odd (x2_12a :: x2_12t)) <|
ww (rows_flat rwf_iiiiiiLu x2_0 41) <|
ee) (by kernel_rfl)
theorem q_Rmovedq1_2_4 (n : Nat) {rnd : Option Nat} (x2_0 : List R8) (x2_1 x2_2 : Nat) (x2_3 : Int) (x2_4a : R8) (x2_4t : List R8) (x2_5 x2_6 x2_7 x2_8 x2_9 x2_10 x2_11 x2_13 x2_14 : Int) (hy2_1 : 0 ≤ x2_5 ∧ x2_5 < ((x2_1 : Nat) : Int)) (hy2_2 : (x2_5).toNat < (x2_0).length) (y2_3_ : R8) (hy2_3 : (some ((x2_0).getD (x2_5).toNat (0, 0, 0, 0, 0, 0, nl0, 0))) = some y2_3_) (hy2_4 : x2_14 < ((((y2_3_.2.2.2.2.2.2.1)).l.length : Nat) : Int)) (hy2_5 : 0 ≤ x2_14 ∧ x2_14 < ((((y2_3_.2.2.2.2.2.2.1)).l.length : Nat) : Int)) (hy2_6 : (x2_14).toNat < (((y2_3_.2.2.2.2.2.2.1)).l).length) (y2_7_ : Int) (hy2_7 : (some ((((y2_3_.2.2.2.2.2.2.1)).l).getD (x2_14).toNat 0)) = some y2_7_) : Q_Rmovedq1_2 rnd x2_0 x2_1 x2_2 x2_3 x2_5 x2_6 x2_7 x2_8 x2_9 x2_10 x2_11 x2_13 ((x2_4a :: x2_4t), ([] : List Int), x2_14) (.normal, S_Rmovedq1_2 x2_0 x2_1 x2_2 x2_3 x2_5 x2_6 x2_7 x2_8 x2_9 x2_10 x2_11 x2_13 ((x2_4a :: x2_4t), [(w64 (y2_7_ + x2_3))], (w64 (x2_14 + (1 : Int))))) :=
 runC2 hm (L := lT []) ⟨[0, 1, 5, 6, 7, 8], [(0, 0, true), (1, 1, true), (2, 2, false), (3, 17, false)], 4, 1, [], false, []⟩ (zz 5 (xk14 0 x2_2 hy2_1) <|
zz 7 (ok20 hy2_3 (hy2_2)) <|
zz 9 (xdT hy2_4) <|
zz 17 (xk14 0 x2_2 hy2_1) <|
zz 19 (ok20 hy2_3 (hy2_2)) <|
zz 21 (xk9 (Nat.add ((y2_3_.2.2.2.2.2.2.1)).num 64) ((y2_3_.2.2.2.2.2.2.1)).cap hy2_5) <|
zz 22 (nk10 hy2_7 hy2_6) <|
ww (rows_flat rwf_iiiiiiLu x2_0 41) <|
ww (rows_flat rwf_iiiiiiLu (x2_4a :: x2_4t) 41) <|
ee) (by kernel_rfl)
theorem q_Rmovedq1_2_5 (n : Nat) {rnd : Option Nat} (x2_0 : List R8) (x2_1 x2_2 : Nat) (x2_3 : Int) (x2_4a : R8) (x2_4t : List R8) (x2_5 x2_6 x2_7 x2_8 x2_9 x2_10 x2_11 x2_13 x2_14 : Int) (hy2_1 : 0 ≤ x2_5 ∧ x2_5 < ((x2_1 : Nat) : Int)) (hy2_2 : (x2_5).toNat < (x2_0).length) (y2_3_ : R8) (hy2_3 : (some ((x2_0).getD (x2_5).toNat (0, 0, 0, 0, 0, 0, nl0, 0))) = some y2_3_) (hy2_4 : ¬ (x2_14 < ((((y2_3_.2.2.2.2.2.2.1)).l.length : Nat) : Int))) : Q_Rmovedq1_2 rnd x2_0 x2_1 x2_2 x2_3 x2_5 x2_6 x2_7 x2_8 x2_9 x2_10 x2_11 x2_13 ((x2_4a :: x2_4t), ([] : List Int), x2_14) (X_Rmovedq1_2 x2_0 x2_1 x2_2 x2_3 x2_5 x2_6 x2_7 x2_8 x2_9 x2_10 x2_11 x2_13 ((x2_4a :: x2_4t), nl0)) :=
 runC2 hm (L := lT []) ⟨[0, 1, 5, 6, 7], [(0, 0, true), (1, 1, true), (2, 2, false)], 3, 1, [], true, [41]⟩ (zz 5 (xk14 0 x2_2 hy2_1) <|
zz 7 (ok20 hy2_3 (hy2_2)) <|
zz 9 (xdF hy2_4) <|
ww (rows_flat rwf_iiiiiiLu x2_0 41) <|
ww (rows_flat rwf_iiiiiiLu (x2_4a :: x2_4t) 41) <|
ww (rows_flat rwf_iiiiiiLu x2_0 41) <|
ww (rows_flat rwf_iiiiiiLu (x2_4a :: x2_4t) 41) <|
ee) (by kernel_rfl)
theorem q_Rmovedq1_2_6 (n : Nat) {rnd : Option Nat} (x2_0 : List R8) (x2_1 x2_2 : Nat) (x2_3 : Int) (x2_4a : R8) (x2_4t : List R8) (x2_5 x2_6 x2_7 x2_8 x2_9 x2_10 x2_11 x2_12a : Int) (x2_12t : List (Int)) (x2_13 x2_14 : Int) (hy2_1 : 0 ≤ x2_5 ∧ x2_5 < ((x2_1 : Nat) : Int)) (hy2_2 : (x2_5).toNat < (x2_0).length) (y2_3_ : R8) (hy2_3 : (some ((x2_0).getD (x2_5).toNat (0, 0, 0, 0, 0, 0, nl0, 0))) = some y2_3_) (hy2_4 : x2_14 < ((((y2_3_.2.2.2.2.2.2.1)).l.length : Nat) : Int)) (hy2_5 : 0 ≤ x2_14 ∧ x2_14 < ((((y2_3_.2.2.2.2.2.2.1)).l.length : Nat) : Int)) (hy2_6 : (x2_14).toNat < (((y2_3_.2.2.2.2.2.2.1)).l).length) (y2_7_ : Int) (hy2_7 : (some ((((y2_3_.2.2.2.2.2.2.1)).l).getD (x2_14).toNat 0)) = some y2_7_) (hy2_8 : (((x2_12a :: x2_12t)).length + 1) * 8 ≤ 140737488355328) : Q_Rmovedq1_2 rnd x2_0 x2_1 x2_2 x2_3 x2_5 x2_6 x2_7 x2_8 x2_9 x2_10 x2_11 x2_13 ((x2_4a :: x2_4t), (x2_12a :: x2_12t), x2_14) (.normal, S_Rmovedq1_2 x2_0 x2_1 x2_2 x2_3 x2_5 x2_6 x2_7 x2_8 x2_9 x2_10 x2_11 x2_13 ((x2_4a :: x2_4t), ((x2_12a :: x2_12t) ++ [(w64 (y2_7_ + x2_3))]), (w64 (x2_14 + (1 : Int))))) :=
 runC2 hm (L := lT []) ⟨[0, 1, 5, 6, 7, 8], [(0, 0, true), (1, 1, true), (2, 2, false), (3, 17, true)], 4, 1, [], false, []⟩ (zz 5 (xk14 0 x2_2 hy2_1) <|
zz 7 (ok20 hy2_3 (hy2_2)) <|
zz 9 (xdT hy2_4) <|
zz 17 (xk14 0 x2_2 hy2_1) <|
zz 19 (ok20 hy2_3 (hy2_2)) <|
zz 21 (xk9 (Nat.add ((y2_3_.2.2.2.2.2.2.1)).num 64) ((y2_3_.2.2.2.2.2.2.1)).cap hy2_5) <|
zz 22 (nk10 hy2_7 hy2_6) <|
yy 26 (.app ⟨none, iv (x2_12a :: x2_12t), (iv ((x2_12a :: x2_12t) ++ [(w64 (y2_7_ + x2_3))])), (((x2_12a :: x2_12t) ++ [(w64 (y2_7_ + x2_3))])).length, false⟩) <|
ww (p := 0 < 1) ((by decide)) <|
ww (p := rdT (layT (iv (x2_12a :: x2_12t))) (Nat.mul ((x2_12a :: x2_12t)).length 1) 0 = some (iv (x2_12a :: x2_12t))) (iv_rd _) <|
ww (p := fits (Nat.add ((x2_12a :: x2_12t)).length 1) 8 = true) (fits_ok hy2_8 (by have := hy2_8; show (_ : Nat) + _ ≤ _; omega)) <|
ww (p := allCells [(i6 (w64 (y2_7_ + x2_3)))] = true) (rfl) <|
ww (p := allCells (iv (x2_12a :: x2_12t)) = true) (iv_cells _) <|
ww (p := iv (x2_12a :: x2_12t) ++ [(i6 (w64 (y2_7_ + x2_3)))] = (iv ((x2_12a :: x2_12t) ++ [(w64 (y2_7_ + x2_3))]))) (by simp [iv]) <|
ww (p := Nat.add ((x2_12a :: x2_12t)).length 1 = (((x2_12a :: x2_12t) ++ [(w64 (y2_7_ + x2_3))])).length) (by simp) <|
ww (rows_flat rwf_iiiiiiLu x2_0 41) <|
ww (rows_flat rwf_iiiiiiLu (x2_4a :: x2_4t) 41) <|
ww (iv_flat ((x2_12a :: x2_12t) ++ [(w64 (y2_7_ + x2_3))]) 3) <|
ee) (by kernel_rfl)
theorem q_Rmovedq1_2_7 (n : Nat) {rnd : Option Nat} (x2_0 : List R8) (x2_1 x2_2 : Nat) (x2_3 : Int) (x2_4a : R8) (x2_4t : List R8) (x2_5 x2_6 x2_7 x2_8 x2_9 x2_10 x2_11 x2_12a : Int) (x2_12t : List (Int)) (x2_13 x2_14 : Int) (hy2_1 : 0 ≤ x2_5 ∧ x2_5 < ((x2_1 : Nat) : Int)) (hy2_2 : (x2_5).toNat < (x2_0).length) (y2_3_ : R8) (hy2_3 : (some ((x2_0).getD (x2_5).toNat (0, 0, 0, 0, 0, 0, nl0, 0))) = some y2_3_) (hy2_4 : ¬ (x2_14 < ((((y2_3_.2.2.2.2.2.2.1)).l.length : Nat) : Int))) (hy2_5 : (x2_12a :: x2_12t).length ≤ 9223372036854775807) : Q_Rmovedq1_2 rnd x2_0 x2_1 x2_2 x2_3 x2_5 x2_6 x2_7 x2_8 x2_9 x2_10 x2_11 x2_13 ((x2_4a :: x2_4t), (x2_12a :: x2_12t), x2_14) (X_Rmovedq1_2 x2_0 x2_1 x2_2 x2_3 x2_5 x2_6 x2_7 x2_8 x2_9 x2_10 x2_11 x2_13 ((x2_4a :: x2_4t), (frzL (x2_12a :: x2_12t) hy2_5))) :=
 runC2 hm (L := lT []) ⟨[0, 1, 5, 6, 7], [(0, 0, true), (1, 1, true), (2, 2, false)], 3, 1, [(3, Nat.add (2 * cod (x2_12a :: x2_12t) + 1) 64)], true, []⟩ (zz 5 (xk14 0 x2_2 hy2_1) <|
zz 7 (ok20 hy2_3 (hy2_2)) <|
zz 9 (xdF hy2_4) <|
ww (rows_flat rwf_iiiiiiLu x2_0 41) <|
ww (rows_flat rwf_iiiiiiLu (x2_4a :: x2_4t) 41) <|
ww (frz_ok wins_nest wins_odd (x2_12a :: x2_12t)) <|
ww (rows_flat rwf_iiiiiiLu x2_0 41) <|
ww (rows_flat rwf_iiiiiiLu (x2_4a :: x2_4t) 41) <|
ee) (by kernel_rfl)
theorem m_Rmovedq1_2_ok (n : Nat) {rnd : Option Nat} (x2_0 : List R8) (x2_1 : Nat) (x2_2 : Nat) (x2_3 : Int) (x2_5 : Int) (x2_6 : Int) (x2_7 : Int) (x2_8 : Int) (x2_9 : Int) (x2_10 : Int) (x2_11 : Int) (x2_13 : Int) (st : List R8 × List Int × Int) (r : List R8 × NL) (h : m_Rmovedq1_2 n x2_0 x2_1 x2_2 x2_3 x2_5 x2_6 x2_7 x2_8 x2_9 x2_10 x2_11 x2_13 st = some r) : CG P rnd (fnN P 26) 1 (codeOf P 26 [false, true, false, true, true, false, false, true, false, false, true, false, true, true]) (S_Rmovedq1_2 x2_0 x2_1 x2_2 x2_3 x2_5 x2_6 x2_7 x2_8 x2_9 x2_10 x2_11 x2_13 st) (X_Rmovedq1_2 x2_0 x2_1 x2_2 x2_3 x2_5 x2_6 x2_7 x2_8 x2_9 x2_10 x2_11 x2_13 r) :=
 CG.iter (b := codeOf P 26 [false, false, true, false, true, true, false, false, true, false, false, true, false, true, true]) (by kernel_rfl) (body := B_Rmovedq1_2 n x2_0 x2_1 x2_2 x2_3 x2_5 x2_6 x2_7 x2_8 x2_9 x2_10 x2_11 x2_13) (S := S_Rmovedq1_2 x2_0 x2_1 x2_2 x2_3 x2_5 x2_6 x2_7 x2_8 x2_9 x2_10 x2_11 x2_13) (X := X_Rmovedq1_2 x2_0 x2_1 x2_2 x2_3 x2_5 x2_6 x2_7 x2_8 x2_9 x2_10 x2_11 x2_13)
  (fun s s' h => by
  obtain ⟨x2_4, x2_12, x2_14⟩ := s
  unfold B_Rmovedq1_2 at h
  dsimp only at h
  cases x2_4 with
  | nil =>
   dsimp only at h
   cases x2_12 with
   | nil =>
    dsimp only at h
    by_cases hy2_1 : 0 ≤ x2_5 ∧ x2_5 < ((x2_1 : Nat) : Int)
    ·rw [if_pos hy2_1] at h
     by_cases hy2_2 : (x2_5).toNat < (x2_0).length
     ·rw [if_pos hy2_2] at h
      obtain ⟨y2_3_, hy2_3, h⟩ := Option.bind_eq_some_iff.1 h
      by_cases hy2_4 : x2_14 < ((((y2_3_.2.2.2.2.2.2.1)).l.length : Nat) : Int)
      ·rw [if_pos hy2_4] at h
       by_cases hy2_5 : 0 ≤ x2_14 ∧ x2_14 < ((((y2_3_.2.2.2.2.2.2.1)).l.length : Nat) : Int)
       ·rw [if_pos hy2_5] at h
        by_cases hy2_6 : (x2_14).toNat < (((y2_3_.2.2.2.2.2.2.1)).l).length
        ·rw [if_pos hy2_6] at h
         obtain ⟨y2_7_, hy2_7, h⟩ := Option.bind_eq_some_iff.1 h
         obtain rfl := Sum.inl.inj (oI h); exact q_Rmovedq1_2_0 n x2_0 x2_1 x2_2 x2_3 x2_5 x2_6 x2_7 x2_8 x2_9 x2_10 x2_11 x2_13 x2_14 hy2_1 hy2_2 y2_3_ hy2_3 hy2_4 hy2_5 hy2_6 y2_7_ hy2_7
        ·rw [if_neg hy2_6] at h; cases h
       ·rw [if_neg hy2_5] at h; cases h
      ·rw [if_neg hy2_4] at h
       cases h
     ·rw [if_neg hy2_2] at h; cases h
    ·rw [if_neg hy2_1] at h; cases h
   | cons x2_12a x2_12t =>
    dsimp only at h
    by_cases hy2_1 : 0 ≤ x2_5 ∧ x2_5 < ((x2_1 : Nat) : Int)
    ·rw [if_pos hy2_1] at h
     by_cases hy2_2 : (x2_5).toNat < (x2_0).length
     ·rw [if_pos hy2_2] at h
      obtain ⟨y2_3_, hy2_3, h⟩ := Option.bind_eq_some_iff.1 h
      by_cases hy2_4 : x2_14 < ((((y2_3_.2.2.2.2.2.2.1)).l.length : Nat) : Int)
      ·rw [if_pos hy2_4] at h
       by_cases hy2_5 : 0 ≤ x2_14 ∧ x2_14 < ((((y2_3_.2.2.2.2.2.2.1)).l.length : Nat) : Int)
       ·rw [if_pos hy2_5] at h
        by_cases hy2_6 : (x2_14).toNat < (((y2_3_.2.2.2.2.2.2.1)).l).length
        ·rw [if_pos hy2_6] at h
         obtain ⟨y2_7_, hy2_7, h⟩ := Option.bind_eq_some_iff.1 h
         by_cases hy2_8 : (((x2_12a :: x2_12t)).length + 1) * 8 ≤ 140737488355328
         ·rw [if_pos hy2_8] at h
          obtain rfl := Sum.inl.inj (oI h); exact q_Rmovedq1_2_2 n x2_0 x2_1 x2_2 x2_3 x2_5 x2_6 x2_7 x2_8 x2_9 x2_10 x2_11 x2_12a x2_12t x2_13 x2_14 hy2_1 hy2_2 y2_3_ hy2_3 hy2_4 hy2_5 hy2_6 y2_7_ hy2_7 hy2_8
         ·rw [if_neg hy2_8] at h; cases h
        ·rw [if_neg hy2_6] at h; cases h
       ·rw [if_neg hy2_5] at h; cases h
      ·rw [if_neg hy2_4] at h
       by_cases hy2_5 : (x2_12a :: x2_12t).length ≤ 9223372036854775807
       ·rw [dif_pos hy2_5] at h
        cases h
       ·rw [dif_neg hy2_5] at h; cases h
     ·rw [if_neg hy2_2] at h; cases h
    ·rw [if_neg hy2_1] at h; cases h
  | cons x2_4a x2_4t =>
   dsimp only at h
   cases x2_12 with
   | nil =>
    dsimp only at h
    by_cases hy2_1 : 0 ≤ x2_5 ∧ x2_5 < ((x2_1 : Nat) : Int)
    ·rw [if_pos hy2_1] at h
     by_cases hy2_2 : (x2_5).toNat < (x2_0).length
     ·rw [if_pos hy2_2] at h
      obtain ⟨y2_3_, hy2_3, h⟩ := Option.bind_eq_some_iff.1 h
      by_cases hy2_4 : x2_14 < ((((y2_3_.2.2.2.2.2.2.1)).l.length : Nat) : Int)
      ·rw [if_pos hy2_4] at h
       by_cases hy2_5 : 0 ≤ x2_14 ∧ x2_14 < ((((y2_3_.2.2.2.2.2.2.1)).l.length : Nat) : Int)
       ·rw [if_pos hy2_5] at h
        by_cases hy2_6 : (x2_14).toNat < (((y2_3_.2.2.2.2.2.2.1)).l).length
        ·rw [if_pos hy2_6] at h
         obtain ⟨y2_7_, hy2_7, h⟩ := Option.bind_eq_some_iff.1 h
         obtain rfl := Sum.inl.inj (oI h); exact q_Rmovedq1_2_4 n x2_0 x2_1 x2_2 x2_3 x2_4a x2_4t x2_5 x2_6 x2_7 x2_8 x2_9 x2_10 x2_11 x2_13 x2_14 hy2_1 hy2_2 y2_3_ hy2_3 hy2_4 hy2_5 hy2_6 y2_7_ hy2_7
        ·rw [if_neg hy2_6] at h; cases h
       ·rw [if_neg hy2_5] at h; cases h
      ·rw [if_neg hy2_4] at h
       cases h
     ·rw [if_neg hy2_2] at h; cases h
    ·rw [if_neg hy2_1] at h; cases h
   | cons x2_12a x2_12t =>
    dsimp only at h
    by_cases hy2_1 : 0 ≤ x2_5 ∧ x2_5 < ((x2_1 : Nat) : Int)
    ·rw [if_pos hy2_1] at h
     by_cases hy2_2 : (x2_5).toNat < (x2_0).length
     ·rw [if_pos hy2_2] at h
      obtain ⟨y2_3_, hy2_3, h⟩ := Option.bind_eq_some_iff.1 h
      by_cases hy2_4 : x2_14 < ((((y2_3_.2.2.2.2.2.2.1)).l.length : Nat) : Int)
      ·rw [if_pos hy2_4] at h
       by_cases hy2_5 : 0 ≤ x2_14 ∧ x2_14 < ((((y2_3_.2.2.2.2.2.2.1)).l.length : Nat) : Int)
       ·rw [if_pos hy2_5] at h
        by_cases hy2_6 : (x2_14).toNat < (((y2_3_.2.2.2.2.2.2.1)).l).length
        ·rw [if_pos hy2_6] at h
         obtain ⟨y2_7_, hy2_7, h⟩ := Option.bind_eq_some_iff.1 h
         by_cases hy2_8 : (((x2_12a :: x2_12t)).length + 1) * 8 ≤ 140737488355328
         ·rw [if_pos hy2_8] at h
          obtain rfl := Sum.inl.inj (oI h); exact q_Rmovedq1_2_6 n x2_0 x2_1 x2_2 x2_3 x2_4a x2_4t x2_5 x2_6 x2_7 x2_8 x2_9 x2_10 x2_11 x2_12a x2_12t x2_13 x2_14 hy2_1 hy2_2 y2_3_ hy2_3 hy2_4 hy2_5 hy2_6 y2_7_ hy2_7 hy2_8
         ·rw [if_neg hy2_8] at h; cases h
        ·rw [if_neg hy2_6] at h; cases h
       ·rw [if_neg hy2_5] at h; cases h
      ·rw [if_neg hy2_4] at h
       by_cases hy2_5 : (x2_12a :: x2_12t).length ≤ 9223372036854775807
       ·rw [dif_pos hy2_5] at h
        cases h
       ·rw [dif_neg hy2_5] at h; cases h
     ·rw [if_neg hy2_2] at h; cases h
    ·rw [if_neg hy2_1] at h; cases h)
  (fun s r h => by
  obtain ⟨x2_4, x2_12, x2_14⟩ := s
  unfold B_Rmovedq1_2 at h
  dsimp only at h
  cases x2_4 with
  | nil =>
   dsimp only at h
   cases x2_12 with
   | nil =>
    dsimp only at h
    by_cases hy2_1 : 0 ≤ x2_5 ∧ x2_5 < ((x2_1 : Nat) : Int)
    ·rw [if_pos hy2_1] at h
     by_cases hy2_2 : (x2_5).toNat < (x2_0).length
     ·rw [if_pos hy2_2] at h
      obtain ⟨y2_3_, hy2_3, h⟩ := Option.bind_eq_some_iff.1 h
      by_cases hy2_4 : x2_14 < ((((y2_3_.2.2.2.2.2.2.1)).l.length : Nat) : Int)
      ·rw [if_pos hy2_4] at h
       by_cases hy2_5 : 0 ≤ x2_14 ∧ x2_14 < ((((y2_3_.2.2.2.2.2.2.1)).l.length : Nat) : Int)
       ·rw [if_pos hy2_5] at h
        by_cases hy2_6 : (x2_14).toNat < (((y2_3_.2.2.2.2.2.2.1)).l).length
        ·rw [if_pos hy2_6] at h
         obtain ⟨y2_7_, hy2_7, h⟩ := Option.bind_eq_some_iff.1 h
         cases h
        ·rw [if_neg hy2_6] at h; cases h
       ·rw [if_neg hy2_5] at h; cases h
      ·rw [if_neg hy2_4] at h
       obtain rfl := Sum.inr.inj (oI h); exact q_Rmovedq1_2_1 n x2_0 x2_1 x2_2 x2_3 x2_5 x2_6 x2_7 x2_8 x2_9 x2_10 x2_11 x2_13 x2_14 hy2_1 hy2_2 y2_3_ hy2_3 hy2_4
     ·rw [if_neg hy2_2] at h; cases h
    ·rw [if_neg hy2_1] at h; cases h
   | cons x2_12a x2_12t =>
    dsimp only at h
    by_cases hy2_1 : 0 ≤ x2_5 ∧ x2_5 < ((x2_1 : Nat) : Int)
    ·rw [if_pos hy2_1] at h
     by_cases hy2_2 : (x2_5).toNat < (x2_0).length
     ·rw [if_pos hy2_2] at h
      obtain ⟨y2_3_, hy2_3, h⟩ := Option.bind_eq_some_iff.1 h
      by_cases hy2_4 : x2_14 < ((((y2_3_.2.2.2.2.2.2.1)).l.length : Nat) : Int)
      ·rw [if_pos hy2_4] at h
       by_cases hy2_5 : 0 ≤ x2_14 ∧ x2_14 < ((((y2_3_.2.2.2.2.2.2.1)).l.length : Nat) : Int)
       ·rw [if_pos hy2_5] at h
        by_cases hy2_6 : (x2_14).toNat < (((y2_3_.2.2.2.2.2.2.1)).l).length
        ·rw [if_pos hy2_6] at h
         obtain ⟨y2_7_, hy2_7, h⟩ := Option.bind_eq_some_iff.1 h
         by_cases hy2_8 : (((x2_12a :: x2_12t)).length + 1) * 8 ≤ 140737488355328
         ·rw [if_pos hy2_8] at h
          cases h
         ·rw [if_neg hy2_8] at h; cases h
        ·rw [if_neg hy2_6] at h; cases h
       ·rw [if_neg hy2_5] at h; cases h
      ·rw [if_neg hy2_4] at h
       by_cases hy2_5 : (x2_12a :: x2_12t).length ≤ 9223372036854775807
       ·rw [dif_pos hy2_5] at h
        obtain rfl := Sum.inr.inj (oI h); exact q_Rmovedq1_2_3 n x2_0 x2_1 x2_2 x2_3 x2_5 x2_6 x2_7 x2_8 x2_9 x2_10 x2_11 x2_12a x2_12t x2_13 x2_14 hy2_1 hy2_2 y2_3_ hy2_3 hy2_4 hy2_5
       ·rw [dif_neg hy2_5] at h; cases h
     ·rw [if_neg hy2_2] at h; cases h
    ·rw [if_neg hy2_1] at h; cases h
  | cons x2_4a x2_4t =>
   dsimp only at h
   cases x2_12 with
   | nil =>
    dsimp only at h
    by_cases hy2_1 : 0 ≤ x2_5 ∧ x2_5 < ((x2_1 : Nat) : Int)
    ·rw [if_pos hy2_1] at h
     by_cases hy2_2 : (x2_5).toNat < (x2_0).length
     ·rw [if_pos hy2_2] at h
      obtain ⟨y2_3_, hy2_3, h⟩ := Option.bind_eq_some_iff.1 h
      by_cases hy2_4 : x2_14 < ((((y2_3_.2.2.2.2.2.2.1)).l.length : Nat) : Int)
      ·rw [if_pos hy2_4] at h
       by_cases hy2_5 : 0 ≤ x2_14 ∧ x2_14 < ((((y2_3_.2.2.2.2.2.2.1)).l.length : Nat) : Int)
       ·rw [if_pos hy2_5] at h
        by_cases hy2_6 : (x2_14).toNat < (((y2_3_.2.2.2.2.2.2.1)).l).length
        ·rw [if_pos hy2_6] at h
         obtain ⟨y2_7_, hy2_7, h⟩ := Option.bind_eq_some_iff.1 h
         cases h
        ·rw [if_neg hy2_6] at h; cases h
       ·rw [if_neg hy2_5] at h; cases h
      ·rw [if_neg hy2_4] at h
       obtain rfl := Sum.inr.inj (oI h); exact q_Rmovedq1_2_5 n x2_0 x2_1 x2_2 x2_3 x2_4a x2_4t x2_5 x2_6 x2_7 x2_8 x2_9 x2_10 x2_11 x2_13 x2_14 hy2_1 hy2_2 y2_3_ hy2_3 hy2_4
     ·rw [if_neg hy2_2] at h; cases h
    ·rw [if_neg hy2_1] at h; cases h
   | cons x2_12a x2_12t =>
    dsimp only at h
    by_cases hy2_1 : 0 ≤ x2_5 ∧ x2_5 < ((x2_1 : Nat) : Int)
    ·rw [if_pos hy2_1] at h
     by_cases hy2_2 : (x2_5).toNat < (x2_0).length
     ·rw [if_pos hy2_2] at h
      obtain ⟨y2_3_, hy2_3, h⟩ := Option.bind_eq_some_iff.1 h
      by_cases hy2_4 : x2_14 < ((((y2_3_.2.2.2.2.2.2.1)).l.length : Nat) : Int)
      ·rw [if_pos hy2_4] at h
       by_cases hy2_5 : 0 ≤ x2_14 ∧ x2_14 < ((((y2_3_.2.2.2.2.2.2.1)).l.length : Nat) : Int)
       ·rw [if_pos hy2_5] at h
        by_cases hy2_6 : (x2_14).toNat < (((y2_3_.2.2.2.2.2.2.1)).l).length
        ·rw [if_pos hy2_6] at h
         obtain ⟨y2_7_, hy2_7, h⟩ := Option.bind_eq_some_iff.1 h
         by_cases hy2_8 : (((x2_12a :: x2_12t)).length + 1) * 8 ≤ 140737488355328
         ·rw [if_pos hy2_8] at h
          cases h
         ·rw [if_neg hy2_8] at h; cases h
        ·rw [if_neg hy2_6] at h; cases h
       ·rw [if_neg hy2_5] at h; cases h
      ·rw [if_neg hy2_4] at h
       by_cases hy2_5 : (x2_12a :: x2_12t).length ≤ 9223372036854775807
       ·rw [dif_pos hy2_5] at h
        obtain rfl := Sum.inr.inj (oI h); exact q_Rmovedq1_2_7 n x2_0 x2_1 x2_2 x2_3 x2_4a x2_4t x2_5 x2_6 x2_7 x2_8 x2_9 x2_10 x2_11 x2_12a x2_12t x2_13 x2_14 hy2_1 hy2_2 y2_3_ hy2_3 hy2_4 hy2_5
       ·rw [dif_neg hy2_5] at h; cases h
     ·rw [if_neg hy2_2] at h; cases h
    ·rw [if_neg hy2_1] at h; cases h)
  (fun r => by intro hx; cases hx) h
noncomputable def S_Rmovedq1_1 (x1_0 : List R8) (x1_1 : Nat) (x1_2 : Nat) (x1_3 : Int) (st : List R8 × Int) : XSt := match st with
 | (x1_4, x1_5) => (sT 50 [(0, (sN 0 0 x1_1 x1_2)), (1, (i6 x1_3)), (5, (slR x1_4 1 8)), (6, (i6 x1_5))], [], ⟨sB [(0, (some (.cells (layT (rows rw_iiiiiiLu x1_0)) 41))), (1, (nblkR rw_iiiiiiLu x1_4 41))], 2, 1⟩)
noncomputable def X_Rmovedq1_1 (x1_0 : List R8) (x1_1 : Nat) (x1_2 : Nat) (x1_3 : Int) (r : List R8) : Ex × XSt := match r with
 | z1_0 => (.exit 0, (sT 50 [(5, (slR z1_0 1 8))], [], ⟨sB [(0, (some (.cells (layT (rows rw_iiiiiiLu x1_0)) 41))), (1, (nblkR rw_iiiiiiLu z1_0 41))], 2, 1⟩))
noncomputable abbrev Q_Rmovedq1_1 (rnd : Option Nat) (x1_0 : List R8) (x1_1 : Nat) (x1_2 : Nat) (x1_3 : Int) (st : List R8 × Int) (c : Ex × XSt) : Prop := CG P rnd (fnN P 26) 1 (codeOf P 26 [false, false, true, false, true, true]) (S_Rmovedq1_1 x1_0 x1_1 x1_2 x1_3 st) c
noncomputable abbrev U_Rmovedq1_1 (rd : Option Nat) (x1_0 : List R8) (x1_1 : Nat) (x1_2 : Nat) (x1_3 : Int) (st : List R8 × Int) (r : List R8) : Prop := CG P rd (fnN P 26) 1 (codeOf P 26 [false, true, false, true, true]) (S_Rmovedq1_1 x1_0 x1_1 x1_2 x1_3 st) (X_Rmovedq1_1 x1_0 x1_1 x1_2 x1_3 r)
def B_Rmovedq1_1 (n : Nat) (x1_0 : List R8) (x1_1 : Nat) (x1_2 : Nat) (x1_3 : Int) (st : List R8 × Int) : Option ((List R8 × Int) ⊕ (List R8)) := match st with
 | (x1_4, x1_5) =>
  match x1_4 with
  | [] =>
   if x1_5 < ((x1_1 : Nat) : Int) then
    if 0 ≤ x1_5 ∧ x1_5 < ((x1_1 : Nat) : Int) then
     if (x1_5).toNat < (x1_0).length then
      ((some ((x1_0).getD (x1_5).toNat (0, 0, 0, 0, 0, 0, nl0, 0)))).bind fun y1_4_ =>
      (m_Rmovedq1_2 n x1_0 x1_1 x1_2 x1_3 x1_5 (y1_4_.1) (y1_4_.2.1) (y1_4_.2.2.1) (y1_4_.2.2.2.1) (y1_4_.2.2.2.2.1) (y1_4_.2.2.2.2.2.1) (y1_4_.2.2.2.2.2.2.2) (([] : List R8), ([] : List Int), 0)).bind fun t => match t with
      | (y1_5_0, y1_5_1) =>
       match y1_5_0 with
       | [] =>
        some (.inl ([((y1_4_.1), (y1_4_.2.1), (y1_4_.2.2.1), (y1_4_.2.2.2.1), (y1_4_.2.2.2.2.1), (y1_4_.2.2.2.2.2.1), y1_5_1, (y1_4_.2.2.2.2.2.2.2))], (w64 (x1_5 + (1 : Int)))))
       | y1_5_0a :: y1_5_0t =>
        if (((y1_5_0a :: y1_5_0t)).length + 1) * 80 ≤ 140737488355328 then
         some (.inl (((y1_5_0a :: y1_5_0t) ++ [((y1_4_.1), (y1_4_.2.1), (y1_4_.2.2.1), (y1_4_.2.2.2.1), (y1_4_.2.2.2.2.1), (y1_4_.2.2.2.2.2.1), y1_5_1, (y1_4_.2.2.2.2.2.2.2))]), (w64 (x1_5 + (1 : Int)))))
        else none
     else none
    else none
   else
    some (.inr ([] : List R8))
  | x1_4a :: x1_4t =>
   if x1_5 < ((x1_1 : Nat) : Int) then
    if 0 ≤ x1_5 ∧ x1_5 < ((x1_1 : Nat) : Int) then
     if (x1_5).toNat < (x1_0).length then
      ((some ((x1_0).getD (x1_5).toNat (0, 0, 0, 0, 0, 0, nl0, 0)))).bind fun y1_4_ =>
      (m_Rmovedq1_2 n x1_0 x1_1 x1_2 x1_3 x1_5 (y1_4_.1) (y1_4_.2.1) (y1_4_.2.2.1) (y1_4_.2.2.2.1) (y1_4_.2.2.2.2.1) (y1_4_.2.2.2.2.2.1) (y1_4_.2.2.2.2.2.2.2) ((x1_4a :: x1_4t), ([] : List Int), 0)).bind fun t => match t with
      | (y1_5_0, y1_5_1) =>
       match y1_5_0 with
       | [] =>
        some (.inl ([((y1_4_.1), (y1_4_.2.1), (y1_4_.2.2.1), (y1_4_.2.2.2.1), (y1_4_.2.2.2.2.1), (y1_4_.2.2.2.2.2.1), y1_5_1, (y1_4_.2.2.2.2.2.2.2))], (w64 (x1_5 + (1 : Int)))))
       | y1_5_0a :: y1_5_0t =>
        if (((y1_5_0a :: y1_5_0t)).length + 1) * 80 ≤ 140737488355328 then
         some (.inl (((y1_5_0a :: y1_5_0t) ++ [((y1_4_.1), (y1_4_.2.1), (y1_4_.2.2.1), (y1_4_.2.2.2.1), (y1_4_.2.2.2.2.1), (y1_4_.2.2.2.2.2.1), y1_5_1, (y1_4_.2.2.2.2.2.2.2))]), (w64 (x1_5 + (1 : Int)))))
        else none
     else none
    else none
   else
    some (.inr (x1_4a :: x1_4t))
def m_Rmovedq1_1 (n : Nat) (x1_0 : List R8) (x1_1 : Nat) (x1_2 : Nat) (x1_3 : Int) (st : List R8 × Int) : Option (List R8) := iterM (B_Rmovedq1_1 n x1_0 x1_1 x1_2 x1_3) n st
theorem q_Rmovedq1_1_0 (n : Nat) {rnd : Option Nat} (x1_0 : List R8) (x1_1 x1_2 : Nat) (x1_3 x1_5 : Int) (hy1_1 : x1_5 < ((x1_1 : Nat) : Int)) (hy1_2 : 0 ≤ x1_5 ∧ x1_5 < ((x1_1 : Nat) : Int)) (hy1_3 : (x1_5).toNat < (x1_0).length) (y1_4_ : R8) (hy1_4 : (some ((x1_0).getD (x1_5).toNat (0, 0, 0, 0, 0, 0, nl0, 0))) = some y1_4_) (y1_5_1 : NL) (hy1_5 : m_Rmovedq1_2 n x1_0 x1_1 x1_2 x1_3 x1_5 (y1_4_.1) (y1_4_.2.1) (y1_4_.2.2.1) (y1_4_.2.2.2.1) (y1_4_.2.2.2.2.1) (y1_4_.2.2.2.2.2.1) (y1_4_.2.2.2.2.2.2.2) (([] : List R8), ([] : List Int), 0) = some ([], y1_5_1)) : Q_Rmovedq1_1 rnd x1_0 x1_1 x1_2 x1_3 (([] : List R8), x1_5) (.normal, S_Rmovedq1_1 x1_0 x1_1 x1_2 x1_3 ([((y1_4_.1), (y1_4_.2.1), (y1_4_.2.2.1), (y1_4_.2.2.2.1), (y1_4_.2.2.2.2.1), (y1_4_.2.2.2.2.2.1), y1_5_1, (y1_4_.2.2.2.2.2.2.2))], (w64 (x1_5 + (1 : Int))))) :=
 runC2 hm (L := lT [(23, ⟨⟨[0, 1, 5, 6, 7, 8], [(0, 0, true), (2, 2, false)], 4, 1, [], false, []⟩, (X_Rmovedq1_2 x1_0 x1_1 x1_2 x1_3 x1_5 (y1_4_.1) (y1_4_.2.1) (y1_4_.2.2.1) (y1_4_.2.2.2.1) (y1_4_.2.2.2.2.1) (y1_4_.2.2.2.2.2.1) (y1_4_.2.2.2.2.2.2.2) (([] : List R8), y1_5_1)).1, (X_Rmovedq1_2 x1_0 x1_1 x1_2 x1_3 x1_5 (y1_4_.1) (y1_4_.2.1) (y1_4_.2.2.1) (y1_4_.2.2.2.1) (y1_4_.2.2.2.2.1) (y1_4_.2.2.2.2.2.1) (y1_4_.2.2.2.2.2.2.2) (([] : List R8), y1_5_1)).2⟩)]) ⟨[0, 1, 5, 6], [(0, 0, true), (1, 4, false)], 2, 1, [], false, []⟩ (zz 5 (xdT hy1_1) <|
zz 12 (xk14 0 x1_2 hy1_2) <|
yy 13 (.ld (Value.agg #[(i6 (y1_4_.1)), (i6 (y1_4_.2.1)), (i6 (y1_4_.2.2.1)), (i6 (y1_4_.2.2.2.1)), (i6 (y1_4_.2.2.2.2.1)), (i6 (y1_4_.2.2.2.2.2.1)), (nlV (y1_4_.2.2.2.2.2.2.1)), (Value.int .u64 (y1_4_.2.2.2.2.2.2.2))])) <|
ww (p := rdT (layT (rows rw_iiiiiiLu x1_0)) 8 ((x1_5).toNat * 8) = some [(i6 (y1_4_.1)), (i6 (y1_4_.2.1)), (i6 (y1_4_.2.2.1)), (i6 (y1_4_.2.2.2.1)), (i6 (y1_4_.2.2.2.2.1)), (i6 (y1_4_.2.2.2.2.2.1)), (nlV (y1_4_.2.2.2.2.2.2.1)), (Value.int .u64 (y1_4_.2.2.2.2.2.2.2))]) (rows_rdpN rwf_iiiiiiLu (0, 0, 0, 0, 0, 0, nl0, 0) (hr := hy1_4) (i := (x1_5).toNat) (j := 0) ((x1_5).toNat * 8) rfl (hy1_3) (by decide) rfl) <|
ww (p := U_Rmovedq1_2 rnd x1_0 x1_1 x1_2 x1_3 x1_5 (y1_4_.1) (y1_4_.2.1) (y1_4_.2.2.1) (y1_4_.2.2.2.1) (y1_4_.2.2.2.2.1) (y1_4_.2.2.2.2.2.1) (y1_4_.2.2.2.2.2.2.2) (([] : List R8), ([] : List Int), 0) (([] : List R8), y1_5_1)) (m_Rmovedq1_2_ok n x1_0 x1_1 x1_2 x1_3 x1_5 (y1_4_.1) (y1_4_.2.1) (y1_4_.2.2.1) (y1_4_.2.2.2.1) (y1_4_.2.2.2.2.1) (y1_4_.2.2.2.2.2.1) (y1_4_.2.2.2.2.2.2.2) (([] : List R8), ([] : List Int), 0) (([] : List R8), y1_5_1) hy1_5) <|
ww (rows_flat rwf_iiiiiiLu x1_0 41) <|
ww (rows_flat rwf_iiiiiiLu x1_0 41) <|
ee) (by kernel_rfl)
theorem q_Rmovedq1_1_1 (n : Nat) {rnd : Option Nat} (x1_0 : List R8) (x1_1 x1_2 : Nat) (x1_3 x1_5 : Int) (hy1_1 : x1_5 < ((x1_1 : Nat) : Int)) (hy1_2 : 0 ≤ x1_5 ∧ x1_5 < ((x1_1 : Nat) : Int)) (hy1_3 : (x1_5).toNat < (x1_0).length) (y1_4_ : R8) (hy1_4 : (some ((x1_0).getD (x1_5).toNat (0, 0, 0, 0, 0, 0, nl0, 0))) = some y1_4_) (y1_5_0a : R8) (y1_5_0t : List R8) (y1_5_1 : NL) (hy1_5 : m_Rmovedq1_2 n x1_0 x1_1 x1_2 x1_3 x1_5 (y1_4_.1) (y1_4_.2.1) (y1_4_.2.2.1) (y1_4_.2.2.2.1) (y1_4_.2.2.2.2.1) (y1_4_.2.2.2.2.2.1) (y1_4_.2.2.2.2.2.2.2) (([] : List R8), ([] : List Int), 0) = some ((y1_5_0a :: y1_5_0t), y1_5_1)) (hy1_6 : (((y1_5_0a :: y1_5_0t)).length + 1) * 80 ≤ 140737488355328) : Q_Rmovedq1_1 rnd x1_0 x1_1 x1_2 x1_3 (([] : List R8), x1_5) (.normal, S_Rmovedq1_1 x1_0 x1_1 x1_2 x1_3 (((y1_5_0a :: y1_5_0t) ++ [((y1_4_.1), (y1_4_.2.1), (y1_4_.2.2.1), (y1_4_.2.2.2.1), (y1_4_.2.2.2.2.1), (y1_4_.2.2.2.2.2.1), y1_5_1, (y1_4_.2.2.2.2.2.2.2))]), (w64 (x1_5 + (1 : Int))))) :=
 runC2 hm (L := lT [(23, ⟨⟨[0, 1, 5, 6, 7, 8], [(0, 0, true), (2, 2, false)], 4, 1, [], false, []⟩, (X_Rmovedq1_2 x1_0 x1_1 x1_2 x1_3 x1_5 (y1_4_.1) (y1_4_.2.1) (y1_4_.2.2.1) (y1_4_.2.2.2.1) (y1_4_.2.2.2.2.1) (y1_4_.2.2.2.2.2.1) (y1_4_.2.2.2.2.2.2.2) ((y1_5_0a :: y1_5_0t), y1_5_1)).1, (X_Rmovedq1_2 x1_0 x1_1 x1_2 x1_3 x1_5 (y1_4_.1) (y1_4_.2.1) (y1_4_.2.2.1) (y1_4_.2.2.2.1) (y1_4_.2.2.2.2.1) (y1_4_.2.2.2.2.2.1) (y1_4_.2.2.2.2.2.2.2) ((y1_5_0a :: y1_5_0t), y1_5_1)).2⟩)]) ⟨[0, 1, 5, 6], [(0, 0, true), (1, 4, true)], 2, 1, [], false, []⟩ (zz 5 (xdT hy1_1) <|
zz 12 (xk14 0 x1_2 hy1_2) <|
yy 13 (.ld (Value.agg #[(i6 (y1_4_.1)), (i6 (y1_4_.2.1)), (i6 (y1_4_.2.2.1)), (i6 (y1_4_.2.2.2.1)), (i6 (y1_4_.2.2.2.2.1)), (i6 (y1_4_.2.2.2.2.2.1)), (nlV (y1_4_.2.2.2.2.2.2.1)), (Value.int .u64 (y1_4_.2.2.2.2.2.2.2))])) <|
ww (p := rdT (layT (rows rw_iiiiiiLu x1_0)) 8 ((x1_5).toNat * 8) = some [(i6 (y1_4_.1)), (i6 (y1_4_.2.1)), (i6 (y1_4_.2.2.1)), (i6 (y1_4_.2.2.2.1)), (i6 (y1_4_.2.2.2.2.1)), (i6 (y1_4_.2.2.2.2.2.1)), (nlV (y1_4_.2.2.2.2.2.2.1)), (Value.int .u64 (y1_4_.2.2.2.2.2.2.2))]) (rows_rdpN rwf_iiiiiiLu (0, 0, 0, 0, 0, 0, nl0, 0) (hr := hy1_4) (i := (x1_5).toNat) (j := 0) ((x1_5).toNat * 8) rfl (hy1_3) (by decide) rfl) <|
ww (p := U_Rmovedq1_2 rnd x1_0 x1_1 x1_2 x1_3 x1_5 (y1_4_.1) (y1_4_.2.1) (y1_4_.2.2.1) (y1_4_.2.2.2.1) (y1_4_.2.2.2.2.1) (y1_4_.2.2.2.2.2.1) (y1_4_.2.2.2.2.2.2.2) (([] : List R8), ([] : List Int), 0) ((y1_5_0a :: y1_5_0t), y1_5_1)) (m_Rmovedq1_2_ok n x1_0 x1_1 x1_2 x1_3 x1_5 (y1_4_.1) (y1_4_.2.1) (y1_4_.2.2.1) (y1_4_.2.2.2.1) (y1_4_.2.2.2.2.1) (y1_4_.2.2.2.2.2.1) (y1_4_.2.2.2.2.2.2.2) (([] : List R8), ([] : List Int), 0) ((y1_5_0a :: y1_5_0t), y1_5_1) hy1_5) <|
ww (rows_flat rwf_iiiiiiLu x1_0 41) <|
yy 27 (.app ⟨none, rows rw_iiiiiiLu (y1_5_0a :: y1_5_0t), (rows rw_iiiiiiLu ((y1_5_0a :: y1_5_0t) ++ [((y1_4_.1), (y1_4_.2.1), (y1_4_.2.2.1), (y1_4_.2.2.2.1), (y1_4_.2.2.2.2.1), (y1_4_.2.2.2.2.2.1), y1_5_1, (y1_4_.2.2.2.2.2.2.2))])), (((y1_5_0a :: y1_5_0t) ++ [((y1_4_.1), (y1_4_.2.1), (y1_4_.2.2.1), (y1_4_.2.2.2.1), (y1_4_.2.2.2.2.1), (y1_4_.2.2.2.2.2.1), y1_5_1, (y1_4_.2.2.2.2.2.2.2))])).length, false⟩) <|
ww (p := 0 < 1) ((by decide)) <|
ww (p := rdT (layT (rows rw_iiiiiiLu (y1_5_0a :: y1_5_0t))) (Nat.mul ((y1_5_0a :: y1_5_0t)).length 8) 0 = some (rows rw_iiiiiiLu (y1_5_0a :: y1_5_0t))) (rows_rd rwf_iiiiiiLu _ _ rfl) <|
ww (p := fits (Nat.add ((y1_5_0a :: y1_5_0t)).length 1) 80 = true) (fits_ok hy1_6 (by have := hy1_6; show (_ : Nat) + _ ≤ _; omega)) <|
ww (p := allCells [(i6 (y1_4_.1)), (i6 (y1_4_.2.1)), (i6 (y1_4_.2.2.1)), (i6 (y1_4_.2.2.2.1)), (i6 (y1_4_.2.2.2.2.1)), (i6 (y1_4_.2.2.2.2.2.1)), (nlV y1_5_1), (Value.int .u64 (y1_4_.2.2.2.2.2.2.2))] = true) (rfl) <|
ww (p := allCells (rows rw_iiiiiiLu (y1_5_0a :: y1_5_0t)) = true) (rows_cells rwf_iiiiiiLu _) <|
ww (p := rows rw_iiiiiiLu (y1_5_0a :: y1_5_0t) ++ [(i6 (y1_4_.1)), (i6 (y1_4_.2.1)), (i6 (y1_4_.2.2.1)), (i6 (y1_4_.2.2.2.1)), (i6 (y1_4_.2.2.2.2.1)), (i6 (y1_4_.2.2.2.2.2.1)), (nlV y1_5_1), (Value.int .u64 (y1_4_.2.2.2.2.2.2.2))] = (rows rw_iiiiiiLu ((y1_5_0a :: y1_5_0t) ++ [((y1_4_.1), (y1_4_.2.1), (y1_4_.2.2.1), (y1_4_.2.2.2.1), (y1_4_.2.2.2.2.1), (y1_4_.2.2.2.2.2.1), y1_5_1, (y1_4_.2.2.2.2.2.2.2))]))) (rows_app rw_iiiiiiLu (y1_5_0a :: y1_5_0t) [((y1_4_.1), (y1_4_.2.1), (y1_4_.2.2.1), (y1_4_.2.2.2.1), (y1_4_.2.2.2.2.1), (y1_4_.2.2.2.2.2.1), y1_5_1, (y1_4_.2.2.2.2.2.2.2))]) <|
ww (p := Nat.add ((y1_5_0a :: y1_5_0t)).length 1 = (((y1_5_0a :: y1_5_0t) ++ [((y1_4_.1), (y1_4_.2.1), (y1_4_.2.2.1), (y1_4_.2.2.2.1), (y1_4_.2.2.2.2.1), (y1_4_.2.2.2.2.2.1), y1_5_1, (y1_4_.2.2.2.2.2.2.2))])).length) (by simp) <|
ww (rows_flat rwf_iiiiiiLu x1_0 41) <|
ww (rows_flat rwf_iiiiiiLu ((y1_5_0a :: y1_5_0t) ++ [((y1_4_.1), (y1_4_.2.1), (y1_4_.2.2.1), (y1_4_.2.2.2.1), (y1_4_.2.2.2.2.1), (y1_4_.2.2.2.2.2.1), y1_5_1, (y1_4_.2.2.2.2.2.2.2))]) 41) <|
ee) (by kernel_rfl)
theorem q_Rmovedq1_1_2 (n : Nat) {rnd : Option Nat} (x1_0 : List R8) (x1_1 x1_2 : Nat) (x1_3 x1_5 : Int) (hy1_1 : ¬ (x1_5 < ((x1_1 : Nat) : Int))) : Q_Rmovedq1_1 rnd x1_0 x1_1 x1_2 x1_3 (([] : List R8), x1_5) (X_Rmovedq1_1 x1_0 x1_1 x1_2 x1_3 ([] : List R8)) :=
 runC2 hm (L := lT []) ⟨[5], [(0, 0, true)], 2, 1, [], false, []⟩ (zz 5 (xdF hy1_1) <|
ww (rows_flat rwf_iiiiiiLu x1_0 41) <|
ee) (by kernel_rfl)
theorem q_Rmovedq1_1_3 (n : Nat) {rnd : Option Nat} (x1_0 : List R8) (x1_1 x1_2 : Nat) (x1_3 : Int) (x1_4a : R8) (x1_4t : List R8) (x1_5 : Int) (hy1_1 : x1_5 < ((x1_1 : Nat) : Int)) (hy1_2 : 0 ≤ x1_5 ∧ x1_5 < ((x1_1 : Nat) : Int)) (hy1_3 : (x1_5).toNat < (x1_0).length) (y1_4_ : R8) (hy1_4 : (some ((x1_0).getD (x1_5).toNat (0, 0, 0, 0, 0, 0, nl0, 0))) = some y1_4_) (y1_5_1 : NL) (hy1_5 : m_Rmovedq1_2 n x1_0 x1_1 x1_2 x1_3 x1_5 (y1_4_.1) (y1_4_.2.1) (y1_4_.2.2.1) (y1_4_.2.2.2.1) (y1_4_.2.2.2.2.1) (y1_4_.2.2.2.2.2.1) (y1_4_.2.2.2.2.2.2.2) ((x1_4a :: x1_4t), ([] : List Int), 0) = some ([], y1_5_1)) : Q_Rmovedq1_1 rnd x1_0 x1_1 x1_2 x1_3 ((x1_4a :: x1_4t), x1_5) (.normal, S_Rmovedq1_1 x1_0 x1_1 x1_2 x1_3 ([((y1_4_.1), (y1_4_.2.1), (y1_4_.2.2.1), (y1_4_.2.2.2.1), (y1_4_.2.2.2.2.1), (y1_4_.2.2.2.2.2.1), y1_5_1, (y1_4_.2.2.2.2.2.2.2))], (w64 (x1_5 + (1 : Int))))) :=
 runC2 hm (L := lT [(23, ⟨⟨[0, 1, 5, 6, 7, 8], [(0, 0, true), (1, 1, true), (2, 2, false)], 4, 1, [], false, []⟩, (X_Rmovedq1_2 x1_0 x1_1 x1_2 x1_3 x1_5 (y1_4_.1) (y1_4_.2.1) (y1_4_.2.2.1) (y1_4_.2.2.2.1) (y1_4_.2.2.2.2.1) (y1_4_.2.2.2.2.2.1) (y1_4_.2.2.2.2.2.2.2) (([] : List R8), y1_5_1)).1, (X_Rmovedq1_2 x1_0 x1_1 x1_2 x1_3 x1_5 (y1_4_.1) (y1_4_.2.1) (y1_4_.2.2.1) (y1_4_.2.2.2.1) (y1_4_.2.2.2.2.1) (y1_4_.2.2.2.2.2.1) (y1_4_.2.2.2.2.2.2.2) (([] : List R8), y1_5_1)).2⟩)]) ⟨[0, 1, 5, 6], [(0, 0, true), (1, 4, false)], 2, 1, [], false, []⟩ (zz 5 (xdT hy1_1) <|
zz 12 (xk14 0 x1_2 hy1_2) <|
yy 13 (.ld (Value.agg #[(i6 (y1_4_.1)), (i6 (y1_4_.2.1)), (i6 (y1_4_.2.2.1)), (i6 (y1_4_.2.2.2.1)), (i6 (y1_4_.2.2.2.2.1)), (i6 (y1_4_.2.2.2.2.2.1)), (nlV (y1_4_.2.2.2.2.2.2.1)), (Value.int .u64 (y1_4_.2.2.2.2.2.2.2))])) <|
ww (p := rdT (layT (rows rw_iiiiiiLu x1_0)) 8 ((x1_5).toNat * 8) = some [(i6 (y1_4_.1)), (i6 (y1_4_.2.1)), (i6 (y1_4_.2.2.1)), (i6 (y1_4_.2.2.2.1)), (i6 (y1_4_.2.2.2.2.1)), (i6 (y1_4_.2.2.2.2.2.1)), (nlV (y1_4_.2.2.2.2.2.2.1)), (Value.int .u64 (y1_4_.2.2.2.2.2.2.2))]) (rows_rdpN rwf_iiiiiiLu (0, 0, 0, 0, 0, 0, nl0, 0) (hr := hy1_4) (i := (x1_5).toNat) (j := 0) ((x1_5).toNat * 8) rfl (hy1_3) (by decide) rfl) <|
ww (p := U_Rmovedq1_2 rnd x1_0 x1_1 x1_2 x1_3 x1_5 (y1_4_.1) (y1_4_.2.1) (y1_4_.2.2.1) (y1_4_.2.2.2.1) (y1_4_.2.2.2.2.1) (y1_4_.2.2.2.2.2.1) (y1_4_.2.2.2.2.2.2.2) ((x1_4a :: x1_4t), ([] : List Int), 0) (([] : List R8), y1_5_1)) (m_Rmovedq1_2_ok n x1_0 x1_1 x1_2 x1_3 x1_5 (y1_4_.1) (y1_4_.2.1) (y1_4_.2.2.1) (y1_4_.2.2.2.1) (y1_4_.2.2.2.2.1) (y1_4_.2.2.2.2.2.1) (y1_4_.2.2.2.2.2.2.2) ((x1_4a :: x1_4t), ([] : List Int), 0) (([] : List R8), y1_5_1) hy1_5) <|
ww (rows_flat rwf_iiiiiiLu x1_0 41) <|
ww (rows_flat rwf_iiiiiiLu (x1_4a :: x1_4t) 41) <|
ww (rows_flat rwf_iiiiiiLu x1_0 41) <|
ee) (by kernel_rfl)
theorem q_Rmovedq1_1_4 (n : Nat) {rnd : Option Nat} (x1_0 : List R8) (x1_1 x1_2 : Nat) (x1_3 : Int) (x1_4a : R8) (x1_4t : List R8) (x1_5 : Int) (hy1_1 : x1_5 < ((x1_1 : Nat) : Int)) (hy1_2 : 0 ≤ x1_5 ∧ x1_5 < ((x1_1 : Nat) : Int)) (hy1_3 : (x1_5).toNat < (x1_0).length) (y1_4_ : R8) (hy1_4 : (some ((x1_0).getD (x1_5).toNat (0, 0, 0, 0, 0, 0, nl0, 0))) = some y1_4_) (y1_5_0a : R8) (y1_5_0t : List R8) (y1_5_1 : NL) (hy1_5 : m_Rmovedq1_2 n x1_0 x1_1 x1_2 x1_3 x1_5 (y1_4_.1) (y1_4_.2.1) (y1_4_.2.2.1) (y1_4_.2.2.2.1) (y1_4_.2.2.2.2.1) (y1_4_.2.2.2.2.2.1) (y1_4_.2.2.2.2.2.2.2) ((x1_4a :: x1_4t), ([] : List Int), 0) = some ((y1_5_0a :: y1_5_0t), y1_5_1)) (hy1_6 : (((y1_5_0a :: y1_5_0t)).length + 1) * 80 ≤ 140737488355328) : Q_Rmovedq1_1 rnd x1_0 x1_1 x1_2 x1_3 ((x1_4a :: x1_4t), x1_5) (.normal, S_Rmovedq1_1 x1_0 x1_1 x1_2 x1_3 (((y1_5_0a :: y1_5_0t) ++ [((y1_4_.1), (y1_4_.2.1), (y1_4_.2.2.1), (y1_4_.2.2.2.1), (y1_4_.2.2.2.2.1), (y1_4_.2.2.2.2.2.1), y1_5_1, (y1_4_.2.2.2.2.2.2.2))]), (w64 (x1_5 + (1 : Int))))) :=
 runC2 hm (L := lT [(23, ⟨⟨[0, 1, 5, 6, 7, 8], [(0, 0, true), (1, 1, true), (2, 2, false)], 4, 1, [], false, []⟩, (X_Rmovedq1_2 x1_0 x1_1 x1_2 x1_3 x1_5 (y1_4_.1) (y1_4_.2.1) (y1_4_.2.2.1) (y1_4_.2.2.2.1) (y1_4_.2.2.2.2.1) (y1_4_.2.2.2.2.2.1) (y1_4_.2.2.2.2.2.2.2) ((y1_5_0a :: y1_5_0t), y1_5_1)).1, (X_Rmovedq1_2 x1_0 x1_1 x1_2 x1_3 x1_5 (y1_4_.1) (y1_4_.2.1) (y1_4_.2.2.1) (y1_4_.2.2.2.1) (y1_4_.2.2.2.2.1) (y1_4_.2.2.2.2.2.1) (y1_4_.2.2.2.2.2.2.2) ((y1_5_0a :: y1_5_0t), y1_5_1)).2⟩)]) ⟨[0, 1, 5, 6], [(0, 0, true), (1, 4, true)], 2, 1, [], false, []⟩ (zz 5 (xdT hy1_1) <|
zz 12 (xk14 0 x1_2 hy1_2) <|
yy 13 (.ld (Value.agg #[(i6 (y1_4_.1)), (i6 (y1_4_.2.1)), (i6 (y1_4_.2.2.1)), (i6 (y1_4_.2.2.2.1)), (i6 (y1_4_.2.2.2.2.1)), (i6 (y1_4_.2.2.2.2.2.1)), (nlV (y1_4_.2.2.2.2.2.2.1)), (Value.int .u64 (y1_4_.2.2.2.2.2.2.2))])) <|
ww (p := rdT (layT (rows rw_iiiiiiLu x1_0)) 8 ((x1_5).toNat * 8) = some [(i6 (y1_4_.1)), (i6 (y1_4_.2.1)), (i6 (y1_4_.2.2.1)), (i6 (y1_4_.2.2.2.1)), (i6 (y1_4_.2.2.2.2.1)), (i6 (y1_4_.2.2.2.2.2.1)), (nlV (y1_4_.2.2.2.2.2.2.1)), (Value.int .u64 (y1_4_.2.2.2.2.2.2.2))]) (rows_rdpN rwf_iiiiiiLu (0, 0, 0, 0, 0, 0, nl0, 0) (hr := hy1_4) (i := (x1_5).toNat) (j := 0) ((x1_5).toNat * 8) rfl (hy1_3) (by decide) rfl) <|
ww (p := U_Rmovedq1_2 rnd x1_0 x1_1 x1_2 x1_3 x1_5 (y1_4_.1) (y1_4_.2.1) (y1_4_.2.2.1) (y1_4_.2.2.2.1) (y1_4_.2.2.2.2.1) (y1_4_.2.2.2.2.2.1) (y1_4_.2.2.2.2.2.2.2) ((x1_4a :: x1_4t), ([] : List Int), 0) ((y1_5_0a :: y1_5_0t), y1_5_1)) (m_Rmovedq1_2_ok n x1_0 x1_1 x1_2 x1_3 x1_5 (y1_4_.1) (y1_4_.2.1) (y1_4_.2.2.1) (y1_4_.2.2.2.1) (y1_4_.2.2.2.2.1) (y1_4_.2.2.2.2.2.1) (y1_4_.2.2.2.2.2.2.2) ((x1_4a :: x1_4t), ([] : List Int), 0) ((y1_5_0a :: y1_5_0t), y1_5_1) hy1_5) <|
ww (rows_flat rwf_iiiiiiLu x1_0 41) <|
ww (rows_flat rwf_iiiiiiLu (x1_4a :: x1_4t) 41) <|
yy 27 (.app ⟨none, rows rw_iiiiiiLu (y1_5_0a :: y1_5_0t), (rows rw_iiiiiiLu ((y1_5_0a :: y1_5_0t) ++ [((y1_4_.1), (y1_4_.2.1), (y1_4_.2.2.1), (y1_4_.2.2.2.1), (y1_4_.2.2.2.2.1), (y1_4_.2.2.2.2.2.1), y1_5_1, (y1_4_.2.2.2.2.2.2.2))])), (((y1_5_0a :: y1_5_0t) ++ [((y1_4_.1), (y1_4_.2.1), (y1_4_.2.2.1), (y1_4_.2.2.2.1), (y1_4_.2.2.2.2.1), (y1_4_.2.2.2.2.2.1), y1_5_1, (y1_4_.2.2.2.2.2.2.2))])).length, false⟩) <|
ww (p := 0 < 1) ((by decide)) <|
ww (p := rdT (layT (rows rw_iiiiiiLu (y1_5_0a :: y1_5_0t))) (Nat.mul ((y1_5_0a :: y1_5_0t)).length 8) 0 = some (rows rw_iiiiiiLu (y1_5_0a :: y1_5_0t))) (rows_rd rwf_iiiiiiLu _ _ rfl) <|
ww (p := fits (Nat.add ((y1_5_0a :: y1_5_0t)).length 1) 80 = true) (fits_ok hy1_6 (by have := hy1_6; show (_ : Nat) + _ ≤ _; omega)) <|
ww (p := allCells [(i6 (y1_4_.1)), (i6 (y1_4_.2.1)), (i6 (y1_4_.2.2.1)), (i6 (y1_4_.2.2.2.1)), (i6 (y1_4_.2.2.2.2.1)), (i6 (y1_4_.2.2.2.2.2.1)), (nlV y1_5_1), (Value.int .u64 (y1_4_.2.2.2.2.2.2.2))] = true) (rfl) <|
ww (p := allCells (rows rw_iiiiiiLu (y1_5_0a :: y1_5_0t)) = true) (rows_cells rwf_iiiiiiLu _) <|
ww (p := rows rw_iiiiiiLu (y1_5_0a :: y1_5_0t) ++ [(i6 (y1_4_.1)), (i6 (y1_4_.2.1)), (i6 (y1_4_.2.2.1)), (i6 (y1_4_.2.2.2.1)), (i6 (y1_4_.2.2.2.2.1)), (i6 (y1_4_.2.2.2.2.2.1)), (nlV y1_5_1), (Value.int .u64 (y1_4_.2.2.2.2.2.2.2))] = (rows rw_iiiiiiLu ((y1_5_0a :: y1_5_0t) ++ [((y1_4_.1), (y1_4_.2.1), (y1_4_.2.2.1), (y1_4_.2.2.2.1), (y1_4_.2.2.2.2.1), (y1_4_.2.2.2.2.2.1), y1_5_1, (y1_4_.2.2.2.2.2.2.2))]))) (rows_app rw_iiiiiiLu (y1_5_0a :: y1_5_0t) [((y1_4_.1), (y1_4_.2.1), (y1_4_.2.2.1), (y1_4_.2.2.2.1), (y1_4_.2.2.2.2.1), (y1_4_.2.2.2.2.2.1), y1_5_1, (y1_4_.2.2.2.2.2.2.2))]) <|
ww (p := Nat.add ((y1_5_0a :: y1_5_0t)).length 1 = (((y1_5_0a :: y1_5_0t) ++ [((y1_4_.1), (y1_4_.2.1), (y1_4_.2.2.1), (y1_4_.2.2.2.1), (y1_4_.2.2.2.2.1), (y1_4_.2.2.2.2.2.1), y1_5_1, (y1_4_.2.2.2.2.2.2.2))])).length) (by simp) <|
ww (rows_flat rwf_iiiiiiLu x1_0 41) <|
ww (rows_flat rwf_iiiiiiLu ((y1_5_0a :: y1_5_0t) ++ [((y1_4_.1), (y1_4_.2.1), (y1_4_.2.2.1), (y1_4_.2.2.2.1), (y1_4_.2.2.2.2.1), (y1_4_.2.2.2.2.2.1), y1_5_1, (y1_4_.2.2.2.2.2.2.2))]) 41) <|
ee) (by kernel_rfl)
theorem q_Rmovedq1_1_5 (n : Nat) {rnd : Option Nat} (x1_0 : List R8) (x1_1 x1_2 : Nat) (x1_3 : Int) (x1_4a : R8) (x1_4t : List R8) (x1_5 : Int) (hy1_1 : ¬ (x1_5 < ((x1_1 : Nat) : Int))) : Q_Rmovedq1_1 rnd x1_0 x1_1 x1_2 x1_3 ((x1_4a :: x1_4t), x1_5) (X_Rmovedq1_1 x1_0 x1_1 x1_2 x1_3 (x1_4a :: x1_4t)) :=
 runC2 hm (L := lT []) ⟨[5], [(0, 0, true), (1, 1, true)], 2, 1, [], false, []⟩ (zz 5 (xdF hy1_1) <|
ww (rows_flat rwf_iiiiiiLu x1_0 41) <|
ww (rows_flat rwf_iiiiiiLu (x1_4a :: x1_4t) 41) <|
ee) (by kernel_rfl)
theorem m_Rmovedq1_1_ok (n : Nat) {rnd : Option Nat} (x1_0 : List R8) (x1_1 : Nat) (x1_2 : Nat) (x1_3 : Int) (st : List R8 × Int) (r : List R8) (h : m_Rmovedq1_1 n x1_0 x1_1 x1_2 x1_3 st = some r) : CG P rnd (fnN P 26) 1 (codeOf P 26 [false, true, false, true, true]) (S_Rmovedq1_1 x1_0 x1_1 x1_2 x1_3 st) (X_Rmovedq1_1 x1_0 x1_1 x1_2 x1_3 r) :=
 CG.iter (b := codeOf P 26 [false, false, true, false, true, true]) (by kernel_rfl) (body := B_Rmovedq1_1 n x1_0 x1_1 x1_2 x1_3) (S := S_Rmovedq1_1 x1_0 x1_1 x1_2 x1_3) (X := X_Rmovedq1_1 x1_0 x1_1 x1_2 x1_3)
  (fun s s' h => by
  obtain ⟨x1_4, x1_5⟩ := s
  unfold B_Rmovedq1_1 at h
  dsimp only at h
  cases x1_4 with
  | nil =>
   dsimp only at h
   by_cases hy1_1 : x1_5 < ((x1_1 : Nat) : Int)
   ·rw [if_pos hy1_1] at h
    by_cases hy1_2 : 0 ≤ x1_5 ∧ x1_5 < ((x1_1 : Nat) : Int)
    ·rw [if_pos hy1_2] at h
     by_cases hy1_3 : (x1_5).toNat < (x1_0).length
     ·rw [if_pos hy1_3] at h
      obtain ⟨y1_4_, hy1_4, h⟩ := Option.bind_eq_some_iff.1 h
      obtain ⟨⟨y1_5_0, y1_5_1⟩, hy1_5, h⟩ := Option.bind_eq_some_iff.1 h
      dsimp only at h
      cases y1_5_0 with
      | nil =>
       dsimp only at h
       obtain rfl := Sum.inl.inj (oI h); exact q_Rmovedq1_1_0 n x1_0 x1_1 x1_2 x1_3 x1_5 hy1_1 hy1_2 hy1_3 y1_4_ hy1_4 y1_5_1 hy1_5
      | cons y1_5_0a y1_5_0t =>
       dsimp only at h
       by_cases hy1_6 : (((y1_5_0a :: y1_5_0t)).length + 1) * 80 ≤ 140737488355328
       ·rw [if_pos hy1_6] at h
        obtain rfl := Sum.inl.inj (oI h); exact q_Rmovedq1_1_1 n x1_0 x1_1 x1_2 x1_3 x1_5 hy1_1 hy1_2 hy1_3 y1_4_ hy1_4 y1_5_0a y1_5_0t y1_5_1 hy1_5 hy1_6
       ·rw [if_neg hy1_6] at h; cases h
     ·rw [if_neg hy1_3] at h; cases h
    ·rw [if_neg hy1_2] at h; cases h
   ·rw [if_neg hy1_1] at h
    cases h
  | cons x1_4a x1_4t =>
   dsimp only at h
   by_cases hy1_1 : x1_5 < ((x1_1 : Nat) : Int)
   ·rw [if_pos hy1_1] at h
    by_cases hy1_2 : 0 ≤ x1_5 ∧ x1_5 < ((x1_1 : Nat) : Int)
    ·rw [if_pos hy1_2] at h
     by_cases hy1_3 : (x1_5).toNat < (x1_0).length
     ·rw [if_pos hy1_3] at h
      obtain ⟨y1_4_, hy1_4, h⟩ := Option.bind_eq_some_iff.1 h
      obtain ⟨⟨y1_5_0, y1_5_1⟩, hy1_5, h⟩ := Option.bind_eq_some_iff.1 h
      dsimp only at h
      cases y1_5_0 with
      | nil =>
       dsimp only at h
       obtain rfl := Sum.inl.inj (oI h); exact q_Rmovedq1_1_3 n x1_0 x1_1 x1_2 x1_3 x1_4a x1_4t x1_5 hy1_1 hy1_2 hy1_3 y1_4_ hy1_4 y1_5_1 hy1_5
      | cons y1_5_0a y1_5_0t =>
       dsimp only at h
       by_cases hy1_6 : (((y1_5_0a :: y1_5_0t)).length + 1) * 80 ≤ 140737488355328
       ·rw [if_pos hy1_6] at h
        obtain rfl := Sum.inl.inj (oI h); exact q_Rmovedq1_1_4 n x1_0 x1_1 x1_2 x1_3 x1_4a x1_4t x1_5 hy1_1 hy1_2 hy1_3 y1_4_ hy1_4 y1_5_0a y1_5_0t y1_5_1 hy1_5 hy1_6
       ·rw [if_neg hy1_6] at h; cases h
     ·rw [if_neg hy1_3] at h; cases h
    ·rw [if_neg hy1_2] at h; cases h
   ·rw [if_neg hy1_1] at h
    cases h)
  (fun s r h => by
  obtain ⟨x1_4, x1_5⟩ := s
  unfold B_Rmovedq1_1 at h
  dsimp only at h
  cases x1_4 with
  | nil =>
   dsimp only at h
   by_cases hy1_1 : x1_5 < ((x1_1 : Nat) : Int)
   ·rw [if_pos hy1_1] at h
    by_cases hy1_2 : 0 ≤ x1_5 ∧ x1_5 < ((x1_1 : Nat) : Int)
    ·rw [if_pos hy1_2] at h
     by_cases hy1_3 : (x1_5).toNat < (x1_0).length
     ·rw [if_pos hy1_3] at h
      obtain ⟨y1_4_, hy1_4, h⟩ := Option.bind_eq_some_iff.1 h
      obtain ⟨⟨y1_5_0, y1_5_1⟩, hy1_5, h⟩ := Option.bind_eq_some_iff.1 h
      dsimp only at h
      cases y1_5_0 with
      | nil =>
       dsimp only at h
       cases h
      | cons y1_5_0a y1_5_0t =>
       dsimp only at h
       by_cases hy1_6 : (((y1_5_0a :: y1_5_0t)).length + 1) * 80 ≤ 140737488355328
       ·rw [if_pos hy1_6] at h
        cases h
       ·rw [if_neg hy1_6] at h; cases h
     ·rw [if_neg hy1_3] at h; cases h
    ·rw [if_neg hy1_2] at h; cases h
   ·rw [if_neg hy1_1] at h
    obtain rfl := Sum.inr.inj (oI h); exact q_Rmovedq1_1_2 n x1_0 x1_1 x1_2 x1_3 x1_5 hy1_1
  | cons x1_4a x1_4t =>
   dsimp only at h
   by_cases hy1_1 : x1_5 < ((x1_1 : Nat) : Int)
   ·rw [if_pos hy1_1] at h
    by_cases hy1_2 : 0 ≤ x1_5 ∧ x1_5 < ((x1_1 : Nat) : Int)
    ·rw [if_pos hy1_2] at h
     by_cases hy1_3 : (x1_5).toNat < (x1_0).length
     ·rw [if_pos hy1_3] at h
      obtain ⟨y1_4_, hy1_4, h⟩ := Option.bind_eq_some_iff.1 h
      obtain ⟨⟨y1_5_0, y1_5_1⟩, hy1_5, h⟩ := Option.bind_eq_some_iff.1 h
      dsimp only at h
      cases y1_5_0 with
      | nil =>
       dsimp only at h
       cases h
      | cons y1_5_0a y1_5_0t =>
       dsimp only at h
       by_cases hy1_6 : (((y1_5_0a :: y1_5_0t)).length + 1) * 80 ≤ 140737488355328
       ·rw [if_pos hy1_6] at h
        cases h
       ·rw [if_neg hy1_6] at h; cases h
     ·rw [if_neg hy1_3] at h; cases h
    ·rw [if_neg hy1_2] at h; cases h
   ·rw [if_neg hy1_1] at h
    obtain rfl := Sum.inr.inj (oI h); exact q_Rmovedq1_1_5 n x1_0 x1_1 x1_2 x1_3 x1_4a x1_4t x1_5 hy1_1)
  (fun r => by intro hx; cases hx) h
def m_Rmovedq1 (n : Nat) (a0 : List R8) (a1 : Nat) (a2 : Nat) (a3 : Int) : Option (List R8) :=
 (m_Rmovedq1_1 n a0 a1 a2 a3 (([] : List R8), 0)).bind fun c1_ =>
 match c1_ with
 | [] =>
  none
 | c1_a :: c1_t =>
  some (c1_a :: c1_t)
theorem p_Rmovedq1_0 (n : Nat) (a0 : List R8) (a1 a2 : Nat) (a3 : Int) (c1_a : R8) (c1_t : List R8) (hc1 : m_Rmovedq1_1 n a0 a1 a2 a3 (([] : List R8), 0) = some (c1_a :: c1_t)) : G_Rmovedq1 a0 a1 a2 a3 (c1_a :: c1_t) :=
 runF2 hm (L := lT [(8, ⟨⟨[0, 1, 5, 6], [(0, 0, true)], 2, 1, [], false, []⟩, (X_Rmovedq1_1 a0 a1 a2 a3 (c1_a :: c1_t)).1, (X_Rmovedq1_1 a0 a1 a2 a3 (c1_a :: c1_t)).2⟩)]) ⟨[4], [(1, 1, true)], 2, 1, [], false, []⟩ (ww (p := U_Rmovedq1_1 none a0 a1 a2 a3 (([] : List R8), 0) (c1_a :: c1_t)) (m_Rmovedq1_1_ok n a0 a1 a2 a3 (([] : List R8), 0) (c1_a :: c1_t) hc1) <|
ww (rows_flat rwf_iiiiiiLu a0 41) <|
ww (rows_flat rwf_iiiiiiLu (c1_a :: c1_t) 41) <|
ee) (by kernel_rfl)
theorem m_Rmovedq1_ok (n : Nat) (a0 : List R8) (a1 : Nat) (a2 : Nat) (a3 : Int) (r : List R8) (h : m_Rmovedq1 n a0 a1 a2 a3 = some r) : Gv P (.func 26) (A_Rmovedq1 a0 a1 a2 a3) (H_Rmovedq1 a0 a1 a2 a3) (V_Rmovedq1 a0 a1 a2 a3 r) (R_Rmovedq1 a0 a1 a2 a3 r) := by
 unfold m_Rmovedq1 at h
 obtain ⟨c1_, hc1, h⟩ := Option.bind_eq_some_iff.1 h
 cases c1_ with
 | nil =>
  dsimp only at h
  cases h
 | cons c1_a c1_t =>
  dsimp only at h
  obtain rfl := oI h; exact p_Rmovedq1_0 n a0 a1 a2 a3 c1_a c1_t hc1

noncomputable def A_RCopyq1 (a0 : List R8) (a1 : Nat) (a2 : Nat) : List Value := [(sN 0 0 a1 a2)]
noncomputable def H_RCopyq1 (a0 : List R8) (a1 : Nat) (a2 : Nat) : AH := ⟨sB [(0, (some (.cells (layT (rows rw_iiiiiiLu a0)) 41)))], 1, 1⟩
noncomputable def V_RCopyq1 (a0 : List R8) (a1 : Nat) (a2 : Nat) (r : List R8) : Value := match r with
 | o0 => (sN 1 0 (o0).length (Nat.add big 8))
noncomputable def R_RCopyq1 (a0 : List R8) (a1 : Nat) (a2 : Nat) (r : List R8) : AH := match r with
 | o0 => ⟨sB [(1, (some (.cells (layT (rows rw_iiiiiiLu o0)) 41)))], 2, 1⟩
noncomputable abbrev G_RCopyq1 (a0 : List R8) (a1 : Nat) (a2 : Nat) (r : List R8) : Prop := Gv P (.func 24) (A_RCopyq1 a0 a1 a2) (H_RCopyq1 a0 a1 a2) (V_RCopyq1 a0 a1 a2 r) (R_RCopyq1 a0 a1 a2 r)
noncomputable abbrev C_RCopyq1 (a0 : List R8) (a1 : Nat) (a2 : Nat) (r : List R8) (ins outs : BL) : CallA := ⟨1, ins, V_RCopyq1 a0 a1 a2 r, R_RCopyq1 a0 a1 a2 r, outs⟩
def m_RCopyq1 (n : Nat) (a0 : List R8) (a1 : Nat) (a2 : Nat) : Option (List R8) :=
 (m_Rmovedq1 n a0 a1 a2 0).bind fun c1_ =>
 some c1_
theorem p_RCopyq1_0 (n : Nat) (a0 : List R8) (a1 a2 : Nat) (c1_ : List R8) (hc1 : m_Rmovedq1 n a0 a1 a2 0 = some c1_) : G_RCopyq1 a0 a1 a2 c1_ :=
 runF2 hm (L := lT []) ⟨[2], [(1, 1, true)], 2, 1, [], false, []⟩ (yy 4 (.call (C_Rmovedq1 a0 a1 a2 0 c1_ [(0, 0, true)] [(1, 1, true)])) <|
ww (m_Rmovedq1_ok n a0 a1 a2 0 c1_ hc1) <|
ww (rows_flat rwf_iiiiiiLu a0 41) <|
ww (rows_flat rwf_iiiiiiLu c1_ 41) <|
ww (rows_flat rwf_iiiiiiLu c1_ 41) <|
ee) (by kernel_rfl)
theorem m_RCopyq1_ok (n : Nat) (a0 : List R8) (a1 : Nat) (a2 : Nat) (r : List R8) (h : m_RCopyq1 n a0 a1 a2 = some r) : Gv P (.func 24) (A_RCopyq1 a0 a1 a2) (H_RCopyq1 a0 a1 a2) (V_RCopyq1 a0 a1 a2 r) (R_RCopyq1 a0 a1 a2 r) := by
 unfold m_RCopyq1 at h
 obtain ⟨c1_, hc1, h⟩ := Option.bind_eq_some_iff.1 h
 obtain rfl := oI h; exact p_RCopyq1_0 n a0 a1 a2 c1_ hc1

noncomputable def A_RBareq1 (a0 : List R8) (a1 : Nat) (a2 : Nat) : List Value := [(sN 0 0 a1 a2)]
noncomputable def H_RBareq1 (a0 : List R8) (a1 : Nat) (a2 : Nat) : AH := ⟨sB [(0, (some (.cells (layT (rows rw_iiiiiiLu a0)) 41)))], 1, 1⟩
noncomputable def V_RBareq1 (a0 : List R8) (a1 : Nat) (a2 : Nat) (r : List R8 × Nat) : Value := match r with
 | (o0, o1) => (sN 1 0 o1 (Nat.add big 8))
noncomputable def R_RBareq1 (a0 : List R8) (a1 : Nat) (a2 : Nat) (r : List R8 × Nat) : AH := match r with
 | (o0, o1) => ⟨sB [(1, (some (.cells (layT (rows rw_iiiiiiLu o0)) 41)))], 2, 1⟩
noncomputable abbrev G_RBareq1 (a0 : List R8) (a1 : Nat) (a2 : Nat) (r : List R8 × Nat) : Prop := Gv P (.func 10) (A_RBareq1 a0 a1 a2) (H_RBareq1 a0 a1 a2) (V_RBareq1 a0 a1 a2 r) (R_RBareq1 a0 a1 a2 r)
noncomputable abbrev C_RBareq1 (a0 : List R8) (a1 : Nat) (a2 : Nat) (r : List R8 × Nat) (ins outs : BL) : CallA := ⟨1, ins, V_RBareq1 a0 a1 a2 r, R_RBareq1 a0 a1 a2 r, outs⟩
noncomputable def S_RBareq1_1 (x1_0 : List R8) (x1_2 : Nat) (st : List R8 × Int) : XSt := match st with
 | (x1_1, x1_3) => (sT 21 [(3, (sN 1 0 x1_2 (Nat.add big 8))), (4, (i6 x1_3))], [], ⟨sB [(0, (some (.cells (layT (rows rw_iiiiiiLu x1_0)) 41))), (1, (some (.cells (layT (rows rw_iiiiiiLu x1_1)) 41)))], 2, 1⟩)
noncomputable def X_RBareq1_1 (x1_0 : List R8) (x1_2 : Nat) (r : List R8) : Ex × XSt := match r with
 | z1_0 => (.exit 0, (sT 21 [(3, (sN 1 0 x1_2 (Nat.add big 8)))], [], ⟨sB [(0, (some (.cells (layT (rows rw_iiiiiiLu x1_0)) 41))), (1, (some (.cells (layT (rows rw_iiiiiiLu z1_0)) 41)))], 2, 1⟩))
noncomputable abbrev Q_RBareq1_1 (rnd : Option Nat) (x1_0 : List R8) (x1_2 : Nat) (st : List R8 × Int) (c : Ex × XSt) : Prop := CG P rnd (fnN P 10) 1 (codeOf P 10 [false, false, true, false, true, true, true]) (S_RBareq1_1 x1_0 x1_2 st) c
noncomputable abbrev U_RBareq1_1 (rd : Option Nat) (x1_0 : List R8) (x1_2 : Nat) (st : List R8 × Int) (r : List R8) : Prop := CG P rd (fnN P 10) 1 (codeOf P 10 [false, true, false, true, true, true]) (S_RBareq1_1 x1_0 x1_2 st) (X_RBareq1_1 x1_0 x1_2 r)
def B_RBareq1_1 (n : Nat) (x1_0 : List R8) (x1_2 : Nat) (st : List R8 × Int) : Option ((List R8 × Int) ⊕ (List R8)) := match st with
 | (x1_1, x1_3) =>
  if x1_3 < ((x1_2 : Nat) : Int) then
   if 0 ≤ x1_3 ∧ x1_3 < ((x1_2 : Nat) : Int) then
    if (x1_3).toNat < (x1_1).length then
     ((some ((x1_1).getD (x1_3).toNat (0, 0, 0, 0, 0, 0, nl0, 0)))).bind fun y1_4_ =>
     some (.inl (((x1_1).set (x1_3).toNat ((y1_4_.1), (y1_4_.2.1), (y1_4_.2.2.1), (y1_4_.2.2.2.1), (y1_4_.2.2.2.2.1), (y1_4_.2.2.2.2.2.1), (y1_4_.2.2.2.2.2.2.1), (0 : Int))), (w64 (x1_3 + (1 : Int)))))
    else none
   else none
  else
   some (.inr x1_1)
def m_RBareq1_1 (n : Nat) (x1_0 : List R8) (x1_2 : Nat) (st : List R8 × Int) : Option (List R8) := iterM (B_RBareq1_1 n x1_0 x1_2) n st
theorem q_RBareq1_1_0 (n : Nat) {rnd : Option Nat} (x1_0 x1_1 : List R8) (x1_2 : Nat) (x1_3 : Int) (hy1_1 : x1_3 < ((x1_2 : Nat) : Int)) (hy1_2 : 0 ≤ x1_3 ∧ x1_3 < ((x1_2 : Nat) : Int)) (hy1_3 : (x1_3).toNat < (x1_1).length) (y1_4_ : R8) (hy1_4 : (some ((x1_1).getD (x1_3).toNat (0, 0, 0, 0, 0, 0, nl0, 0))) = some y1_4_) : Q_RBareq1_1 rnd x1_0 x1_2 (x1_1, x1_3) (.normal, S_RBareq1_1 x1_0 x1_2 (((x1_1).set (x1_3).toNat ((y1_4_.1), (y1_4_.2.1), (y1_4_.2.2.1), (y1_4_.2.2.2.1), (y1_4_.2.2.2.2.1), (y1_4_.2.2.2.2.2.1), (y1_4_.2.2.2.2.2.2.1), (0 : Int))), (w64 (x1_3 + (1 : Int))))) :=
 runC2 hm (L := lT []) ⟨[3, 4], [(0, 0, true), (1, 1, true)], 2, 1, [], false, []⟩ (zz 5 (xdT hy1_1) <|
zz 11 (xk14 1 U8 hy1_2) <|
yy 13 (.sto (layT (rows rw_iiiiiiLu ((x1_1).set (x1_3).toNat ((y1_4_.1), (y1_4_.2.1), (y1_4_.2.2.1), (y1_4_.2.2.2.1), (y1_4_.2.2.2.2.1), (y1_4_.2.2.2.2.2.1), (y1_4_.2.2.2.2.2.2.1), (0 : Int)))))) <|
ww (p := ∃ old, rdT (layT (rows rw_iiiiiiLu x1_1)) 1 (Nat.add ((x1_3).toNat * 8) 7) = some old) (Exists.elim (rows_stN rwf_iiiiiiLu (0, 0, 0, 0, 0, 0, nl0, 0) (hr := hy1_4) (i := (x1_3).toNat) (j := 7) (l := [(Value.int .u64 (0 : Int))]) ((y1_4_.1), (y1_4_.2.1), (y1_4_.2.2.1), (y1_4_.2.2.2.1), (y1_4_.2.2.2.2.1), (y1_4_.2.2.2.2.2.1), (y1_4_.2.2.2.2.2.2.1), (0 : Int)) (Nat.add ((x1_3).toNat * 8) 7) rfl (hy1_3) (Nat.le_of_ble_eq_true rfl) rfl) fun o h => ⟨o, h.1⟩) <|
ww (p := layL [(Value.int .u64 (0 : Int))] (Nat.add ((x1_3).toNat * 8) 7) (layT (rows rw_iiiiiiLu x1_1)) = layT (rows rw_iiiiiiLu ((x1_1).set (x1_3).toNat ((y1_4_.1), (y1_4_.2.1), (y1_4_.2.2.1), (y1_4_.2.2.2.1), (y1_4_.2.2.2.2.1), (y1_4_.2.2.2.2.2.1), (y1_4_.2.2.2.2.2.2.1), (0 : Int))))) (Exists.elim (rows_stN rwf_iiiiiiLu (0, 0, 0, 0, 0, 0, nl0, 0) (hr := hy1_4) (i := (x1_3).toNat) (j := 7) (l := [(Value.int .u64 (0 : Int))]) ((y1_4_.1), (y1_4_.2.1), (y1_4_.2.2.1), (y1_4_.2.2.2.1), (y1_4_.2.2.2.2.1), (y1_4_.2.2.2.2.2.1), (y1_4_.2.2.2.2.2.2.1), (0 : Int)) (Nat.add ((x1_3).toNat * 8) 7) rfl (hy1_3) (Nat.le_of_ble_eq_true rfl) rfl) fun o h => h.2) <|
ww (rows_flat rwf_iiiiiiLu x1_0 41) <|
ww (rows_flat rwf_iiiiiiLu ((x1_1).set (x1_3).toNat ((y1_4_.1), (y1_4_.2.1), (y1_4_.2.2.1), (y1_4_.2.2.2.1), (y1_4_.2.2.2.2.1), (y1_4_.2.2.2.2.2.1), (y1_4_.2.2.2.2.2.2.1), (0 : Int))) 41) <|
ee) (by kernel_rfl)
theorem q_RBareq1_1_1 (n : Nat) {rnd : Option Nat} (x1_0 x1_1 : List R8) (x1_2 : Nat) (x1_3 : Int) (hy1_1 : ¬ (x1_3 < ((x1_2 : Nat) : Int))) : Q_RBareq1_1 rnd x1_0 x1_2 (x1_1, x1_3) (X_RBareq1_1 x1_0 x1_2 x1_1) :=
 runC2 hm (L := lT []) ⟨[3], [(0, 0, true), (1, 1, true)], 2, 1, [], false, []⟩ (zz 5 (xdF hy1_1) <|
ww (rows_flat rwf_iiiiiiLu x1_0 41) <|
ww (rows_flat rwf_iiiiiiLu x1_1 41) <|
ee) (by kernel_rfl)
theorem m_RBareq1_1_ok (n : Nat) {rnd : Option Nat} (x1_0 : List R8) (x1_2 : Nat) (st : List R8 × Int) (r : List R8) (h : m_RBareq1_1 n x1_0 x1_2 st = some r) : CG P rnd (fnN P 10) 1 (codeOf P 10 [false, true, false, true, true, true]) (S_RBareq1_1 x1_0 x1_2 st) (X_RBareq1_1 x1_0 x1_2 r) :=
 CG.iter (b := codeOf P 10 [false, false, true, false, true, true, true]) (by kernel_rfl) (body := B_RBareq1_1 n x1_0 x1_2) (S := S_RBareq1_1 x1_0 x1_2) (X := X_RBareq1_1 x1_0 x1_2)
  (fun s s' h => by
  obtain ⟨x1_1, x1_3⟩ := s
  unfold B_RBareq1_1 at h
  dsimp only at h
  by_cases hy1_1 : x1_3 < ((x1_2 : Nat) : Int)
  ·rw [if_pos hy1_1] at h
   by_cases hy1_2 : 0 ≤ x1_3 ∧ x1_3 < ((x1_2 : Nat) : Int)
   ·rw [if_pos hy1_2] at h
    by_cases hy1_3 : (x1_3).toNat < (x1_1).length
    ·rw [if_pos hy1_3] at h
     obtain ⟨y1_4_, hy1_4, h⟩ := Option.bind_eq_some_iff.1 h
     obtain rfl := Sum.inl.inj (oI h); exact q_RBareq1_1_0 n x1_0 x1_1 x1_2 x1_3 hy1_1 hy1_2 hy1_3 y1_4_ hy1_4
    ·rw [if_neg hy1_3] at h; cases h
   ·rw [if_neg hy1_2] at h; cases h
  ·rw [if_neg hy1_1] at h
   cases h)
  (fun s r h => by
  obtain ⟨x1_1, x1_3⟩ := s
  unfold B_RBareq1_1 at h
  dsimp only at h
  by_cases hy1_1 : x1_3 < ((x1_2 : Nat) : Int)
  ·rw [if_pos hy1_1] at h
   by_cases hy1_2 : 0 ≤ x1_3 ∧ x1_3 < ((x1_2 : Nat) : Int)
   ·rw [if_pos hy1_2] at h
    by_cases hy1_3 : (x1_3).toNat < (x1_1).length
    ·rw [if_pos hy1_3] at h
     obtain ⟨y1_4_, hy1_4, h⟩ := Option.bind_eq_some_iff.1 h
     cases h
    ·rw [if_neg hy1_3] at h; cases h
   ·rw [if_neg hy1_2] at h; cases h
  ·rw [if_neg hy1_1] at h
   obtain rfl := Sum.inr.inj (oI h); exact q_RBareq1_1_1 n x1_0 x1_1 x1_2 x1_3 hy1_1)
  (fun r => by intro hx; cases hx) h
def m_RBareq1 (n : Nat) (a0 : List R8) (a1 : Nat) (a2 : Nat) : Option (List R8 × Nat) :=
 (m_RCheckq2 n a0 a1 a2).bind fun c1_ =>
 if c1_ = (0 : Int) then
  (m_RCopyq1 n a0 a1 a2).bind fun c3_ =>
  (m_RBareq1_1 n a0 ((c3_).length) (c3_, 0)).bind fun c4_ =>
  some (c4_, ((c3_).length))
 else
  none
theorem p_RBareq1_0 (n : Nat) (a0 : List R8) (a1 a2 : Nat) (c1_ : Int) (hc1 : m_RCheckq2 n a0 a1 a2 = some c1_) (hc2 : c1_ = (0 : Int)) (c3_ : List R8) (hc3 : m_RCopyq1 n a0 a1 a2 = some c3_) (c4_ : List R8) (hc4 : m_RBareq1_1 n a0 ((c3_).length) (c3_, 0) = some c4_) : G_RBareq1 a0 a1 a2 (c4_, ((c3_).length)) :=
 runF2 hm (L := lT [(16, ⟨⟨[3, 4], [(0, 0, true), (1, 1, true)], 2, 1, [], false, []⟩, (X_RBareq1_1 a0 ((c3_).length) c4_).1, (X_RBareq1_1 a0 ((c3_).length) c4_).2⟩)]) ⟨[2], [(1, 1, true)], 2, 1, [], false, []⟩ (yy 5 (.call (C_RCheckq2 a0 a1 a2 c1_ [(0, 0, true)] [])) <|
ww (m_RCheckq2_ok n a0 a1 a2 c1_ hc1) <|
ww (rows_flat rwf_iiiiiiLu a0 41) <|
zz 6 (xnF hc2) <|
yy 10 (.call (C_RCopyq1 a0 a1 a2 c3_ [(0, 0, true)] [(1, 1, true)])) <|
ww (m_RCopyq1_ok n a0 a1 a2 c3_ hc3) <|
ww (rows_flat rwf_iiiiiiLu a0 41) <|
ww (rows_flat rwf_iiiiiiLu c3_ 41) <|
ww (p := U_RBareq1_1 none a0 ((c3_).length) (c3_, 0) c4_) (m_RBareq1_1_ok n a0 ((c3_).length) (c3_, 0) c4_ hc4) <|
ww (rows_flat rwf_iiiiiiLu a0 41) <|
ww (rows_flat rwf_iiiiiiLu c3_ 41) <|
ww (rows_flat rwf_iiiiiiLu c4_ 41) <|
ee) (by kernel_rfl)
theorem m_RBareq1_ok (n : Nat) (a0 : List R8) (a1 : Nat) (a2 : Nat) (r : List R8 × Nat) (h : m_RBareq1 n a0 a1 a2 = some r) : Gv P (.func 10) (A_RBareq1 a0 a1 a2) (H_RBareq1 a0 a1 a2) (V_RBareq1 a0 a1 a2 r) (R_RBareq1 a0 a1 a2 r) := by
 unfold m_RBareq1 at h
 obtain ⟨c1_, hc1, h⟩ := Option.bind_eq_some_iff.1 h
 by_cases hc2 : c1_ = (0 : Int)
 ·rw [if_pos hc2] at h
  obtain ⟨c3_, hc3, h⟩ := Option.bind_eq_some_iff.1 h
  obtain ⟨c4_, hc4, h⟩ := Option.bind_eq_some_iff.1 h
  obtain rfl := oI h; exact p_RBareq1_0 n a0 a1 a2 c1_ hc1 hc2 c3_ hc3 c4_ hc4
 ·rw [if_neg hc2] at h
  cases h

noncomputable def A_Rmovedq2 (a0 : Int) : List Value := [(sW 0 0 (Args.A).length Args.cA), (i6 a0)]
noncomputable def H_Rmovedq2 (a0 : Int) : AH := ⟨sB [], 0, 0⟩
noncomputable def V_Rmovedq2 (a0 : Int) (r : List R8) : Value := match r with
 | o0 => (sN 0 0 (o0).length (Nat.add big 8))
noncomputable def R_Rmovedq2 (a0 : Int) (r : List R8) : AH := match r with
 | o0 => ⟨sB [(0, (some (.cells (layT (rows rw_iiiiiiLu o0)) 41)))], 1, 0⟩
noncomputable abbrev G_Rmovedq2 (a0 : Int) (r : List R8) : Prop := Gv P (.func 26) (A_Rmovedq2 a0) (H_Rmovedq2 a0) (V_Rmovedq2 a0 r) (R_Rmovedq2 a0 r)
noncomputable abbrev C_Rmovedq2 (a0 : Int) (r : List R8) (ins outs : BL) : CallA := ⟨0, ins, V_Rmovedq2 a0 r, R_Rmovedq2 a0 r, outs⟩
noncomputable def S_Rmovedq2_2 (x2_0 : Int) (x2_2 : Int) (x2_3 : Int) (x2_4 : Int) (x2_5 : Int) (x2_6 : Int) (x2_7 : Int) (x2_8 : Int) (x2_10 : Int) (st : List R8 × List Int × Int) : XSt := match st with
 | (x2_1, x2_9, x2_11) => (sT 50 [(0, (sW 0 0 (Args.A).length Args.cA)), (1, (i6 x2_0)), (5, (slR x2_1 0 8)), (6, (i6 x2_2)), (7, (pN 1 0)), (8, (i6 x2_11))], [], ⟨sB [(0, (nblkR rw_iiiiiiLu x2_1 41)), (1, (some (.cells (layT [(i6 x2_3), (i6 x2_4), (i6 x2_5), (i6 x2_6), (i6 x2_7), (i6 x2_8), (slN x2_9 2), (Value.int .u64 x2_10)]) 41))), (2, (nblk x2_9 3))], 3, 0⟩)
noncomputable def X_Rmovedq2_2 (x2_0 : Int) (x2_2 : Int) (x2_3 : Int) (x2_4 : Int) (x2_5 : Int) (x2_6 : Int) (x2_7 : Int) (x2_8 : Int) (x2_10 : Int) (r : List R8 × NL) : Ex × XSt := match r with
 | (z2_0, z2_1) => (.exit 2, (sT 50 [(0, (sW 0 0 (Args.A).length Args.cA)), (1, (i6 x2_0)), (5, (slR z2_0 0 8)), (6, (i6 x2_2)), (7, (pN 1 0))], [], ⟨sB [(0, (nblkR rw_iiiiiiLu z2_0 41)), (1, (some (.cells (layT [(i6 x2_3), (i6 x2_4), (i6 x2_5), (i6 x2_6), (i6 x2_7), (i6 x2_8), (nlV z2_1), (Value.int .u64 x2_10)]) 41)))], 2, 0⟩))
noncomputable abbrev Q_Rmovedq2_2 (rnd : Option Nat) (x2_0 : Int) (x2_2 : Int) (x2_3 : Int) (x2_4 : Int) (x2_5 : Int) (x2_6 : Int) (x2_7 : Int) (x2_8 : Int) (x2_10 : Int) (st : List R8 × List Int × Int) (c : Ex × XSt) : Prop := CG P rnd (fnN P 26) 0 (codeOf P 26 [false, false, true, false, true, true, false, false, true, false, false, true, false, true, true]) (S_Rmovedq2_2 x2_0 x2_2 x2_3 x2_4 x2_5 x2_6 x2_7 x2_8 x2_10 st) c
noncomputable abbrev U_Rmovedq2_2 (rd : Option Nat) (x2_0 : Int) (x2_2 : Int) (x2_3 : Int) (x2_4 : Int) (x2_5 : Int) (x2_6 : Int) (x2_7 : Int) (x2_8 : Int) (x2_10 : Int) (st : List R8 × List Int × Int) (r : List R8 × NL) : Prop := CG P rd (fnN P 26) 0 (codeOf P 26 [false, true, false, true, true, false, false, true, false, false, true, false, true, true]) (S_Rmovedq2_2 x2_0 x2_2 x2_3 x2_4 x2_5 x2_6 x2_7 x2_8 x2_10 st) (X_Rmovedq2_2 x2_0 x2_2 x2_3 x2_4 x2_5 x2_6 x2_7 x2_8 x2_10 r)
def B_Rmovedq2_2 (n : Nat) (x2_0 : Int) (x2_2 : Int) (x2_3 : Int) (x2_4 : Int) (x2_5 : Int) (x2_6 : Int) (x2_7 : Int) (x2_8 : Int) (x2_10 : Int) (st : List R8 × List Int × Int) : Option ((List R8 × List Int × Int) ⊕ (List R8 × NL)) := match st with
 | (x2_1, x2_9, x2_11) =>
  match x2_1 with
  | [] =>
   match x2_9 with
   | [] =>
    if 0 ≤ x2_2 ∧ x2_2 < (((Args.A).length : Nat) : Int) then
     ((some ((Args.A).getD (x2_2).toNat (0, 0, 0, 0, 0, 0, nl0, 0)))).bind fun y2_2_ =>
     if x2_11 < ((((y2_2_.2.2.2.2.2.2.1)).l.length : Nat) : Int) then
      if 0 ≤ x2_11 ∧ x2_11 < ((((y2_2_.2.2.2.2.2.2.1)).l.length : Nat) : Int) then
       if (x2_11).toNat < (((y2_2_.2.2.2.2.2.2.1)).l).length then
        ((some ((((y2_2_.2.2.2.2.2.2.1)).l).getD (x2_11).toNat 0))).bind fun y2_6_ =>
        some (.inl (([] : List R8), [(w64 (y2_6_ + x2_0))], (w64 (x2_11 + (1 : Int)))))
       else none
      else none
     else
      some (.inr (([] : List R8), nl0))
    else none
   | x2_9a :: x2_9t =>
    if 0 ≤ x2_2 ∧ x2_2 < (((Args.A).length : Nat) : Int) then
     ((some ((Args.A).getD (x2_2).toNat (0, 0, 0, 0, 0, 0, nl0, 0)))).bind fun y2_2_ =>
     if x2_11 < ((((y2_2_.2.2.2.2.2.2.1)).l.length : Nat) : Int) then
      if 0 ≤ x2_11 ∧ x2_11 < ((((y2_2_.2.2.2.2.2.2.1)).l.length : Nat) : Int) then
       if (x2_11).toNat < (((y2_2_.2.2.2.2.2.2.1)).l).length then
        ((some ((((y2_2_.2.2.2.2.2.2.1)).l).getD (x2_11).toNat 0))).bind fun y2_6_ =>
        if (((x2_9a :: x2_9t)).length + 1) * 8 ≤ 140737488355328 then
         some (.inl (([] : List R8), ((x2_9a :: x2_9t) ++ [(w64 (y2_6_ + x2_0))]), (w64 (x2_11 + (1 : Int)))))
        else none
       else none
      else none
     else
      if hy2_4 : (x2_9a :: x2_9t).length ≤ 9223372036854775807 then
       some (.inr (([] : List R8), (frzL (x2_9a :: x2_9t) hy2_4)))
      else none
    else none
  | x2_1a :: x2_1t =>
   match x2_9 with
   | [] =>
    if 0 ≤ x2_2 ∧ x2_2 < (((Args.A).length : Nat) : Int) then
     ((some ((Args.A).getD (x2_2).toNat (0, 0, 0, 0, 0, 0, nl0, 0)))).bind fun y2_2_ =>
     if x2_11 < ((((y2_2_.2.2.2.2.2.2.1)).l.length : Nat) : Int) then
      if 0 ≤ x2_11 ∧ x2_11 < ((((y2_2_.2.2.2.2.2.2.1)).l.length : Nat) : Int) then
       if (x2_11).toNat < (((y2_2_.2.2.2.2.2.2.1)).l).length then
        ((some ((((y2_2_.2.2.2.2.2.2.1)).l).getD (x2_11).toNat 0))).bind fun y2_6_ =>
        some (.inl ((x2_1a :: x2_1t), [(w64 (y2_6_ + x2_0))], (w64 (x2_11 + (1 : Int)))))
       else none
      else none
     else
      some (.inr ((x2_1a :: x2_1t), nl0))
    else none
   | x2_9a :: x2_9t =>
    if 0 ≤ x2_2 ∧ x2_2 < (((Args.A).length : Nat) : Int) then
     ((some ((Args.A).getD (x2_2).toNat (0, 0, 0, 0, 0, 0, nl0, 0)))).bind fun y2_2_ =>
     if x2_11 < ((((y2_2_.2.2.2.2.2.2.1)).l.length : Nat) : Int) then
      if 0 ≤ x2_11 ∧ x2_11 < ((((y2_2_.2.2.2.2.2.2.1)).l.length : Nat) : Int) then
       if (x2_11).toNat < (((y2_2_.2.2.2.2.2.2.1)).l).length then
        ((some ((((y2_2_.2.2.2.2.2.2.1)).l).getD (x2_11).toNat 0))).bind fun y2_6_ =>
        if (((x2_9a :: x2_9t)).length + 1) * 8 ≤ 140737488355328 then
         some (.inl ((x2_1a :: x2_1t), ((x2_9a :: x2_9t) ++ [(w64 (y2_6_ + x2_0))]), (w64 (x2_11 + (1 : Int)))))
        else none
       else none
      else none
     else
      if hy2_4 : (x2_9a :: x2_9t).length ≤ 9223372036854775807 then
       some (.inr ((x2_1a :: x2_1t), (frzL (x2_9a :: x2_9t) hy2_4)))
      else none
    else none
def m_Rmovedq2_2 (n : Nat) (x2_0 : Int) (x2_2 : Int) (x2_3 : Int) (x2_4 : Int) (x2_5 : Int) (x2_6 : Int) (x2_7 : Int) (x2_8 : Int) (x2_10 : Int) (st : List R8 × List Int × Int) : Option (List R8 × NL) := iterM (B_Rmovedq2_2 n x2_0 x2_2 x2_3 x2_4 x2_5 x2_6 x2_7 x2_8 x2_10) n st
theorem q_Rmovedq2_2_0 (n : Nat) {rnd : Option Nat} (x2_0 x2_2 x2_3 x2_4 x2_5 x2_6 x2_7 x2_8 x2_10 x2_11 : Int) (hy2_1 : 0 ≤ x2_2 ∧ x2_2 < (((Args.A).length : Nat) : Int)) (y2_2_ : R8) (hy2_2 : (some ((Args.A).getD (x2_2).toNat (0, 0, 0, 0, 0, 0, nl0, 0))) = some y2_2_) (hy2_3 : x2_11 < ((((y2_2_.2.2.2.2.2.2.1)).l.length : Nat) : Int)) (hy2_4 : 0 ≤ x2_11 ∧ x2_11 < ((((y2_2_.2.2.2.2.2.2.1)).l.length : Nat) : Int)) (hy2_5 : (x2_11).toNat < (((y2_2_.2.2.2.2.2.2.1)).l).length) (y2_6_ : Int) (hy2_6 : (some ((((y2_2_.2.2.2.2.2.2.1)).l).getD (x2_11).toNat 0)) = some y2_6_) : Q_Rmovedq2_2 rnd x2_0 x2_2 x2_3 x2_4 x2_5 x2_6 x2_7 x2_8 x2_10 (([] : List R8), ([] : List Int), x2_11) (.normal, S_Rmovedq2_2 x2_0 x2_2 x2_3 x2_4 x2_5 x2_6 x2_7 x2_8 x2_10 (([] : List R8), [(w64 (y2_6_ + x2_0))], (w64 (x2_11 + (1 : Int))))) :=
 runC2 hm (L := lT []) ⟨[0, 1, 5, 6, 7, 8], [(1, 1, false), (2, 16, false)], 3, 0, [], false, []⟩ (zz 5 (xk1 0 Args.cA hy2_1) <|
zz 6 (fk7 ((x2_2).toNat * 8)) <|
zz 7 (lk8 hy2_2 (toNatLt hy2_1)) <|
zz 9 (xdT hy2_3) <|
zz 17 (xk1 0 Args.cA hy2_1) <|
zz 18 (fk7 ((x2_2).toNat * 8)) <|
zz 19 (lk8 hy2_2 (toNatLt hy2_1)) <|
zz 21 (xk9 (Nat.add ((y2_2_.2.2.2.2.2.2.1)).num 64) ((y2_2_.2.2.2.2.2.2.1)).cap hy2_4) <|
zz 22 (nk10 hy2_6 hy2_5) <|
ee) (by kernel_rfl)
theorem q_Rmovedq2_2_1 (n : Nat) {rnd : Option Nat} (x2_0 x2_2 x2_3 x2_4 x2_5 x2_6 x2_7 x2_8 x2_10 x2_11 : Int) (hy2_1 : 0 ≤ x2_2 ∧ x2_2 < (((Args.A).length : Nat) : Int)) (y2_2_ : R8) (hy2_2 : (some ((Args.A).getD (x2_2).toNat (0, 0, 0, 0, 0, 0, nl0, 0))) = some y2_2_) (hy2_3 : ¬ (x2_11 < ((((y2_2_.2.2.2.2.2.2.1)).l.length : Nat) : Int))) : Q_Rmovedq2_2 rnd x2_0 x2_2 x2_3 x2_4 x2_5 x2_6 x2_7 x2_8 x2_10 (([] : List R8), ([] : List Int), x2_11) (X_Rmovedq2_2 x2_0 x2_2 x2_3 x2_4 x2_5 x2_6 x2_7 x2_8 x2_10 (([] : List R8), nl0)) :=
 runC2 hm (L := lT []) ⟨[0, 1, 5, 6, 7], [(1, 1, false)], 2, 0, [], true, [41]⟩ (zz 5 (xk1 0 Args.cA hy2_1) <|
zz 6 (fk7 ((x2_2).toNat * 8)) <|
zz 7 (lk8 hy2_2 (toNatLt hy2_1)) <|
zz 9 (xdF hy2_3) <|
ee) (by kernel_rfl)
theorem q_Rmovedq2_2_2 (n : Nat) {rnd : Option Nat} (x2_0 x2_2 x2_3 x2_4 x2_5 x2_6 x2_7 x2_8 x2_9a : Int) (x2_9t : List (Int)) (x2_10 x2_11 : Int) (hy2_1 : 0 ≤ x2_2 ∧ x2_2 < (((Args.A).length : Nat) : Int)) (y2_2_ : R8) (hy2_2 : (some ((Args.A).getD (x2_2).toNat (0, 0, 0, 0, 0, 0, nl0, 0))) = some y2_2_) (hy2_3 : x2_11 < ((((y2_2_.2.2.2.2.2.2.1)).l.length : Nat) : Int)) (hy2_4 : 0 ≤ x2_11 ∧ x2_11 < ((((y2_2_.2.2.2.2.2.2.1)).l.length : Nat) : Int)) (hy2_5 : (x2_11).toNat < (((y2_2_.2.2.2.2.2.2.1)).l).length) (y2_6_ : Int) (hy2_6 : (some ((((y2_2_.2.2.2.2.2.2.1)).l).getD (x2_11).toNat 0)) = some y2_6_) (hy2_7 : (((x2_9a :: x2_9t)).length + 1) * 8 ≤ 140737488355328) : Q_Rmovedq2_2 rnd x2_0 x2_2 x2_3 x2_4 x2_5 x2_6 x2_7 x2_8 x2_10 (([] : List R8), (x2_9a :: x2_9t), x2_11) (.normal, S_Rmovedq2_2 x2_0 x2_2 x2_3 x2_4 x2_5 x2_6 x2_7 x2_8 x2_10 (([] : List R8), ((x2_9a :: x2_9t) ++ [(w64 (y2_6_ + x2_0))]), (w64 (x2_11 + (1 : Int))))) :=
 runC2 hm (L := lT []) ⟨[0, 1, 5, 6, 7, 8], [(1, 1, false), (2, 16, true)], 3, 0, [], false, []⟩ (zz 5 (xk1 0 Args.cA hy2_1) <|
zz 6 (fk7 ((x2_2).toNat * 8)) <|
zz 7 (lk8 hy2_2 (toNatLt hy2_1)) <|
zz 9 (xdT hy2_3) <|
zz 17 (xk1 0 Args.cA hy2_1) <|
zz 18 (fk7 ((x2_2).toNat * 8)) <|
zz 19 (lk8 hy2_2 (toNatLt hy2_1)) <|
zz 21 (xk9 (Nat.add ((y2_2_.2.2.2.2.2.2.1)).num 64) ((y2_2_.2.2.2.2.2.2.1)).cap hy2_4) <|
zz 22 (nk10 hy2_6 hy2_5) <|
yy 26 (.app ⟨none, iv (x2_9a :: x2_9t), (iv ((x2_9a :: x2_9t) ++ [(w64 (y2_6_ + x2_0))])), (((x2_9a :: x2_9t) ++ [(w64 (y2_6_ + x2_0))])).length, false⟩) <|
ww (p := 0 < 1) ((by decide)) <|
ww (p := rdT (layT (iv (x2_9a :: x2_9t))) (Nat.mul ((x2_9a :: x2_9t)).length 1) 0 = some (iv (x2_9a :: x2_9t))) (iv_rd _) <|
ww (p := fits (Nat.add ((x2_9a :: x2_9t)).length 1) 8 = true) (fits_ok hy2_7 (by have := hy2_7; show (_ : Nat) + _ ≤ _; omega)) <|
ww (p := allCells [(i6 (w64 (y2_6_ + x2_0)))] = true) (rfl) <|
ww (p := allCells (iv (x2_9a :: x2_9t)) = true) (iv_cells _) <|
ww (p := iv (x2_9a :: x2_9t) ++ [(i6 (w64 (y2_6_ + x2_0)))] = (iv ((x2_9a :: x2_9t) ++ [(w64 (y2_6_ + x2_0))]))) (by simp [iv]) <|
ww (p := Nat.add ((x2_9a :: x2_9t)).length 1 = (((x2_9a :: x2_9t) ++ [(w64 (y2_6_ + x2_0))])).length) (by simp) <|
ww (iv_flat ((x2_9a :: x2_9t) ++ [(w64 (y2_6_ + x2_0))]) 3) <|
ee) (by kernel_rfl)
theorem q_Rmovedq2_2_3 (n : Nat) {rnd : Option Nat} (x2_0 x2_2 x2_3 x2_4 x2_5 x2_6 x2_7 x2_8 x2_9a : Int) (x2_9t : List (Int)) (x2_10 x2_11 : Int) (hy2_1 : 0 ≤ x2_2 ∧ x2_2 < (((Args.A).length : Nat) : Int)) (y2_2_ : R8) (hy2_2 : (some ((Args.A).getD (x2_2).toNat (0, 0, 0, 0, 0, 0, nl0, 0))) = some y2_2_) (hy2_3 : ¬ (x2_11 < ((((y2_2_.2.2.2.2.2.2.1)).l.length : Nat) : Int))) (hy2_4 : (x2_9a :: x2_9t).length ≤ 9223372036854775807) : Q_Rmovedq2_2 rnd x2_0 x2_2 x2_3 x2_4 x2_5 x2_6 x2_7 x2_8 x2_10 (([] : List R8), (x2_9a :: x2_9t), x2_11) (X_Rmovedq2_2 x2_0 x2_2 x2_3 x2_4 x2_5 x2_6 x2_7 x2_8 x2_10 (([] : List R8), (frzL (x2_9a :: x2_9t) hy2_4))) :=
 runC2 hm (L := lT []) ⟨[0, 1, 5, 6, 7], [(1, 1, false)], 2, 0, [(2, Nat.add (2 * cod (x2_9a :: x2_9t) + 1) 64)], true, []⟩ (zz 5 (xk1 0 Args.cA hy2_1) <|
zz 6 (fk7 ((x2_2).toNat * 8)) <|
zz 7 (lk8 hy2_2 (toNatLt hy2_1)) <|
zz 9 (xdF hy2_3) <|
ww (frz_ok wins_nest wins_odd (x2_9a :: x2_9t)) <|
ee) (by kernel_rfl)
theorem q_Rmovedq2_2_4 (n : Nat) {rnd : Option Nat} (x2_0 : Int) (x2_1a : R8) (x2_1t : List R8) (x2_2 x2_3 x2_4 x2_5 x2_6 x2_7 x2_8 x2_10 x2_11 : Int) (hy2_1 : 0 ≤ x2_2 ∧ x2_2 < (((Args.A).length : Nat) : Int)) (y2_2_ : R8) (hy2_2 : (some ((Args.A).getD (x2_2).toNat (0, 0, 0, 0, 0, 0, nl0, 0))) = some y2_2_) (hy2_3 : x2_11 < ((((y2_2_.2.2.2.2.2.2.1)).l.length : Nat) : Int)) (hy2_4 : 0 ≤ x2_11 ∧ x2_11 < ((((y2_2_.2.2.2.2.2.2.1)).l.length : Nat) : Int)) (hy2_5 : (x2_11).toNat < (((y2_2_.2.2.2.2.2.2.1)).l).length) (y2_6_ : Int) (hy2_6 : (some ((((y2_2_.2.2.2.2.2.2.1)).l).getD (x2_11).toNat 0)) = some y2_6_) : Q_Rmovedq2_2 rnd x2_0 x2_2 x2_3 x2_4 x2_5 x2_6 x2_7 x2_8 x2_10 ((x2_1a :: x2_1t), ([] : List Int), x2_11) (.normal, S_Rmovedq2_2 x2_0 x2_2 x2_3 x2_4 x2_5 x2_6 x2_7 x2_8 x2_10 ((x2_1a :: x2_1t), [(w64 (y2_6_ + x2_0))], (w64 (x2_11 + (1 : Int))))) :=
 runC2 hm (L := lT []) ⟨[0, 1, 5, 6, 7, 8], [(0, 0, true), (1, 1, false), (2, 16, false)], 3, 0, [], false, []⟩ (zz 5 (xk1 0 Args.cA hy2_1) <|
zz 6 (fk7 ((x2_2).toNat * 8)) <|
zz 7 (lk8 hy2_2 (toNatLt hy2_1)) <|
zz 9 (xdT hy2_3) <|
zz 17 (xk1 0 Args.cA hy2_1) <|
zz 18 (fk7 ((x2_2).toNat * 8)) <|
zz 19 (lk8 hy2_2 (toNatLt hy2_1)) <|
zz 21 (xk9 (Nat.add ((y2_2_.2.2.2.2.2.2.1)).num 64) ((y2_2_.2.2.2.2.2.2.1)).cap hy2_4) <|
zz 22 (nk10 hy2_6 hy2_5) <|
ww (rows_flat rwf_iiiiiiLu (x2_1a :: x2_1t) 41) <|
ee) (by kernel_rfl)
theorem q_Rmovedq2_2_5 (n : Nat) {rnd : Option Nat} (x2_0 : Int) (x2_1a : R8) (x2_1t : List R8) (x2_2 x2_3 x2_4 x2_5 x2_6 x2_7 x2_8 x2_10 x2_11 : Int) (hy2_1 : 0 ≤ x2_2 ∧ x2_2 < (((Args.A).length : Nat) : Int)) (y2_2_ : R8) (hy2_2 : (some ((Args.A).getD (x2_2).toNat (0, 0, 0, 0, 0, 0, nl0, 0))) = some y2_2_) (hy2_3 : ¬ (x2_11 < ((((y2_2_.2.2.2.2.2.2.1)).l.length : Nat) : Int))) : Q_Rmovedq2_2 rnd x2_0 x2_2 x2_3 x2_4 x2_5 x2_6 x2_7 x2_8 x2_10 ((x2_1a :: x2_1t), ([] : List Int), x2_11) (X_Rmovedq2_2 x2_0 x2_2 x2_3 x2_4 x2_5 x2_6 x2_7 x2_8 x2_10 ((x2_1a :: x2_1t), nl0)) :=
 runC2 hm (L := lT []) ⟨[0, 1, 5, 6, 7], [(0, 0, true), (1, 1, false)], 2, 0, [], true, [41]⟩ (zz 5 (xk1 0 Args.cA hy2_1) <|
zz 6 (fk7 ((x2_2).toNat * 8)) <|
zz 7 (lk8 hy2_2 (toNatLt hy2_1)) <|
zz 9 (xdF hy2_3) <|
ww (rows_flat rwf_iiiiiiLu (x2_1a :: x2_1t) 41) <|
ww (rows_flat rwf_iiiiiiLu (x2_1a :: x2_1t) 41) <|
ee) (by kernel_rfl)
theorem q_Rmovedq2_2_6 (n : Nat) {rnd : Option Nat} (x2_0 : Int) (x2_1a : R8) (x2_1t : List R8) (x2_2 x2_3 x2_4 x2_5 x2_6 x2_7 x2_8 x2_9a : Int) (x2_9t : List (Int)) (x2_10 x2_11 : Int) (hy2_1 : 0 ≤ x2_2 ∧ x2_2 < (((Args.A).length : Nat) : Int)) (y2_2_ : R8) (hy2_2 : (some ((Args.A).getD (x2_2).toNat (0, 0, 0, 0, 0, 0, nl0, 0))) = some y2_2_) (hy2_3 : x2_11 < ((((y2_2_.2.2.2.2.2.2.1)).l.length : Nat) : Int)) (hy2_4 : 0 ≤ x2_11 ∧ x2_11 < ((((y2_2_.2.2.2.2.2.2.1)).l.length : Nat) : Int)) (hy2_5 : (x2_11).toNat < (((y2_2_.2.2.2.2.2.2.1)).l).length) (y2_6_ : Int) (hy2_6 : (some ((((y2_2_.2.2.2.2.2.2.1)).l).getD (x2_11).toNat 0)) = some y2_6_) (hy2_7 : (((x2_9a :: x2_9t)).length + 1) * 8 ≤ 140737488355328) : Q_Rmovedq2_2 rnd x2_0 x2_2 x2_3 x2_4 x2_5 x2_6 x2_7 x2_8 x2_10 ((x2_1a :: x2_1t), (x2_9a :: x2_9t), x2_11) (.normal, S_Rmovedq2_2 x2_0 x2_2 x2_3 x2_4 x2_5 x2_6 x2_7 x2_8 x2_10 ((x2_1a :: x2_1t), ((x2_9a :: x2_9t) ++ [(w64 (y2_6_ + x2_0))]), (w64 (x2_11 + (1 : Int))))) :=
 runC2 hm (L := lT []) ⟨[0, 1, 5, 6, 7, 8], [(0, 0, true), (1, 1, false), (2, 16, true)], 3, 0, [], false, []⟩ (zz 5 (xk1 0 Args.cA hy2_1) <|
zz 6 (fk7 ((x2_2).toNat * 8)) <|
zz 7 (lk8 hy2_2 (toNatLt hy2_1)) <|
zz 9 (xdT hy2_3) <|
zz 17 (xk1 0 Args.cA hy2_1) <|
zz 18 (fk7 ((x2_2).toNat * 8)) <|
zz 19 (lk8 hy2_2 (toNatLt hy2_1)) <|
zz 21 (xk9 (Nat.add ((y2_2_.2.2.2.2.2.2.1)).num 64) ((y2_2_.2.2.2.2.2.2.1)).cap hy2_4) <|
zz 22 (nk10 hy2_6 hy2_5) <|
yy 26 (.app ⟨none, iv (x2_9a :: x2_9t), (iv ((x2_9a :: x2_9t) ++ [(w64 (y2_6_ + x2_0))])), (((x2_9a :: x2_9t) ++ [(w64 (y2_6_ + x2_0))])).length, false⟩) <|
ww (p := 0 < 1) ((by decide)) <|
ww (p := rdT (layT (iv (x2_9a :: x2_9t))) (Nat.mul ((x2_9a :: x2_9t)).length 1) 0 = some (iv (x2_9a :: x2_9t))) (iv_rd _) <|
ww (p := fits (Nat.add ((x2_9a :: x2_9t)).length 1) 8 = true) (fits_ok hy2_7 (by have := hy2_7; show (_ : Nat) + _ ≤ _; omega)) <|
ww (p := allCells [(i6 (w64 (y2_6_ + x2_0)))] = true) (rfl) <|
ww (p := allCells (iv (x2_9a :: x2_9t)) = true) (iv_cells _) <|
ww (p := iv (x2_9a :: x2_9t) ++ [(i6 (w64 (y2_6_ + x2_0)))] = (iv ((x2_9a :: x2_9t) ++ [(w64 (y2_6_ + x2_0))]))) (by simp [iv]) <|
ww (p := Nat.add ((x2_9a :: x2_9t)).length 1 = (((x2_9a :: x2_9t) ++ [(w64 (y2_6_ + x2_0))])).length) (by simp) <|
ww (rows_flat rwf_iiiiiiLu (x2_1a :: x2_1t) 41) <|
ww (iv_flat ((x2_9a :: x2_9t) ++ [(w64 (y2_6_ + x2_0))]) 3) <|
ee) (by kernel_rfl)
theorem q_Rmovedq2_2_7 (n : Nat) {rnd : Option Nat} (x2_0 : Int) (x2_1a : R8) (x2_1t : List R8) (x2_2 x2_3 x2_4 x2_5 x2_6 x2_7 x2_8 x2_9a : Int) (x2_9t : List (Int)) (x2_10 x2_11 : Int) (hy2_1 : 0 ≤ x2_2 ∧ x2_2 < (((Args.A).length : Nat) : Int)) (y2_2_ : R8) (hy2_2 : (some ((Args.A).getD (x2_2).toNat (0, 0, 0, 0, 0, 0, nl0, 0))) = some y2_2_) (hy2_3 : ¬ (x2_11 < ((((y2_2_.2.2.2.2.2.2.1)).l.length : Nat) : Int))) (hy2_4 : (x2_9a :: x2_9t).length ≤ 9223372036854775807) : Q_Rmovedq2_2 rnd x2_0 x2_2 x2_3 x2_4 x2_5 x2_6 x2_7 x2_8 x2_10 ((x2_1a :: x2_1t), (x2_9a :: x2_9t), x2_11) (X_Rmovedq2_2 x2_0 x2_2 x2_3 x2_4 x2_5 x2_6 x2_7 x2_8 x2_10 ((x2_1a :: x2_1t), (frzL (x2_9a :: x2_9t) hy2_4))) :=
 runC2 hm (L := lT []) ⟨[0, 1, 5, 6, 7], [(0, 0, true), (1, 1, false)], 2, 0, [(2, Nat.add (2 * cod (x2_9a :: x2_9t) + 1) 64)], true, []⟩ (zz 5 (xk1 0 Args.cA hy2_1) <|
zz 6 (fk7 ((x2_2).toNat * 8)) <|
zz 7 (lk8 hy2_2 (toNatLt hy2_1)) <|
zz 9 (xdF hy2_3) <|
ww (rows_flat rwf_iiiiiiLu (x2_1a :: x2_1t) 41) <|
ww (frz_ok wins_nest wins_odd (x2_9a :: x2_9t)) <|
ww (rows_flat rwf_iiiiiiLu (x2_1a :: x2_1t) 41) <|
ee) (by kernel_rfl)
theorem m_Rmovedq2_2_ok (n : Nat) {rnd : Option Nat} (x2_0 : Int) (x2_2 : Int) (x2_3 : Int) (x2_4 : Int) (x2_5 : Int) (x2_6 : Int) (x2_7 : Int) (x2_8 : Int) (x2_10 : Int) (st : List R8 × List Int × Int) (r : List R8 × NL) (h : m_Rmovedq2_2 n x2_0 x2_2 x2_3 x2_4 x2_5 x2_6 x2_7 x2_8 x2_10 st = some r) : CG P rnd (fnN P 26) 0 (codeOf P 26 [false, true, false, true, true, false, false, true, false, false, true, false, true, true]) (S_Rmovedq2_2 x2_0 x2_2 x2_3 x2_4 x2_5 x2_6 x2_7 x2_8 x2_10 st) (X_Rmovedq2_2 x2_0 x2_2 x2_3 x2_4 x2_5 x2_6 x2_7 x2_8 x2_10 r) :=
 CG.iter (b := codeOf P 26 [false, false, true, false, true, true, false, false, true, false, false, true, false, true, true]) (by kernel_rfl) (body := B_Rmovedq2_2 n x2_0 x2_2 x2_3 x2_4 x2_5 x2_6 x2_7 x2_8 x2_10) (S := S_Rmovedq2_2 x2_0 x2_2 x2_3 x2_4 x2_5 x2_6 x2_7 x2_8 x2_10) (X := X_Rmovedq2_2 x2_0 x2_2 x2_3 x2_4 x2_5 x2_6 x2_7 x2_8 x2_10)
  (fun s s' h => by
  obtain ⟨x2_1, x2_9, x2_11⟩ := s
  unfold B_Rmovedq2_2 at h
  dsimp only at h
  cases x2_1 with
  | nil =>
   dsimp only at h
   cases x2_9 with
   | nil =>
    dsimp only at h
    by_cases hy2_1 : 0 ≤ x2_2 ∧ x2_2 < (((Args.A).length : Nat) : Int)
    ·rw [if_pos hy2_1] at h
     obtain ⟨y2_2_, hy2_2, h⟩ := Option.bind_eq_some_iff.1 h
     by_cases hy2_3 : x2_11 < ((((y2_2_.2.2.2.2.2.2.1)).l.length : Nat) : Int)
     ·rw [if_pos hy2_3] at h
      by_cases hy2_4 : 0 ≤ x2_11 ∧ x2_11 < ((((y2_2_.2.2.2.2.2.2.1)).l.length : Nat) : Int)
      ·rw [if_pos hy2_4] at h
       by_cases hy2_5 : (x2_11).toNat < (((y2_2_.2.2.2.2.2.2.1)).l).length
       ·rw [if_pos hy2_5] at h
        obtain ⟨y2_6_, hy2_6, h⟩ := Option.bind_eq_some_iff.1 h
        obtain rfl := Sum.inl.inj (oI h); exact q_Rmovedq2_2_0 n x2_0 x2_2 x2_3 x2_4 x2_5 x2_6 x2_7 x2_8 x2_10 x2_11 hy2_1 y2_2_ hy2_2 hy2_3 hy2_4 hy2_5 y2_6_ hy2_6
       ·rw [if_neg hy2_5] at h; cases h
      ·rw [if_neg hy2_4] at h; cases h
     ·rw [if_neg hy2_3] at h
      cases h
    ·rw [if_neg hy2_1] at h; cases h
   | cons x2_9a x2_9t =>
    dsimp only at h
    by_cases hy2_1 : 0 ≤ x2_2 ∧ x2_2 < (((Args.A).length : Nat) : Int)
    ·rw [if_pos hy2_1] at h
     obtain ⟨y2_2_, hy2_2, h⟩ := Option.bind_eq_some_iff.1 h
     by_cases hy2_3 : x2_11 < ((((y2_2_.2.2.2.2.2.2.1)).l.length : Nat) : Int)
     ·rw [if_pos hy2_3] at h
      by_cases hy2_4 : 0 ≤ x2_11 ∧ x2_11 < ((((y2_2_.2.2.2.2.2.2.1)).l.length : Nat) : Int)
      ·rw [if_pos hy2_4] at h
       by_cases hy2_5 : (x2_11).toNat < (((y2_2_.2.2.2.2.2.2.1)).l).length
       ·rw [if_pos hy2_5] at h
        obtain ⟨y2_6_, hy2_6, h⟩ := Option.bind_eq_some_iff.1 h
        by_cases hy2_7 : (((x2_9a :: x2_9t)).length + 1) * 8 ≤ 140737488355328
        ·rw [if_pos hy2_7] at h
         obtain rfl := Sum.inl.inj (oI h); exact q_Rmovedq2_2_2 n x2_0 x2_2 x2_3 x2_4 x2_5 x2_6 x2_7 x2_8 x2_9a x2_9t x2_10 x2_11 hy2_1 y2_2_ hy2_2 hy2_3 hy2_4 hy2_5 y2_6_ hy2_6 hy2_7
        ·rw [if_neg hy2_7] at h; cases h
       ·rw [if_neg hy2_5] at h; cases h
      ·rw [if_neg hy2_4] at h; cases h
     ·rw [if_neg hy2_3] at h
      by_cases hy2_4 : (x2_9a :: x2_9t).length ≤ 9223372036854775807
      ·rw [dif_pos hy2_4] at h
       cases h
      ·rw [dif_neg hy2_4] at h; cases h
    ·rw [if_neg hy2_1] at h; cases h
  | cons x2_1a x2_1t =>
   dsimp only at h
   cases x2_9 with
   | nil =>
    dsimp only at h
    by_cases hy2_1 : 0 ≤ x2_2 ∧ x2_2 < (((Args.A).length : Nat) : Int)
    ·rw [if_pos hy2_1] at h
     obtain ⟨y2_2_, hy2_2, h⟩ := Option.bind_eq_some_iff.1 h
     by_cases hy2_3 : x2_11 < ((((y2_2_.2.2.2.2.2.2.1)).l.length : Nat) : Int)
     ·rw [if_pos hy2_3] at h
      by_cases hy2_4 : 0 ≤ x2_11 ∧ x2_11 < ((((y2_2_.2.2.2.2.2.2.1)).l.length : Nat) : Int)
      ·rw [if_pos hy2_4] at h
       by_cases hy2_5 : (x2_11).toNat < (((y2_2_.2.2.2.2.2.2.1)).l).length
       ·rw [if_pos hy2_5] at h
        obtain ⟨y2_6_, hy2_6, h⟩ := Option.bind_eq_some_iff.1 h
        obtain rfl := Sum.inl.inj (oI h); exact q_Rmovedq2_2_4 n x2_0 x2_1a x2_1t x2_2 x2_3 x2_4 x2_5 x2_6 x2_7 x2_8 x2_10 x2_11 hy2_1 y2_2_ hy2_2 hy2_3 hy2_4 hy2_5 y2_6_ hy2_6
       ·rw [if_neg hy2_5] at h; cases h
      ·rw [if_neg hy2_4] at h; cases h
     ·rw [if_neg hy2_3] at h
      cases h
    ·rw [if_neg hy2_1] at h; cases h
   | cons x2_9a x2_9t =>
    dsimp only at h
    by_cases hy2_1 : 0 ≤ x2_2 ∧ x2_2 < (((Args.A).length : Nat) : Int)
    ·rw [if_pos hy2_1] at h
     obtain ⟨y2_2_, hy2_2, h⟩ := Option.bind_eq_some_iff.1 h
     by_cases hy2_3 : x2_11 < ((((y2_2_.2.2.2.2.2.2.1)).l.length : Nat) : Int)
     ·rw [if_pos hy2_3] at h
      by_cases hy2_4 : 0 ≤ x2_11 ∧ x2_11 < ((((y2_2_.2.2.2.2.2.2.1)).l.length : Nat) : Int)
      ·rw [if_pos hy2_4] at h
       by_cases hy2_5 : (x2_11).toNat < (((y2_2_.2.2.2.2.2.2.1)).l).length
       ·rw [if_pos hy2_5] at h
        obtain ⟨y2_6_, hy2_6, h⟩ := Option.bind_eq_some_iff.1 h
        by_cases hy2_7 : (((x2_9a :: x2_9t)).length + 1) * 8 ≤ 140737488355328
        ·rw [if_pos hy2_7] at h
         obtain rfl := Sum.inl.inj (oI h); exact q_Rmovedq2_2_6 n x2_0 x2_1a x2_1t x2_2 x2_3 x2_4 x2_5 x2_6 x2_7 x2_8 x2_9a x2_9t x2_10 x2_11 hy2_1 y2_2_ hy2_2 hy2_3 hy2_4 hy2_5 y2_6_ hy2_6 hy2_7
        ·rw [if_neg hy2_7] at h; cases h
       ·rw [if_neg hy2_5] at h; cases h
      ·rw [if_neg hy2_4] at h; cases h
     ·rw [if_neg hy2_3] at h
      by_cases hy2_4 : (x2_9a :: x2_9t).length ≤ 9223372036854775807
      ·rw [dif_pos hy2_4] at h
       cases h
      ·rw [dif_neg hy2_4] at h; cases h
    ·rw [if_neg hy2_1] at h; cases h)
  (fun s r h => by
  obtain ⟨x2_1, x2_9, x2_11⟩ := s
  unfold B_Rmovedq2_2 at h
  dsimp only at h
  cases x2_1 with
  | nil =>
   dsimp only at h
   cases x2_9 with
   | nil =>
    dsimp only at h
    by_cases hy2_1 : 0 ≤ x2_2 ∧ x2_2 < (((Args.A).length : Nat) : Int)
    ·rw [if_pos hy2_1] at h
     obtain ⟨y2_2_, hy2_2, h⟩ := Option.bind_eq_some_iff.1 h
     by_cases hy2_3 : x2_11 < ((((y2_2_.2.2.2.2.2.2.1)).l.length : Nat) : Int)
     ·rw [if_pos hy2_3] at h
      by_cases hy2_4 : 0 ≤ x2_11 ∧ x2_11 < ((((y2_2_.2.2.2.2.2.2.1)).l.length : Nat) : Int)
      ·rw [if_pos hy2_4] at h
       by_cases hy2_5 : (x2_11).toNat < (((y2_2_.2.2.2.2.2.2.1)).l).length
       ·rw [if_pos hy2_5] at h
        obtain ⟨y2_6_, hy2_6, h⟩ := Option.bind_eq_some_iff.1 h
        cases h
       ·rw [if_neg hy2_5] at h; cases h
      ·rw [if_neg hy2_4] at h; cases h
     ·rw [if_neg hy2_3] at h
      obtain rfl := Sum.inr.inj (oI h); exact q_Rmovedq2_2_1 n x2_0 x2_2 x2_3 x2_4 x2_5 x2_6 x2_7 x2_8 x2_10 x2_11 hy2_1 y2_2_ hy2_2 hy2_3
    ·rw [if_neg hy2_1] at h; cases h
   | cons x2_9a x2_9t =>
    dsimp only at h
    by_cases hy2_1 : 0 ≤ x2_2 ∧ x2_2 < (((Args.A).length : Nat) : Int)
    ·rw [if_pos hy2_1] at h
     obtain ⟨y2_2_, hy2_2, h⟩ := Option.bind_eq_some_iff.1 h
     by_cases hy2_3 : x2_11 < ((((y2_2_.2.2.2.2.2.2.1)).l.length : Nat) : Int)
     ·rw [if_pos hy2_3] at h
      by_cases hy2_4 : 0 ≤ x2_11 ∧ x2_11 < ((((y2_2_.2.2.2.2.2.2.1)).l.length : Nat) : Int)
      ·rw [if_pos hy2_4] at h
       by_cases hy2_5 : (x2_11).toNat < (((y2_2_.2.2.2.2.2.2.1)).l).length
       ·rw [if_pos hy2_5] at h
        obtain ⟨y2_6_, hy2_6, h⟩ := Option.bind_eq_some_iff.1 h
        by_cases hy2_7 : (((x2_9a :: x2_9t)).length + 1) * 8 ≤ 140737488355328
        ·rw [if_pos hy2_7] at h
         cases h
        ·rw [if_neg hy2_7] at h; cases h
       ·rw [if_neg hy2_5] at h; cases h
      ·rw [if_neg hy2_4] at h; cases h
     ·rw [if_neg hy2_3] at h
      by_cases hy2_4 : (x2_9a :: x2_9t).length ≤ 9223372036854775807
      ·rw [dif_pos hy2_4] at h
       obtain rfl := Sum.inr.inj (oI h); exact q_Rmovedq2_2_3 n x2_0 x2_2 x2_3 x2_4 x2_5 x2_6 x2_7 x2_8 x2_9a x2_9t x2_10 x2_11 hy2_1 y2_2_ hy2_2 hy2_3 hy2_4
      ·rw [dif_neg hy2_4] at h; cases h
    ·rw [if_neg hy2_1] at h; cases h
  | cons x2_1a x2_1t =>
   dsimp only at h
   cases x2_9 with
   | nil =>
    dsimp only at h
    by_cases hy2_1 : 0 ≤ x2_2 ∧ x2_2 < (((Args.A).length : Nat) : Int)
    ·rw [if_pos hy2_1] at h
     obtain ⟨y2_2_, hy2_2, h⟩ := Option.bind_eq_some_iff.1 h
     by_cases hy2_3 : x2_11 < ((((y2_2_.2.2.2.2.2.2.1)).l.length : Nat) : Int)
     ·rw [if_pos hy2_3] at h
      by_cases hy2_4 : 0 ≤ x2_11 ∧ x2_11 < ((((y2_2_.2.2.2.2.2.2.1)).l.length : Nat) : Int)
      ·rw [if_pos hy2_4] at h
       by_cases hy2_5 : (x2_11).toNat < (((y2_2_.2.2.2.2.2.2.1)).l).length
       ·rw [if_pos hy2_5] at h
        obtain ⟨y2_6_, hy2_6, h⟩ := Option.bind_eq_some_iff.1 h
        cases h
       ·rw [if_neg hy2_5] at h; cases h
      ·rw [if_neg hy2_4] at h; cases h
     ·rw [if_neg hy2_3] at h
      obtain rfl := Sum.inr.inj (oI h); exact q_Rmovedq2_2_5 n x2_0 x2_1a x2_1t x2_2 x2_3 x2_4 x2_5 x2_6 x2_7 x2_8 x2_10 x2_11 hy2_1 y2_2_ hy2_2 hy2_3
    ·rw [if_neg hy2_1] at h; cases h
   | cons x2_9a x2_9t =>
    dsimp only at h
    by_cases hy2_1 : 0 ≤ x2_2 ∧ x2_2 < (((Args.A).length : Nat) : Int)
    ·rw [if_pos hy2_1] at h
     obtain ⟨y2_2_, hy2_2, h⟩ := Option.bind_eq_some_iff.1 h
     by_cases hy2_3 : x2_11 < ((((y2_2_.2.2.2.2.2.2.1)).l.length : Nat) : Int)
     ·rw [if_pos hy2_3] at h
      by_cases hy2_4 : 0 ≤ x2_11 ∧ x2_11 < ((((y2_2_.2.2.2.2.2.2.1)).l.length : Nat) : Int)
      ·rw [if_pos hy2_4] at h
       by_cases hy2_5 : (x2_11).toNat < (((y2_2_.2.2.2.2.2.2.1)).l).length
       ·rw [if_pos hy2_5] at h
        obtain ⟨y2_6_, hy2_6, h⟩ := Option.bind_eq_some_iff.1 h
        by_cases hy2_7 : (((x2_9a :: x2_9t)).length + 1) * 8 ≤ 140737488355328
        ·rw [if_pos hy2_7] at h
         cases h
        ·rw [if_neg hy2_7] at h; cases h
       ·rw [if_neg hy2_5] at h; cases h
      ·rw [if_neg hy2_4] at h; cases h
     ·rw [if_neg hy2_3] at h
      by_cases hy2_4 : (x2_9a :: x2_9t).length ≤ 9223372036854775807
      ·rw [dif_pos hy2_4] at h
       obtain rfl := Sum.inr.inj (oI h); exact q_Rmovedq2_2_7 n x2_0 x2_1a x2_1t x2_2 x2_3 x2_4 x2_5 x2_6 x2_7 x2_8 x2_9a x2_9t x2_10 x2_11 hy2_1 y2_2_ hy2_2 hy2_3 hy2_4
      ·rw [dif_neg hy2_4] at h; cases h
    ·rw [if_neg hy2_1] at h; cases h)
  (fun r => by intro hx; cases hx) h
noncomputable def S_Rmovedq2_1 (x1_0 : Int) (st : List R8 × Int) : XSt := match st with
 | (x1_1, x1_2) => (sT 50 [(0, (sW 0 0 (Args.A).length Args.cA)), (1, (i6 x1_0)), (5, (slR x1_1 0 8)), (6, (i6 x1_2))], [], ⟨sB [(0, (nblkR rw_iiiiiiLu x1_1 41))], 1, 0⟩)
noncomputable def X_Rmovedq2_1 (x1_0 : Int) (r : List R8) : Ex × XSt := match r with
 | z1_0 => (.exit 0, (sT 50 [(5, (slR z1_0 0 8))], [], ⟨sB [(0, (nblkR rw_iiiiiiLu z1_0 41))], 1, 0⟩))
noncomputable abbrev Q_Rmovedq2_1 (rnd : Option Nat) (x1_0 : Int) (st : List R8 × Int) (c : Ex × XSt) : Prop := CG P rnd (fnN P 26) 0 (codeOf P 26 [false, false, true, false, true, true]) (S_Rmovedq2_1 x1_0 st) c
noncomputable abbrev U_Rmovedq2_1 (rd : Option Nat) (x1_0 : Int) (st : List R8 × Int) (r : List R8) : Prop := CG P rd (fnN P 26) 0 (codeOf P 26 [false, true, false, true, true]) (S_Rmovedq2_1 x1_0 st) (X_Rmovedq2_1 x1_0 r)
def B_Rmovedq2_1 (n : Nat) (x1_0 : Int) (st : List R8 × Int) : Option ((List R8 × Int) ⊕ (List R8)) := match st with
 | (x1_1, x1_2) =>
  match x1_1 with
  | [] =>
   if x1_2 < (((Args.A).length : Nat) : Int) then
    if 0 ≤ x1_2 ∧ x1_2 < (((Args.A).length : Nat) : Int) then
     ((some ((Args.A).getD (x1_2).toNat (0, 0, 0, 0, 0, 0, nl0, 0)))).bind fun y1_3_ =>
     (m_Rmovedq2_2 n x1_0 x1_2 (y1_3_.1) (y1_3_.2.1) (y1_3_.2.2.1) (y1_3_.2.2.2.1) (y1_3_.2.2.2.2.1) (y1_3_.2.2.2.2.2.1) (y1_3_.2.2.2.2.2.2.2) (([] : List R8), ([] : List Int), 0)).bind fun t => match t with
     | (y1_4_0, y1_4_1) =>
      match y1_4_0 with
      | [] =>
       some (.inl ([((y1_3_.1), (y1_3_.2.1), (y1_3_.2.2.1), (y1_3_.2.2.2.1), (y1_3_.2.2.2.2.1), (y1_3_.2.2.2.2.2.1), y1_4_1, (y1_3_.2.2.2.2.2.2.2))], (w64 (x1_2 + (1 : Int)))))
      | y1_4_0a :: y1_4_0t =>
       if (((y1_4_0a :: y1_4_0t)).length + 1) * 80 ≤ 140737488355328 then
        some (.inl (((y1_4_0a :: y1_4_0t) ++ [((y1_3_.1), (y1_3_.2.1), (y1_3_.2.2.1), (y1_3_.2.2.2.1), (y1_3_.2.2.2.2.1), (y1_3_.2.2.2.2.2.1), y1_4_1, (y1_3_.2.2.2.2.2.2.2))]), (w64 (x1_2 + (1 : Int)))))
       else none
    else none
   else
    some (.inr ([] : List R8))
  | x1_1a :: x1_1t =>
   if x1_2 < (((Args.A).length : Nat) : Int) then
    if 0 ≤ x1_2 ∧ x1_2 < (((Args.A).length : Nat) : Int) then
     ((some ((Args.A).getD (x1_2).toNat (0, 0, 0, 0, 0, 0, nl0, 0)))).bind fun y1_3_ =>
     (m_Rmovedq2_2 n x1_0 x1_2 (y1_3_.1) (y1_3_.2.1) (y1_3_.2.2.1) (y1_3_.2.2.2.1) (y1_3_.2.2.2.2.1) (y1_3_.2.2.2.2.2.1) (y1_3_.2.2.2.2.2.2.2) ((x1_1a :: x1_1t), ([] : List Int), 0)).bind fun t => match t with
     | (y1_4_0, y1_4_1) =>
      match y1_4_0 with
      | [] =>
       some (.inl ([((y1_3_.1), (y1_3_.2.1), (y1_3_.2.2.1), (y1_3_.2.2.2.1), (y1_3_.2.2.2.2.1), (y1_3_.2.2.2.2.2.1), y1_4_1, (y1_3_.2.2.2.2.2.2.2))], (w64 (x1_2 + (1 : Int)))))
      | y1_4_0a :: y1_4_0t =>
       if (((y1_4_0a :: y1_4_0t)).length + 1) * 80 ≤ 140737488355328 then
        some (.inl (((y1_4_0a :: y1_4_0t) ++ [((y1_3_.1), (y1_3_.2.1), (y1_3_.2.2.1), (y1_3_.2.2.2.1), (y1_3_.2.2.2.2.1), (y1_3_.2.2.2.2.2.1), y1_4_1, (y1_3_.2.2.2.2.2.2.2))]), (w64 (x1_2 + (1 : Int)))))
       else none
    else none
   else
    some (.inr (x1_1a :: x1_1t))
def m_Rmovedq2_1 (n : Nat) (x1_0 : Int) (st : List R8 × Int) : Option (List R8) := iterM (B_Rmovedq2_1 n x1_0) n st
theorem q_Rmovedq2_1_0 (n : Nat) {rnd : Option Nat} (x1_0 x1_2 : Int) (hy1_1 : x1_2 < (((Args.A).length : Nat) : Int)) (hy1_2 : 0 ≤ x1_2 ∧ x1_2 < (((Args.A).length : Nat) : Int)) (y1_3_ : R8) (hy1_3 : (some ((Args.A).getD (x1_2).toNat (0, 0, 0, 0, 0, 0, nl0, 0))) = some y1_3_) (y1_4_1 : NL) (hy1_4 : m_Rmovedq2_2 n x1_0 x1_2 (y1_3_.1) (y1_3_.2.1) (y1_3_.2.2.1) (y1_3_.2.2.2.1) (y1_3_.2.2.2.2.1) (y1_3_.2.2.2.2.2.1) (y1_3_.2.2.2.2.2.2.2) (([] : List R8), ([] : List Int), 0) = some ([], y1_4_1)) : Q_Rmovedq2_1 rnd x1_0 (([] : List R8), x1_2) (.normal, S_Rmovedq2_1 x1_0 ([((y1_3_.1), (y1_3_.2.1), (y1_3_.2.2.1), (y1_3_.2.2.2.1), (y1_3_.2.2.2.2.1), (y1_3_.2.2.2.2.2.1), y1_4_1, (y1_3_.2.2.2.2.2.2.2))], (w64 (x1_2 + (1 : Int))))) :=
 runC2 hm (L := lT [(23, ⟨⟨[0, 1, 5, 6, 7, 8], [(1, 1, false)], 3, 0, [], false, []⟩, (X_Rmovedq2_2 x1_0 x1_2 (y1_3_.1) (y1_3_.2.1) (y1_3_.2.2.1) (y1_3_.2.2.2.1) (y1_3_.2.2.2.2.1) (y1_3_.2.2.2.2.2.1) (y1_3_.2.2.2.2.2.2.2) (([] : List R8), y1_4_1)).1, (X_Rmovedq2_2 x1_0 x1_2 (y1_3_.1) (y1_3_.2.1) (y1_3_.2.2.1) (y1_3_.2.2.2.1) (y1_3_.2.2.2.2.1) (y1_3_.2.2.2.2.2.1) (y1_3_.2.2.2.2.2.2.2) (([] : List R8), y1_4_1)).2⟩)]) ⟨[0, 1, 5, 6], [(0, 3, false)], 1, 0, [], false, []⟩ (zz 5 (xdT hy1_1) <|
zz 12 (xk1 0 Args.cA hy1_2) <|
zz 13 (lk2 hy1_3 (toNatLt hy1_2)) <|
ww (p := U_Rmovedq2_2 rnd x1_0 x1_2 (y1_3_.1) (y1_3_.2.1) (y1_3_.2.2.1) (y1_3_.2.2.2.1) (y1_3_.2.2.2.2.1) (y1_3_.2.2.2.2.2.1) (y1_3_.2.2.2.2.2.2.2) (([] : List R8), ([] : List Int), 0) (([] : List R8), y1_4_1)) (m_Rmovedq2_2_ok n x1_0 x1_2 (y1_3_.1) (y1_3_.2.1) (y1_3_.2.2.1) (y1_3_.2.2.2.1) (y1_3_.2.2.2.2.1) (y1_3_.2.2.2.2.2.1) (y1_3_.2.2.2.2.2.2.2) (([] : List R8), ([] : List Int), 0) (([] : List R8), y1_4_1) hy1_4) <|
ee) (by kernel_rfl)
theorem q_Rmovedq2_1_1 (n : Nat) {rnd : Option Nat} (x1_0 x1_2 : Int) (hy1_1 : x1_2 < (((Args.A).length : Nat) : Int)) (hy1_2 : 0 ≤ x1_2 ∧ x1_2 < (((Args.A).length : Nat) : Int)) (y1_3_ : R8) (hy1_3 : (some ((Args.A).getD (x1_2).toNat (0, 0, 0, 0, 0, 0, nl0, 0))) = some y1_3_) (y1_4_0a : R8) (y1_4_0t : List R8) (y1_4_1 : NL) (hy1_4 : m_Rmovedq2_2 n x1_0 x1_2 (y1_3_.1) (y1_3_.2.1) (y1_3_.2.2.1) (y1_3_.2.2.2.1) (y1_3_.2.2.2.2.1) (y1_3_.2.2.2.2.2.1) (y1_3_.2.2.2.2.2.2.2) (([] : List R8), ([] : List Int), 0) = some ((y1_4_0a :: y1_4_0t), y1_4_1)) (hy1_5 : (((y1_4_0a :: y1_4_0t)).length + 1) * 80 ≤ 140737488355328) : Q_Rmovedq2_1 rnd x1_0 (([] : List R8), x1_2) (.normal, S_Rmovedq2_1 x1_0 (((y1_4_0a :: y1_4_0t) ++ [((y1_3_.1), (y1_3_.2.1), (y1_3_.2.2.1), (y1_3_.2.2.2.1), (y1_3_.2.2.2.2.1), (y1_3_.2.2.2.2.2.1), y1_4_1, (y1_3_.2.2.2.2.2.2.2))]), (w64 (x1_2 + (1 : Int))))) :=
 runC2 hm (L := lT [(23, ⟨⟨[0, 1, 5, 6, 7, 8], [(1, 1, false)], 3, 0, [], false, []⟩, (X_Rmovedq2_2 x1_0 x1_2 (y1_3_.1) (y1_3_.2.1) (y1_3_.2.2.1) (y1_3_.2.2.2.1) (y1_3_.2.2.2.2.1) (y1_3_.2.2.2.2.2.1) (y1_3_.2.2.2.2.2.2.2) ((y1_4_0a :: y1_4_0t), y1_4_1)).1, (X_Rmovedq2_2 x1_0 x1_2 (y1_3_.1) (y1_3_.2.1) (y1_3_.2.2.1) (y1_3_.2.2.2.1) (y1_3_.2.2.2.2.1) (y1_3_.2.2.2.2.2.1) (y1_3_.2.2.2.2.2.2.2) ((y1_4_0a :: y1_4_0t), y1_4_1)).2⟩)]) ⟨[0, 1, 5, 6], [(0, 3, true)], 1, 0, [], false, []⟩ (zz 5 (xdT hy1_1) <|
zz 12 (xk1 0 Args.cA hy1_2) <|
zz 13 (lk2 hy1_3 (toNatLt hy1_2)) <|
ww (p := U_Rmovedq2_2 rnd x1_0 x1_2 (y1_3_.1) (y1_3_.2.1) (y1_3_.2.2.1) (y1_3_.2.2.2.1) (y1_3_.2.2.2.2.1) (y1_3_.2.2.2.2.2.1) (y1_3_.2.2.2.2.2.2.2) (([] : List R8), ([] : List Int), 0) ((y1_4_0a :: y1_4_0t), y1_4_1)) (m_Rmovedq2_2_ok n x1_0 x1_2 (y1_3_.1) (y1_3_.2.1) (y1_3_.2.2.1) (y1_3_.2.2.2.1) (y1_3_.2.2.2.2.1) (y1_3_.2.2.2.2.2.1) (y1_3_.2.2.2.2.2.2.2) (([] : List R8), ([] : List Int), 0) ((y1_4_0a :: y1_4_0t), y1_4_1) hy1_4) <|
yy 27 (.app ⟨none, rows rw_iiiiiiLu (y1_4_0a :: y1_4_0t), (rows rw_iiiiiiLu ((y1_4_0a :: y1_4_0t) ++ [((y1_3_.1), (y1_3_.2.1), (y1_3_.2.2.1), (y1_3_.2.2.2.1), (y1_3_.2.2.2.2.1), (y1_3_.2.2.2.2.2.1), y1_4_1, (y1_3_.2.2.2.2.2.2.2))])), (((y1_4_0a :: y1_4_0t) ++ [((y1_3_.1), (y1_3_.2.1), (y1_3_.2.2.1), (y1_3_.2.2.2.1), (y1_3_.2.2.2.2.1), (y1_3_.2.2.2.2.2.1), y1_4_1, (y1_3_.2.2.2.2.2.2.2))])).length, false⟩) <|
ww (p := 0 < 1) ((by decide)) <|
ww (p := rdT (layT (rows rw_iiiiiiLu (y1_4_0a :: y1_4_0t))) (Nat.mul ((y1_4_0a :: y1_4_0t)).length 8) 0 = some (rows rw_iiiiiiLu (y1_4_0a :: y1_4_0t))) (rows_rd rwf_iiiiiiLu _ _ rfl) <|
ww (p := fits (Nat.add ((y1_4_0a :: y1_4_0t)).length 1) 80 = true) (fits_ok hy1_5 (by have := hy1_5; show (_ : Nat) + _ ≤ _; omega)) <|
ww (p := allCells [(i6 (y1_3_.1)), (i6 (y1_3_.2.1)), (i6 (y1_3_.2.2.1)), (i6 (y1_3_.2.2.2.1)), (i6 (y1_3_.2.2.2.2.1)), (i6 (y1_3_.2.2.2.2.2.1)), (nlV y1_4_1), (Value.int .u64 (y1_3_.2.2.2.2.2.2.2))] = true) (rfl) <|
ww (p := allCells (rows rw_iiiiiiLu (y1_4_0a :: y1_4_0t)) = true) (rows_cells rwf_iiiiiiLu _) <|
ww (p := rows rw_iiiiiiLu (y1_4_0a :: y1_4_0t) ++ [(i6 (y1_3_.1)), (i6 (y1_3_.2.1)), (i6 (y1_3_.2.2.1)), (i6 (y1_3_.2.2.2.1)), (i6 (y1_3_.2.2.2.2.1)), (i6 (y1_3_.2.2.2.2.2.1)), (nlV y1_4_1), (Value.int .u64 (y1_3_.2.2.2.2.2.2.2))] = (rows rw_iiiiiiLu ((y1_4_0a :: y1_4_0t) ++ [((y1_3_.1), (y1_3_.2.1), (y1_3_.2.2.1), (y1_3_.2.2.2.1), (y1_3_.2.2.2.2.1), (y1_3_.2.2.2.2.2.1), y1_4_1, (y1_3_.2.2.2.2.2.2.2))]))) (rows_app rw_iiiiiiLu (y1_4_0a :: y1_4_0t) [((y1_3_.1), (y1_3_.2.1), (y1_3_.2.2.1), (y1_3_.2.2.2.1), (y1_3_.2.2.2.2.1), (y1_3_.2.2.2.2.2.1), y1_4_1, (y1_3_.2.2.2.2.2.2.2))]) <|
ww (p := Nat.add ((y1_4_0a :: y1_4_0t)).length 1 = (((y1_4_0a :: y1_4_0t) ++ [((y1_3_.1), (y1_3_.2.1), (y1_3_.2.2.1), (y1_3_.2.2.2.1), (y1_3_.2.2.2.2.1), (y1_3_.2.2.2.2.2.1), y1_4_1, (y1_3_.2.2.2.2.2.2.2))])).length) (by simp) <|
ww (rows_flat rwf_iiiiiiLu ((y1_4_0a :: y1_4_0t) ++ [((y1_3_.1), (y1_3_.2.1), (y1_3_.2.2.1), (y1_3_.2.2.2.1), (y1_3_.2.2.2.2.1), (y1_3_.2.2.2.2.2.1), y1_4_1, (y1_3_.2.2.2.2.2.2.2))]) 41) <|
ee) (by kernel_rfl)
theorem q_Rmovedq2_1_2 (n : Nat) {rnd : Option Nat} (x1_0 x1_2 : Int) (hy1_1 : ¬ (x1_2 < (((Args.A).length : Nat) : Int))) : Q_Rmovedq2_1 rnd x1_0 (([] : List R8), x1_2) (X_Rmovedq2_1 x1_0 ([] : List R8)) :=
 runC2 hm (L := lT []) ⟨[5], [], 1, 0, [], false, []⟩ (zz 5 (xdF hy1_1) <|
ee) (by kernel_rfl)
theorem q_Rmovedq2_1_3 (n : Nat) {rnd : Option Nat} (x1_0 : Int) (x1_1a : R8) (x1_1t : List R8) (x1_2 : Int) (hy1_1 : x1_2 < (((Args.A).length : Nat) : Int)) (hy1_2 : 0 ≤ x1_2 ∧ x1_2 < (((Args.A).length : Nat) : Int)) (y1_3_ : R8) (hy1_3 : (some ((Args.A).getD (x1_2).toNat (0, 0, 0, 0, 0, 0, nl0, 0))) = some y1_3_) (y1_4_1 : NL) (hy1_4 : m_Rmovedq2_2 n x1_0 x1_2 (y1_3_.1) (y1_3_.2.1) (y1_3_.2.2.1) (y1_3_.2.2.2.1) (y1_3_.2.2.2.2.1) (y1_3_.2.2.2.2.2.1) (y1_3_.2.2.2.2.2.2.2) ((x1_1a :: x1_1t), ([] : List Int), 0) = some ([], y1_4_1)) : Q_Rmovedq2_1 rnd x1_0 ((x1_1a :: x1_1t), x1_2) (.normal, S_Rmovedq2_1 x1_0 ([((y1_3_.1), (y1_3_.2.1), (y1_3_.2.2.1), (y1_3_.2.2.2.1), (y1_3_.2.2.2.2.1), (y1_3_.2.2.2.2.2.1), y1_4_1, (y1_3_.2.2.2.2.2.2.2))], (w64 (x1_2 + (1 : Int))))) :=
 runC2 hm (L := lT [(23, ⟨⟨[0, 1, 5, 6, 7, 8], [(0, 0, true), (1, 1, false)], 3, 0, [], false, []⟩, (X_Rmovedq2_2 x1_0 x1_2 (y1_3_.1) (y1_3_.2.1) (y1_3_.2.2.1) (y1_3_.2.2.2.1) (y1_3_.2.2.2.2.1) (y1_3_.2.2.2.2.2.1) (y1_3_.2.2.2.2.2.2.2) (([] : List R8), y1_4_1)).1, (X_Rmovedq2_2 x1_0 x1_2 (y1_3_.1) (y1_3_.2.1) (y1_3_.2.2.1) (y1_3_.2.2.2.1) (y1_3_.2.2.2.2.1) (y1_3_.2.2.2.2.2.1) (y1_3_.2.2.2.2.2.2.2) (([] : List R8), y1_4_1)).2⟩)]) ⟨[0, 1, 5, 6], [(0, 3, false)], 1, 0, [], false, []⟩ (zz 5 (xdT hy1_1) <|
zz 12 (xk1 0 Args.cA hy1_2) <|
zz 13 (lk2 hy1_3 (toNatLt hy1_2)) <|
ww (p := U_Rmovedq2_2 rnd x1_0 x1_2 (y1_3_.1) (y1_3_.2.1) (y1_3_.2.2.1) (y1_3_.2.2.2.1) (y1_3_.2.2.2.2.1) (y1_3_.2.2.2.2.2.1) (y1_3_.2.2.2.2.2.2.2) ((x1_1a :: x1_1t), ([] : List Int), 0) (([] : List R8), y1_4_1)) (m_Rmovedq2_2_ok n x1_0 x1_2 (y1_3_.1) (y1_3_.2.1) (y1_3_.2.2.1) (y1_3_.2.2.2.1) (y1_3_.2.2.2.2.1) (y1_3_.2.2.2.2.2.1) (y1_3_.2.2.2.2.2.2.2) ((x1_1a :: x1_1t), ([] : List Int), 0) (([] : List R8), y1_4_1) hy1_4) <|
ww (rows_flat rwf_iiiiiiLu (x1_1a :: x1_1t) 41) <|
ee) (by kernel_rfl)
theorem q_Rmovedq2_1_4 (n : Nat) {rnd : Option Nat} (x1_0 : Int) (x1_1a : R8) (x1_1t : List R8) (x1_2 : Int) (hy1_1 : x1_2 < (((Args.A).length : Nat) : Int)) (hy1_2 : 0 ≤ x1_2 ∧ x1_2 < (((Args.A).length : Nat) : Int)) (y1_3_ : R8) (hy1_3 : (some ((Args.A).getD (x1_2).toNat (0, 0, 0, 0, 0, 0, nl0, 0))) = some y1_3_) (y1_4_0a : R8) (y1_4_0t : List R8) (y1_4_1 : NL) (hy1_4 : m_Rmovedq2_2 n x1_0 x1_2 (y1_3_.1) (y1_3_.2.1) (y1_3_.2.2.1) (y1_3_.2.2.2.1) (y1_3_.2.2.2.2.1) (y1_3_.2.2.2.2.2.1) (y1_3_.2.2.2.2.2.2.2) ((x1_1a :: x1_1t), ([] : List Int), 0) = some ((y1_4_0a :: y1_4_0t), y1_4_1)) (hy1_5 : (((y1_4_0a :: y1_4_0t)).length + 1) * 80 ≤ 140737488355328) : Q_Rmovedq2_1 rnd x1_0 ((x1_1a :: x1_1t), x1_2) (.normal, S_Rmovedq2_1 x1_0 (((y1_4_0a :: y1_4_0t) ++ [((y1_3_.1), (y1_3_.2.1), (y1_3_.2.2.1), (y1_3_.2.2.2.1), (y1_3_.2.2.2.2.1), (y1_3_.2.2.2.2.2.1), y1_4_1, (y1_3_.2.2.2.2.2.2.2))]), (w64 (x1_2 + (1 : Int))))) :=
 runC2 hm (L := lT [(23, ⟨⟨[0, 1, 5, 6, 7, 8], [(0, 0, true), (1, 1, false)], 3, 0, [], false, []⟩, (X_Rmovedq2_2 x1_0 x1_2 (y1_3_.1) (y1_3_.2.1) (y1_3_.2.2.1) (y1_3_.2.2.2.1) (y1_3_.2.2.2.2.1) (y1_3_.2.2.2.2.2.1) (y1_3_.2.2.2.2.2.2.2) ((y1_4_0a :: y1_4_0t), y1_4_1)).1, (X_Rmovedq2_2 x1_0 x1_2 (y1_3_.1) (y1_3_.2.1) (y1_3_.2.2.1) (y1_3_.2.2.2.1) (y1_3_.2.2.2.2.1) (y1_3_.2.2.2.2.2.1) (y1_3_.2.2.2.2.2.2.2) ((y1_4_0a :: y1_4_0t), y1_4_1)).2⟩)]) ⟨[0, 1, 5, 6], [(0, 3, true)], 1, 0, [], false, []⟩ (zz 5 (xdT hy1_1) <|
zz 12 (xk1 0 Args.cA hy1_2) <|
zz 13 (lk2 hy1_3 (toNatLt hy1_2)) <|
ww (p := U_Rmovedq2_2 rnd x1_0 x1_2 (y1_3_.1) (y1_3_.2.1) (y1_3_.2.2.1) (y1_3_.2.2.2.1) (y1_3_.2.2.2.2.1) (y1_3_.2.2.2.2.2.1) (y1_3_.2.2.2.2.2.2.2) ((x1_1a :: x1_1t), ([] : List Int), 0) ((y1_4_0a :: y1_4_0t), y1_4_1)) (m_Rmovedq2_2_ok n x1_0 x1_2 (y1_3_.1) (y1_3_.2.1) (y1_3_.2.2.1) (y1_3_.2.2.2.1) (y1_3_.2.2.2.2.1) (y1_3_.2.2.2.2.2.1) (y1_3_.2.2.2.2.2.2.2) ((x1_1a :: x1_1t), ([] : List Int), 0) ((y1_4_0a :: y1_4_0t), y1_4_1) hy1_4) <|
ww (rows_flat rwf_iiiiiiLu (x1_1a :: x1_1t) 41) <|
yy 27 (.app ⟨none, rows rw_iiiiiiLu (y1_4_0a :: y1_4_0t), (rows rw_iiiiiiLu ((y1_4_0a :: y1_4_0t) ++ [((y1_3_.1), (y1_3_.2.1), (y1_3_.2.2.1), (y1_3_.2.2.2.1), (y1_3_.2.2.2.2.1), (y1_3_.2.2.2.2.2.1), y1_4_1, (y1_3_.2.2.2.2.2.2.2))])), (((y1_4_0a :: y1_4_0t) ++ [((y1_3_.1), (y1_3_.2.1), (y1_3_.2.2.1), (y1_3_.2.2.2.1), (y1_3_.2.2.2.2.1), (y1_3_.2.2.2.2.2.1), y1_4_1, (y1_3_.2.2.2.2.2.2.2))])).length, false⟩) <|
ww (p := 0 < 1) ((by decide)) <|
ww (p := rdT (layT (rows rw_iiiiiiLu (y1_4_0a :: y1_4_0t))) (Nat.mul ((y1_4_0a :: y1_4_0t)).length 8) 0 = some (rows rw_iiiiiiLu (y1_4_0a :: y1_4_0t))) (rows_rd rwf_iiiiiiLu _ _ rfl) <|
ww (p := fits (Nat.add ((y1_4_0a :: y1_4_0t)).length 1) 80 = true) (fits_ok hy1_5 (by have := hy1_5; show (_ : Nat) + _ ≤ _; omega)) <|
ww (p := allCells [(i6 (y1_3_.1)), (i6 (y1_3_.2.1)), (i6 (y1_3_.2.2.1)), (i6 (y1_3_.2.2.2.1)), (i6 (y1_3_.2.2.2.2.1)), (i6 (y1_3_.2.2.2.2.2.1)), (nlV y1_4_1), (Value.int .u64 (y1_3_.2.2.2.2.2.2.2))] = true) (rfl) <|
ww (p := allCells (rows rw_iiiiiiLu (y1_4_0a :: y1_4_0t)) = true) (rows_cells rwf_iiiiiiLu _) <|
ww (p := rows rw_iiiiiiLu (y1_4_0a :: y1_4_0t) ++ [(i6 (y1_3_.1)), (i6 (y1_3_.2.1)), (i6 (y1_3_.2.2.1)), (i6 (y1_3_.2.2.2.1)), (i6 (y1_3_.2.2.2.2.1)), (i6 (y1_3_.2.2.2.2.2.1)), (nlV y1_4_1), (Value.int .u64 (y1_3_.2.2.2.2.2.2.2))] = (rows rw_iiiiiiLu ((y1_4_0a :: y1_4_0t) ++ [((y1_3_.1), (y1_3_.2.1), (y1_3_.2.2.1), (y1_3_.2.2.2.1), (y1_3_.2.2.2.2.1), (y1_3_.2.2.2.2.2.1), y1_4_1, (y1_3_.2.2.2.2.2.2.2))]))) (rows_app rw_iiiiiiLu (y1_4_0a :: y1_4_0t) [((y1_3_.1), (y1_3_.2.1), (y1_3_.2.2.1), (y1_3_.2.2.2.1), (y1_3_.2.2.2.2.1), (y1_3_.2.2.2.2.2.1), y1_4_1, (y1_3_.2.2.2.2.2.2.2))]) <|
ww (p := Nat.add ((y1_4_0a :: y1_4_0t)).length 1 = (((y1_4_0a :: y1_4_0t) ++ [((y1_3_.1), (y1_3_.2.1), (y1_3_.2.2.1), (y1_3_.2.2.2.1), (y1_3_.2.2.2.2.1), (y1_3_.2.2.2.2.2.1), y1_4_1, (y1_3_.2.2.2.2.2.2.2))])).length) (by simp) <|
ww (rows_flat rwf_iiiiiiLu ((y1_4_0a :: y1_4_0t) ++ [((y1_3_.1), (y1_3_.2.1), (y1_3_.2.2.1), (y1_3_.2.2.2.1), (y1_3_.2.2.2.2.1), (y1_3_.2.2.2.2.2.1), y1_4_1, (y1_3_.2.2.2.2.2.2.2))]) 41) <|
ee) (by kernel_rfl)
theorem q_Rmovedq2_1_5 (n : Nat) {rnd : Option Nat} (x1_0 : Int) (x1_1a : R8) (x1_1t : List R8) (x1_2 : Int) (hy1_1 : ¬ (x1_2 < (((Args.A).length : Nat) : Int))) : Q_Rmovedq2_1 rnd x1_0 ((x1_1a :: x1_1t), x1_2) (X_Rmovedq2_1 x1_0 (x1_1a :: x1_1t)) :=
 runC2 hm (L := lT []) ⟨[5], [(0, 0, true)], 1, 0, [], false, []⟩ (zz 5 (xdF hy1_1) <|
ww (rows_flat rwf_iiiiiiLu (x1_1a :: x1_1t) 41) <|
ee) (by kernel_rfl)
theorem m_Rmovedq2_1_ok (n : Nat) {rnd : Option Nat} (x1_0 : Int) (st : List R8 × Int) (r : List R8) (h : m_Rmovedq2_1 n x1_0 st = some r) : CG P rnd (fnN P 26) 0 (codeOf P 26 [false, true, false, true, true]) (S_Rmovedq2_1 x1_0 st) (X_Rmovedq2_1 x1_0 r) :=
 CG.iter (b := codeOf P 26 [false, false, true, false, true, true]) (by kernel_rfl) (body := B_Rmovedq2_1 n x1_0) (S := S_Rmovedq2_1 x1_0) (X := X_Rmovedq2_1 x1_0)
  (fun s s' h => by
  obtain ⟨x1_1, x1_2⟩ := s
  unfold B_Rmovedq2_1 at h
  dsimp only at h
  cases x1_1 with
  | nil =>
   dsimp only at h
   by_cases hy1_1 : x1_2 < (((Args.A).length : Nat) : Int)
   ·rw [if_pos hy1_1] at h
    by_cases hy1_2 : 0 ≤ x1_2 ∧ x1_2 < (((Args.A).length : Nat) : Int)
    ·rw [if_pos hy1_2] at h
     obtain ⟨y1_3_, hy1_3, h⟩ := Option.bind_eq_some_iff.1 h
     obtain ⟨⟨y1_4_0, y1_4_1⟩, hy1_4, h⟩ := Option.bind_eq_some_iff.1 h
     dsimp only at h
     cases y1_4_0 with
     | nil =>
      dsimp only at h
      obtain rfl := Sum.inl.inj (oI h); exact q_Rmovedq2_1_0 n x1_0 x1_2 hy1_1 hy1_2 y1_3_ hy1_3 y1_4_1 hy1_4
     | cons y1_4_0a y1_4_0t =>
      dsimp only at h
      by_cases hy1_5 : (((y1_4_0a :: y1_4_0t)).length + 1) * 80 ≤ 140737488355328
      ·rw [if_pos hy1_5] at h
       obtain rfl := Sum.inl.inj (oI h); exact q_Rmovedq2_1_1 n x1_0 x1_2 hy1_1 hy1_2 y1_3_ hy1_3 y1_4_0a y1_4_0t y1_4_1 hy1_4 hy1_5
      ·rw [if_neg hy1_5] at h; cases h
    ·rw [if_neg hy1_2] at h; cases h
   ·rw [if_neg hy1_1] at h
    cases h
  | cons x1_1a x1_1t =>
   dsimp only at h
   by_cases hy1_1 : x1_2 < (((Args.A).length : Nat) : Int)
   ·rw [if_pos hy1_1] at h
    by_cases hy1_2 : 0 ≤ x1_2 ∧ x1_2 < (((Args.A).length : Nat) : Int)
    ·rw [if_pos hy1_2] at h
     obtain ⟨y1_3_, hy1_3, h⟩ := Option.bind_eq_some_iff.1 h
     obtain ⟨⟨y1_4_0, y1_4_1⟩, hy1_4, h⟩ := Option.bind_eq_some_iff.1 h
     dsimp only at h
     cases y1_4_0 with
     | nil =>
      dsimp only at h
      obtain rfl := Sum.inl.inj (oI h); exact q_Rmovedq2_1_3 n x1_0 x1_1a x1_1t x1_2 hy1_1 hy1_2 y1_3_ hy1_3 y1_4_1 hy1_4
     | cons y1_4_0a y1_4_0t =>
      dsimp only at h
      by_cases hy1_5 : (((y1_4_0a :: y1_4_0t)).length + 1) * 80 ≤ 140737488355328
      ·rw [if_pos hy1_5] at h
       obtain rfl := Sum.inl.inj (oI h); exact q_Rmovedq2_1_4 n x1_0 x1_1a x1_1t x1_2 hy1_1 hy1_2 y1_3_ hy1_3 y1_4_0a y1_4_0t y1_4_1 hy1_4 hy1_5
      ·rw [if_neg hy1_5] at h; cases h
    ·rw [if_neg hy1_2] at h; cases h
   ·rw [if_neg hy1_1] at h
    cases h)
  (fun s r h => by
  obtain ⟨x1_1, x1_2⟩ := s
  unfold B_Rmovedq2_1 at h
  dsimp only at h
  cases x1_1 with
  | nil =>
   dsimp only at h
   by_cases hy1_1 : x1_2 < (((Args.A).length : Nat) : Int)
   ·rw [if_pos hy1_1] at h
    by_cases hy1_2 : 0 ≤ x1_2 ∧ x1_2 < (((Args.A).length : Nat) : Int)
    ·rw [if_pos hy1_2] at h
     obtain ⟨y1_3_, hy1_3, h⟩ := Option.bind_eq_some_iff.1 h
     obtain ⟨⟨y1_4_0, y1_4_1⟩, hy1_4, h⟩ := Option.bind_eq_some_iff.1 h
     dsimp only at h
     cases y1_4_0 with
     | nil =>
      dsimp only at h
      cases h
     | cons y1_4_0a y1_4_0t =>
      dsimp only at h
      by_cases hy1_5 : (((y1_4_0a :: y1_4_0t)).length + 1) * 80 ≤ 140737488355328
      ·rw [if_pos hy1_5] at h
       cases h
      ·rw [if_neg hy1_5] at h; cases h
    ·rw [if_neg hy1_2] at h; cases h
   ·rw [if_neg hy1_1] at h
    obtain rfl := Sum.inr.inj (oI h); exact q_Rmovedq2_1_2 n x1_0 x1_2 hy1_1
  | cons x1_1a x1_1t =>
   dsimp only at h
   by_cases hy1_1 : x1_2 < (((Args.A).length : Nat) : Int)
   ·rw [if_pos hy1_1] at h
    by_cases hy1_2 : 0 ≤ x1_2 ∧ x1_2 < (((Args.A).length : Nat) : Int)
    ·rw [if_pos hy1_2] at h
     obtain ⟨y1_3_, hy1_3, h⟩ := Option.bind_eq_some_iff.1 h
     obtain ⟨⟨y1_4_0, y1_4_1⟩, hy1_4, h⟩ := Option.bind_eq_some_iff.1 h
     dsimp only at h
     cases y1_4_0 with
     | nil =>
      dsimp only at h
      cases h
     | cons y1_4_0a y1_4_0t =>
      dsimp only at h
      by_cases hy1_5 : (((y1_4_0a :: y1_4_0t)).length + 1) * 80 ≤ 140737488355328
      ·rw [if_pos hy1_5] at h
       cases h
      ·rw [if_neg hy1_5] at h; cases h
    ·rw [if_neg hy1_2] at h; cases h
   ·rw [if_neg hy1_1] at h
    obtain rfl := Sum.inr.inj (oI h); exact q_Rmovedq2_1_5 n x1_0 x1_1a x1_1t x1_2 hy1_1)
  (fun r => by intro hx; cases hx) h
def m_Rmovedq2 (n : Nat) (a0 : Int) : Option (List R8) :=
 (m_Rmovedq2_1 n a0 (([] : List R8), 0)).bind fun c1_ =>
 match c1_ with
 | [] =>
  none
 | c1_a :: c1_t =>
  some (c1_a :: c1_t)
theorem p_Rmovedq2_0 (n : Nat) (a0 : Int) (c1_a : R8) (c1_t : List R8) (hc1 : m_Rmovedq2_1 n a0 (([] : List R8), 0) = some (c1_a :: c1_t)) : G_Rmovedq2 a0 (c1_a :: c1_t) :=
 runF2 hm (L := lT [(8, ⟨⟨[0, 1, 5, 6], [], 1, 0, [], false, []⟩, (X_Rmovedq2_1 a0 (c1_a :: c1_t)).1, (X_Rmovedq2_1 a0 (c1_a :: c1_t)).2⟩)]) ⟨[4], [(0, 0, true)], 1, 0, [], false, []⟩ (ww (p := U_Rmovedq2_1 none a0 (([] : List R8), 0) (c1_a :: c1_t)) (m_Rmovedq2_1_ok n a0 (([] : List R8), 0) (c1_a :: c1_t) hc1) <|
ww (rows_flat rwf_iiiiiiLu (c1_a :: c1_t) 41) <|
ee) (by kernel_rfl)
theorem m_Rmovedq2_ok (n : Nat) (a0 : Int) (r : List R8) (h : m_Rmovedq2 n a0 = some r) : Gv P (.func 26) (A_Rmovedq2 a0) (H_Rmovedq2 a0) (V_Rmovedq2 a0 r) (R_Rmovedq2 a0 r) := by
 unfold m_Rmovedq2 at h
 obtain ⟨c1_, hc1, h⟩ := Option.bind_eq_some_iff.1 h
 cases c1_ with
 | nil =>
  dsimp only at h
  cases h
 | cons c1_a c1_t =>
  dsimp only at h
  obtain rfl := oI h; exact p_Rmovedq2_0 n a0 c1_a c1_t hc1

noncomputable def A_RCopyq2 : List Value := [(sW 0 0 (Args.A).length Args.cA)]
noncomputable def H_RCopyq2 : AH := ⟨sB [], 0, 0⟩
noncomputable def V_RCopyq2 (r : List R8) : Value := match r with
 | o0 => (sN 0 0 (o0).length (Nat.add big 8))
noncomputable def R_RCopyq2 (r : List R8) : AH := match r with
 | o0 => ⟨sB [(0, (some (.cells (layT (rows rw_iiiiiiLu o0)) 41)))], 1, 0⟩
noncomputable abbrev G_RCopyq2 (r : List R8) : Prop := Gv P (.func 24) A_RCopyq2 H_RCopyq2 (V_RCopyq2  r) (R_RCopyq2  r)
noncomputable abbrev C_RCopyq2 (r : List R8) (ins outs : BL) : CallA := ⟨0, ins, V_RCopyq2  r, R_RCopyq2  r, outs⟩
def m_RCopyq2 (n : Nat) : Option (List R8) :=
 (m_Rmovedq2 n 0).bind fun c1_ =>
 some c1_
theorem p_RCopyq2_0 (n : Nat) (c1_ : List R8) (hc1 : m_Rmovedq2 n 0 = some c1_) : G_RCopyq2  c1_ :=
 runF2 hm (L := lT []) ⟨[2], [(0, 0, true)], 1, 0, [], false, []⟩ (yy 4 (.call (C_Rmovedq2 0 c1_ [] [(0, 0, true)])) <|
ww (m_Rmovedq2_ok n 0 c1_ hc1) <|
ww (rows_flat rwf_iiiiiiLu c1_ 41) <|
ww (rows_flat rwf_iiiiiiLu c1_ 41) <|
ee) (by kernel_rfl)
theorem m_RCopyq2_ok (n : Nat) (r : List R8) (h : m_RCopyq2 n = some r) : Gv P (.func 24) A_RCopyq2 H_RCopyq2 (V_RCopyq2  r) (R_RCopyq2  r) := by
 unfold m_RCopyq2 at h
 obtain ⟨c1_, hc1, h⟩ := Option.bind_eq_some_iff.1 h
 obtain rfl := oI h; exact p_RCopyq2_0 n c1_ hc1

noncomputable def A_RBareq2 : List Value := [(sW 0 0 (Args.A).length Args.cA)]
noncomputable def H_RBareq2 : AH := ⟨sB [], 0, 0⟩
noncomputable def V_RBareq2 (r : List R8 × Nat) : Value := match r with
 | (o0, o1) => (sN 0 0 o1 (Nat.add big 8))
noncomputable def R_RBareq2 (r : List R8 × Nat) : AH := match r with
 | (o0, o1) => ⟨sB [(0, (some (.cells (layT (rows rw_iiiiiiLu o0)) 41)))], 1, 0⟩
noncomputable abbrev G_RBareq2 (r : List R8 × Nat) : Prop := Gv P (.func 10) A_RBareq2 H_RBareq2 (V_RBareq2  r) (R_RBareq2  r)
noncomputable abbrev C_RBareq2 (r : List R8 × Nat) (ins outs : BL) : CallA := ⟨0, ins, V_RBareq2  r, R_RBareq2  r, outs⟩
noncomputable def S_RBareq2_1 (x1_1 : Nat) (st : List R8 × Int) : XSt := match st with
 | (x1_0, x1_2) => (sT 21 [(3, (sN 0 0 x1_1 (Nat.add big 8))), (4, (i6 x1_2))], [], ⟨sB [(0, (some (.cells (layT (rows rw_iiiiiiLu x1_0)) 41)))], 1, 0⟩)
noncomputable def X_RBareq2_1 (x1_1 : Nat) (r : List R8) : Ex × XSt := match r with
 | z1_0 => (.exit 0, (sT 21 [(3, (sN 0 0 x1_1 (Nat.add big 8)))], [], ⟨sB [(0, (some (.cells (layT (rows rw_iiiiiiLu z1_0)) 41)))], 1, 0⟩))
noncomputable abbrev Q_RBareq2_1 (rnd : Option Nat) (x1_1 : Nat) (st : List R8 × Int) (c : Ex × XSt) : Prop := CG P rnd (fnN P 10) 0 (codeOf P 10 [false, false, true, false, true, true, true]) (S_RBareq2_1 x1_1 st) c
noncomputable abbrev U_RBareq2_1 (rd : Option Nat) (x1_1 : Nat) (st : List R8 × Int) (r : List R8) : Prop := CG P rd (fnN P 10) 0 (codeOf P 10 [false, true, false, true, true, true]) (S_RBareq2_1 x1_1 st) (X_RBareq2_1 x1_1 r)
def B_RBareq2_1 (n : Nat) (x1_1 : Nat) (st : List R8 × Int) : Option ((List R8 × Int) ⊕ (List R8)) := match st with
 | (x1_0, x1_2) =>
  if x1_2 < ((x1_1 : Nat) : Int) then
   if 0 ≤ x1_2 ∧ x1_2 < ((x1_1 : Nat) : Int) then
    if (x1_2).toNat < (x1_0).length then
     ((some ((x1_0).getD (x1_2).toNat (0, 0, 0, 0, 0, 0, nl0, 0)))).bind fun y1_4_ =>
     some (.inl (((x1_0).set (x1_2).toNat ((y1_4_.1), (y1_4_.2.1), (y1_4_.2.2.1), (y1_4_.2.2.2.1), (y1_4_.2.2.2.2.1), (y1_4_.2.2.2.2.2.1), (y1_4_.2.2.2.2.2.2.1), (0 : Int))), (w64 (x1_2 + (1 : Int)))))
    else none
   else none
  else
   some (.inr x1_0)
def m_RBareq2_1 (n : Nat) (x1_1 : Nat) (st : List R8 × Int) : Option (List R8) := iterM (B_RBareq2_1 n x1_1) n st
theorem q_RBareq2_1_0 (n : Nat) {rnd : Option Nat} (x1_0 : List R8) (x1_1 : Nat) (x1_2 : Int) (hy1_1 : x1_2 < ((x1_1 : Nat) : Int)) (hy1_2 : 0 ≤ x1_2 ∧ x1_2 < ((x1_1 : Nat) : Int)) (hy1_3 : (x1_2).toNat < (x1_0).length) (y1_4_ : R8) (hy1_4 : (some ((x1_0).getD (x1_2).toNat (0, 0, 0, 0, 0, 0, nl0, 0))) = some y1_4_) : Q_RBareq2_1 rnd x1_1 (x1_0, x1_2) (.normal, S_RBareq2_1 x1_1 (((x1_0).set (x1_2).toNat ((y1_4_.1), (y1_4_.2.1), (y1_4_.2.2.1), (y1_4_.2.2.2.1), (y1_4_.2.2.2.2.1), (y1_4_.2.2.2.2.2.1), (y1_4_.2.2.2.2.2.2.1), (0 : Int))), (w64 (x1_2 + (1 : Int))))) :=
 runC2 hm (L := lT []) ⟨[3, 4], [(0, 0, true)], 1, 0, [], false, []⟩ (zz 5 (xdT hy1_1) <|
zz 11 (xk14 0 U8 hy1_2) <|
yy 13 (.sto (layT (rows rw_iiiiiiLu ((x1_0).set (x1_2).toNat ((y1_4_.1), (y1_4_.2.1), (y1_4_.2.2.1), (y1_4_.2.2.2.1), (y1_4_.2.2.2.2.1), (y1_4_.2.2.2.2.2.1), (y1_4_.2.2.2.2.2.2.1), (0 : Int)))))) <|
ww (p := ∃ old, rdT (layT (rows rw_iiiiiiLu x1_0)) 1 (Nat.add ((x1_2).toNat * 8) 7) = some old) (Exists.elim (rows_stN rwf_iiiiiiLu (0, 0, 0, 0, 0, 0, nl0, 0) (hr := hy1_4) (i := (x1_2).toNat) (j := 7) (l := [(Value.int .u64 (0 : Int))]) ((y1_4_.1), (y1_4_.2.1), (y1_4_.2.2.1), (y1_4_.2.2.2.1), (y1_4_.2.2.2.2.1), (y1_4_.2.2.2.2.2.1), (y1_4_.2.2.2.2.2.2.1), (0 : Int)) (Nat.add ((x1_2).toNat * 8) 7) rfl (hy1_3) (Nat.le_of_ble_eq_true rfl) rfl) fun o h => ⟨o, h.1⟩) <|
ww (p := layL [(Value.int .u64 (0 : Int))] (Nat.add ((x1_2).toNat * 8) 7) (layT (rows rw_iiiiiiLu x1_0)) = layT (rows rw_iiiiiiLu ((x1_0).set (x1_2).toNat ((y1_4_.1), (y1_4_.2.1), (y1_4_.2.2.1), (y1_4_.2.2.2.1), (y1_4_.2.2.2.2.1), (y1_4_.2.2.2.2.2.1), (y1_4_.2.2.2.2.2.2.1), (0 : Int))))) (Exists.elim (rows_stN rwf_iiiiiiLu (0, 0, 0, 0, 0, 0, nl0, 0) (hr := hy1_4) (i := (x1_2).toNat) (j := 7) (l := [(Value.int .u64 (0 : Int))]) ((y1_4_.1), (y1_4_.2.1), (y1_4_.2.2.1), (y1_4_.2.2.2.1), (y1_4_.2.2.2.2.1), (y1_4_.2.2.2.2.2.1), (y1_4_.2.2.2.2.2.2.1), (0 : Int)) (Nat.add ((x1_2).toNat * 8) 7) rfl (hy1_3) (Nat.le_of_ble_eq_true rfl) rfl) fun o h => h.2) <|
ww (rows_flat rwf_iiiiiiLu ((x1_0).set (x1_2).toNat ((y1_4_.1), (y1_4_.2.1), (y1_4_.2.2.1), (y1_4_.2.2.2.1), (y1_4_.2.2.2.2.1), (y1_4_.2.2.2.2.2.1), (y1_4_.2.2.2.2.2.2.1), (0 : Int))) 41) <|
ee) (by kernel_rfl)
theorem q_RBareq2_1_1 (n : Nat) {rnd : Option Nat} (x1_0 : List R8) (x1_1 : Nat) (x1_2 : Int) (hy1_1 : ¬ (x1_2 < ((x1_1 : Nat) : Int))) : Q_RBareq2_1 rnd x1_1 (x1_0, x1_2) (X_RBareq2_1 x1_1 x1_0) :=
 runC2 hm (L := lT []) ⟨[3], [(0, 0, true)], 1, 0, [], false, []⟩ (zz 5 (xdF hy1_1) <|
ww (rows_flat rwf_iiiiiiLu x1_0 41) <|
ee) (by kernel_rfl)
theorem m_RBareq2_1_ok (n : Nat) {rnd : Option Nat} (x1_1 : Nat) (st : List R8 × Int) (r : List R8) (h : m_RBareq2_1 n x1_1 st = some r) : CG P rnd (fnN P 10) 0 (codeOf P 10 [false, true, false, true, true, true]) (S_RBareq2_1 x1_1 st) (X_RBareq2_1 x1_1 r) :=
 CG.iter (b := codeOf P 10 [false, false, true, false, true, true, true]) (by kernel_rfl) (body := B_RBareq2_1 n x1_1) (S := S_RBareq2_1 x1_1) (X := X_RBareq2_1 x1_1)
  (fun s s' h => by
  obtain ⟨x1_0, x1_2⟩ := s
  unfold B_RBareq2_1 at h
  dsimp only at h
  by_cases hy1_1 : x1_2 < ((x1_1 : Nat) : Int)
  ·rw [if_pos hy1_1] at h
   by_cases hy1_2 : 0 ≤ x1_2 ∧ x1_2 < ((x1_1 : Nat) : Int)
   ·rw [if_pos hy1_2] at h
    by_cases hy1_3 : (x1_2).toNat < (x1_0).length
    ·rw [if_pos hy1_3] at h
     obtain ⟨y1_4_, hy1_4, h⟩ := Option.bind_eq_some_iff.1 h
     obtain rfl := Sum.inl.inj (oI h); exact q_RBareq2_1_0 n x1_0 x1_1 x1_2 hy1_1 hy1_2 hy1_3 y1_4_ hy1_4
    ·rw [if_neg hy1_3] at h; cases h
   ·rw [if_neg hy1_2] at h; cases h
  ·rw [if_neg hy1_1] at h
   cases h)
  (fun s r h => by
  obtain ⟨x1_0, x1_2⟩ := s
  unfold B_RBareq2_1 at h
  dsimp only at h
  by_cases hy1_1 : x1_2 < ((x1_1 : Nat) : Int)
  ·rw [if_pos hy1_1] at h
   by_cases hy1_2 : 0 ≤ x1_2 ∧ x1_2 < ((x1_1 : Nat) : Int)
   ·rw [if_pos hy1_2] at h
    by_cases hy1_3 : (x1_2).toNat < (x1_0).length
    ·rw [if_pos hy1_3] at h
     obtain ⟨y1_4_, hy1_4, h⟩ := Option.bind_eq_some_iff.1 h
     cases h
    ·rw [if_neg hy1_3] at h; cases h
   ·rw [if_neg hy1_2] at h; cases h
  ·rw [if_neg hy1_1] at h
   obtain rfl := Sum.inr.inj (oI h); exact q_RBareq2_1_1 n x1_0 x1_1 x1_2 hy1_1)
  (fun r => by intro hx; cases hx) h
def m_RBareq2 (n : Nat) : Option (List R8 × Nat) :=
 (m_RCheckq1 n).bind fun c1_ =>
 if c1_ = (0 : Int) then
  (m_RCopyq2 n).bind fun c3_ =>
  (m_RBareq2_1 n ((c3_).length) (c3_, 0)).bind fun c4_ =>
  some (c4_, ((c3_).length))
 else
  none
theorem p_RBareq2_0 (n : Nat) (c1_ : Int) (hc1 : m_RCheckq1 n = some c1_) (hc2 : c1_ = (0 : Int)) (c3_ : List R8) (hc3 : m_RCopyq2 n = some c3_) (c4_ : List R8) (hc4 : m_RBareq2_1 n ((c3_).length) (c3_, 0) = some c4_) : G_RBareq2  (c4_, ((c3_).length)) :=
 runF2 hm (L := lT [(16, ⟨⟨[3, 4], [(0, 0, true)], 1, 0, [], false, []⟩, (X_RBareq2_1 ((c3_).length) c4_).1, (X_RBareq2_1 ((c3_).length) c4_).2⟩)]) ⟨[2], [(0, 0, true)], 1, 0, [], false, []⟩ (yy 5 (.call (C_RCheckq1  c1_ [] [])) <|
ww (m_RCheckq1_ok n  c1_ hc1) <|
zz 6 (xnF hc2) <|
yy 10 (.call (C_RCopyq2  c3_ [] [(0, 0, true)])) <|
ww (m_RCopyq2_ok n  c3_ hc3) <|
ww (rows_flat rwf_iiiiiiLu c3_ 41) <|
ww (p := U_RBareq2_1 none ((c3_).length) (c3_, 0) c4_) (m_RBareq2_1_ok n ((c3_).length) (c3_, 0) c4_ hc4) <|
ww (rows_flat rwf_iiiiiiLu c3_ 41) <|
ww (rows_flat rwf_iiiiiiLu c4_ 41) <|
ee) (by kernel_rfl)
theorem m_RBareq2_ok (n : Nat) (r : List R8 × Nat) (h : m_RBareq2 n = some r) : Gv P (.func 10) A_RBareq2 H_RBareq2 (V_RBareq2  r) (R_RBareq2  r) := by
 unfold m_RBareq2 at h
 obtain ⟨c1_, hc1, h⟩ := Option.bind_eq_some_iff.1 h
 by_cases hc2 : c1_ = (0 : Int)
 ·rw [if_pos hc2] at h
  obtain ⟨c3_, hc3, h⟩ := Option.bind_eq_some_iff.1 h
  obtain ⟨c4_, hc4, h⟩ := Option.bind_eq_some_iff.1 h
  obtain rfl := oI h; exact p_RBareq2_0 n c1_ hc1 hc2 c3_ hc3 c4_ hc4
 ·rw [if_neg hc2] at h
  cases h

noncomputable def A_RSameq1 (a0 : List R8) (a1 : Nat) (a2 : List R8) (a3 : Nat) : List Value := [(sN 0 0 a1 (Nat.add big 8)), (sN 1 0 a3 (Nat.add big 8))]
noncomputable def H_RSameq1 (a0 : List R8) (a1 : Nat) (a2 : List R8) (a3 : Nat) : AH := ⟨sB [(0, (some (.cells (layT (rows rw_iiiiiiLu a0)) 41))), (1, (some (.cells (layT (rows rw_iiiiiiLu a2)) 41)))], 2, 2⟩
noncomputable def V_RSameq1 (a0 : List R8) (a1 : Nat) (a2 : List R8) (a3 : Nat) (r : Bool) : Value := match r with
 | o0 => (bO o0)
noncomputable def R_RSameq1 (a0 : List R8) (a1 : Nat) (a2 : List R8) (a3 : Nat) (r : Bool) : AH := match r with
 | o0 => ⟨sB [], 2, 2⟩
noncomputable abbrev G_RSameq1 (a0 : List R8) (a1 : Nat) (a2 : List R8) (a3 : Nat) (r : Bool) : Prop := Gv P (.func 13) (A_RSameq1 a0 a1 a2 a3) (H_RSameq1 a0 a1 a2 a3) (V_RSameq1 a0 a1 a2 a3 r) (R_RSameq1 a0 a1 a2 a3 r)
noncomputable abbrev C_RSameq1 (a0 : List R8) (a1 : Nat) (a2 : List R8) (a3 : Nat) (r : Bool) (ins outs : BL) : CallA := ⟨2, ins, V_RSameq1 a0 a1 a2 a3 r, R_RSameq1 a0 a1 a2 a3 r, outs⟩
noncomputable def S_RSameq1_2 (x2_0 : List R8) (x2_1 : List R8) (x2_2 : Nat) (x2_3 : Nat) (x2_4 : Int) (x2_5 : Int) (x2_6 : Int) (x2_7 : Int) (x2_8 : Int) (x2_9 : Int) (x2_10 : Int) (x2_11 : NL) (x2_12 : Int) (x2_13 : Int) (x2_14 : Int) (x2_15 : Int) (x2_16 : Int) (x2_17 : Int) (x2_18 : Int) (x2_19 : NL) (x2_20 : Int) (st : Int) : XSt := match st with
 | x2_21 => (sT 102 [(0, (sN 0 0 x2_2 (Nat.add big 8))), (1, (sN 1 0 x2_3 (Nat.add big 8))), (5, (i6 x2_4)), (6, (pN 2 0)), (7, (pN 3 0)), (8, (i6 x2_21))], [], ⟨sB [(0, (some (.cells (layT (rows rw_iiiiiiLu x2_0)) 41))), (1, (some (.cells (layT (rows rw_iiiiiiLu x2_1)) 41))), (2, (some (.cells (layT [(i6 x2_5), (i6 x2_6), (i6 x2_7), (i6 x2_8), (i6 x2_9), (i6 x2_10), (nlV x2_11), (Value.int .u64 x2_12)]) 41))), (3, (some (.cells (layT [(i6 x2_13), (i6 x2_14), (i6 x2_15), (i6 x2_16), (i6 x2_17), (i6 x2_18), (nlV x2_19), (Value.int .u64 x2_20)]) 41)))], 4, 2⟩)
noncomputable def X_RSameq1_2 (x2_0 : List R8) (x2_1 : List R8) (x2_2 : Nat) (x2_3 : Nat) (x2_4 : Int) (x2_5 : Int) (x2_6 : Int) (x2_7 : Int) (x2_8 : Int) (x2_9 : Int) (x2_10 : Int) (x2_11 : NL) (x2_12 : Int) (x2_13 : Int) (x2_14 : Int) (x2_15 : Int) (x2_16 : Int) (x2_17 : Int) (x2_18 : Int) (x2_19 : NL) (x2_20 : Int) (r : (Unit) ⊕ (Unit)) : Ex × XSt := match r with
 | .inl _ => (.ret, (sT 102 [(4, (bO false))], [], ⟨sB [(0, (some (.cells (layT (rows rw_iiiiiiLu x2_0)) 41))), (1, (some (.cells (layT (rows rw_iiiiiiLu x2_1)) 41)))], 2, 2⟩))
 | .inr _ => (.exit 2, (sT 102 [(0, (sN 0 0 x2_2 (Nat.add big 8))), (1, (sN 1 0 x2_3 (Nat.add big 8))), (5, (i6 x2_4))], [], ⟨sB [(0, (some (.cells (layT (rows rw_iiiiiiLu x2_0)) 41))), (1, (some (.cells (layT (rows rw_iiiiiiLu x2_1)) 41)))], 2, 2⟩))
noncomputable abbrev Q_RSameq1_2 (rnd : Option Nat) (x2_0 : List R8) (x2_1 : List R8) (x2_2 : Nat) (x2_3 : Nat) (x2_4 : Int) (x2_5 : Int) (x2_6 : Int) (x2_7 : Int) (x2_8 : Int) (x2_9 : Int) (x2_10 : Int) (x2_11 : NL) (x2_12 : Int) (x2_13 : Int) (x2_14 : Int) (x2_15 : Int) (x2_16 : Int) (x2_17 : Int) (x2_18 : Int) (x2_19 : NL) (x2_20 : Int) (st : Int) (c : Ex × XSt) : Prop := CG P rnd (fnN P 13) 2 (codeOf P 13 [false, false, true, true, true, false, false, true, false, false, true, false, true, true]) (S_RSameq1_2 x2_0 x2_1 x2_2 x2_3 x2_4 x2_5 x2_6 x2_7 x2_8 x2_9 x2_10 x2_11 x2_12 x2_13 x2_14 x2_15 x2_16 x2_17 x2_18 x2_19 x2_20 st) c
noncomputable abbrev U_RSameq1_2 (rd : Option Nat) (x2_0 : List R8) (x2_1 : List R8) (x2_2 : Nat) (x2_3 : Nat) (x2_4 : Int) (x2_5 : Int) (x2_6 : Int) (x2_7 : Int) (x2_8 : Int) (x2_9 : Int) (x2_10 : Int) (x2_11 : NL) (x2_12 : Int) (x2_13 : Int) (x2_14 : Int) (x2_15 : Int) (x2_16 : Int) (x2_17 : Int) (x2_18 : Int) (x2_19 : NL) (x2_20 : Int) (st : Int) (r : (Unit) ⊕ (Unit)) : Prop := CG P rd (fnN P 13) 2 (codeOf P 13 [false, true, true, true, false, false, true, false, false, true, false, true, true]) (S_RSameq1_2 x2_0 x2_1 x2_2 x2_3 x2_4 x2_5 x2_6 x2_7 x2_8 x2_9 x2_10 x2_11 x2_12 x2_13 x2_14 x2_15 x2_16 x2_17 x2_18 x2_19 x2_20 st) (X_RSameq1_2 x2_0 x2_1 x2_2 x2_3 x2_4 x2_5 x2_6 x2_7 x2_8 x2_9 x2_10 x2_11 x2_12 x2_13 x2_14 x2_15 x2_16 x2_17 x2_18 x2_19 x2_20 r)
def B_RSameq1_2 (n : Nat) (x2_0 : List R8) (x2_1 : List R8) (x2_2 : Nat) (x2_3 : Nat) (x2_4 : Int) (x2_5 : Int) (x2_6 : Int) (x2_7 : Int) (x2_8 : Int) (x2_9 : Int) (x2_10 : Int) (x2_11 : NL) (x2_12 : Int) (x2_13 : Int) (x2_14 : Int) (x2_15 : Int) (x2_16 : Int) (x2_17 : Int) (x2_18 : Int) (x2_19 : NL) (x2_20 : Int) (st : Int) : Option ((Int) ⊕ ((Unit) ⊕ (Unit))) := match st with
 | x2_21 =>
  if x2_21 < (((x2_11).l.length : Nat) : Int) then
   if 0 ≤ x2_21 ∧ x2_21 < (((x2_11).l.length : Nat) : Int) then
    if (x2_21).toNat < ((x2_11).l).length then
     ((some (((x2_11).l).getD (x2_21).toNat 0))).bind fun y2_4_ =>
     if 0 ≤ x2_21 ∧ x2_21 < (((x2_19).l.length : Nat) : Int) then
      if (x2_21).toNat < ((x2_19).l).length then
       ((some (((x2_19).l).getD (x2_21).toNat 0))).bind fun y2_7_ =>
       if y2_4_ = y2_7_ then
        some (.inl (w64 (x2_21 + (1 : Int))))
       else
        some (.inr (.inl ()))
      else none
     else none
    else none
   else none
  else
   some (.inr (.inr ()))
def m_RSameq1_2 (n : Nat) (x2_0 : List R8) (x2_1 : List R8) (x2_2 : Nat) (x2_3 : Nat) (x2_4 : Int) (x2_5 : Int) (x2_6 : Int) (x2_7 : Int) (x2_8 : Int) (x2_9 : Int) (x2_10 : Int) (x2_11 : NL) (x2_12 : Int) (x2_13 : Int) (x2_14 : Int) (x2_15 : Int) (x2_16 : Int) (x2_17 : Int) (x2_18 : Int) (x2_19 : NL) (x2_20 : Int) (st : Int) : Option ((Unit) ⊕ (Unit)) := iterM (B_RSameq1_2 n x2_0 x2_1 x2_2 x2_3 x2_4 x2_5 x2_6 x2_7 x2_8 x2_9 x2_10 x2_11 x2_12 x2_13 x2_14 x2_15 x2_16 x2_17 x2_18 x2_19 x2_20) n st
theorem q_RSameq1_2_0 (n : Nat) {rnd : Option Nat} (x2_0 x2_1 : List R8) (x2_2 x2_3 : Nat) (x2_4 x2_5 x2_6 x2_7 x2_8 x2_9 x2_10 : Int) (x2_11 : NL) (x2_12 x2_13 x2_14 x2_15 x2_16 x2_17 x2_18 : Int) (x2_19 : NL) (x2_20 x2_21 : Int) (hy2_1 : x2_21 < (((x2_11).l.length : Nat) : Int)) (hy2_2 : 0 ≤ x2_21 ∧ x2_21 < (((x2_11).l.length : Nat) : Int)) (hy2_3 : (x2_21).toNat < ((x2_11).l).length) (y2_4_ : Int) (hy2_4 : (some (((x2_11).l).getD (x2_21).toNat 0)) = some y2_4_) (hy2_5 : 0 ≤ x2_21 ∧ x2_21 < (((x2_19).l.length : Nat) : Int)) (hy2_6 : (x2_21).toNat < ((x2_19).l).length) (y2_7_ : Int) (hy2_7 : (some (((x2_19).l).getD (x2_21).toNat 0)) = some y2_7_) (hy2_8 : y2_4_ = y2_7_) : Q_RSameq1_2 rnd x2_0 x2_1 x2_2 x2_3 x2_4 x2_5 x2_6 x2_7 x2_8 x2_9 x2_10 x2_11 x2_12 x2_13 x2_14 x2_15 x2_16 x2_17 x2_18 x2_19 x2_20 x2_21 (.normal, S_RSameq1_2 x2_0 x2_1 x2_2 x2_3 x2_4 x2_5 x2_6 x2_7 x2_8 x2_9 x2_10 x2_11 x2_12 x2_13 x2_14 x2_15 x2_16 x2_17 x2_18 x2_19 x2_20 (w64 (x2_21 + (1 : Int)))) :=
 runC2 hm (L := lT []) ⟨[0, 1, 5, 6, 7, 8], [(0, 0, true), (1, 1, true), (2, 2, false), (3, 3, false)], 4, 2, [], false, []⟩ (zz 6 (xdT hy2_1) <|
zz 14 (xk9 (Nat.add (x2_11).num 64) (x2_11).cap hy2_2) <|
zz 15 (nk10 hy2_4 hy2_3) <|
zz 19 (xk9 (Nat.add (x2_19).num 64) (x2_19).cap hy2_5) <|
zz 20 (nk10 hy2_7 hy2_6) <|
zz 21 (xnF hy2_8) <|
ww (rows_flat rwf_iiiiiiLu x2_0 41) <|
ww (rows_flat rwf_iiiiiiLu x2_1 41) <|
ee) (by kernel_rfl)
theorem q_RSameq1_2_1 (n : Nat) {rnd : Option Nat} (x2_0 x2_1 : List R8) (x2_2 x2_3 : Nat) (x2_4 x2_5 x2_6 x2_7 x2_8 x2_9 x2_10 : Int) (x2_11 : NL) (x2_12 x2_13 x2_14 x2_15 x2_16 x2_17 x2_18 : Int) (x2_19 : NL) (x2_20 x2_21 : Int) (hy2_1 : x2_21 < (((x2_11).l.length : Nat) : Int)) (hy2_2 : 0 ≤ x2_21 ∧ x2_21 < (((x2_11).l.length : Nat) : Int)) (hy2_3 : (x2_21).toNat < ((x2_11).l).length) (y2_4_ : Int) (hy2_4 : (some (((x2_11).l).getD (x2_21).toNat 0)) = some y2_4_) (hy2_5 : 0 ≤ x2_21 ∧ x2_21 < (((x2_19).l.length : Nat) : Int)) (hy2_6 : (x2_21).toNat < ((x2_19).l).length) (y2_7_ : Int) (hy2_7 : (some (((x2_19).l).getD (x2_21).toNat 0)) = some y2_7_) (hy2_8 : ¬ (y2_4_ = y2_7_)) : Q_RSameq1_2 rnd x2_0 x2_1 x2_2 x2_3 x2_4 x2_5 x2_6 x2_7 x2_8 x2_9 x2_10 x2_11 x2_12 x2_13 x2_14 x2_15 x2_16 x2_17 x2_18 x2_19 x2_20 x2_21 (X_RSameq1_2 x2_0 x2_1 x2_2 x2_3 x2_4 x2_5 x2_6 x2_7 x2_8 x2_9 x2_10 x2_11 x2_12 x2_13 x2_14 x2_15 x2_16 x2_17 x2_18 x2_19 x2_20 (.inl ())) :=
 runC2 hm (L := lT []) ⟨[4], [(0, 0, true), (1, 1, true)], 2, 2, [], false, []⟩ (zz 6 (xdT hy2_1) <|
zz 14 (xk9 (Nat.add (x2_11).num 64) (x2_11).cap hy2_2) <|
zz 15 (nk10 hy2_4 hy2_3) <|
zz 19 (xk9 (Nat.add (x2_19).num 64) (x2_19).cap hy2_5) <|
zz 20 (nk10 hy2_7 hy2_6) <|
zz 21 (xnT hy2_8) <|
ww (rows_flat rwf_iiiiiiLu x2_0 41) <|
ww (rows_flat rwf_iiiiiiLu x2_1 41) <|
ee) (by kernel_rfl)
theorem q_RSameq1_2_2 (n : Nat) {rnd : Option Nat} (x2_0 x2_1 : List R8) (x2_2 x2_3 : Nat) (x2_4 x2_5 x2_6 x2_7 x2_8 x2_9 x2_10 : Int) (x2_11 : NL) (x2_12 x2_13 x2_14 x2_15 x2_16 x2_17 x2_18 : Int) (x2_19 : NL) (x2_20 x2_21 : Int) (hy2_1 : ¬ (x2_21 < (((x2_11).l.length : Nat) : Int))) : Q_RSameq1_2 rnd x2_0 x2_1 x2_2 x2_3 x2_4 x2_5 x2_6 x2_7 x2_8 x2_9 x2_10 x2_11 x2_12 x2_13 x2_14 x2_15 x2_16 x2_17 x2_18 x2_19 x2_20 x2_21 (X_RSameq1_2 x2_0 x2_1 x2_2 x2_3 x2_4 x2_5 x2_6 x2_7 x2_8 x2_9 x2_10 x2_11 x2_12 x2_13 x2_14 x2_15 x2_16 x2_17 x2_18 x2_19 x2_20 (.inr ())) :=
 runC2 hm (L := lT []) ⟨[0, 1, 5], [(0, 0, true), (1, 1, true)], 2, 2, [], false, []⟩ (zz 6 (xdF hy2_1) <|
ww (rows_flat rwf_iiiiiiLu x2_0 41) <|
ww (rows_flat rwf_iiiiiiLu x2_1 41) <|
ee) (by kernel_rfl)
theorem m_RSameq1_2_ok (n : Nat) {rnd : Option Nat} (x2_0 : List R8) (x2_1 : List R8) (x2_2 : Nat) (x2_3 : Nat) (x2_4 : Int) (x2_5 : Int) (x2_6 : Int) (x2_7 : Int) (x2_8 : Int) (x2_9 : Int) (x2_10 : Int) (x2_11 : NL) (x2_12 : Int) (x2_13 : Int) (x2_14 : Int) (x2_15 : Int) (x2_16 : Int) (x2_17 : Int) (x2_18 : Int) (x2_19 : NL) (x2_20 : Int) (st : Int) (r : (Unit) ⊕ (Unit)) (h : m_RSameq1_2 n x2_0 x2_1 x2_2 x2_3 x2_4 x2_5 x2_6 x2_7 x2_8 x2_9 x2_10 x2_11 x2_12 x2_13 x2_14 x2_15 x2_16 x2_17 x2_18 x2_19 x2_20 st = some r) : CG P rnd (fnN P 13) 2 (codeOf P 13 [false, true, true, true, false, false, true, false, false, true, false, true, true]) (S_RSameq1_2 x2_0 x2_1 x2_2 x2_3 x2_4 x2_5 x2_6 x2_7 x2_8 x2_9 x2_10 x2_11 x2_12 x2_13 x2_14 x2_15 x2_16 x2_17 x2_18 x2_19 x2_20 st) (X_RSameq1_2 x2_0 x2_1 x2_2 x2_3 x2_4 x2_5 x2_6 x2_7 x2_8 x2_9 x2_10 x2_11 x2_12 x2_13 x2_14 x2_15 x2_16 x2_17 x2_18 x2_19 x2_20 r) :=
 CG.iter (b := codeOf P 13 [false, false, true, true, true, false, false, true, false, false, true, false, true, true]) (by kernel_rfl) (body := B_RSameq1_2 n x2_0 x2_1 x2_2 x2_3 x2_4 x2_5 x2_6 x2_7 x2_8 x2_9 x2_10 x2_11 x2_12 x2_13 x2_14 x2_15 x2_16 x2_17 x2_18 x2_19 x2_20) (S := S_RSameq1_2 x2_0 x2_1 x2_2 x2_3 x2_4 x2_5 x2_6 x2_7 x2_8 x2_9 x2_10 x2_11 x2_12 x2_13 x2_14 x2_15 x2_16 x2_17 x2_18 x2_19 x2_20) (X := X_RSameq1_2 x2_0 x2_1 x2_2 x2_3 x2_4 x2_5 x2_6 x2_7 x2_8 x2_9 x2_10 x2_11 x2_12 x2_13 x2_14 x2_15 x2_16 x2_17 x2_18 x2_19 x2_20)
  (fun x2_21 s' h => by
  unfold B_RSameq1_2 at h
  dsimp only at h
  by_cases hy2_1 : x2_21 < (((x2_11).l.length : Nat) : Int)
  ·rw [if_pos hy2_1] at h
   by_cases hy2_2 : 0 ≤ x2_21 ∧ x2_21 < (((x2_11).l.length : Nat) : Int)
   ·rw [if_pos hy2_2] at h
    by_cases hy2_3 : (x2_21).toNat < ((x2_11).l).length
    ·rw [if_pos hy2_3] at h
     obtain ⟨y2_4_, hy2_4, h⟩ := Option.bind_eq_some_iff.1 h
     by_cases hy2_5 : 0 ≤ x2_21 ∧ x2_21 < (((x2_19).l.length : Nat) : Int)
     ·rw [if_pos hy2_5] at h
      by_cases hy2_6 : (x2_21).toNat < ((x2_19).l).length
      ·rw [if_pos hy2_6] at h
       obtain ⟨y2_7_, hy2_7, h⟩ := Option.bind_eq_some_iff.1 h
       by_cases hy2_8 : y2_4_ = y2_7_
       ·rw [if_pos hy2_8] at h
        obtain rfl := Sum.inl.inj (oI h); exact q_RSameq1_2_0 n x2_0 x2_1 x2_2 x2_3 x2_4 x2_5 x2_6 x2_7 x2_8 x2_9 x2_10 x2_11 x2_12 x2_13 x2_14 x2_15 x2_16 x2_17 x2_18 x2_19 x2_20 x2_21 hy2_1 hy2_2 hy2_3 y2_4_ hy2_4 hy2_5 hy2_6 y2_7_ hy2_7 hy2_8
       ·rw [if_neg hy2_8] at h
        cases h
      ·rw [if_neg hy2_6] at h; cases h
     ·rw [if_neg hy2_5] at h; cases h
    ·rw [if_neg hy2_3] at h; cases h
   ·rw [if_neg hy2_2] at h; cases h
  ·rw [if_neg hy2_1] at h
   cases h)
  (fun x2_21 r h => by
  unfold B_RSameq1_2 at h
  dsimp only at h
  by_cases hy2_1 : x2_21 < (((x2_11).l.length : Nat) : Int)
  ·rw [if_pos hy2_1] at h
   by_cases hy2_2 : 0 ≤ x2_21 ∧ x2_21 < (((x2_11).l.length : Nat) : Int)
   ·rw [if_pos hy2_2] at h
    by_cases hy2_3 : (x2_21).toNat < ((x2_11).l).length
    ·rw [if_pos hy2_3] at h
     obtain ⟨y2_4_, hy2_4, h⟩ := Option.bind_eq_some_iff.1 h
     by_cases hy2_5 : 0 ≤ x2_21 ∧ x2_21 < (((x2_19).l.length : Nat) : Int)
     ·rw [if_pos hy2_5] at h
      by_cases hy2_6 : (x2_21).toNat < ((x2_19).l).length
      ·rw [if_pos hy2_6] at h
       obtain ⟨y2_7_, hy2_7, h⟩ := Option.bind_eq_some_iff.1 h
       by_cases hy2_8 : y2_4_ = y2_7_
       ·rw [if_pos hy2_8] at h
        cases h
       ·rw [if_neg hy2_8] at h
        obtain rfl := Sum.inr.inj (oI h); exact q_RSameq1_2_1 n x2_0 x2_1 x2_2 x2_3 x2_4 x2_5 x2_6 x2_7 x2_8 x2_9 x2_10 x2_11 x2_12 x2_13 x2_14 x2_15 x2_16 x2_17 x2_18 x2_19 x2_20 x2_21 hy2_1 hy2_2 hy2_3 y2_4_ hy2_4 hy2_5 hy2_6 y2_7_ hy2_7 hy2_8
      ·rw [if_neg hy2_6] at h; cases h
     ·rw [if_neg hy2_5] at h; cases h
    ·rw [if_neg hy2_3] at h; cases h
   ·rw [if_neg hy2_2] at h; cases h
  ·rw [if_neg hy2_1] at h
   obtain rfl := Sum.inr.inj (oI h); exact q_RSameq1_2_2 n x2_0 x2_1 x2_2 x2_3 x2_4 x2_5 x2_6 x2_7 x2_8 x2_9 x2_10 x2_11 x2_12 x2_13 x2_14 x2_15 x2_16 x2_17 x2_18 x2_19 x2_20 x2_21 hy2_1)
  (fun r => by intro hx; rcases r with _ | _ <;> cases hx) h
noncomputable def S_RSameq1_1 (x1_0 : List R8) (x1_1 : List R8) (x1_2 : Nat) (x1_3 : Nat) (st : Int) : XSt := match st with
 | x1_4 => (sT 102 [(0, (sN 0 0 x1_2 (Nat.add big 8))), (1, (sN 1 0 x1_3 (Nat.add big 8))), (5, (i6 x1_4))], [], ⟨sB [(0, (some (.cells (layT (rows rw_iiiiiiLu x1_0)) 41))), (1, (some (.cells (layT (rows rw_iiiiiiLu x1_1)) 41)))], 2, 2⟩)
noncomputable def X_RSameq1_1 (x1_0 : List R8) (x1_1 : List R8) (x1_2 : Nat) (x1_3 : Nat) (r : (Unit) ⊕ (Unit)) : Ex × XSt := match r with
 | .inl _ => (.ret, (sT 102 [(4, (bO false))], [], ⟨sB [(0, (some (.cells (layT (rows rw_iiiiiiLu x1_0)) 41))), (1, (some (.cells (layT (rows rw_iiiiiiLu x1_1)) 41)))], 2, 2⟩))
 | .inr _ => (.exit 0, (sT 102 [], [], ⟨sB [(0, (some (.cells (layT (rows rw_iiiiiiLu x1_0)) 41))), (1, (some (.cells (layT (rows rw_iiiiiiLu x1_1)) 41)))], 2, 2⟩))
noncomputable abbrev Q_RSameq1_1 (rnd : Option Nat) (x1_0 : List R8) (x1_1 : List R8) (x1_2 : Nat) (x1_3 : Nat) (st : Int) (c : Ex × XSt) : Prop := CG P rnd (fnN P 13) 2 (codeOf P 13 [false, false, true, false, true, true]) (S_RSameq1_1 x1_0 x1_1 x1_2 x1_3 st) c
noncomputable abbrev U_RSameq1_1 (rd : Option Nat) (x1_0 : List R8) (x1_1 : List R8) (x1_2 : Nat) (x1_3 : Nat) (st : Int) (r : (Unit) ⊕ (Unit)) : Prop := CG P rd (fnN P 13) 2 (codeOf P 13 [false, true, false, true, true]) (S_RSameq1_1 x1_0 x1_1 x1_2 x1_3 st) (X_RSameq1_1 x1_0 x1_1 x1_2 x1_3 r)
def B_RSameq1_1 (n : Nat) (x1_0 : List R8) (x1_1 : List R8) (x1_2 : Nat) (x1_3 : Nat) (st : Int) : Option ((Int) ⊕ ((Unit) ⊕ (Unit))) := match st with
 | x1_4 =>
  if x1_4 < ((x1_2 : Nat) : Int) then
   if 0 ≤ x1_4 ∧ x1_4 < ((x1_2 : Nat) : Int) then
    if (x1_4).toNat < (x1_0).length then
     ((some ((x1_0).getD (x1_4).toNat (0, 0, 0, 0, 0, 0, nl0, 0)))).bind fun y1_4_ =>
     if 0 ≤ x1_4 ∧ x1_4 < ((x1_3 : Nat) : Int) then
      if (x1_4).toNat < (x1_1).length then
       ((some ((x1_1).getD (x1_4).toNat (0, 0, 0, 0, 0, 0, nl0, 0)))).bind fun y1_7_ =>
       if (y1_4_.1) = (y1_7_.1) then
        if (y1_4_.2.1) = (y1_7_.2.1) then
         if (y1_4_.2.2.1) = (y1_7_.2.2.1) then
          if (y1_4_.2.2.2.1) = (y1_7_.2.2.2.1) then
           if (y1_4_.2.2.2.2.1) = (y1_7_.2.2.2.2.1) then
            if (y1_4_.2.2.2.2.2.1) = (y1_7_.2.2.2.2.2.1) then
             if (y1_4_.2.2.2.2.2.2.2) = (y1_7_.2.2.2.2.2.2.2) then
              if ((((y1_4_.2.2.2.2.2.2.1)).l.length : Nat) : Int) = ((((y1_7_.2.2.2.2.2.2.1)).l.length : Nat) : Int) then
               match m_RSameq1_2 n x1_0 x1_1 x1_2 x1_3 x1_4 (y1_4_.1) (y1_4_.2.1) (y1_4_.2.2.1) (y1_4_.2.2.2.1) (y1_4_.2.2.2.2.1) (y1_4_.2.2.2.2.2.1) (y1_4_.2.2.2.2.2.2.1) (y1_4_.2.2.2.2.2.2.2) (y1_7_.1) (y1_7_.2.1) (y1_7_.2.2.1) (y1_7_.2.2.2.1) (y1_7_.2.2.2.2.1) (y1_7_.2.2.2.2.2.1) (y1_7_.2.2.2.2.2.2.1) (y1_7_.2.2.2.2.2.2.2) 0 with
               | none => none
               | some (.inl _) =>
                some (.inr (.inl ()))
               | some (.inr _) =>
                some (.inl (w64 (x1_4 + (1 : Int))))
              else
               some (.inr (.inl ()))
             else
              some (.inr (.inl ()))
            else
             some (.inr (.inl ()))
           else
            some (.inr (.inl ()))
          else
           some (.inr (.inl ()))
         else
          some (.inr (.inl ()))
        else
         some (.inr (.inl ()))
       else
        some (.inr (.inl ()))
      else none
     else none
    else none
   else none
  else
   some (.inr (.inr ()))
def m_RSameq1_1 (n : Nat) (x1_0 : List R8) (x1_1 : List R8) (x1_2 : Nat) (x1_3 : Nat) (st : Int) : Option ((Unit) ⊕ (Unit)) := iterM (B_RSameq1_1 n x1_0 x1_1 x1_2 x1_3) n st
theorem q_RSameq1_1_0 (n : Nat) {rnd : Option Nat} (x1_0 x1_1 : List R8) (x1_2 x1_3 : Nat) (x1_4 : Int) (hy1_1 : x1_4 < ((x1_2 : Nat) : Int)) (hy1_2 : 0 ≤ x1_4 ∧ x1_4 < ((x1_2 : Nat) : Int)) (hy1_3 : (x1_4).toNat < (x1_0).length) (y1_4_ : R8) (hy1_4 : (some ((x1_0).getD (x1_4).toNat (0, 0, 0, 0, 0, 0, nl0, 0))) = some y1_4_) (hy1_5 : 0 ≤ x1_4 ∧ x1_4 < ((x1_3 : Nat) : Int)) (hy1_6 : (x1_4).toNat < (x1_1).length) (y1_7_ : R8) (hy1_7 : (some ((x1_1).getD (x1_4).toNat (0, 0, 0, 0, 0, 0, nl0, 0))) = some y1_7_) (hy1_8 : (y1_4_.1) = (y1_7_.1)) (hy1_9 : (y1_4_.2.1) = (y1_7_.2.1)) (hy1_10 : (y1_4_.2.2.1) = (y1_7_.2.2.1)) (hy1_11 : (y1_4_.2.2.2.1) = (y1_7_.2.2.2.1)) (hy1_12 : (y1_4_.2.2.2.2.1) = (y1_7_.2.2.2.2.1)) (hy1_13 : (y1_4_.2.2.2.2.2.1) = (y1_7_.2.2.2.2.2.1)) (hy1_14 : (y1_4_.2.2.2.2.2.2.2) = (y1_7_.2.2.2.2.2.2.2)) (hy1_15 : ((((y1_4_.2.2.2.2.2.2.1)).l.length : Nat) : Int) = ((((y1_7_.2.2.2.2.2.2.1)).l.length : Nat) : Int)) (hy1_16 : m_RSameq1_2 n x1_0 x1_1 x1_2 x1_3 x1_4 (y1_4_.1) (y1_4_.2.1) (y1_4_.2.2.1) (y1_4_.2.2.2.1) (y1_4_.2.2.2.2.1) (y1_4_.2.2.2.2.2.1) (y1_4_.2.2.2.2.2.2.1) (y1_4_.2.2.2.2.2.2.2) (y1_7_.1) (y1_7_.2.1) (y1_7_.2.2.1) (y1_7_.2.2.2.1) (y1_7_.2.2.2.2.1) (y1_7_.2.2.2.2.2.1) (y1_7_.2.2.2.2.2.2.1) (y1_7_.2.2.2.2.2.2.2) 0 = some (.inl ())) : Q_RSameq1_1 rnd x1_0 x1_1 x1_2 x1_3 x1_4 (X_RSameq1_1 x1_0 x1_1 x1_2 x1_3 (.inl ())) :=
 runC2 hm (L := lT [(84, ⟨⟨[0, 1, 5, 6, 7, 8], [(0, 0, true), (1, 1, true), (2, 10, false), (3, 11, false)], 4, 2, [], false, []⟩, (X_RSameq1_2 x1_0 x1_1 x1_2 x1_3 x1_4 (y1_4_.1) (y1_4_.2.1) (y1_4_.2.2.1) (y1_4_.2.2.2.1) (y1_4_.2.2.2.2.1) (y1_4_.2.2.2.2.2.1) (y1_4_.2.2.2.2.2.2.1) (y1_4_.2.2.2.2.2.2.2) (y1_7_.1) (y1_7_.2.1) (y1_7_.2.2.1) (y1_7_.2.2.2.1) (y1_7_.2.2.2.2.1) (y1_7_.2.2.2.2.2.1) (y1_7_.2.2.2.2.2.2.1) (y1_7_.2.2.2.2.2.2.2) (.inl ())).1, (X_RSameq1_2 x1_0 x1_1 x1_2 x1_3 x1_4 (y1_4_.1) (y1_4_.2.1) (y1_4_.2.2.1) (y1_4_.2.2.2.1) (y1_4_.2.2.2.2.1) (y1_4_.2.2.2.2.2.1) (y1_4_.2.2.2.2.2.2.1) (y1_4_.2.2.2.2.2.2.2) (y1_7_.1) (y1_7_.2.1) (y1_7_.2.2.1) (y1_7_.2.2.2.1) (y1_7_.2.2.2.2.1) (y1_7_.2.2.2.2.2.1) (y1_7_.2.2.2.2.2.2.1) (y1_7_.2.2.2.2.2.2.2) (.inl ())).2⟩)]) ⟨[4], [(0, 0, true), (1, 1, true)], 2, 2, [], false, []⟩ (zz 5 (xdT hy1_1) <|
zz 12 (xk14 0 U8 hy1_2) <|
yy 13 (.ld (Value.agg #[(i6 (y1_4_.1)), (i6 (y1_4_.2.1)), (i6 (y1_4_.2.2.1)), (i6 (y1_4_.2.2.2.1)), (i6 (y1_4_.2.2.2.2.1)), (i6 (y1_4_.2.2.2.2.2.1)), (nlV (y1_4_.2.2.2.2.2.2.1)), (Value.int .u64 (y1_4_.2.2.2.2.2.2.2))])) <|
ww (p := rdT (layT (rows rw_iiiiiiLu x1_0)) 8 ((x1_4).toNat * 8) = some [(i6 (y1_4_.1)), (i6 (y1_4_.2.1)), (i6 (y1_4_.2.2.1)), (i6 (y1_4_.2.2.2.1)), (i6 (y1_4_.2.2.2.2.1)), (i6 (y1_4_.2.2.2.2.2.1)), (nlV (y1_4_.2.2.2.2.2.2.1)), (Value.int .u64 (y1_4_.2.2.2.2.2.2.2))]) (rows_rdpN rwf_iiiiiiLu (0, 0, 0, 0, 0, 0, nl0, 0) (hr := hy1_4) (i := (x1_4).toNat) (j := 0) ((x1_4).toNat * 8) rfl (hy1_3) (by decide) rfl) <|
zz 16 (xk14 1 U8 hy1_5) <|
yy 17 (.ld (Value.agg #[(i6 (y1_7_.1)), (i6 (y1_7_.2.1)), (i6 (y1_7_.2.2.1)), (i6 (y1_7_.2.2.2.1)), (i6 (y1_7_.2.2.2.2.1)), (i6 (y1_7_.2.2.2.2.2.1)), (nlV (y1_7_.2.2.2.2.2.2.1)), (Value.int .u64 (y1_7_.2.2.2.2.2.2.2))])) <|
ww (p := rdT (layT (rows rw_iiiiiiLu x1_1)) 8 ((x1_4).toNat * 8) = some [(i6 (y1_7_.1)), (i6 (y1_7_.2.1)), (i6 (y1_7_.2.2.1)), (i6 (y1_7_.2.2.2.1)), (i6 (y1_7_.2.2.2.2.1)), (i6 (y1_7_.2.2.2.2.2.1)), (nlV (y1_7_.2.2.2.2.2.2.1)), (Value.int .u64 (y1_7_.2.2.2.2.2.2.2))]) (rows_rdpN rwf_iiiiiiLu (0, 0, 0, 0, 0, 0, nl0, 0) (hr := hy1_7) (i := (x1_4).toNat) (j := 0) ((x1_4).toNat * 8) rfl (hy1_6) (by decide) rfl) <|
zz 28 (xnF hy1_8) <|
zz 34 (xnF hy1_9) <|
zz 41 (xnF hy1_10) <|
zz 48 (xnF hy1_11) <|
zz 55 (xnF hy1_12) <|
zz 62 (xnF hy1_13) <|
zz 69 (xnF hy1_14) <|
zz 78 (xnF hy1_15) <|
ww (p := U_RSameq1_2 rnd x1_0 x1_1 x1_2 x1_3 x1_4 (y1_4_.1) (y1_4_.2.1) (y1_4_.2.2.1) (y1_4_.2.2.2.1) (y1_4_.2.2.2.2.1) (y1_4_.2.2.2.2.2.1) (y1_4_.2.2.2.2.2.2.1) (y1_4_.2.2.2.2.2.2.2) (y1_7_.1) (y1_7_.2.1) (y1_7_.2.2.1) (y1_7_.2.2.2.1) (y1_7_.2.2.2.2.1) (y1_7_.2.2.2.2.2.1) (y1_7_.2.2.2.2.2.2.1) (y1_7_.2.2.2.2.2.2.2) 0 (.inl ())) (m_RSameq1_2_ok n x1_0 x1_1 x1_2 x1_3 x1_4 (y1_4_.1) (y1_4_.2.1) (y1_4_.2.2.1) (y1_4_.2.2.2.1) (y1_4_.2.2.2.2.1) (y1_4_.2.2.2.2.2.1) (y1_4_.2.2.2.2.2.2.1) (y1_4_.2.2.2.2.2.2.2) (y1_7_.1) (y1_7_.2.1) (y1_7_.2.2.1) (y1_7_.2.2.2.1) (y1_7_.2.2.2.2.1) (y1_7_.2.2.2.2.2.1) (y1_7_.2.2.2.2.2.2.1) (y1_7_.2.2.2.2.2.2.2) 0 (.inl ()) hy1_16) <|
ww (rows_flat rwf_iiiiiiLu x1_0 41) <|
ww (rows_flat rwf_iiiiiiLu x1_1 41) <|
ww (rows_flat rwf_iiiiiiLu x1_0 41) <|
ww (rows_flat rwf_iiiiiiLu x1_1 41) <|
ee) (by kernel_rfl)
theorem q_RSameq1_1_1 (n : Nat) {rnd : Option Nat} (x1_0 x1_1 : List R8) (x1_2 x1_3 : Nat) (x1_4 : Int) (hy1_1 : x1_4 < ((x1_2 : Nat) : Int)) (hy1_2 : 0 ≤ x1_4 ∧ x1_4 < ((x1_2 : Nat) : Int)) (hy1_3 : (x1_4).toNat < (x1_0).length) (y1_4_ : R8) (hy1_4 : (some ((x1_0).getD (x1_4).toNat (0, 0, 0, 0, 0, 0, nl0, 0))) = some y1_4_) (hy1_5 : 0 ≤ x1_4 ∧ x1_4 < ((x1_3 : Nat) : Int)) (hy1_6 : (x1_4).toNat < (x1_1).length) (y1_7_ : R8) (hy1_7 : (some ((x1_1).getD (x1_4).toNat (0, 0, 0, 0, 0, 0, nl0, 0))) = some y1_7_) (hy1_8 : (y1_4_.1) = (y1_7_.1)) (hy1_9 : (y1_4_.2.1) = (y1_7_.2.1)) (hy1_10 : (y1_4_.2.2.1) = (y1_7_.2.2.1)) (hy1_11 : (y1_4_.2.2.2.1) = (y1_7_.2.2.2.1)) (hy1_12 : (y1_4_.2.2.2.2.1) = (y1_7_.2.2.2.2.1)) (hy1_13 : (y1_4_.2.2.2.2.2.1) = (y1_7_.2.2.2.2.2.1)) (hy1_14 : (y1_4_.2.2.2.2.2.2.2) = (y1_7_.2.2.2.2.2.2.2)) (hy1_15 : ((((y1_4_.2.2.2.2.2.2.1)).l.length : Nat) : Int) = ((((y1_7_.2.2.2.2.2.2.1)).l.length : Nat) : Int)) (hy1_16 : m_RSameq1_2 n x1_0 x1_1 x1_2 x1_3 x1_4 (y1_4_.1) (y1_4_.2.1) (y1_4_.2.2.1) (y1_4_.2.2.2.1) (y1_4_.2.2.2.2.1) (y1_4_.2.2.2.2.2.1) (y1_4_.2.2.2.2.2.2.1) (y1_4_.2.2.2.2.2.2.2) (y1_7_.1) (y1_7_.2.1) (y1_7_.2.2.1) (y1_7_.2.2.2.1) (y1_7_.2.2.2.2.1) (y1_7_.2.2.2.2.2.1) (y1_7_.2.2.2.2.2.2.1) (y1_7_.2.2.2.2.2.2.2) 0 = some (.inr ())) : Q_RSameq1_1 rnd x1_0 x1_1 x1_2 x1_3 x1_4 (.normal, S_RSameq1_1 x1_0 x1_1 x1_2 x1_3 (w64 (x1_4 + (1 : Int)))) :=
 runC2 hm (L := lT [(84, ⟨⟨[0, 1, 5, 6, 7, 8], [(0, 0, true), (1, 1, true), (2, 10, false), (3, 11, false)], 4, 2, [], false, []⟩, (X_RSameq1_2 x1_0 x1_1 x1_2 x1_3 x1_4 (y1_4_.1) (y1_4_.2.1) (y1_4_.2.2.1) (y1_4_.2.2.2.1) (y1_4_.2.2.2.2.1) (y1_4_.2.2.2.2.2.1) (y1_4_.2.2.2.2.2.2.1) (y1_4_.2.2.2.2.2.2.2) (y1_7_.1) (y1_7_.2.1) (y1_7_.2.2.1) (y1_7_.2.2.2.1) (y1_7_.2.2.2.2.1) (y1_7_.2.2.2.2.2.1) (y1_7_.2.2.2.2.2.2.1) (y1_7_.2.2.2.2.2.2.2) (.inr ())).1, (X_RSameq1_2 x1_0 x1_1 x1_2 x1_3 x1_4 (y1_4_.1) (y1_4_.2.1) (y1_4_.2.2.1) (y1_4_.2.2.2.1) (y1_4_.2.2.2.2.1) (y1_4_.2.2.2.2.2.1) (y1_4_.2.2.2.2.2.2.1) (y1_4_.2.2.2.2.2.2.2) (y1_7_.1) (y1_7_.2.1) (y1_7_.2.2.1) (y1_7_.2.2.2.1) (y1_7_.2.2.2.2.1) (y1_7_.2.2.2.2.2.1) (y1_7_.2.2.2.2.2.2.1) (y1_7_.2.2.2.2.2.2.2) (.inr ())).2⟩)]) ⟨[0, 1, 5], [(0, 0, true), (1, 1, true)], 2, 2, [], false, []⟩ (zz 5 (xdT hy1_1) <|
zz 12 (xk14 0 U8 hy1_2) <|
yy 13 (.ld (Value.agg #[(i6 (y1_4_.1)), (i6 (y1_4_.2.1)), (i6 (y1_4_.2.2.1)), (i6 (y1_4_.2.2.2.1)), (i6 (y1_4_.2.2.2.2.1)), (i6 (y1_4_.2.2.2.2.2.1)), (nlV (y1_4_.2.2.2.2.2.2.1)), (Value.int .u64 (y1_4_.2.2.2.2.2.2.2))])) <|
ww (p := rdT (layT (rows rw_iiiiiiLu x1_0)) 8 ((x1_4).toNat * 8) = some [(i6 (y1_4_.1)), (i6 (y1_4_.2.1)), (i6 (y1_4_.2.2.1)), (i6 (y1_4_.2.2.2.1)), (i6 (y1_4_.2.2.2.2.1)), (i6 (y1_4_.2.2.2.2.2.1)), (nlV (y1_4_.2.2.2.2.2.2.1)), (Value.int .u64 (y1_4_.2.2.2.2.2.2.2))]) (rows_rdpN rwf_iiiiiiLu (0, 0, 0, 0, 0, 0, nl0, 0) (hr := hy1_4) (i := (x1_4).toNat) (j := 0) ((x1_4).toNat * 8) rfl (hy1_3) (by decide) rfl) <|
zz 16 (xk14 1 U8 hy1_5) <|
yy 17 (.ld (Value.agg #[(i6 (y1_7_.1)), (i6 (y1_7_.2.1)), (i6 (y1_7_.2.2.1)), (i6 (y1_7_.2.2.2.1)), (i6 (y1_7_.2.2.2.2.1)), (i6 (y1_7_.2.2.2.2.2.1)), (nlV (y1_7_.2.2.2.2.2.2.1)), (Value.int .u64 (y1_7_.2.2.2.2.2.2.2))])) <|
ww (p := rdT (layT (rows rw_iiiiiiLu x1_1)) 8 ((x1_4).toNat * 8) = some [(i6 (y1_7_.1)), (i6 (y1_7_.2.1)), (i6 (y1_7_.2.2.1)), (i6 (y1_7_.2.2.2.1)), (i6 (y1_7_.2.2.2.2.1)), (i6 (y1_7_.2.2.2.2.2.1)), (nlV (y1_7_.2.2.2.2.2.2.1)), (Value.int .u64 (y1_7_.2.2.2.2.2.2.2))]) (rows_rdpN rwf_iiiiiiLu (0, 0, 0, 0, 0, 0, nl0, 0) (hr := hy1_7) (i := (x1_4).toNat) (j := 0) ((x1_4).toNat * 8) rfl (hy1_6) (by decide) rfl) <|
zz 28 (xnF hy1_8) <|
zz 34 (xnF hy1_9) <|
zz 41 (xnF hy1_10) <|
zz 48 (xnF hy1_11) <|
zz 55 (xnF hy1_12) <|
zz 62 (xnF hy1_13) <|
zz 69 (xnF hy1_14) <|
zz 78 (xnF hy1_15) <|
ww (p := U_RSameq1_2 rnd x1_0 x1_1 x1_2 x1_3 x1_4 (y1_4_.1) (y1_4_.2.1) (y1_4_.2.2.1) (y1_4_.2.2.2.1) (y1_4_.2.2.2.2.1) (y1_4_.2.2.2.2.2.1) (y1_4_.2.2.2.2.2.2.1) (y1_4_.2.2.2.2.2.2.2) (y1_7_.1) (y1_7_.2.1) (y1_7_.2.2.1) (y1_7_.2.2.2.1) (y1_7_.2.2.2.2.1) (y1_7_.2.2.2.2.2.1) (y1_7_.2.2.2.2.2.2.1) (y1_7_.2.2.2.2.2.2.2) 0 (.inr ())) (m_RSameq1_2_ok n x1_0 x1_1 x1_2 x1_3 x1_4 (y1_4_.1) (y1_4_.2.1) (y1_4_.2.2.1) (y1_4_.2.2.2.1) (y1_4_.2.2.2.2.1) (y1_4_.2.2.2.2.2.1) (y1_4_.2.2.2.2.2.2.1) (y1_4_.2.2.2.2.2.2.2) (y1_7_.1) (y1_7_.2.1) (y1_7_.2.2.1) (y1_7_.2.2.2.1) (y1_7_.2.2.2.2.1) (y1_7_.2.2.2.2.2.1) (y1_7_.2.2.2.2.2.2.1) (y1_7_.2.2.2.2.2.2.2) 0 (.inr ()) hy1_16) <|
ww (rows_flat rwf_iiiiiiLu x1_0 41) <|
ww (rows_flat rwf_iiiiiiLu x1_1 41) <|
ww (rows_flat rwf_iiiiiiLu x1_0 41) <|
ww (rows_flat rwf_iiiiiiLu x1_1 41) <|
ee) (by kernel_rfl)
theorem q_RSameq1_1_2 (n : Nat) {rnd : Option Nat} (x1_0 x1_1 : List R8) (x1_2 x1_3 : Nat) (x1_4 : Int) (hy1_1 : x1_4 < ((x1_2 : Nat) : Int)) (hy1_2 : 0 ≤ x1_4 ∧ x1_4 < ((x1_2 : Nat) : Int)) (hy1_3 : (x1_4).toNat < (x1_0).length) (y1_4_ : R8) (hy1_4 : (some ((x1_0).getD (x1_4).toNat (0, 0, 0, 0, 0, 0, nl0, 0))) = some y1_4_) (hy1_5 : 0 ≤ x1_4 ∧ x1_4 < ((x1_3 : Nat) : Int)) (hy1_6 : (x1_4).toNat < (x1_1).length) (y1_7_ : R8) (hy1_7 : (some ((x1_1).getD (x1_4).toNat (0, 0, 0, 0, 0, 0, nl0, 0))) = some y1_7_) (hy1_8 : (y1_4_.1) = (y1_7_.1)) (hy1_9 : (y1_4_.2.1) = (y1_7_.2.1)) (hy1_10 : (y1_4_.2.2.1) = (y1_7_.2.2.1)) (hy1_11 : (y1_4_.2.2.2.1) = (y1_7_.2.2.2.1)) (hy1_12 : (y1_4_.2.2.2.2.1) = (y1_7_.2.2.2.2.1)) (hy1_13 : (y1_4_.2.2.2.2.2.1) = (y1_7_.2.2.2.2.2.1)) (hy1_14 : (y1_4_.2.2.2.2.2.2.2) = (y1_7_.2.2.2.2.2.2.2)) (hy1_15 : ¬ (((((y1_4_.2.2.2.2.2.2.1)).l.length : Nat) : Int) = ((((y1_7_.2.2.2.2.2.2.1)).l.length : Nat) : Int))) : Q_RSameq1_1 rnd x1_0 x1_1 x1_2 x1_3 x1_4 (X_RSameq1_1 x1_0 x1_1 x1_2 x1_3 (.inl ())) :=
 runC2 hm (L := lT []) ⟨[4], [(0, 0, true), (1, 1, true)], 2, 2, [], false, []⟩ (zz 5 (xdT hy1_1) <|
zz 12 (xk14 0 U8 hy1_2) <|
yy 13 (.ld (Value.agg #[(i6 (y1_4_.1)), (i6 (y1_4_.2.1)), (i6 (y1_4_.2.2.1)), (i6 (y1_4_.2.2.2.1)), (i6 (y1_4_.2.2.2.2.1)), (i6 (y1_4_.2.2.2.2.2.1)), (nlV (y1_4_.2.2.2.2.2.2.1)), (Value.int .u64 (y1_4_.2.2.2.2.2.2.2))])) <|
ww (p := rdT (layT (rows rw_iiiiiiLu x1_0)) 8 ((x1_4).toNat * 8) = some [(i6 (y1_4_.1)), (i6 (y1_4_.2.1)), (i6 (y1_4_.2.2.1)), (i6 (y1_4_.2.2.2.1)), (i6 (y1_4_.2.2.2.2.1)), (i6 (y1_4_.2.2.2.2.2.1)), (nlV (y1_4_.2.2.2.2.2.2.1)), (Value.int .u64 (y1_4_.2.2.2.2.2.2.2))]) (rows_rdpN rwf_iiiiiiLu (0, 0, 0, 0, 0, 0, nl0, 0) (hr := hy1_4) (i := (x1_4).toNat) (j := 0) ((x1_4).toNat * 8) rfl (hy1_3) (by decide) rfl) <|
zz 16 (xk14 1 U8 hy1_5) <|
yy 17 (.ld (Value.agg #[(i6 (y1_7_.1)), (i6 (y1_7_.2.1)), (i6 (y1_7_.2.2.1)), (i6 (y1_7_.2.2.2.1)), (i6 (y1_7_.2.2.2.2.1)), (i6 (y1_7_.2.2.2.2.2.1)), (nlV (y1_7_.2.2.2.2.2.2.1)), (Value.int .u64 (y1_7_.2.2.2.2.2.2.2))])) <|
ww (p := rdT (layT (rows rw_iiiiiiLu x1_1)) 8 ((x1_4).toNat * 8) = some [(i6 (y1_7_.1)), (i6 (y1_7_.2.1)), (i6 (y1_7_.2.2.1)), (i6 (y1_7_.2.2.2.1)), (i6 (y1_7_.2.2.2.2.1)), (i6 (y1_7_.2.2.2.2.2.1)), (nlV (y1_7_.2.2.2.2.2.2.1)), (Value.int .u64 (y1_7_.2.2.2.2.2.2.2))]) (rows_rdpN rwf_iiiiiiLu (0, 0, 0, 0, 0, 0, nl0, 0) (hr := hy1_7) (i := (x1_4).toNat) (j := 0) ((x1_4).toNat * 8) rfl (hy1_6) (by decide) rfl) <|
zz 28 (xnF hy1_8) <|
zz 34 (xnF hy1_9) <|
zz 41 (xnF hy1_10) <|
zz 48 (xnF hy1_11) <|
zz 55 (xnF hy1_12) <|
zz 62 (xnF hy1_13) <|
zz 69 (xnF hy1_14) <|
zz 78 (xnT hy1_15) <|
ww (rows_flat rwf_iiiiiiLu x1_0 41) <|
ww (rows_flat rwf_iiiiiiLu x1_1 41) <|
ee) (by kernel_rfl)
theorem q_RSameq1_1_3 (n : Nat) {rnd : Option Nat} (x1_0 x1_1 : List R8) (x1_2 x1_3 : Nat) (x1_4 : Int) (hy1_1 : x1_4 < ((x1_2 : Nat) : Int)) (hy1_2 : 0 ≤ x1_4 ∧ x1_4 < ((x1_2 : Nat) : Int)) (hy1_3 : (x1_4).toNat < (x1_0).length) (y1_4_ : R8) (hy1_4 : (some ((x1_0).getD (x1_4).toNat (0, 0, 0, 0, 0, 0, nl0, 0))) = some y1_4_) (hy1_5 : 0 ≤ x1_4 ∧ x1_4 < ((x1_3 : Nat) : Int)) (hy1_6 : (x1_4).toNat < (x1_1).length) (y1_7_ : R8) (hy1_7 : (some ((x1_1).getD (x1_4).toNat (0, 0, 0, 0, 0, 0, nl0, 0))) = some y1_7_) (hy1_8 : (y1_4_.1) = (y1_7_.1)) (hy1_9 : (y1_4_.2.1) = (y1_7_.2.1)) (hy1_10 : (y1_4_.2.2.1) = (y1_7_.2.2.1)) (hy1_11 : (y1_4_.2.2.2.1) = (y1_7_.2.2.2.1)) (hy1_12 : (y1_4_.2.2.2.2.1) = (y1_7_.2.2.2.2.1)) (hy1_13 : (y1_4_.2.2.2.2.2.1) = (y1_7_.2.2.2.2.2.1)) (hy1_14 : ¬ ((y1_4_.2.2.2.2.2.2.2) = (y1_7_.2.2.2.2.2.2.2))) : Q_RSameq1_1 rnd x1_0 x1_1 x1_2 x1_3 x1_4 (X_RSameq1_1 x1_0 x1_1 x1_2 x1_3 (.inl ())) :=
 runC2 hm (L := lT []) ⟨[4], [(0, 0, true), (1, 1, true)], 2, 2, [], false, []⟩ (zz 5 (xdT hy1_1) <|
zz 12 (xk14 0 U8 hy1_2) <|
yy 13 (.ld (Value.agg #[(i6 (y1_4_.1)), (i6 (y1_4_.2.1)), (i6 (y1_4_.2.2.1)), (i6 (y1_4_.2.2.2.1)), (i6 (y1_4_.2.2.2.2.1)), (i6 (y1_4_.2.2.2.2.2.1)), (nlV (y1_4_.2.2.2.2.2.2.1)), (Value.int .u64 (y1_4_.2.2.2.2.2.2.2))])) <|
ww (p := rdT (layT (rows rw_iiiiiiLu x1_0)) 8 ((x1_4).toNat * 8) = some [(i6 (y1_4_.1)), (i6 (y1_4_.2.1)), (i6 (y1_4_.2.2.1)), (i6 (y1_4_.2.2.2.1)), (i6 (y1_4_.2.2.2.2.1)), (i6 (y1_4_.2.2.2.2.2.1)), (nlV (y1_4_.2.2.2.2.2.2.1)), (Value.int .u64 (y1_4_.2.2.2.2.2.2.2))]) (rows_rdpN rwf_iiiiiiLu (0, 0, 0, 0, 0, 0, nl0, 0) (hr := hy1_4) (i := (x1_4).toNat) (j := 0) ((x1_4).toNat * 8) rfl (hy1_3) (by decide) rfl) <|
zz 16 (xk14 1 U8 hy1_5) <|
yy 17 (.ld (Value.agg #[(i6 (y1_7_.1)), (i6 (y1_7_.2.1)), (i6 (y1_7_.2.2.1)), (i6 (y1_7_.2.2.2.1)), (i6 (y1_7_.2.2.2.2.1)), (i6 (y1_7_.2.2.2.2.2.1)), (nlV (y1_7_.2.2.2.2.2.2.1)), (Value.int .u64 (y1_7_.2.2.2.2.2.2.2))])) <|
ww (p := rdT (layT (rows rw_iiiiiiLu x1_1)) 8 ((x1_4).toNat * 8) = some [(i6 (y1_7_.1)), (i6 (y1_7_.2.1)), (i6 (y1_7_.2.2.1)), (i6 (y1_7_.2.2.2.1)), (i6 (y1_7_.2.2.2.2.1)), (i6 (y1_7_.2.2.2.2.2.1)), (nlV (y1_7_.2.2.2.2.2.2.1)), (Value.int .u64 (y1_7_.2.2.2.2.2.2.2))]) (rows_rdpN rwf_iiiiiiLu (0, 0, 0, 0, 0, 0, nl0, 0) (hr := hy1_7) (i := (x1_4).toNat) (j := 0) ((x1_4).toNat * 8) rfl (hy1_6) (by decide) rfl) <|
zz 28 (xnF hy1_8) <|
zz 34 (xnF hy1_9) <|
zz 41 (xnF hy1_10) <|
zz 48 (xnF hy1_11) <|
zz 55 (xnF hy1_12) <|
zz 62 (xnF hy1_13) <|
zz 69 (xnT hy1_14) <|
ww (rows_flat rwf_iiiiiiLu x1_0 41) <|
ww (rows_flat rwf_iiiiiiLu x1_1 41) <|
ee) (by kernel_rfl)
theorem q_RSameq1_1_4 (n : Nat) {rnd : Option Nat} (x1_0 x1_1 : List R8) (x1_2 x1_3 : Nat) (x1_4 : Int) (hy1_1 : x1_4 < ((x1_2 : Nat) : Int)) (hy1_2 : 0 ≤ x1_4 ∧ x1_4 < ((x1_2 : Nat) : Int)) (hy1_3 : (x1_4).toNat < (x1_0).length) (y1_4_ : R8) (hy1_4 : (some ((x1_0).getD (x1_4).toNat (0, 0, 0, 0, 0, 0, nl0, 0))) = some y1_4_) (hy1_5 : 0 ≤ x1_4 ∧ x1_4 < ((x1_3 : Nat) : Int)) (hy1_6 : (x1_4).toNat < (x1_1).length) (y1_7_ : R8) (hy1_7 : (some ((x1_1).getD (x1_4).toNat (0, 0, 0, 0, 0, 0, nl0, 0))) = some y1_7_) (hy1_8 : (y1_4_.1) = (y1_7_.1)) (hy1_9 : (y1_4_.2.1) = (y1_7_.2.1)) (hy1_10 : (y1_4_.2.2.1) = (y1_7_.2.2.1)) (hy1_11 : (y1_4_.2.2.2.1) = (y1_7_.2.2.2.1)) (hy1_12 : (y1_4_.2.2.2.2.1) = (y1_7_.2.2.2.2.1)) (hy1_13 : ¬ ((y1_4_.2.2.2.2.2.1) = (y1_7_.2.2.2.2.2.1))) : Q_RSameq1_1 rnd x1_0 x1_1 x1_2 x1_3 x1_4 (X_RSameq1_1 x1_0 x1_1 x1_2 x1_3 (.inl ())) :=
 runC2 hm (L := lT []) ⟨[4], [(0, 0, true), (1, 1, true)], 2, 2, [], false, []⟩ (zz 5 (xdT hy1_1) <|
zz 12 (xk14 0 U8 hy1_2) <|
yy 13 (.ld (Value.agg #[(i6 (y1_4_.1)), (i6 (y1_4_.2.1)), (i6 (y1_4_.2.2.1)), (i6 (y1_4_.2.2.2.1)), (i6 (y1_4_.2.2.2.2.1)), (i6 (y1_4_.2.2.2.2.2.1)), (nlV (y1_4_.2.2.2.2.2.2.1)), (Value.int .u64 (y1_4_.2.2.2.2.2.2.2))])) <|
ww (p := rdT (layT (rows rw_iiiiiiLu x1_0)) 8 ((x1_4).toNat * 8) = some [(i6 (y1_4_.1)), (i6 (y1_4_.2.1)), (i6 (y1_4_.2.2.1)), (i6 (y1_4_.2.2.2.1)), (i6 (y1_4_.2.2.2.2.1)), (i6 (y1_4_.2.2.2.2.2.1)), (nlV (y1_4_.2.2.2.2.2.2.1)), (Value.int .u64 (y1_4_.2.2.2.2.2.2.2))]) (rows_rdpN rwf_iiiiiiLu (0, 0, 0, 0, 0, 0, nl0, 0) (hr := hy1_4) (i := (x1_4).toNat) (j := 0) ((x1_4).toNat * 8) rfl (hy1_3) (by decide) rfl) <|
zz 16 (xk14 1 U8 hy1_5) <|
yy 17 (.ld (Value.agg #[(i6 (y1_7_.1)), (i6 (y1_7_.2.1)), (i6 (y1_7_.2.2.1)), (i6 (y1_7_.2.2.2.1)), (i6 (y1_7_.2.2.2.2.1)), (i6 (y1_7_.2.2.2.2.2.1)), (nlV (y1_7_.2.2.2.2.2.2.1)), (Value.int .u64 (y1_7_.2.2.2.2.2.2.2))])) <|
ww (p := rdT (layT (rows rw_iiiiiiLu x1_1)) 8 ((x1_4).toNat * 8) = some [(i6 (y1_7_.1)), (i6 (y1_7_.2.1)), (i6 (y1_7_.2.2.1)), (i6 (y1_7_.2.2.2.1)), (i6 (y1_7_.2.2.2.2.1)), (i6 (y1_7_.2.2.2.2.2.1)), (nlV (y1_7_.2.2.2.2.2.2.1)), (Value.int .u64 (y1_7_.2.2.2.2.2.2.2))]) (rows_rdpN rwf_iiiiiiLu (0, 0, 0, 0, 0, 0, nl0, 0) (hr := hy1_7) (i := (x1_4).toNat) (j := 0) ((x1_4).toNat * 8) rfl (hy1_6) (by decide) rfl) <|
zz 28 (xnF hy1_8) <|
zz 34 (xnF hy1_9) <|
zz 41 (xnF hy1_10) <|
zz 48 (xnF hy1_11) <|
zz 55 (xnF hy1_12) <|
zz 62 (xnT hy1_13) <|
ww (rows_flat rwf_iiiiiiLu x1_0 41) <|
ww (rows_flat rwf_iiiiiiLu x1_1 41) <|
ee) (by kernel_rfl)
theorem q_RSameq1_1_5 (n : Nat) {rnd : Option Nat} (x1_0 x1_1 : List R8) (x1_2 x1_3 : Nat) (x1_4 : Int) (hy1_1 : x1_4 < ((x1_2 : Nat) : Int)) (hy1_2 : 0 ≤ x1_4 ∧ x1_4 < ((x1_2 : Nat) : Int)) (hy1_3 : (x1_4).toNat < (x1_0).length) (y1_4_ : R8) (hy1_4 : (some ((x1_0).getD (x1_4).toNat (0, 0, 0, 0, 0, 0, nl0, 0))) = some y1_4_) (hy1_5 : 0 ≤ x1_4 ∧ x1_4 < ((x1_3 : Nat) : Int)) (hy1_6 : (x1_4).toNat < (x1_1).length) (y1_7_ : R8) (hy1_7 : (some ((x1_1).getD (x1_4).toNat (0, 0, 0, 0, 0, 0, nl0, 0))) = some y1_7_) (hy1_8 : (y1_4_.1) = (y1_7_.1)) (hy1_9 : (y1_4_.2.1) = (y1_7_.2.1)) (hy1_10 : (y1_4_.2.2.1) = (y1_7_.2.2.1)) (hy1_11 : (y1_4_.2.2.2.1) = (y1_7_.2.2.2.1)) (hy1_12 : ¬ ((y1_4_.2.2.2.2.1) = (y1_7_.2.2.2.2.1))) : Q_RSameq1_1 rnd x1_0 x1_1 x1_2 x1_3 x1_4 (X_RSameq1_1 x1_0 x1_1 x1_2 x1_3 (.inl ())) :=
 runC2 hm (L := lT []) ⟨[4], [(0, 0, true), (1, 1, true)], 2, 2, [], false, []⟩ (zz 5 (xdT hy1_1) <|
zz 12 (xk14 0 U8 hy1_2) <|
yy 13 (.ld (Value.agg #[(i6 (y1_4_.1)), (i6 (y1_4_.2.1)), (i6 (y1_4_.2.2.1)), (i6 (y1_4_.2.2.2.1)), (i6 (y1_4_.2.2.2.2.1)), (i6 (y1_4_.2.2.2.2.2.1)), (nlV (y1_4_.2.2.2.2.2.2.1)), (Value.int .u64 (y1_4_.2.2.2.2.2.2.2))])) <|
ww (p := rdT (layT (rows rw_iiiiiiLu x1_0)) 8 ((x1_4).toNat * 8) = some [(i6 (y1_4_.1)), (i6 (y1_4_.2.1)), (i6 (y1_4_.2.2.1)), (i6 (y1_4_.2.2.2.1)), (i6 (y1_4_.2.2.2.2.1)), (i6 (y1_4_.2.2.2.2.2.1)), (nlV (y1_4_.2.2.2.2.2.2.1)), (Value.int .u64 (y1_4_.2.2.2.2.2.2.2))]) (rows_rdpN rwf_iiiiiiLu (0, 0, 0, 0, 0, 0, nl0, 0) (hr := hy1_4) (i := (x1_4).toNat) (j := 0) ((x1_4).toNat * 8) rfl (hy1_3) (by decide) rfl) <|
zz 16 (xk14 1 U8 hy1_5) <|
yy 17 (.ld (Value.agg #[(i6 (y1_7_.1)), (i6 (y1_7_.2.1)), (i6 (y1_7_.2.2.1)), (i6 (y1_7_.2.2.2.1)), (i6 (y1_7_.2.2.2.2.1)), (i6 (y1_7_.2.2.2.2.2.1)), (nlV (y1_7_.2.2.2.2.2.2.1)), (Value.int .u64 (y1_7_.2.2.2.2.2.2.2))])) <|
ww (p := rdT (layT (rows rw_iiiiiiLu x1_1)) 8 ((x1_4).toNat * 8) = some [(i6 (y1_7_.1)), (i6 (y1_7_.2.1)), (i6 (y1_7_.2.2.1)), (i6 (y1_7_.2.2.2.1)), (i6 (y1_7_.2.2.2.2.1)), (i6 (y1_7_.2.2.2.2.2.1)), (nlV (y1_7_.2.2.2.2.2.2.1)), (Value.int .u64 (y1_7_.2.2.2.2.2.2.2))]) (rows_rdpN rwf_iiiiiiLu (0, 0, 0, 0, 0, 0, nl0, 0) (hr := hy1_7) (i := (x1_4).toNat) (j := 0) ((x1_4).toNat * 8) rfl (hy1_6) (by decide) rfl) <|
zz 28 (xnF hy1_8) <|
zz 34 (xnF hy1_9) <|
zz 41 (xnF hy1_10) <|
zz 48 (xnF hy1_11) <|
zz 55 (xnT hy1_12) <|
ww (rows_flat rwf_iiiiiiLu x1_0 41) <|
ww (rows_flat rwf_iiiiiiLu x1_1 41) <|
ee) (by kernel_rfl)
theorem q_RSameq1_1_6 (n : Nat) {rnd : Option Nat} (x1_0 x1_1 : List R8) (x1_2 x1_3 : Nat) (x1_4 : Int) (hy1_1 : x1_4 < ((x1_2 : Nat) : Int)) (hy1_2 : 0 ≤ x1_4 ∧ x1_4 < ((x1_2 : Nat) : Int)) (hy1_3 : (x1_4).toNat < (x1_0).length) (y1_4_ : R8) (hy1_4 : (some ((x1_0).getD (x1_4).toNat (0, 0, 0, 0, 0, 0, nl0, 0))) = some y1_4_) (hy1_5 : 0 ≤ x1_4 ∧ x1_4 < ((x1_3 : Nat) : Int)) (hy1_6 : (x1_4).toNat < (x1_1).length) (y1_7_ : R8) (hy1_7 : (some ((x1_1).getD (x1_4).toNat (0, 0, 0, 0, 0, 0, nl0, 0))) = some y1_7_) (hy1_8 : (y1_4_.1) = (y1_7_.1)) (hy1_9 : (y1_4_.2.1) = (y1_7_.2.1)) (hy1_10 : (y1_4_.2.2.1) = (y1_7_.2.2.1)) (hy1_11 : ¬ ((y1_4_.2.2.2.1) = (y1_7_.2.2.2.1))) : Q_RSameq1_1 rnd x1_0 x1_1 x1_2 x1_3 x1_4 (X_RSameq1_1 x1_0 x1_1 x1_2 x1_3 (.inl ())) :=
 runC2 hm (L := lT []) ⟨[4], [(0, 0, true), (1, 1, true)], 2, 2, [], false, []⟩ (zz 5 (xdT hy1_1) <|
zz 12 (xk14 0 U8 hy1_2) <|
yy 13 (.ld (Value.agg #[(i6 (y1_4_.1)), (i6 (y1_4_.2.1)), (i6 (y1_4_.2.2.1)), (i6 (y1_4_.2.2.2.1)), (i6 (y1_4_.2.2.2.2.1)), (i6 (y1_4_.2.2.2.2.2.1)), (nlV (y1_4_.2.2.2.2.2.2.1)), (Value.int .u64 (y1_4_.2.2.2.2.2.2.2))])) <|
ww (p := rdT (layT (rows rw_iiiiiiLu x1_0)) 8 ((x1_4).toNat * 8) = some [(i6 (y1_4_.1)), (i6 (y1_4_.2.1)), (i6 (y1_4_.2.2.1)), (i6 (y1_4_.2.2.2.1)), (i6 (y1_4_.2.2.2.2.1)), (i6 (y1_4_.2.2.2.2.2.1)), (nlV (y1_4_.2.2.2.2.2.2.1)), (Value.int .u64 (y1_4_.2.2.2.2.2.2.2))]) (rows_rdpN rwf_iiiiiiLu (0, 0, 0, 0, 0, 0, nl0, 0) (hr := hy1_4) (i := (x1_4).toNat) (j := 0) ((x1_4).toNat * 8) rfl (hy1_3) (by decide) rfl) <|
zz 16 (xk14 1 U8 hy1_5) <|
yy 17 (.ld (Value.agg #[(i6 (y1_7_.1)), (i6 (y1_7_.2.1)), (i6 (y1_7_.2.2.1)), (i6 (y1_7_.2.2.2.1)), (i6 (y1_7_.2.2.2.2.1)), (i6 (y1_7_.2.2.2.2.2.1)), (nlV (y1_7_.2.2.2.2.2.2.1)), (Value.int .u64 (y1_7_.2.2.2.2.2.2.2))])) <|
ww (p := rdT (layT (rows rw_iiiiiiLu x1_1)) 8 ((x1_4).toNat * 8) = some [(i6 (y1_7_.1)), (i6 (y1_7_.2.1)), (i6 (y1_7_.2.2.1)), (i6 (y1_7_.2.2.2.1)), (i6 (y1_7_.2.2.2.2.1)), (i6 (y1_7_.2.2.2.2.2.1)), (nlV (y1_7_.2.2.2.2.2.2.1)), (Value.int .u64 (y1_7_.2.2.2.2.2.2.2))]) (rows_rdpN rwf_iiiiiiLu (0, 0, 0, 0, 0, 0, nl0, 0) (hr := hy1_7) (i := (x1_4).toNat) (j := 0) ((x1_4).toNat * 8) rfl (hy1_6) (by decide) rfl) <|
zz 28 (xnF hy1_8) <|
zz 34 (xnF hy1_9) <|
zz 41 (xnF hy1_10) <|
zz 48 (xnT hy1_11) <|
ww (rows_flat rwf_iiiiiiLu x1_0 41) <|
ww (rows_flat rwf_iiiiiiLu x1_1 41) <|
ee) (by kernel_rfl)
theorem q_RSameq1_1_7 (n : Nat) {rnd : Option Nat} (x1_0 x1_1 : List R8) (x1_2 x1_3 : Nat) (x1_4 : Int) (hy1_1 : x1_4 < ((x1_2 : Nat) : Int)) (hy1_2 : 0 ≤ x1_4 ∧ x1_4 < ((x1_2 : Nat) : Int)) (hy1_3 : (x1_4).toNat < (x1_0).length) (y1_4_ : R8) (hy1_4 : (some ((x1_0).getD (x1_4).toNat (0, 0, 0, 0, 0, 0, nl0, 0))) = some y1_4_) (hy1_5 : 0 ≤ x1_4 ∧ x1_4 < ((x1_3 : Nat) : Int)) (hy1_6 : (x1_4).toNat < (x1_1).length) (y1_7_ : R8) (hy1_7 : (some ((x1_1).getD (x1_4).toNat (0, 0, 0, 0, 0, 0, nl0, 0))) = some y1_7_) (hy1_8 : (y1_4_.1) = (y1_7_.1)) (hy1_9 : (y1_4_.2.1) = (y1_7_.2.1)) (hy1_10 : ¬ ((y1_4_.2.2.1) = (y1_7_.2.2.1))) : Q_RSameq1_1 rnd x1_0 x1_1 x1_2 x1_3 x1_4 (X_RSameq1_1 x1_0 x1_1 x1_2 x1_3 (.inl ())) :=
 runC2 hm (L := lT []) ⟨[4], [(0, 0, true), (1, 1, true)], 2, 2, [], false, []⟩ (zz 5 (xdT hy1_1) <|
zz 12 (xk14 0 U8 hy1_2) <|
yy 13 (.ld (Value.agg #[(i6 (y1_4_.1)), (i6 (y1_4_.2.1)), (i6 (y1_4_.2.2.1)), (i6 (y1_4_.2.2.2.1)), (i6 (y1_4_.2.2.2.2.1)), (i6 (y1_4_.2.2.2.2.2.1)), (nlV (y1_4_.2.2.2.2.2.2.1)), (Value.int .u64 (y1_4_.2.2.2.2.2.2.2))])) <|
ww (p := rdT (layT (rows rw_iiiiiiLu x1_0)) 8 ((x1_4).toNat * 8) = some [(i6 (y1_4_.1)), (i6 (y1_4_.2.1)), (i6 (y1_4_.2.2.1)), (i6 (y1_4_.2.2.2.1)), (i6 (y1_4_.2.2.2.2.1)), (i6 (y1_4_.2.2.2.2.2.1)), (nlV (y1_4_.2.2.2.2.2.2.1)), (Value.int .u64 (y1_4_.2.2.2.2.2.2.2))]) (rows_rdpN rwf_iiiiiiLu (0, 0, 0, 0, 0, 0, nl0, 0) (hr := hy1_4) (i := (x1_4).toNat) (j := 0) ((x1_4).toNat * 8) rfl (hy1_3) (by decide) rfl) <|
zz 16 (xk14 1 U8 hy1_5) <|
yy 17 (.ld (Value.agg #[(i6 (y1_7_.1)), (i6 (y1_7_.2.1)), (i6 (y1_7_.2.2.1)), (i6 (y1_7_.2.2.2.1)), (i6 (y1_7_.2.2.2.2.1)), (i6 (y1_7_.2.2.2.2.2.1)), (nlV (y1_7_.2.2.2.2.2.2.1)), (Value.int .u64 (y1_7_.2.2.2.2.2.2.2))])) <|
ww (p := rdT (layT (rows rw_iiiiiiLu x1_1)) 8 ((x1_4).toNat * 8) = some [(i6 (y1_7_.1)), (i6 (y1_7_.2.1)), (i6 (y1_7_.2.2.1)), (i6 (y1_7_.2.2.2.1)), (i6 (y1_7_.2.2.2.2.1)), (i6 (y1_7_.2.2.2.2.2.1)), (nlV (y1_7_.2.2.2.2.2.2.1)), (Value.int .u64 (y1_7_.2.2.2.2.2.2.2))]) (rows_rdpN rwf_iiiiiiLu (0, 0, 0, 0, 0, 0, nl0, 0) (hr := hy1_7) (i := (x1_4).toNat) (j := 0) ((x1_4).toNat * 8) rfl (hy1_6) (by decide) rfl) <|
zz 28 (xnF hy1_8) <|
zz 34 (xnF hy1_9) <|
zz 41 (xnT hy1_10) <|
ww (rows_flat rwf_iiiiiiLu x1_0 41) <|
ww (rows_flat rwf_iiiiiiLu x1_1 41) <|
ee) (by kernel_rfl)
theorem q_RSameq1_1_8 (n : Nat) {rnd : Option Nat} (x1_0 x1_1 : List R8) (x1_2 x1_3 : Nat) (x1_4 : Int) (hy1_1 : x1_4 < ((x1_2 : Nat) : Int)) (hy1_2 : 0 ≤ x1_4 ∧ x1_4 < ((x1_2 : Nat) : Int)) (hy1_3 : (x1_4).toNat < (x1_0).length) (y1_4_ : R8) (hy1_4 : (some ((x1_0).getD (x1_4).toNat (0, 0, 0, 0, 0, 0, nl0, 0))) = some y1_4_) (hy1_5 : 0 ≤ x1_4 ∧ x1_4 < ((x1_3 : Nat) : Int)) (hy1_6 : (x1_4).toNat < (x1_1).length) (y1_7_ : R8) (hy1_7 : (some ((x1_1).getD (x1_4).toNat (0, 0, 0, 0, 0, 0, nl0, 0))) = some y1_7_) (hy1_8 : (y1_4_.1) = (y1_7_.1)) (hy1_9 : ¬ ((y1_4_.2.1) = (y1_7_.2.1))) : Q_RSameq1_1 rnd x1_0 x1_1 x1_2 x1_3 x1_4 (X_RSameq1_1 x1_0 x1_1 x1_2 x1_3 (.inl ())) :=
 runC2 hm (L := lT []) ⟨[4], [(0, 0, true), (1, 1, true)], 2, 2, [], false, []⟩ (zz 5 (xdT hy1_1) <|
zz 12 (xk14 0 U8 hy1_2) <|
yy 13 (.ld (Value.agg #[(i6 (y1_4_.1)), (i6 (y1_4_.2.1)), (i6 (y1_4_.2.2.1)), (i6 (y1_4_.2.2.2.1)), (i6 (y1_4_.2.2.2.2.1)), (i6 (y1_4_.2.2.2.2.2.1)), (nlV (y1_4_.2.2.2.2.2.2.1)), (Value.int .u64 (y1_4_.2.2.2.2.2.2.2))])) <|
ww (p := rdT (layT (rows rw_iiiiiiLu x1_0)) 8 ((x1_4).toNat * 8) = some [(i6 (y1_4_.1)), (i6 (y1_4_.2.1)), (i6 (y1_4_.2.2.1)), (i6 (y1_4_.2.2.2.1)), (i6 (y1_4_.2.2.2.2.1)), (i6 (y1_4_.2.2.2.2.2.1)), (nlV (y1_4_.2.2.2.2.2.2.1)), (Value.int .u64 (y1_4_.2.2.2.2.2.2.2))]) (rows_rdpN rwf_iiiiiiLu (0, 0, 0, 0, 0, 0, nl0, 0) (hr := hy1_4) (i := (x1_4).toNat) (j := 0) ((x1_4).toNat * 8) rfl (hy1_3) (by decide) rfl) <|
zz 16 (xk14 1 U8 hy1_5) <|
yy 17 (.ld (Value.agg #[(i6 (y1_7_.1)), (i6 (y1_7_.2.1)), (i6 (y1_7_.2.2.1)), (i6 (y1_7_.2.2.2.1)), (i6 (y1_7_.2.2.2.2.1)), (i6 (y1_7_.2.2.2.2.2.1)), (nlV (y1_7_.2.2.2.2.2.2.1)), (Value.int .u64 (y1_7_.2.2.2.2.2.2.2))])) <|
ww (p := rdT (layT (rows rw_iiiiiiLu x1_1)) 8 ((x1_4).toNat * 8) = some [(i6 (y1_7_.1)), (i6 (y1_7_.2.1)), (i6 (y1_7_.2.2.1)), (i6 (y1_7_.2.2.2.1)), (i6 (y1_7_.2.2.2.2.1)), (i6 (y1_7_.2.2.2.2.2.1)), (nlV (y1_7_.2.2.2.2.2.2.1)), (Value.int .u64 (y1_7_.2.2.2.2.2.2.2))]) (rows_rdpN rwf_iiiiiiLu (0, 0, 0, 0, 0, 0, nl0, 0) (hr := hy1_7) (i := (x1_4).toNat) (j := 0) ((x1_4).toNat * 8) rfl (hy1_6) (by decide) rfl) <|
zz 28 (xnF hy1_8) <|
zz 34 (xnT hy1_9) <|
ww (rows_flat rwf_iiiiiiLu x1_0 41) <|
ww (rows_flat rwf_iiiiiiLu x1_1 41) <|
ee) (by kernel_rfl)
theorem q_RSameq1_1_9 (n : Nat) {rnd : Option Nat} (x1_0 x1_1 : List R8) (x1_2 x1_3 : Nat) (x1_4 : Int) (hy1_1 : x1_4 < ((x1_2 : Nat) : Int)) (hy1_2 : 0 ≤ x1_4 ∧ x1_4 < ((x1_2 : Nat) : Int)) (hy1_3 : (x1_4).toNat < (x1_0).length) (y1_4_ : R8) (hy1_4 : (some ((x1_0).getD (x1_4).toNat (0, 0, 0, 0, 0, 0, nl0, 0))) = some y1_4_) (hy1_5 : 0 ≤ x1_4 ∧ x1_4 < ((x1_3 : Nat) : Int)) (hy1_6 : (x1_4).toNat < (x1_1).length) (y1_7_ : R8) (hy1_7 : (some ((x1_1).getD (x1_4).toNat (0, 0, 0, 0, 0, 0, nl0, 0))) = some y1_7_) (hy1_8 : ¬ ((y1_4_.1) = (y1_7_.1))) : Q_RSameq1_1 rnd x1_0 x1_1 x1_2 x1_3 x1_4 (X_RSameq1_1 x1_0 x1_1 x1_2 x1_3 (.inl ())) :=
 runC2 hm (L := lT []) ⟨[4], [(0, 0, true), (1, 1, true)], 2, 2, [], false, []⟩ (zz 5 (xdT hy1_1) <|
zz 12 (xk14 0 U8 hy1_2) <|
yy 13 (.ld (Value.agg #[(i6 (y1_4_.1)), (i6 (y1_4_.2.1)), (i6 (y1_4_.2.2.1)), (i6 (y1_4_.2.2.2.1)), (i6 (y1_4_.2.2.2.2.1)), (i6 (y1_4_.2.2.2.2.2.1)), (nlV (y1_4_.2.2.2.2.2.2.1)), (Value.int .u64 (y1_4_.2.2.2.2.2.2.2))])) <|
ww (p := rdT (layT (rows rw_iiiiiiLu x1_0)) 8 ((x1_4).toNat * 8) = some [(i6 (y1_4_.1)), (i6 (y1_4_.2.1)), (i6 (y1_4_.2.2.1)), (i6 (y1_4_.2.2.2.1)), (i6 (y1_4_.2.2.2.2.1)), (i6 (y1_4_.2.2.2.2.2.1)), (nlV (y1_4_.2.2.2.2.2.2.1)), (Value.int .u64 (y1_4_.2.2.2.2.2.2.2))]) (rows_rdpN rwf_iiiiiiLu (0, 0, 0, 0, 0, 0, nl0, 0) (hr := hy1_4) (i := (x1_4).toNat) (j := 0) ((x1_4).toNat * 8) rfl (hy1_3) (by decide) rfl) <|
zz 16 (xk14 1 U8 hy1_5) <|
yy 17 (.ld (Value.agg #[(i6 (y1_7_.1)), (i6 (y1_7_.2.1)), (i6 (y1_7_.2.2.1)), (i6 (y1_7_.2.2.2.1)), (i6 (y1_7_.2.2.2.2.1)), (i6 (y1_7_.2.2.2.2.2.1)), (nlV (y1_7_.2.2.2.2.2.2.1)), (Value.int .u64 (y1_7_.2.2.2.2.2.2.2))])) <|
ww (p := rdT (layT (rows rw_iiiiiiLu x1_1)) 8 ((x1_4).toNat * 8) = some [(i6 (y1_7_.1)), (i6 (y1_7_.2.1)), (i6 (y1_7_.2.2.1)), (i6 (y1_7_.2.2.2.1)), (i6 (y1_7_.2.2.2.2.1)), (i6 (y1_7_.2.2.2.2.2.1)), (nlV (y1_7_.2.2.2.2.2.2.1)), (Value.int .u64 (y1_7_.2.2.2.2.2.2.2))]) (rows_rdpN rwf_iiiiiiLu (0, 0, 0, 0, 0, 0, nl0, 0) (hr := hy1_7) (i := (x1_4).toNat) (j := 0) ((x1_4).toNat * 8) rfl (hy1_6) (by decide) rfl) <|
zz 28 (xnT hy1_8) <|
ww (rows_flat rwf_iiiiiiLu x1_0 41) <|
ww (rows_flat rwf_iiiiiiLu x1_1 41) <|
ee) (by kernel_rfl)
theorem q_RSameq1_1_10 (n : Nat) {rnd : Option Nat} (x1_0 x1_1 : List R8) (x1_2 x1_3 : Nat) (x1_4 : Int) (hy1_1 : ¬ (x1_4 < ((x1_2 : Nat) : Int))) : Q_RSameq1_1 rnd x1_0 x1_1 x1_2 x1_3 x1_4 (X_RSameq1_1 x1_0 x1_1 x1_2 x1_3 (.inr ())) :=
 runC2 hm (L := lT []) ⟨[], [(0, 0, true), (1, 1, true)], 2, 2, [], false, []⟩ (zz 5 (xdF hy1_1) <|
ww (rows_flat rwf_iiiiiiLu x1_0 41) <|
ww (rows_flat rwf_iiiiiiLu x1_1 41) <|
ee) (by kernel_rfl)
theorem m_RSameq1_1_ok (n : Nat) {rnd : Option Nat} (x1_0 : List R8) (x1_1 : List R8) (x1_2 : Nat) (x1_3 : Nat) (st : Int) (r : (Unit) ⊕ (Unit)) (h : m_RSameq1_1 n x1_0 x1_1 x1_2 x1_3 st = some r) : CG P rnd (fnN P 13) 2 (codeOf P 13 [false, true, false, true, true]) (S_RSameq1_1 x1_0 x1_1 x1_2 x1_3 st) (X_RSameq1_1 x1_0 x1_1 x1_2 x1_3 r) :=
 CG.iter (b := codeOf P 13 [false, false, true, false, true, true]) (by kernel_rfl) (body := B_RSameq1_1 n x1_0 x1_1 x1_2 x1_3) (S := S_RSameq1_1 x1_0 x1_1 x1_2 x1_3) (X := X_RSameq1_1 x1_0 x1_1 x1_2 x1_3)
  (fun x1_4 s' h => by
  unfold B_RSameq1_1 at h
  dsimp only at h
  by_cases hy1_1 : x1_4 < ((x1_2 : Nat) : Int)
  ·rw [if_pos hy1_1] at h
   by_cases hy1_2 : 0 ≤ x1_4 ∧ x1_4 < ((x1_2 : Nat) : Int)
   ·rw [if_pos hy1_2] at h
    by_cases hy1_3 : (x1_4).toNat < (x1_0).length
    ·rw [if_pos hy1_3] at h
     obtain ⟨y1_4_, hy1_4, h⟩ := Option.bind_eq_some_iff.1 h
     by_cases hy1_5 : 0 ≤ x1_4 ∧ x1_4 < ((x1_3 : Nat) : Int)
     ·rw [if_pos hy1_5] at h
      by_cases hy1_6 : (x1_4).toNat < (x1_1).length
      ·rw [if_pos hy1_6] at h
       obtain ⟨y1_7_, hy1_7, h⟩ := Option.bind_eq_some_iff.1 h
       by_cases hy1_8 : (y1_4_.1) = (y1_7_.1)
       ·rw [if_pos hy1_8] at h
        by_cases hy1_9 : (y1_4_.2.1) = (y1_7_.2.1)
        ·rw [if_pos hy1_9] at h
         by_cases hy1_10 : (y1_4_.2.2.1) = (y1_7_.2.2.1)
         ·rw [if_pos hy1_10] at h
          by_cases hy1_11 : (y1_4_.2.2.2.1) = (y1_7_.2.2.2.1)
          ·rw [if_pos hy1_11] at h
           by_cases hy1_12 : (y1_4_.2.2.2.2.1) = (y1_7_.2.2.2.2.1)
           ·rw [if_pos hy1_12] at h
            by_cases hy1_13 : (y1_4_.2.2.2.2.2.1) = (y1_7_.2.2.2.2.2.1)
            ·rw [if_pos hy1_13] at h
             by_cases hy1_14 : (y1_4_.2.2.2.2.2.2.2) = (y1_7_.2.2.2.2.2.2.2)
             ·rw [if_pos hy1_14] at h
              by_cases hy1_15 : ((((y1_4_.2.2.2.2.2.2.1)).l.length : Nat) : Int) = ((((y1_7_.2.2.2.2.2.2.1)).l.length : Nat) : Int)
              ·rw [if_pos hy1_15] at h
               rcases hy1_16 : m_RSameq1_2 n x1_0 x1_1 x1_2 x1_3 x1_4 (y1_4_.1) (y1_4_.2.1) (y1_4_.2.2.1) (y1_4_.2.2.2.1) (y1_4_.2.2.2.2.1) (y1_4_.2.2.2.2.2.1) (y1_4_.2.2.2.2.2.2.1) (y1_4_.2.2.2.2.2.2.2) (y1_7_.1) (y1_7_.2.1) (y1_7_.2.2.1) (y1_7_.2.2.2.1) (y1_7_.2.2.2.2.1) (y1_7_.2.2.2.2.2.1) (y1_7_.2.2.2.2.2.2.1) (y1_7_.2.2.2.2.2.2.2) 0 with _ | (⟨⟩ | ⟨⟩)
               ·rw [hy1_16] at h; cases h
               ·rw [hy1_16] at h
                dsimp only at h
                cases h
               ·rw [hy1_16] at h
                dsimp only at h
                obtain rfl := Sum.inl.inj (oI h); exact q_RSameq1_1_1 n x1_0 x1_1 x1_2 x1_3 x1_4 hy1_1 hy1_2 hy1_3 y1_4_ hy1_4 hy1_5 hy1_6 y1_7_ hy1_7 hy1_8 hy1_9 hy1_10 hy1_11 hy1_12 hy1_13 hy1_14 hy1_15 hy1_16
              ·rw [if_neg hy1_15] at h
               cases h
             ·rw [if_neg hy1_14] at h
              cases h
            ·rw [if_neg hy1_13] at h
             cases h
           ·rw [if_neg hy1_12] at h
            cases h
          ·rw [if_neg hy1_11] at h
           cases h
         ·rw [if_neg hy1_10] at h
          cases h
        ·rw [if_neg hy1_9] at h
         cases h
       ·rw [if_neg hy1_8] at h
        cases h
      ·rw [if_neg hy1_6] at h; cases h
     ·rw [if_neg hy1_5] at h; cases h
    ·rw [if_neg hy1_3] at h; cases h
   ·rw [if_neg hy1_2] at h; cases h
  ·rw [if_neg hy1_1] at h
   cases h)
  (fun x1_4 r h => by
  unfold B_RSameq1_1 at h
  dsimp only at h
  by_cases hy1_1 : x1_4 < ((x1_2 : Nat) : Int)
  ·rw [if_pos hy1_1] at h
   by_cases hy1_2 : 0 ≤ x1_4 ∧ x1_4 < ((x1_2 : Nat) : Int)
   ·rw [if_pos hy1_2] at h
    by_cases hy1_3 : (x1_4).toNat < (x1_0).length
    ·rw [if_pos hy1_3] at h
     obtain ⟨y1_4_, hy1_4, h⟩ := Option.bind_eq_some_iff.1 h
     by_cases hy1_5 : 0 ≤ x1_4 ∧ x1_4 < ((x1_3 : Nat) : Int)
     ·rw [if_pos hy1_5] at h
      by_cases hy1_6 : (x1_4).toNat < (x1_1).length
      ·rw [if_pos hy1_6] at h
       obtain ⟨y1_7_, hy1_7, h⟩ := Option.bind_eq_some_iff.1 h
       by_cases hy1_8 : (y1_4_.1) = (y1_7_.1)
       ·rw [if_pos hy1_8] at h
        by_cases hy1_9 : (y1_4_.2.1) = (y1_7_.2.1)
        ·rw [if_pos hy1_9] at h
         by_cases hy1_10 : (y1_4_.2.2.1) = (y1_7_.2.2.1)
         ·rw [if_pos hy1_10] at h
          by_cases hy1_11 : (y1_4_.2.2.2.1) = (y1_7_.2.2.2.1)
          ·rw [if_pos hy1_11] at h
           by_cases hy1_12 : (y1_4_.2.2.2.2.1) = (y1_7_.2.2.2.2.1)
           ·rw [if_pos hy1_12] at h
            by_cases hy1_13 : (y1_4_.2.2.2.2.2.1) = (y1_7_.2.2.2.2.2.1)
            ·rw [if_pos hy1_13] at h
             by_cases hy1_14 : (y1_4_.2.2.2.2.2.2.2) = (y1_7_.2.2.2.2.2.2.2)
             ·rw [if_pos hy1_14] at h
              by_cases hy1_15 : ((((y1_4_.2.2.2.2.2.2.1)).l.length : Nat) : Int) = ((((y1_7_.2.2.2.2.2.2.1)).l.length : Nat) : Int)
              ·rw [if_pos hy1_15] at h
               rcases hy1_16 : m_RSameq1_2 n x1_0 x1_1 x1_2 x1_3 x1_4 (y1_4_.1) (y1_4_.2.1) (y1_4_.2.2.1) (y1_4_.2.2.2.1) (y1_4_.2.2.2.2.1) (y1_4_.2.2.2.2.2.1) (y1_4_.2.2.2.2.2.2.1) (y1_4_.2.2.2.2.2.2.2) (y1_7_.1) (y1_7_.2.1) (y1_7_.2.2.1) (y1_7_.2.2.2.1) (y1_7_.2.2.2.2.1) (y1_7_.2.2.2.2.2.1) (y1_7_.2.2.2.2.2.2.1) (y1_7_.2.2.2.2.2.2.2) 0 with _ | (⟨⟩ | ⟨⟩)
               ·rw [hy1_16] at h; cases h
               ·rw [hy1_16] at h
                dsimp only at h
                obtain rfl := Sum.inr.inj (oI h); exact q_RSameq1_1_0 n x1_0 x1_1 x1_2 x1_3 x1_4 hy1_1 hy1_2 hy1_3 y1_4_ hy1_4 hy1_5 hy1_6 y1_7_ hy1_7 hy1_8 hy1_9 hy1_10 hy1_11 hy1_12 hy1_13 hy1_14 hy1_15 hy1_16
               ·rw [hy1_16] at h
                dsimp only at h
                cases h
              ·rw [if_neg hy1_15] at h
               obtain rfl := Sum.inr.inj (oI h); exact q_RSameq1_1_2 n x1_0 x1_1 x1_2 x1_3 x1_4 hy1_1 hy1_2 hy1_3 y1_4_ hy1_4 hy1_5 hy1_6 y1_7_ hy1_7 hy1_8 hy1_9 hy1_10 hy1_11 hy1_12 hy1_13 hy1_14 hy1_15
             ·rw [if_neg hy1_14] at h
              obtain rfl := Sum.inr.inj (oI h); exact q_RSameq1_1_3 n x1_0 x1_1 x1_2 x1_3 x1_4 hy1_1 hy1_2 hy1_3 y1_4_ hy1_4 hy1_5 hy1_6 y1_7_ hy1_7 hy1_8 hy1_9 hy1_10 hy1_11 hy1_12 hy1_13 hy1_14
            ·rw [if_neg hy1_13] at h
             obtain rfl := Sum.inr.inj (oI h); exact q_RSameq1_1_4 n x1_0 x1_1 x1_2 x1_3 x1_4 hy1_1 hy1_2 hy1_3 y1_4_ hy1_4 hy1_5 hy1_6 y1_7_ hy1_7 hy1_8 hy1_9 hy1_10 hy1_11 hy1_12 hy1_13
           ·rw [if_neg hy1_12] at h
            obtain rfl := Sum.inr.inj (oI h); exact q_RSameq1_1_5 n x1_0 x1_1 x1_2 x1_3 x1_4 hy1_1 hy1_2 hy1_3 y1_4_ hy1_4 hy1_5 hy1_6 y1_7_ hy1_7 hy1_8 hy1_9 hy1_10 hy1_11 hy1_12
          ·rw [if_neg hy1_11] at h
           obtain rfl := Sum.inr.inj (oI h); exact q_RSameq1_1_6 n x1_0 x1_1 x1_2 x1_3 x1_4 hy1_1 hy1_2 hy1_3 y1_4_ hy1_4 hy1_5 hy1_6 y1_7_ hy1_7 hy1_8 hy1_9 hy1_10 hy1_11
         ·rw [if_neg hy1_10] at h
          obtain rfl := Sum.inr.inj (oI h); exact q_RSameq1_1_7 n x1_0 x1_1 x1_2 x1_3 x1_4 hy1_1 hy1_2 hy1_3 y1_4_ hy1_4 hy1_5 hy1_6 y1_7_ hy1_7 hy1_8 hy1_9 hy1_10
        ·rw [if_neg hy1_9] at h
         obtain rfl := Sum.inr.inj (oI h); exact q_RSameq1_1_8 n x1_0 x1_1 x1_2 x1_3 x1_4 hy1_1 hy1_2 hy1_3 y1_4_ hy1_4 hy1_5 hy1_6 y1_7_ hy1_7 hy1_8 hy1_9
       ·rw [if_neg hy1_8] at h
        obtain rfl := Sum.inr.inj (oI h); exact q_RSameq1_1_9 n x1_0 x1_1 x1_2 x1_3 x1_4 hy1_1 hy1_2 hy1_3 y1_4_ hy1_4 hy1_5 hy1_6 y1_7_ hy1_7 hy1_8
      ·rw [if_neg hy1_6] at h; cases h
     ·rw [if_neg hy1_5] at h; cases h
    ·rw [if_neg hy1_3] at h; cases h
   ·rw [if_neg hy1_2] at h; cases h
  ·rw [if_neg hy1_1] at h
   obtain rfl := Sum.inr.inj (oI h); exact q_RSameq1_1_10 n x1_0 x1_1 x1_2 x1_3 x1_4 hy1_1)
  (fun r => by intro hx; rcases r with _ | _ <;> cases hx) h
def m_RSameq1 (n : Nat) (a0 : List R8) (a1 : Nat) (a2 : List R8) (a3 : Nat) : Option (Bool) :=
 if ((a1 : Nat) : Int) = ((a3 : Nat) : Int) then
  match m_RSameq1_1 n a0 a2 a1 a3 0 with
  | none => none
  | some (.inl _) =>
   some false
  | some (.inr _) =>
   some true
 else
  some false
theorem p_RSameq1_0 (n : Nat) (a0 : List R8) (a1 : Nat) (a2 : List R8) (a3 : Nat) (hc1 : ((a1 : Nat) : Int) = ((a3 : Nat) : Int)) (hc2 : m_RSameq1_1 n a0 a2 a1 a3 0 = some (.inl ())) : G_RSameq1 a0 a1 a2 a3 false :=
 runF2 hm (L := lT [(14, ⟨⟨[0, 1, 5], [(0, 0, true), (1, 1, true)], 2, 2, [], false, []⟩, (X_RSameq1_1 a0 a2 a1 a3 (.inl ())).1, (X_RSameq1_1 a0 a2 a1 a3 (.inl ())).2⟩)]) ⟨[4], [], 2, 2, [], false, []⟩ (zz 8 (xnF hc1) <|
ww (p := U_RSameq1_1 none a0 a2 a1 a3 0 (.inl ())) (m_RSameq1_1_ok n a0 a2 a1 a3 0 (.inl ()) hc2) <|
ww (rows_flat rwf_iiiiiiLu a0 41) <|
ww (rows_flat rwf_iiiiiiLu a2 41) <|
ee) (by kernel_rfl)
theorem p_RSameq1_1 (n : Nat) (a0 : List R8) (a1 : Nat) (a2 : List R8) (a3 : Nat) (hc1 : ((a1 : Nat) : Int) = ((a3 : Nat) : Int)) (hc2 : m_RSameq1_1 n a0 a2 a1 a3 0 = some (.inr ())) : G_RSameq1 a0 a1 a2 a3 true :=
 runF2 hm (L := lT [(14, ⟨⟨[0, 1, 5], [(0, 0, true), (1, 1, true)], 2, 2, [], false, []⟩, (X_RSameq1_1 a0 a2 a1 a3 (.inr ())).1, (X_RSameq1_1 a0 a2 a1 a3 (.inr ())).2⟩)]) ⟨[4], [], 2, 2, [], false, []⟩ (zz 8 (xnF hc1) <|
ww (p := U_RSameq1_1 none a0 a2 a1 a3 0 (.inr ())) (m_RSameq1_1_ok n a0 a2 a1 a3 0 (.inr ()) hc2) <|
ww (rows_flat rwf_iiiiiiLu a0 41) <|
ww (rows_flat rwf_iiiiiiLu a2 41) <|
ee) (by kernel_rfl)
theorem p_RSameq1_2 (n : Nat) (a0 : List R8) (a1 : Nat) (a2 : List R8) (a3 : Nat) (hc1 : ¬ (((a1 : Nat) : Int) = ((a3 : Nat) : Int))) : G_RSameq1 a0 a1 a2 a3 false :=
 runF2 hm (L := lT []) ⟨[4], [], 2, 2, [], false, []⟩ (zz 8 (xnT hc1) <|
ee) (by kernel_rfl)
theorem m_RSameq1_ok (n : Nat) (a0 : List R8) (a1 : Nat) (a2 : List R8) (a3 : Nat) (r : Bool) (h : m_RSameq1 n a0 a1 a2 a3 = some r) : Gv P (.func 13) (A_RSameq1 a0 a1 a2 a3) (H_RSameq1 a0 a1 a2 a3) (V_RSameq1 a0 a1 a2 a3 r) (R_RSameq1 a0 a1 a2 a3 r) := by
 unfold m_RSameq1 at h
 by_cases hc1 : ((a1 : Nat) : Int) = ((a3 : Nat) : Int)
 ·rw [if_pos hc1] at h
  rcases hc2 : m_RSameq1_1 n a0 a2 a1 a3 0 with _ | (⟨⟩ | ⟨⟩)
  ·rw [hc2] at h; cases h
  ·rw [hc2] at h
   dsimp only at h
   obtain rfl := oI h; exact p_RSameq1_0 n a0 a1 a2 a3 hc1 hc2
  ·rw [hc2] at h
   dsimp only at h
   obtain rfl := oI h; exact p_RSameq1_1 n a0 a1 a2 a3 hc1 hc2
 ·rw [if_neg hc1] at h
  obtain rfl := oI h; exact p_RSameq1_2 n a0 a1 a2 a3 hc1

noncomputable def A_VSpliceMoves (g1 : Int) (g2 : Int) : List Value := [(sW 0 0 (Args.A).length Args.cA), (i6 g1), (i6 g2)]
noncomputable def H_VSpliceMoves (g1 : Int) (g2 : Int) : AH := ⟨sB [], 0, 0⟩
noncomputable def V_VSpliceMoves (g1 : Int) (g2 : Int) (r : Bool) : Value := match r with
 | o0 => (bO o0)
noncomputable def R_VSpliceMoves (g1 : Int) (g2 : Int) (r : Bool) : AH := match r with
 | o0 => ⟨sB [], 0, 0⟩
noncomputable abbrev G_VSpliceMoves (g1 : Int) (g2 : Int) (r : Bool) : Prop := Gv P (.func 4) (A_VSpliceMoves g1 g2) (H_VSpliceMoves g1 g2) (V_VSpliceMoves g1 g2 r) (R_VSpliceMoves g1 g2 r)
noncomputable abbrev C_VSpliceMoves (g1 : Int) (g2 : Int) (r : Bool) (ins outs : BL) : CallA := ⟨0, ins, V_VSpliceMoves g1 g2 r, R_VSpliceMoves g1 g2 r, outs⟩
noncomputable def S_VSpliceMoves_1 (x1_0 : Int) (x1_1 : Int) (x1_2 : List R8) (x1_3 : Nat) (x1_4 : List R8) (x1_5 : Nat) (x1_6 : Int) (x1_7 : Int) (st : Int) : XSt := match st with
 | x1_8 => (sT 150 [(0, (sW 0 0 (Args.A).length Args.cA)), (1, (i6 x1_0)), (2, (i6 x1_1)), (7, (sN 0 0 x1_3 x1_3)), (8, (sN 1 0 x1_5 x1_5)), (9, (Value.int .u64 x1_6)), (10, (Value.int .u64 x1_7)), (11, (i6 x1_8))], [], ⟨sB [(0, (some (.cells (layT (rows rw_iiiiiiLu x1_2)) 41))), (1, (some (.cells (layT (rows rw_iiiiiiLu x1_4)) 41)))], 2, 0⟩)
noncomputable def X_VSpliceMoves_1 (x1_0 : Int) (x1_1 : Int) (x1_2 : List R8) (x1_3 : Nat) (x1_4 : List R8) (x1_5 : Nat) (x1_6 : Int) (x1_7 : Int) (r : Unit) : Ex × XSt := match r with
 | _ => (.exit 0, (sT 150 [(0, (sW 0 0 (Args.A).length Args.cA)), (7, (sN 0 0 x1_3 x1_3))], [], ⟨sB [(0, (some (.cells (layT (rows rw_iiiiiiLu x1_2)) 41)))], 1, 0⟩))
noncomputable abbrev Q_VSpliceMoves_1 (rnd : Option Nat) (x1_0 : Int) (x1_1 : Int) (x1_2 : List R8) (x1_3 : Nat) (x1_4 : List R8) (x1_5 : Nat) (x1_6 : Int) (x1_7 : Int) (st : Int) (c : Ex × XSt) : Prop := CG P rnd (fnN P 4) 0 (codeOf P 4 [false, false, true, false, true, true, true, true, true, true, true]) (S_VSpliceMoves_1 x1_0 x1_1 x1_2 x1_3 x1_4 x1_5 x1_6 x1_7 st) c
noncomputable abbrev U_VSpliceMoves_1 (rd : Option Nat) (x1_0 : Int) (x1_1 : Int) (x1_2 : List R8) (x1_3 : Nat) (x1_4 : List R8) (x1_5 : Nat) (x1_6 : Int) (x1_7 : Int) (st : Int) (r : Unit) : Prop := CG P rd (fnN P 4) 0 (codeOf P 4 [false, true, false, true, true, true, true, true, true, true]) (S_VSpliceMoves_1 x1_0 x1_1 x1_2 x1_3 x1_4 x1_5 x1_6 x1_7 st) (X_VSpliceMoves_1 x1_0 x1_1 x1_2 x1_3 x1_4 x1_5 x1_6 x1_7 r)
def B_VSpliceMoves_1 (n : Nat) (x1_0 : Int) (x1_1 : Int) (x1_2 : List R8) (x1_3 : Nat) (x1_4 : List R8) (x1_5 : Nat) (x1_6 : Int) (x1_7 : Int) (st : Int) : Option ((Int) ⊕ (Unit)) := match st with
 | x1_8 =>
  if x1_8 < (((Args.A).length : Nat) : Int) then
   if 0 ≤ x1_8 ∧ x1_8 < ((x1_5 : Nat) : Int) then
    if (x1_8).toNat < (x1_4).length then
     ((some ((x1_4).getD (x1_8).toNat (0, 0, 0, 0, 0, 0, nl0, 0)))).bind fun y1_4_ =>
     if 0 ≤ x1_8 ∧ x1_8 < (((Args.A).length : Nat) : Int) then
      ((some ((Args.A).getD (x1_8).toNat (0, 0, 0, 0, 0, 0, nl0, 0)))).bind fun y1_6_ =>
      if (y1_4_.2.2.2.2.2.2.2) = (bAndNot .u64 (y1_6_.2.2.2.2.2.2.2) x1_6) then
       if x1_0 = x1_1 then
        if 0 ≤ x1_8 ∧ x1_8 < ((x1_3 : Nat) : Int) then
         if (x1_8).toNat < (x1_2).length then
          ((some ((x1_2).getD (x1_8).toNat (0, 0, 0, 0, 0, 0, nl0, 0)))).bind fun y1_11_ =>
          if (y1_11_.2.2.2.2.2.2.2) = (y1_6_.2.2.2.2.2.2.2) then
           some (.inl (w64 (x1_8 + (1 : Int))))
          else
           none
         else none
        else none
       else
        if 0 ≤ x1_8 ∧ x1_8 < ((x1_3 : Nat) : Int) then
         if (x1_8).toNat < (x1_2).length then
          ((some ((x1_2).getD (x1_8).toNat (0, 0, 0, 0, 0, 0, nl0, 0)))).bind fun y1_11_ =>
          if (bAnd .u64 (y1_11_.2.2.2.2.2.2.2) x1_6) = (0 : Int) then
           if (bAnd .u64 (y1_11_.2.2.2.2.2.2.2) x1_7) = (0 : Int) then
            if (bAnd .u64 (y1_6_.2.2.2.2.2.2.2) (bOr .u64 x1_6 x1_7)) = (0 : Int) then
             if (bAndNot .u64 (y1_11_.2.2.2.2.2.2.2) (bOr .u64 x1_6 x1_7)) = (bAndNot .u64 (y1_6_.2.2.2.2.2.2.2) (bOr .u64 x1_6 x1_7)) then
              some (.inl (w64 (x1_8 + (1 : Int))))
             else
              none
            else
             none
           else
            if (bAnd .u64 (y1_6_.2.2.2.2.2.2.2) (bOr .u64 x1_6 x1_7)) = (0 : Int) then
             none
            else
             if (bAndNot .u64 (y1_11_.2.2.2.2.2.2.2) (bOr .u64 x1_6 x1_7)) = (bAndNot .u64 (y1_6_.2.2.2.2.2.2.2) (bOr .u64 x1_6 x1_7)) then
              some (.inl (w64 (x1_8 + (1 : Int))))
             else
              none
          else
           none
         else none
        else none
      else
       none
     else none
    else none
   else none
  else
   some (.inr ())
def m_VSpliceMoves_1 (n : Nat) (x1_0 : Int) (x1_1 : Int) (x1_2 : List R8) (x1_3 : Nat) (x1_4 : List R8) (x1_5 : Nat) (x1_6 : Int) (x1_7 : Int) (st : Int) : Option (Unit) := iterM (B_VSpliceMoves_1 n x1_0 x1_1 x1_2 x1_3 x1_4 x1_5 x1_6 x1_7) n st
theorem q_VSpliceMoves_1_0 (n : Nat) {rnd : Option Nat} (x1_0 x1_1 : Int) (x1_2 : List R8) (x1_3 : Nat) (x1_4 : List R8) (x1_5 : Nat) (x1_6 x1_7 x1_8 : Int) (hy1_1 : x1_8 < (((Args.A).length : Nat) : Int)) (hy1_2 : 0 ≤ x1_8 ∧ x1_8 < ((x1_5 : Nat) : Int)) (hy1_3 : (x1_8).toNat < (x1_4).length) (y1_4_ : R8) (hy1_4 : (some ((x1_4).getD (x1_8).toNat (0, 0, 0, 0, 0, 0, nl0, 0))) = some y1_4_) (hy1_5 : 0 ≤ x1_8 ∧ x1_8 < (((Args.A).length : Nat) : Int)) (y1_6_ : R8) (hy1_6 : (some ((Args.A).getD (x1_8).toNat (0, 0, 0, 0, 0, 0, nl0, 0))) = some y1_6_) (hy1_7 : (y1_4_.2.2.2.2.2.2.2) = (bAndNot .u64 (y1_6_.2.2.2.2.2.2.2) x1_6)) (hy1_8 : x1_0 = x1_1) (hy1_9 : 0 ≤ x1_8 ∧ x1_8 < ((x1_3 : Nat) : Int)) (hy1_10 : (x1_8).toNat < (x1_2).length) (y1_11_ : R8) (hy1_11 : (some ((x1_2).getD (x1_8).toNat (0, 0, 0, 0, 0, 0, nl0, 0))) = some y1_11_) (hy1_12 : (y1_11_.2.2.2.2.2.2.2) = (y1_6_.2.2.2.2.2.2.2)) : Q_VSpliceMoves_1 rnd x1_0 x1_1 x1_2 x1_3 x1_4 x1_5 x1_6 x1_7 x1_8 (.normal, S_VSpliceMoves_1 x1_0 x1_1 x1_2 x1_3 x1_4 x1_5 x1_6 x1_7 (w64 (x1_8 + (1 : Int)))) :=
 runC2 hm (L := lT []) ⟨[0, 1, 2, 7, 8, 9, 10, 11], [(0, 0, true), (1, 1, true)], 2, 0, [], false, []⟩ (zz 5 (xdT hy1_1) <|
zz 12 (xk14 1 x1_5 hy1_2) <|
zz 14 (ok15 hy1_4 (hy1_3)) <|
zz 17 (xk1 0 Args.cA hy1_5) <|
zz 18 (fk16 ((x1_8).toNat * 8)) <|
zz 19 (lk17 hy1_6 (toNatLt hy1_5)) <|
zz 22 (xnF hy1_7) <|
zz 26 (xnF hy1_8) <|
zz 83 (xeT hy1_8) <|
zz 87 (xk14 0 x1_3 hy1_9) <|
zz 89 (ok15 hy1_11 (hy1_10)) <|
zz 92 (xk1 0 Args.cA hy1_5) <|
zz 93 (fk16 ((x1_8).toNat * 8)) <|
zz 94 (lk17 hy1_6 (toNatLt hy1_5)) <|
zz 95 (xnF hy1_12) <|
ww (rows_flat rwf_iiiiiiLu x1_2 41) <|
ww (rows_flat rwf_iiiiiiLu x1_4 41) <|
ee) (by kernel_rfl)
theorem q_VSpliceMoves_1_1 (n : Nat) {rnd : Option Nat} (x1_0 x1_1 : Int) (x1_2 : List R8) (x1_3 : Nat) (x1_4 : List R8) (x1_5 : Nat) (x1_6 x1_7 x1_8 : Int) (hy1_1 : x1_8 < (((Args.A).length : Nat) : Int)) (hy1_2 : 0 ≤ x1_8 ∧ x1_8 < ((x1_5 : Nat) : Int)) (hy1_3 : (x1_8).toNat < (x1_4).length) (y1_4_ : R8) (hy1_4 : (some ((x1_4).getD (x1_8).toNat (0, 0, 0, 0, 0, 0, nl0, 0))) = some y1_4_) (hy1_5 : 0 ≤ x1_8 ∧ x1_8 < (((Args.A).length : Nat) : Int)) (y1_6_ : R8) (hy1_6 : (some ((Args.A).getD (x1_8).toNat (0, 0, 0, 0, 0, 0, nl0, 0))) = some y1_6_) (hy1_7 : (y1_4_.2.2.2.2.2.2.2) = (bAndNot .u64 (y1_6_.2.2.2.2.2.2.2) x1_6)) (hy1_8 : ¬ (x1_0 = x1_1)) (hy1_9 : 0 ≤ x1_8 ∧ x1_8 < ((x1_3 : Nat) : Int)) (hy1_10 : (x1_8).toNat < (x1_2).length) (y1_11_ : R8) (hy1_11 : (some ((x1_2).getD (x1_8).toNat (0, 0, 0, 0, 0, 0, nl0, 0))) = some y1_11_) (hy1_12 : (bAnd .u64 (y1_11_.2.2.2.2.2.2.2) x1_6) = (0 : Int)) (hy1_13 : (bAnd .u64 (y1_11_.2.2.2.2.2.2.2) x1_7) = (0 : Int)) (hy1_14 : (bAnd .u64 (y1_6_.2.2.2.2.2.2.2) (bOr .u64 x1_6 x1_7)) = (0 : Int)) (hy1_15 : (bAndNot .u64 (y1_11_.2.2.2.2.2.2.2) (bOr .u64 x1_6 x1_7)) = (bAndNot .u64 (y1_6_.2.2.2.2.2.2.2) (bOr .u64 x1_6 x1_7))) : Q_VSpliceMoves_1 rnd x1_0 x1_1 x1_2 x1_3 x1_4 x1_5 x1_6 x1_7 x1_8 (.normal, S_VSpliceMoves_1 x1_0 x1_1 x1_2 x1_3 x1_4 x1_5 x1_6 x1_7 (w64 (x1_8 + (1 : Int)))) :=
 runC2 hm (L := lT []) ⟨[0, 1, 2, 7, 8, 9, 10, 11], [(0, 0, true), (1, 1, true)], 2, 0, [], false, []⟩ (zz 5 (xdT hy1_1) <|
zz 12 (xk14 1 x1_5 hy1_2) <|
zz 14 (ok15 hy1_4 (hy1_3)) <|
zz 17 (xk1 0 Args.cA hy1_5) <|
zz 18 (fk16 ((x1_8).toNat * 8)) <|
zz 19 (lk17 hy1_6 (toNatLt hy1_5)) <|
zz 22 (xnF hy1_7) <|
zz 26 (xnT hy1_8) <|
zz 30 (xk14 0 x1_3 hy1_9) <|
zz 32 (ok15 hy1_11 (hy1_10)) <|
zz 35 (xnF hy1_12) <|
zz 39 (xk14 0 x1_3 hy1_9) <|
zz 41 (ok15 hy1_11 (hy1_10)) <|
zz 44 (xnF hy1_13) <|
zz 47 (xk1 0 Args.cA hy1_5) <|
zz 48 (fk16 ((x1_8).toNat * 8)) <|
zz 49 (lk17 hy1_6 (toNatLt hy1_5)) <|
zz 54 (xnF hy1_14) <|
zz 60 (xk14 0 x1_3 hy1_9) <|
zz 62 (ok15 hy1_11 (hy1_10)) <|
zz 69 (xk1 0 Args.cA hy1_5) <|
zz 70 (fk16 ((x1_8).toNat * 8)) <|
zz 71 (lk17 hy1_6 (toNatLt hy1_5)) <|
zz 76 (xnF hy1_15) <|
zz 83 (xeF hy1_8) <|
ww (rows_flat rwf_iiiiiiLu x1_2 41) <|
ww (rows_flat rwf_iiiiiiLu x1_4 41) <|
ee) (by kernel_rfl)
theorem q_VSpliceMoves_1_2 (n : Nat) {rnd : Option Nat} (x1_0 x1_1 : Int) (x1_2 : List R8) (x1_3 : Nat) (x1_4 : List R8) (x1_5 : Nat) (x1_6 x1_7 x1_8 : Int) (hy1_1 : x1_8 < (((Args.A).length : Nat) : Int)) (hy1_2 : 0 ≤ x1_8 ∧ x1_8 < ((x1_5 : Nat) : Int)) (hy1_3 : (x1_8).toNat < (x1_4).length) (y1_4_ : R8) (hy1_4 : (some ((x1_4).getD (x1_8).toNat (0, 0, 0, 0, 0, 0, nl0, 0))) = some y1_4_) (hy1_5 : 0 ≤ x1_8 ∧ x1_8 < (((Args.A).length : Nat) : Int)) (y1_6_ : R8) (hy1_6 : (some ((Args.A).getD (x1_8).toNat (0, 0, 0, 0, 0, 0, nl0, 0))) = some y1_6_) (hy1_7 : (y1_4_.2.2.2.2.2.2.2) = (bAndNot .u64 (y1_6_.2.2.2.2.2.2.2) x1_6)) (hy1_8 : ¬ (x1_0 = x1_1)) (hy1_9 : 0 ≤ x1_8 ∧ x1_8 < ((x1_3 : Nat) : Int)) (hy1_10 : (x1_8).toNat < (x1_2).length) (y1_11_ : R8) (hy1_11 : (some ((x1_2).getD (x1_8).toNat (0, 0, 0, 0, 0, 0, nl0, 0))) = some y1_11_) (hy1_12 : (bAnd .u64 (y1_11_.2.2.2.2.2.2.2) x1_6) = (0 : Int)) (hy1_13 : ¬ ((bAnd .u64 (y1_11_.2.2.2.2.2.2.2) x1_7) = (0 : Int))) (hy1_14 : ¬ ((bAnd .u64 (y1_6_.2.2.2.2.2.2.2) (bOr .u64 x1_6 x1_7)) = (0 : Int))) (hy1_15 : (bAndNot .u64 (y1_11_.2.2.2.2.2.2.2) (bOr .u64 x1_6 x1_7)) = (bAndNot .u64 (y1_6_.2.2.2.2.2.2.2) (bOr .u64 x1_6 x1_7))) : Q_VSpliceMoves_1 rnd x1_0 x1_1 x1_2 x1_3 x1_4 x1_5 x1_6 x1_7 x1_8 (.normal, S_VSpliceMoves_1 x1_0 x1_1 x1_2 x1_3 x1_4 x1_5 x1_6 x1_7 (w64 (x1_8 + (1 : Int)))) :=
 runC2 hm (L := lT []) ⟨[0, 1, 2, 7, 8, 9, 10, 11], [(0, 0, true), (1, 1, true)], 2, 0, [], false, []⟩ (zz 5 (xdT hy1_1) <|
zz 12 (xk14 1 x1_5 hy1_2) <|
zz 14 (ok15 hy1_4 (hy1_3)) <|
zz 17 (xk1 0 Args.cA hy1_5) <|
zz 18 (fk16 ((x1_8).toNat * 8)) <|
zz 19 (lk17 hy1_6 (toNatLt hy1_5)) <|
zz 22 (xnF hy1_7) <|
zz 26 (xnT hy1_8) <|
zz 30 (xk14 0 x1_3 hy1_9) <|
zz 32 (ok15 hy1_11 (hy1_10)) <|
zz 35 (xnF hy1_12) <|
zz 39 (xk14 0 x1_3 hy1_9) <|
zz 41 (ok15 hy1_11 (hy1_10)) <|
zz 44 (xnT hy1_13) <|
zz 47 (xk1 0 Args.cA hy1_5) <|
zz 48 (fk16 ((x1_8).toNat * 8)) <|
zz 49 (lk17 hy1_6 (toNatLt hy1_5)) <|
zz 54 (xnT hy1_14) <|
zz 60 (xk14 0 x1_3 hy1_9) <|
zz 62 (ok15 hy1_11 (hy1_10)) <|
zz 69 (xk1 0 Args.cA hy1_5) <|
zz 70 (fk16 ((x1_8).toNat * 8)) <|
zz 71 (lk17 hy1_6 (toNatLt hy1_5)) <|
zz 76 (xnF hy1_15) <|
zz 83 (xeF hy1_8) <|
ww (rows_flat rwf_iiiiiiLu x1_2 41) <|
ww (rows_flat rwf_iiiiiiLu x1_4 41) <|
ee) (by kernel_rfl)
theorem q_VSpliceMoves_1_3 (n : Nat) {rnd : Option Nat} (x1_0 x1_1 : Int) (x1_2 : List R8) (x1_3 : Nat) (x1_4 : List R8) (x1_5 : Nat) (x1_6 x1_7 x1_8 : Int) (hy1_1 : ¬ (x1_8 < (((Args.A).length : Nat) : Int))) : Q_VSpliceMoves_1 rnd x1_0 x1_1 x1_2 x1_3 x1_4 x1_5 x1_6 x1_7 x1_8 (X_VSpliceMoves_1 x1_0 x1_1 x1_2 x1_3 x1_4 x1_5 x1_6 x1_7 ()) :=
 runC2 hm (L := lT []) ⟨[0, 7], [(0, 0, true)], 1, 0, [], false, []⟩ (zz 5 (xdF hy1_1) <|
ww (rows_flat rwf_iiiiiiLu x1_2 41) <|
ee) (by kernel_rfl)
theorem m_VSpliceMoves_1_ok (n : Nat) {rnd : Option Nat} (x1_0 : Int) (x1_1 : Int) (x1_2 : List R8) (x1_3 : Nat) (x1_4 : List R8) (x1_5 : Nat) (x1_6 : Int) (x1_7 : Int) (st : Int) (r : Unit) (h : m_VSpliceMoves_1 n x1_0 x1_1 x1_2 x1_3 x1_4 x1_5 x1_6 x1_7 st = some r) : CG P rnd (fnN P 4) 0 (codeOf P 4 [false, true, false, true, true, true, true, true, true, true]) (S_VSpliceMoves_1 x1_0 x1_1 x1_2 x1_3 x1_4 x1_5 x1_6 x1_7 st) (X_VSpliceMoves_1 x1_0 x1_1 x1_2 x1_3 x1_4 x1_5 x1_6 x1_7 r) :=
 CG.iter (b := codeOf P 4 [false, false, true, false, true, true, true, true, true, true, true]) (by kernel_rfl) (body := B_VSpliceMoves_1 n x1_0 x1_1 x1_2 x1_3 x1_4 x1_5 x1_6 x1_7) (S := S_VSpliceMoves_1 x1_0 x1_1 x1_2 x1_3 x1_4 x1_5 x1_6 x1_7) (X := X_VSpliceMoves_1 x1_0 x1_1 x1_2 x1_3 x1_4 x1_5 x1_6 x1_7)
  (fun x1_8 s' h => by
  unfold B_VSpliceMoves_1 at h
  dsimp only at h
  by_cases hy1_1 : x1_8 < (((Args.A).length : Nat) : Int)
  ·rw [if_pos hy1_1] at h
   by_cases hy1_2 : 0 ≤ x1_8 ∧ x1_8 < ((x1_5 : Nat) : Int)
   ·rw [if_pos hy1_2] at h
    by_cases hy1_3 : (x1_8).toNat < (x1_4).length
    ·rw [if_pos hy1_3] at h
     obtain ⟨y1_4_, hy1_4, h⟩ := Option.bind_eq_some_iff.1 h
     by_cases hy1_5 : 0 ≤ x1_8 ∧ x1_8 < (((Args.A).length : Nat) : Int)
     ·rw [if_pos hy1_5] at h
      obtain ⟨y1_6_, hy1_6, h⟩ := Option.bind_eq_some_iff.1 h
      by_cases hy1_7 : (y1_4_.2.2.2.2.2.2.2) = (bAndNot .u64 (y1_6_.2.2.2.2.2.2.2) x1_6)
      ·rw [if_pos hy1_7] at h
       by_cases hy1_8 : x1_0 = x1_1
       ·rw [if_pos hy1_8] at h
        by_cases hy1_9 : 0 ≤ x1_8 ∧ x1_8 < ((x1_3 : Nat) : Int)
        ·rw [if_pos hy1_9] at h
         by_cases hy1_10 : (x1_8).toNat < (x1_2).length
         ·rw [if_pos hy1_10] at h
          obtain ⟨y1_11_, hy1_11, h⟩ := Option.bind_eq_some_iff.1 h
          by_cases hy1_12 : (y1_11_.2.2.2.2.2.2.2) = (y1_6_.2.2.2.2.2.2.2)
          ·rw [if_pos hy1_12] at h
           obtain rfl := Sum.inl.inj (oI h); exact q_VSpliceMoves_1_0 n x1_0 x1_1 x1_2 x1_3 x1_4 x1_5 x1_6 x1_7 x1_8 hy1_1 hy1_2 hy1_3 y1_4_ hy1_4 hy1_5 y1_6_ hy1_6 hy1_7 hy1_8 hy1_9 hy1_10 y1_11_ hy1_11 hy1_12
          ·rw [if_neg hy1_12] at h
           cases h
         ·rw [if_neg hy1_10] at h; cases h
        ·rw [if_neg hy1_9] at h; cases h
       ·rw [if_neg hy1_8] at h
        by_cases hy1_9 : 0 ≤ x1_8 ∧ x1_8 < ((x1_3 : Nat) : Int)
        ·rw [if_pos hy1_9] at h
         by_cases hy1_10 : (x1_8).toNat < (x1_2).length
         ·rw [if_pos hy1_10] at h
          obtain ⟨y1_11_, hy1_11, h⟩ := Option.bind_eq_some_iff.1 h
          by_cases hy1_12 : (bAnd .u64 (y1_11_.2.2.2.2.2.2.2) x1_6) = (0 : Int)
          ·rw [if_pos hy1_12] at h
           by_cases hy1_13 : (bAnd .u64 (y1_11_.2.2.2.2.2.2.2) x1_7) = (0 : Int)
           ·rw [if_pos hy1_13] at h
            by_cases hy1_14 : (bAnd .u64 (y1_6_.2.2.2.2.2.2.2) (bOr .u64 x1_6 x1_7)) = (0 : Int)
            ·rw [if_pos hy1_14] at h
             by_cases hy1_15 : (bAndNot .u64 (y1_11_.2.2.2.2.2.2.2) (bOr .u64 x1_6 x1_7)) = (bAndNot .u64 (y1_6_.2.2.2.2.2.2.2) (bOr .u64 x1_6 x1_7))
             ·rw [if_pos hy1_15] at h
              obtain rfl := Sum.inl.inj (oI h); exact q_VSpliceMoves_1_1 n x1_0 x1_1 x1_2 x1_3 x1_4 x1_5 x1_6 x1_7 x1_8 hy1_1 hy1_2 hy1_3 y1_4_ hy1_4 hy1_5 y1_6_ hy1_6 hy1_7 hy1_8 hy1_9 hy1_10 y1_11_ hy1_11 hy1_12 hy1_13 hy1_14 hy1_15
             ·rw [if_neg hy1_15] at h
              cases h
            ·rw [if_neg hy1_14] at h
             cases h
           ·rw [if_neg hy1_13] at h
            by_cases hy1_14 : (bAnd .u64 (y1_6_.2.2.2.2.2.2.2) (bOr .u64 x1_6 x1_7)) = (0 : Int)
            ·rw [if_pos hy1_14] at h
             cases h
            ·rw [if_neg hy1_14] at h
             by_cases hy1_15 : (bAndNot .u64 (y1_11_.2.2.2.2.2.2.2) (bOr .u64 x1_6 x1_7)) = (bAndNot .u64 (y1_6_.2.2.2.2.2.2.2) (bOr .u64 x1_6 x1_7))
             ·rw [if_pos hy1_15] at h
              obtain rfl := Sum.inl.inj (oI h); exact q_VSpliceMoves_1_2 n x1_0 x1_1 x1_2 x1_3 x1_4 x1_5 x1_6 x1_7 x1_8 hy1_1 hy1_2 hy1_3 y1_4_ hy1_4 hy1_5 y1_6_ hy1_6 hy1_7 hy1_8 hy1_9 hy1_10 y1_11_ hy1_11 hy1_12 hy1_13 hy1_14 hy1_15
             ·rw [if_neg hy1_15] at h
              cases h
          ·rw [if_neg hy1_12] at h
           cases h
         ·rw [if_neg hy1_10] at h; cases h
        ·rw [if_neg hy1_9] at h; cases h
      ·rw [if_neg hy1_7] at h
       cases h
     ·rw [if_neg hy1_5] at h; cases h
    ·rw [if_neg hy1_3] at h; cases h
   ·rw [if_neg hy1_2] at h; cases h
  ·rw [if_neg hy1_1] at h
   cases h)
  (fun x1_8 r h => by
  unfold B_VSpliceMoves_1 at h
  dsimp only at h
  by_cases hy1_1 : x1_8 < (((Args.A).length : Nat) : Int)
  ·rw [if_pos hy1_1] at h
   by_cases hy1_2 : 0 ≤ x1_8 ∧ x1_8 < ((x1_5 : Nat) : Int)
   ·rw [if_pos hy1_2] at h
    by_cases hy1_3 : (x1_8).toNat < (x1_4).length
    ·rw [if_pos hy1_3] at h
     obtain ⟨y1_4_, hy1_4, h⟩ := Option.bind_eq_some_iff.1 h
     by_cases hy1_5 : 0 ≤ x1_8 ∧ x1_8 < (((Args.A).length : Nat) : Int)
     ·rw [if_pos hy1_5] at h
      obtain ⟨y1_6_, hy1_6, h⟩ := Option.bind_eq_some_iff.1 h
      by_cases hy1_7 : (y1_4_.2.2.2.2.2.2.2) = (bAndNot .u64 (y1_6_.2.2.2.2.2.2.2) x1_6)
      ·rw [if_pos hy1_7] at h
       by_cases hy1_8 : x1_0 = x1_1
       ·rw [if_pos hy1_8] at h
        by_cases hy1_9 : 0 ≤ x1_8 ∧ x1_8 < ((x1_3 : Nat) : Int)
        ·rw [if_pos hy1_9] at h
         by_cases hy1_10 : (x1_8).toNat < (x1_2).length
         ·rw [if_pos hy1_10] at h
          obtain ⟨y1_11_, hy1_11, h⟩ := Option.bind_eq_some_iff.1 h
          by_cases hy1_12 : (y1_11_.2.2.2.2.2.2.2) = (y1_6_.2.2.2.2.2.2.2)
          ·rw [if_pos hy1_12] at h
           cases h
          ·rw [if_neg hy1_12] at h
           cases h
         ·rw [if_neg hy1_10] at h; cases h
        ·rw [if_neg hy1_9] at h; cases h
       ·rw [if_neg hy1_8] at h
        by_cases hy1_9 : 0 ≤ x1_8 ∧ x1_8 < ((x1_3 : Nat) : Int)
        ·rw [if_pos hy1_9] at h
         by_cases hy1_10 : (x1_8).toNat < (x1_2).length
         ·rw [if_pos hy1_10] at h
          obtain ⟨y1_11_, hy1_11, h⟩ := Option.bind_eq_some_iff.1 h
          by_cases hy1_12 : (bAnd .u64 (y1_11_.2.2.2.2.2.2.2) x1_6) = (0 : Int)
          ·rw [if_pos hy1_12] at h
           by_cases hy1_13 : (bAnd .u64 (y1_11_.2.2.2.2.2.2.2) x1_7) = (0 : Int)
           ·rw [if_pos hy1_13] at h
            by_cases hy1_14 : (bAnd .u64 (y1_6_.2.2.2.2.2.2.2) (bOr .u64 x1_6 x1_7)) = (0 : Int)
            ·rw [if_pos hy1_14] at h
             by_cases hy1_15 : (bAndNot .u64 (y1_11_.2.2.2.2.2.2.2) (bOr .u64 x1_6 x1_7)) = (bAndNot .u64 (y1_6_.2.2.2.2.2.2.2) (bOr .u64 x1_6 x1_7))
             ·rw [if_pos hy1_15] at h
              cases h
             ·rw [if_neg hy1_15] at h
              cases h
            ·rw [if_neg hy1_14] at h
             cases h
           ·rw [if_neg hy1_13] at h
            by_cases hy1_14 : (bAnd .u64 (y1_6_.2.2.2.2.2.2.2) (bOr .u64 x1_6 x1_7)) = (0 : Int)
            ·rw [if_pos hy1_14] at h
             cases h
            ·rw [if_neg hy1_14] at h
             by_cases hy1_15 : (bAndNot .u64 (y1_11_.2.2.2.2.2.2.2) (bOr .u64 x1_6 x1_7)) = (bAndNot .u64 (y1_6_.2.2.2.2.2.2.2) (bOr .u64 x1_6 x1_7))
             ·rw [if_pos hy1_15] at h
              cases h
             ·rw [if_neg hy1_15] at h
              cases h
          ·rw [if_neg hy1_12] at h
           cases h
         ·rw [if_neg hy1_10] at h; cases h
        ·rw [if_neg hy1_9] at h; cases h
      ·rw [if_neg hy1_7] at h
       cases h
     ·rw [if_neg hy1_5] at h; cases h
    ·rw [if_neg hy1_3] at h; cases h
   ·rw [if_neg hy1_2] at h; cases h
  ·rw [if_neg hy1_1] at h
   obtain rfl := Sum.inr.inj (oI h); exact q_VSpliceMoves_1_3 n x1_0 x1_1 x1_2 x1_3 x1_4 x1_5 x1_6 x1_7 x1_8 hy1_1)
  (fun r => by intro hx; cases hx) h
def m_VSpliceMoves (n : Nat) (g1 : Int) (g2 : Int) : Option (Bool) :=
 (m_Vlives n).bind fun _ =>
 (m_Vlightq1 n).bind fun c2_ =>
 if c2_ = true then
  (m_RCheckq1 n).bind fun c4_ =>
  if c4_ = (0 : Int) then
   (m_viewportkitPickq1 n g1 64).bind fun c6_ =>
   (m_viewportkitPickq1 n g2 64).bind fun c7_ =>
   (m_spliceGiveq1 n c6_ c7_).bind fun t => match t with
   | (c8_0, c8_1) =>
    (m_spliceClearq1 n c6_).bind fun t => match t with
    | (c9_0, c9_1) =>
     if 0 ≤ (IntKind.u64.wrap c6_) then
      if 0 ≤ (IntKind.u64.wrap c7_) then
       if ((c8_1 : Nat) : Int) = (((Args.A).length : Nat) : Int) then
        if ((c9_1 : Nat) : Int) = (((Args.A).length : Nat) : Int) then
         (m_VSpliceMoves_1 n c6_ c7_ c8_0 c8_1 c9_0 c9_1 (shlV .u64 (1 : Int) (IntKind.u64.wrap c6_)) (shlV .u64 (1 : Int) (IntKind.u64.wrap c7_)) 0).bind fun _ =>
         (m_RBareq1 n c8_0 c8_1 c8_1).bind fun t => match t with
         | (c15_0, c15_1) =>
          (m_RBareq2 n).bind fun t => match t with
          | (c16_0, c16_1) =>
           (m_RSameq1 n c15_0 c15_1 c16_0 c16_1).bind fun c17_ =>
           some c17_
        else
         none
       else
        none
      else none
     else none
  else
   some true
 else
  some true
theorem p_VSpliceMoves_0 (n : Nat) (g1 g2 : Int) (hc1 : m_Vlives n = some ()) (c2_ : Bool) (hc2 : m_Vlightq1 n = some c2_) (hc3 : c2_ = true) (c4_ : Int) (hc4 : m_RCheckq1 n = some c4_) (hc5 : c4_ = (0 : Int)) (c6_ : Int) (hc6 : m_viewportkitPickq1 n g1 64 = some c6_) (c7_ : Int) (hc7 : m_viewportkitPickq1 n g2 64 = some c7_) (c8_0 : List R8) (c8_1 : Nat) (hc8 : m_spliceGiveq1 n c6_ c7_ = some (c8_0, c8_1)) (c9_0 : List R8) (c9_1 : Nat) (hc9 : m_spliceClearq1 n c6_ = some (c9_0, c9_1)) (hc10 : 0 ≤ (IntKind.u64.wrap c6_)) (hc11 : 0 ≤ (IntKind.u64.wrap c7_)) (hc12 : ((c8_1 : Nat) : Int) = (((Args.A).length : Nat) : Int)) (hc13 : ((c9_1 : Nat) : Int) = (((Args.A).length : Nat) : Int)) (hc14 : m_VSpliceMoves_1 n c6_ c7_ c8_0 c8_1 c9_0 c9_1 (shlV .u64 (1 : Int) (IntKind.u64.wrap c6_)) (shlV .u64 (1 : Int) (IntKind.u64.wrap c7_)) 0 = some ()) (c15_0 : List R8) (c15_1 : Nat) (hc15 : m_RBareq1 n c8_0 c8_1 c8_1 = some (c15_0, c15_1)) (c16_0 : List R8) (c16_1 : Nat) (hc16 : m_RBareq2 n = some (c16_0, c16_1)) (c17_ : Bool) (hc17 : m_RSameq1 n c15_0 c15_1 c16_0 c16_1 = some c17_) : G_VSpliceMoves g1 g2 c17_ :=
 runF2 hm (L := lT [(63, ⟨⟨[0, 1, 2, 7, 8, 9, 10, 11], [(0, 0, true), (1, 1, true)], 2, 0, [], false, []⟩, (X_VSpliceMoves_1 c6_ c7_ c8_0 c8_1 c9_0 c9_1 (shlV .u64 (1 : Int) (IntKind.u64.wrap c6_)) (shlV .u64 (1 : Int) (IntKind.u64.wrap c7_)) ()).1, (X_VSpliceMoves_1 c6_ c7_ c8_0 c8_1 c9_0 c9_1 (shlV .u64 (1 : Int) (IntKind.u64.wrap c6_)) (shlV .u64 (1 : Int) (IntKind.u64.wrap c7_)) ()).2⟩)]) ⟨[6], [], 0, 0, [], false, []⟩ (yy 4 (.call ⟨0, [], (Value.bool true), Ax.h0, []⟩) <|
ww (m_Vlives_ok n  () hc1) <|
yy 10 (.call (C_Vlightq1  c2_ [] [])) <|
ww (m_Vlightq1_ok n  c2_ hc2) <|
yy 11 (vf) <|
ww (p := (Value.bool (!c2_)) = (Value.bool false)) (vBn hc3) <|
yy 14 (.call (C_RCheckq1  c4_ [] [])) <|
ww (m_RCheckq1_ok n  c4_ hc4) <|
zz 15 (xnF hc5) <|
yy 20 (.call (C_viewportkitPickq1 g1 64 c6_ [] [])) <|
ww (m_viewportkitPickq1_ok n g1 64 c6_ hc6) <|
yy 22 (.call (C_viewportkitPickq1 g2 64 c7_ [] [])) <|
ww (m_viewportkitPickq1_ok n g2 64 c7_ hc7) <|
yy 29 (.call (C_spliceGiveq1 c6_ c7_ (c8_0, c8_1) [] [(0, 0, true)])) <|
ww (m_spliceGiveq1_ok n c6_ c7_ (c8_0, c8_1) hc8) <|
ww (rows_flat rwf_iiiiiiLu c8_0 41) <|
yy 32 (.call (C_spliceClearq1 c6_ (c9_0, c9_1) [] [(1, 0, true)])) <|
ww (m_spliceClearq1_ok n c6_ (c9_0, c9_1) hc9) <|
ww (rows_flat rwf_iiiiiiLu c9_0 41) <|
yy 38 (.pur (Value.int .u64 (shlV .u64 (1 : Int) (IntKind.u64.wrap c6_)))) <|
ww (p := opBin P .shl 35 (.const (Value.int .u64 (1 : Int))) (.tmp 34) (Value.int .u64 (1 : Int)) (Value.int .u64 (IntKind.u64.wrap c6_)) Ax.h0 = some ((Value.int .u64 (shlV .u64 (1 : Int) (IntKind.u64.wrap c6_))), Ax.h0)) (shl_u64_u64 hc10) <|
yy 41 (.pur (Value.int .u64 (shlV .u64 (1 : Int) (IntKind.u64.wrap c7_)))) <|
ww (p := opBin P .shl 35 (.const (Value.int .u64 (1 : Int))) (.tmp 37) (Value.int .u64 (1 : Int)) (Value.int .u64 (IntKind.u64.wrap c7_)) Ax.h0 = some ((Value.int .u64 (shlV .u64 (1 : Int) (IntKind.u64.wrap c7_))), Ax.h0)) (shl_u64_u64 hc11) <|
zz 50 (xnF hc12) <|
zz 56 (xnF hc13) <|
ww (p := U_VSpliceMoves_1 none c6_ c7_ c8_0 c8_1 c9_0 c9_1 (shlV .u64 (1 : Int) (IntKind.u64.wrap c6_)) (shlV .u64 (1 : Int) (IntKind.u64.wrap c7_)) 0 ()) (m_VSpliceMoves_1_ok n c6_ c7_ c8_0 c8_1 c9_0 c9_1 (shlV .u64 (1 : Int) (IntKind.u64.wrap c6_)) (shlV .u64 (1 : Int) (IntKind.u64.wrap c7_)) 0 () hc14) <|
ww (rows_flat rwf_iiiiiiLu c8_0 41) <|
ww (rows_flat rwf_iiiiiiLu c9_0 41) <|
yy 66 (.call (C_RBareq1 c8_0 c8_1 c8_1 (c15_0, c15_1) [(0, 0, true)] [(1, 1, true)])) <|
ww (m_RBareq1_ok n c8_0 c8_1 c8_1 (c15_0, c15_1) hc15) <|
ww (rows_flat rwf_iiiiiiLu c8_0 41) <|
ww (rows_flat rwf_iiiiiiLu c15_0 41) <|
yy 68 (.call (C_RBareq2  (c16_0, c16_1) [] [(2, 0, true)])) <|
ww (m_RBareq2_ok n  (c16_0, c16_1) hc16) <|
ww (rows_flat rwf_iiiiiiLu c16_0 41) <|
yy 69 (.call (C_RSameq1 c15_0 c15_1 c16_0 c16_1 c17_ [(0, 1, true), (1, 2, true)] [])) <|
ww (m_RSameq1_ok n c15_0 c15_1 c16_0 c16_1 c17_ hc17) <|
ww (rows_flat rwf_iiiiiiLu c15_0 41) <|
ww (rows_flat rwf_iiiiiiLu c16_0 41) <|
ee) (by kernel_rfl)
theorem p_VSpliceMoves_1 (n : Nat) (g1 g2 : Int) (hc1 : m_Vlives n = some ()) (c2_ : Bool) (hc2 : m_Vlightq1 n = some c2_) (hc3 : c2_ = true) (c4_ : Int) (hc4 : m_RCheckq1 n = some c4_) (hc5 : ¬ (c4_ = (0 : Int))) : G_VSpliceMoves g1 g2 true :=
 runF2 hm (L := lT []) ⟨[6], [], 0, 0, [], false, []⟩ (yy 4 (.call ⟨0, [], (Value.bool true), Ax.h0, []⟩) <|
ww (m_Vlives_ok n  () hc1) <|
yy 10 (.call (C_Vlightq1  c2_ [] [])) <|
ww (m_Vlightq1_ok n  c2_ hc2) <|
yy 11 (vf) <|
ww (p := (Value.bool (!c2_)) = (Value.bool false)) (vBn hc3) <|
yy 14 (.call (C_RCheckq1  c4_ [] [])) <|
ww (m_RCheckq1_ok n  c4_ hc4) <|
zz 15 (xnT hc5) <|
ee) (by kernel_rfl)
theorem p_VSpliceMoves_2 (n : Nat) (g1 g2 : Int) (hc1 : m_Vlives n = some ()) (c2_ : Bool) (hc2 : m_Vlightq1 n = some c2_) (hc3 : ¬ (c2_ = true)) : G_VSpliceMoves g1 g2 true :=
 runF2 hm (L := lT []) ⟨[6], [], 0, 0, [], false, []⟩ (yy 4 (.call ⟨0, [], (Value.bool true), Ax.h0, []⟩) <|
ww (m_Vlives_ok n  () hc1) <|
yy 10 (.call (C_Vlightq1  c2_ [] [])) <|
ww (m_Vlightq1_ok n  c2_ hc2) <|
yy 11 (vt) <|
ww (p := (Value.bool (!c2_)) = (Value.bool true)) (vBn (Bool.eq_false_iff.2 hc3)) <|
ee) (by kernel_rfl)
theorem m_VSpliceMoves_ok (n : Nat) (g1 : Int) (g2 : Int) (r : Bool) (h : m_VSpliceMoves n g1 g2 = some r) : Gv P (.func 4) (A_VSpliceMoves g1 g2) (H_VSpliceMoves g1 g2) (V_VSpliceMoves g1 g2 r) (R_VSpliceMoves g1 g2 r) := by
 unfold m_VSpliceMoves at h
 obtain ⟨_, hc1, h⟩ := Option.bind_eq_some_iff.1 h
 obtain ⟨c2_, hc2, h⟩ := Option.bind_eq_some_iff.1 h
 by_cases hc3 : c2_ = true
 ·rw [if_pos hc3] at h
  obtain ⟨c4_, hc4, h⟩ := Option.bind_eq_some_iff.1 h
  by_cases hc5 : c4_ = (0 : Int)
  ·rw [if_pos hc5] at h
   obtain ⟨c6_, hc6, h⟩ := Option.bind_eq_some_iff.1 h
   obtain ⟨c7_, hc7, h⟩ := Option.bind_eq_some_iff.1 h
   obtain ⟨⟨c8_0, c8_1⟩, hc8, h⟩ := Option.bind_eq_some_iff.1 h
   dsimp only at h
   obtain ⟨⟨c9_0, c9_1⟩, hc9, h⟩ := Option.bind_eq_some_iff.1 h
   dsimp only at h
   by_cases hc10 : 0 ≤ (IntKind.u64.wrap c6_)
   ·rw [if_pos hc10] at h
    by_cases hc11 : 0 ≤ (IntKind.u64.wrap c7_)
    ·rw [if_pos hc11] at h
     by_cases hc12 : ((c8_1 : Nat) : Int) = (((Args.A).length : Nat) : Int)
     ·rw [if_pos hc12] at h
      by_cases hc13 : ((c9_1 : Nat) : Int) = (((Args.A).length : Nat) : Int)
      ·rw [if_pos hc13] at h
       obtain ⟨_, hc14, h⟩ := Option.bind_eq_some_iff.1 h
       obtain ⟨⟨c15_0, c15_1⟩, hc15, h⟩ := Option.bind_eq_some_iff.1 h
       dsimp only at h
       obtain ⟨⟨c16_0, c16_1⟩, hc16, h⟩ := Option.bind_eq_some_iff.1 h
       dsimp only at h
       obtain ⟨c17_, hc17, h⟩ := Option.bind_eq_some_iff.1 h
       obtain rfl := oI h; exact p_VSpliceMoves_0 n g1 g2 hc1 c2_ hc2 hc3 c4_ hc4 hc5 c6_ hc6 c7_ hc7 c8_0 c8_1 hc8 c9_0 c9_1 hc9 hc10 hc11 hc12 hc13 hc14 c15_0 c15_1 hc15 c16_0 c16_1 hc16 c17_ hc17
      ·rw [if_neg hc13] at h
       cases h
     ·rw [if_neg hc12] at h
      cases h
    ·rw [if_neg hc11] at h; cases h
   ·rw [if_neg hc10] at h; cases h
  ·rw [if_neg hc5] at h
   obtain rfl := oI h; exact p_VSpliceMoves_1 n g1 g2 hc1 c2_ hc2 hc3 c4_ hc4 hc5
 ·rw [if_neg hc3] at h
  obtain rfl := oI h; exact p_VSpliceMoves_2 n g1 g2 hc1 c2_ hc2 hc3

end Go.Proofs.Ytjboikbhilkelaa.spm
