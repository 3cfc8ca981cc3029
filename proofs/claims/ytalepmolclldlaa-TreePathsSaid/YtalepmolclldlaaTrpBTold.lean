/-
  What functions do, told by pure functions. No condition.
-/
import Derived.Test.YtalepmolclldlaaTrpATold
set_option linter.unusedSimpArgs false
set_option linter.unusedVariables false
set_option linter.unusedSectionVars false
set_option linter.unnecessarySimpa false
set_option maxRecDepth 100000
noncomputable section
namespace Go.Proofs.Ytalepmolclldlaa.trp
open Go Go.Proofs.Ytalepmolclldlaa Ax
variable [Args]
def A_pAq1 (a0 : Int) : List Value := [(sW 0 0 (Args.A).length Args.cA), (i6 a0)]
def H_pAq1 (a0 : Int) : AH := ⟨sB [], 0, 0⟩
def V_pAq1 (a0 : Int) (r : List Int × Nat) : Value := match r with
 | (o0, o1) => (sN 0 0 (o0).length o1)
def R_pAq1 (a0 : Int) (r : List Int × Nat) : AH := match r with
 | (o0, o1) => ⟨sB [(0, (some (.cells (layT (iv o0)) 3)))], 1, 0⟩
abbrev G_pAq1 (a0 : Int) (r : List Int × Nat) : Prop := Gv P (.func 9) (A_pAq1 a0) (H_pAq1 a0) (V_pAq1 a0 r) (R_pAq1 a0 r)
abbrev C_pAq1 (a0 : Int) (r : List Int × Nat) (ins outs : BL) : CallA := ⟨0, ins, V_pAq1 a0 r, R_pAq1 a0 r, outs⟩
def S_pAq1_1 (x1_0 : Int) (st : Int × List Int) : XSt := match st with
 | (x1_1, x1_2) => (sT 50 [(0, (sW 0 0 (Args.A).length Args.cA)), (1, (i6 x1_0)), (5, (i6 x1_1)), (6, (sN 0 0 (x1_2).length (Nat.add big 1)))], [], ⟨sB [(0, (some (.cells (layT (iv x1_2)) 3)))], 1, 0⟩)
def X_pAq1_1 (x1_0 : Int) (r : List Int) : Ex × XSt := match r with
 | z1_0 => (.exit 0, (sT 50 [(6, (sN 0 0 (z1_0).length (Nat.add big 1)))], [], ⟨sB [(0, (some (.cells (layT (iv z1_0)) 3)))], 1, 0⟩))
abbrev Q_pAq1_1 (rnd : Option Nat) (x1_0 : Int) (st : Int × List Int) (c : Ex × XSt) : Prop := CG P rnd (fnN P 9) 0 (codeOf P 9 [false, false, false, true, true, true, true]) (S_pAq1_1 x1_0 st) c
abbrev U_pAq1_1 (rd : Option Nat) (x1_0 : Int) (st : Int × List Int) (r : List Int) : Prop := CG P rd (fnN P 9) 0 (codeOf P 9 [false, false, true, true, true, true]) (S_pAq1_1 x1_0 st) (X_pAq1_1 x1_0 r)
def B_pAq1_1 (n : Nat) (x1_0 : Int) (st : Int × List Int) : Option ((Int × List Int) ⊕ (List Int)) := match st with
 | (x1_1, x1_2) =>
  if x1_1 = x1_0 then
   some (.inr x1_2)
  else
   if 0 ≤ x1_1 ∧ x1_1 < (Args.A.length : Int) then
    ((some ((Args.A).getD (x1_1).toNat (0, 0, 0, 0, 0, 0, nl0, 0)))).bind fun y1_3_ =>
    (m_bSq1 n (y1_3_.2.2.2.2.2.2.1) x1_0).bind fun t => match t with
    | (y1_4_0, y1_4_1) =>
     if y1_4_1 = true then
      if 0 ≤ y1_4_0 ∧ y1_4_0 < (y1_3_.2.2.2.2.2.2.1.l.length : Int) then
       if (y1_4_0).toNat < (((y1_3_.2.2.2.2.2.2.1)).l).length then
        ((some ((((y1_3_.2.2.2.2.2.2.1)).l).getD (y1_4_0).toNat 0))).bind fun y1_8_ =>
        if 0 ≤ y1_8_ ∧ y1_8_ < (Args.A.length : Int) then
         ((some ((Args.A).getD (y1_8_).toNat (0, 0, 0, 0, 0, 0, nl0, 0)))).bind fun y1_10_ =>
         if ((x1_2).length + 1) * 8 ≤ 140737488355328 then
          some (.inl (y1_8_, (x1_2 ++ [(y1_10_.1)])))
         else none
        else none
       else none
      else none
     else
      if 0 ≤ (w64 (y1_4_0 - (1 : Int))) ∧ (w64 (y1_4_0 - (1 : Int))) < (y1_3_.2.2.2.2.2.2.1.l.length : Int) then
       if ((w64 (y1_4_0 - (1 : Int)))).toNat < (((y1_3_.2.2.2.2.2.2.1)).l).length then
        ((some ((((y1_3_.2.2.2.2.2.2.1)).l).getD ((w64 (y1_4_0 - (1 : Int)))).toNat 0))).bind fun y1_8_ =>
        if 0 ≤ y1_8_ ∧ y1_8_ < (Args.A.length : Int) then
         ((some ((Args.A).getD (y1_8_).toNat (0, 0, 0, 0, 0, 0, nl0, 0)))).bind fun y1_10_ =>
         if ((x1_2).length + 1) * 8 ≤ 140737488355328 then
          some (.inl (y1_8_, (x1_2 ++ [(y1_10_.1)])))
         else none
        else none
       else none
      else none
   else none
def m_pAq1_1 (n : Nat) (x1_0 : Int) (st : Int × List Int) : Option (List Int) := iterM (B_pAq1_1 n x1_0) n st
theorem q_pAq1_1_0 (n : Nat) {rnd : Option Nat} (x1_0 x1_1 : Int) (x1_2 : List Int) (hy1_1 : x1_1 = x1_0) : Q_pAq1_1 rnd x1_0 (x1_1, x1_2) (X_pAq1_1 x1_0 x1_2) :=
 runC2 hm (L := lT []) ⟨[6], [(0, 0, true)], 1, 0⟩ (zz 4 (xnF hy1_1) <|
ww (iv_flat x1_2 3) <|
ee) (by kernel_rfl)
theorem q_pAq1_1_1 (n : Nat) {rnd : Option Nat} (x1_0 x1_1 : Int) (x1_2 : List Int) (hy1_1 : ¬ (x1_1 = x1_0)) (hy1_2 : 0 ≤ x1_1 ∧ x1_1 < (Args.A.length : Int)) (y1_3_ : R8) (hy1_3 : (some ((Args.A).getD (x1_1).toNat (0, 0, 0, 0, 0, 0, nl0, 0))) = some y1_3_) (y1_4_0 : Int) (y1_4_1 : Bool) (hy1_4 : m_bSq1 n (y1_3_.2.2.2.2.2.2.1) x1_0 = some (y1_4_0, y1_4_1)) (hy1_5 : y1_4_1 = true) (hy1_6 : 0 ≤ y1_4_0 ∧ y1_4_0 < (y1_3_.2.2.2.2.2.2.1.l.length : Int)) (hy1_7 : (y1_4_0).toNat < (((y1_3_.2.2.2.2.2.2.1)).l).length) (y1_8_ : Int) (hy1_8 : (some ((((y1_3_.2.2.2.2.2.2.1)).l).getD (y1_4_0).toNat 0)) = some y1_8_) (hy1_9 : 0 ≤ y1_8_ ∧ y1_8_ < (Args.A.length : Int)) (y1_10_ : R8) (hy1_10 : (some ((Args.A).getD (y1_8_).toNat (0, 0, 0, 0, 0, 0, nl0, 0))) = some y1_10_) (hy1_11 : ((x1_2).length + 1) * 8 ≤ 140737488355328) : Q_pAq1_1 rnd x1_0 (x1_1, x1_2) (.normal, S_pAq1_1 x1_0 (y1_8_, (x1_2 ++ [(y1_10_.1)]))) :=
 runC2 hm (L := lT []) ⟨[0, 1, 5, 6], [(0, 2, true)], 1, 0⟩ (zz 4 (xnT hy1_1) <|
zz 10 (xk1 0 Args.cA hy1_2) <|
zz 11 (fk12 ((x1_1).toNat * 8)) <|
zz 12 (lk13 hy1_3 (toNatLt hy1_2)) <|
yy 17 (.call (C_bSq1 (y1_3_.2.2.2.2.2.2.1) x1_0 (y1_4_0, y1_4_1) [] [])) <|
ww (m_bSq1_ok n (y1_3_.2.2.2.2.2.2.1) x1_0 (y1_4_0, y1_4_1) hy1_4) <|
yy 26 (vf) <|
ww (p := (Value.bool (!y1_4_1)) = (Value.bool false)) (vBn hy1_5) <|
zz 31 (xk6 (Nat.add ((y1_3_.2.2.2.2.2.2.1)).num 64) ((y1_3_.2.2.2.2.2.2.1)).cap hy1_6) <|
zz 32 (nk7 hy1_8 hy1_7) <|
zz 37 (xk1 0 Args.cA hy1_9) <|
zz 38 (fk10 ((y1_8_).toNat * 8)) <|
zz 39 (lk11 hy1_10 (toNatLt hy1_9)) <|
yy 41 (.app ⟨none, iv x1_2, (iv (x1_2 ++ [(y1_10_.1)])), ((x1_2 ++ [(y1_10_.1)])).length, false⟩) <|
ww (p := 0 < 1) ((by decide)) <|
ww (p := rdT (layT (iv x1_2)) (Nat.mul (x1_2).length 1) 0 = some (iv x1_2)) (iv_rd _) <|
ww (p := fits (Nat.add (x1_2).length 1) 8 = true) (fits_ok hy1_11 (by have := hy1_11; show (_ : Nat) + _ ≤ _; omega)) <|
ww (p := allCells [(i6 (y1_10_.1))] = true) (rfl) <|
ww (p := allCells (iv x1_2) = true) (iv_cells _) <|
ww (p := iv x1_2 ++ [(i6 (y1_10_.1))] = (iv (x1_2 ++ [(y1_10_.1)]))) (by simp [iv]) <|
ww (p := Nat.add (x1_2).length 1 = ((x1_2 ++ [(y1_10_.1)])).length) (by simp) <|
ww (iv_flat (x1_2 ++ [(y1_10_.1)]) 3) <|
ee) (by kernel_rfl)
theorem q_pAq1_1_2 (n : Nat) {rnd : Option Nat} (x1_0 x1_1 : Int) (x1_2 : List Int) (hy1_1 : ¬ (x1_1 = x1_0)) (hy1_2 : 0 ≤ x1_1 ∧ x1_1 < (Args.A.length : Int)) (y1_3_ : R8) (hy1_3 : (some ((Args.A).getD (x1_1).toNat (0, 0, 0, 0, 0, 0, nl0, 0))) = some y1_3_) (y1_4_0 : Int) (y1_4_1 : Bool) (hy1_4 : m_bSq1 n (y1_3_.2.2.2.2.2.2.1) x1_0 = some (y1_4_0, y1_4_1)) (hy1_5 : ¬ (y1_4_1 = true)) (hy1_6 : 0 ≤ (w64 (y1_4_0 - (1 : Int))) ∧ (w64 (y1_4_0 - (1 : Int))) < (y1_3_.2.2.2.2.2.2.1.l.length : Int)) (hy1_7 : ((w64 (y1_4_0 - (1 : Int)))).toNat < (((y1_3_.2.2.2.2.2.2.1)).l).length) (y1_8_ : Int) (hy1_8 : (some ((((y1_3_.2.2.2.2.2.2.1)).l).getD ((w64 (y1_4_0 - (1 : Int)))).toNat 0)) = some y1_8_) (hy1_9 : 0 ≤ y1_8_ ∧ y1_8_ < (Args.A.length : Int)) (y1_10_ : R8) (hy1_10 : (some ((Args.A).getD (y1_8_).toNat (0, 0, 0, 0, 0, 0, nl0, 0))) = some y1_10_) (hy1_11 : ((x1_2).length + 1) * 8 ≤ 140737488355328) : Q_pAq1_1 rnd x1_0 (x1_1, x1_2) (.normal, S_pAq1_1 x1_0 (y1_8_, (x1_2 ++ [(y1_10_.1)]))) :=
 runC2 hm (L := lT []) ⟨[0, 1, 5, 6], [(0, 2, true)], 1, 0⟩ (zz 4 (xnT hy1_1) <|
zz 10 (xk1 0 Args.cA hy1_2) <|
zz 11 (fk12 ((x1_1).toNat * 8)) <|
zz 12 (lk13 hy1_3 (toNatLt hy1_2)) <|
yy 17 (.call (C_bSq1 (y1_3_.2.2.2.2.2.2.1) x1_0 (y1_4_0, y1_4_1) [] [])) <|
ww (m_bSq1_ok n (y1_3_.2.2.2.2.2.2.1) x1_0 (y1_4_0, y1_4_1) hy1_4) <|
yy 26 (vt) <|
ww (p := (Value.bool (!y1_4_1)) = (Value.bool true)) (vBn (Bool.eq_false_iff.2 hy1_5)) <|
zz 34 (xk6 (Nat.add ((y1_3_.2.2.2.2.2.2.1)).num 64) ((y1_3_.2.2.2.2.2.2.1)).cap hy1_6) <|
zz 35 (nk7 hy1_8 hy1_7) <|
zz 40 (xk1 0 Args.cA hy1_9) <|
zz 41 (fk10 ((y1_8_).toNat * 8)) <|
zz 42 (lk11 hy1_10 (toNatLt hy1_9)) <|
yy 44 (.app ⟨none, iv x1_2, (iv (x1_2 ++ [(y1_10_.1)])), ((x1_2 ++ [(y1_10_.1)])).length, false⟩) <|
ww (p := 0 < 1) ((by decide)) <|
ww (p := rdT (layT (iv x1_2)) (Nat.mul (x1_2).length 1) 0 = some (iv x1_2)) (iv_rd _) <|
ww (p := fits (Nat.add (x1_2).length 1) 8 = true) (fits_ok hy1_11 (by have := hy1_11; show (_ : Nat) + _ ≤ _; omega)) <|
ww (p := allCells [(i6 (y1_10_.1))] = true) (rfl) <|
ww (p := allCells (iv x1_2) = true) (iv_cells _) <|
ww (p := iv x1_2 ++ [(i6 (y1_10_.1))] = (iv (x1_2 ++ [(y1_10_.1)]))) (by simp [iv]) <|
ww (p := Nat.add (x1_2).length 1 = ((x1_2 ++ [(y1_10_.1)])).length) (by simp) <|
ww (iv_flat (x1_2 ++ [(y1_10_.1)]) 3) <|
ee) (by kernel_rfl)
theorem m_pAq1_1_ok (n : Nat) {rnd : Option Nat} (x1_0 : Int) (st : Int × List Int) (r : List Int) (h : m_pAq1_1 n x1_0 st = some r) : LG P rnd (fnN P 9) 0 (codeOf P 9 [false, false, false, true, true, true, true]) (S_pAq1_1 x1_0 st) (X_pAq1_1 x1_0 r) :=
 LG.iter (body := B_pAq1_1 n x1_0) (S := S_pAq1_1 x1_0) (X := X_pAq1_1 x1_0)
  (fun s s' h => by
  obtain ⟨x1_1, x1_2⟩ := s
  unfold B_pAq1_1 at h
  dsimp only at h
  by_cases hy1_1 : x1_1 = x1_0
  ·rw [if_pos hy1_1] at h
   cases h
  ·rw [if_neg hy1_1] at h
   by_cases hy1_2 : 0 ≤ x1_1 ∧ x1_1 < (Args.A.length : Int)
   ·rw [if_pos hy1_2] at h
    obtain ⟨y1_3_, hy1_3, h⟩ := Option.bind_eq_some_iff.1 h
    obtain ⟨⟨y1_4_0, y1_4_1⟩, hy1_4, h⟩ := Option.bind_eq_some_iff.1 h
    dsimp only at h
    by_cases hy1_5 : y1_4_1 = true
    ·rw [if_pos hy1_5] at h
     by_cases hy1_6 : 0 ≤ y1_4_0 ∧ y1_4_0 < (y1_3_.2.2.2.2.2.2.1.l.length : Int)
     ·rw [if_pos hy1_6] at h
      by_cases hy1_7 : (y1_4_0).toNat < (((y1_3_.2.2.2.2.2.2.1)).l).length
      ·rw [if_pos hy1_7] at h
       obtain ⟨y1_8_, hy1_8, h⟩ := Option.bind_eq_some_iff.1 h
       by_cases hy1_9 : 0 ≤ y1_8_ ∧ y1_8_ < (Args.A.length : Int)
       ·rw [if_pos hy1_9] at h
        obtain ⟨y1_10_, hy1_10, h⟩ := Option.bind_eq_some_iff.1 h
        by_cases hy1_11 : ((x1_2).length + 1) * 8 ≤ 140737488355328
        ·rw [if_pos hy1_11] at h
         obtain rfl := Sum.inl.inj (oI h); exact q_pAq1_1_1 n x1_0 x1_1 x1_2 hy1_1 hy1_2 y1_3_ hy1_3 y1_4_0 y1_4_1 hy1_4 hy1_5 hy1_6 hy1_7 y1_8_ hy1_8 hy1_9 y1_10_ hy1_10 hy1_11
        ·rw [if_neg hy1_11] at h; cases h
       ·rw [if_neg hy1_9] at h; cases h
      ·rw [if_neg hy1_7] at h; cases h
     ·rw [if_neg hy1_6] at h; cases h
    ·rw [if_neg hy1_5] at h
     by_cases hy1_6 : 0 ≤ (w64 (y1_4_0 - (1 : Int))) ∧ (w64 (y1_4_0 - (1 : Int))) < (y1_3_.2.2.2.2.2.2.1.l.length : Int)
     ·rw [if_pos hy1_6] at h
      by_cases hy1_7 : ((w64 (y1_4_0 - (1 : Int)))).toNat < (((y1_3_.2.2.2.2.2.2.1)).l).length
      ·rw [if_pos hy1_7] at h
       obtain ⟨y1_8_, hy1_8, h⟩ := Option.bind_eq_some_iff.1 h
       by_cases hy1_9 : 0 ≤ y1_8_ ∧ y1_8_ < (Args.A.length : Int)
       ·rw [if_pos hy1_9] at h
        obtain ⟨y1_10_, hy1_10, h⟩ := Option.bind_eq_some_iff.1 h
        by_cases hy1_11 : ((x1_2).length + 1) * 8 ≤ 140737488355328
        ·rw [if_pos hy1_11] at h
         obtain rfl := Sum.inl.inj (oI h); exact q_pAq1_1_2 n x1_0 x1_1 x1_2 hy1_1 hy1_2 y1_3_ hy1_3 y1_4_0 y1_4_1 hy1_4 hy1_5 hy1_6 hy1_7 y1_8_ hy1_8 hy1_9 y1_10_ hy1_10 hy1_11
        ·rw [if_neg hy1_11] at h; cases h
       ·rw [if_neg hy1_9] at h; cases h
      ·rw [if_neg hy1_7] at h; cases h
     ·rw [if_neg hy1_6] at h; cases h
   ·rw [if_neg hy1_2] at h; cases h)
  (fun s r h => by
  obtain ⟨x1_1, x1_2⟩ := s
  unfold B_pAq1_1 at h
  dsimp only at h
  by_cases hy1_1 : x1_1 = x1_0
  ·rw [if_pos hy1_1] at h
   obtain rfl := Sum.inr.inj (oI h); exact q_pAq1_1_0 n x1_0 x1_1 x1_2 hy1_1
  ·rw [if_neg hy1_1] at h
   by_cases hy1_2 : 0 ≤ x1_1 ∧ x1_1 < (Args.A.length : Int)
   ·rw [if_pos hy1_2] at h
    obtain ⟨y1_3_, hy1_3, h⟩ := Option.bind_eq_some_iff.1 h
    obtain ⟨⟨y1_4_0, y1_4_1⟩, hy1_4, h⟩ := Option.bind_eq_some_iff.1 h
    dsimp only at h
    by_cases hy1_5 : y1_4_1 = true
    ·rw [if_pos hy1_5] at h
     by_cases hy1_6 : 0 ≤ y1_4_0 ∧ y1_4_0 < (y1_3_.2.2.2.2.2.2.1.l.length : Int)
     ·rw [if_pos hy1_6] at h
      by_cases hy1_7 : (y1_4_0).toNat < (((y1_3_.2.2.2.2.2.2.1)).l).length
      ·rw [if_pos hy1_7] at h
       obtain ⟨y1_8_, hy1_8, h⟩ := Option.bind_eq_some_iff.1 h
       by_cases hy1_9 : 0 ≤ y1_8_ ∧ y1_8_ < (Args.A.length : Int)
       ·rw [if_pos hy1_9] at h
        obtain ⟨y1_10_, hy1_10, h⟩ := Option.bind_eq_some_iff.1 h
        by_cases hy1_11 : ((x1_2).length + 1) * 8 ≤ 140737488355328
        ·rw [if_pos hy1_11] at h
         cases h
        ·rw [if_neg hy1_11] at h; cases h
       ·rw [if_neg hy1_9] at h; cases h
      ·rw [if_neg hy1_7] at h; cases h
     ·rw [if_neg hy1_6] at h; cases h
    ·rw [if_neg hy1_5] at h
     by_cases hy1_6 : 0 ≤ (w64 (y1_4_0 - (1 : Int))) ∧ (w64 (y1_4_0 - (1 : Int))) < (y1_3_.2.2.2.2.2.2.1.l.length : Int)
     ·rw [if_pos hy1_6] at h
      by_cases hy1_7 : ((w64 (y1_4_0 - (1 : Int)))).toNat < (((y1_3_.2.2.2.2.2.2.1)).l).length
      ·rw [if_pos hy1_7] at h
       obtain ⟨y1_8_, hy1_8, h⟩ := Option.bind_eq_some_iff.1 h
       by_cases hy1_9 : 0 ≤ y1_8_ ∧ y1_8_ < (Args.A.length : Int)
       ·rw [if_pos hy1_9] at h
        obtain ⟨y1_10_, hy1_10, h⟩ := Option.bind_eq_some_iff.1 h
        by_cases hy1_11 : ((x1_2).length + 1) * 8 ≤ 140737488355328
        ·rw [if_pos hy1_11] at h
         cases h
        ·rw [if_neg hy1_11] at h; cases h
       ·rw [if_neg hy1_9] at h; cases h
      ·rw [if_neg hy1_7] at h; cases h
     ·rw [if_neg hy1_6] at h; cases h
   ·rw [if_neg hy1_2] at h; cases h)
  (fun r => by intro hx; cases hx) _ _ _ h
def m_pAq1 (n : Nat) (a0 : Int) : Option (List Int × Nat) :=
 (m_treehasq1 n a0).bind fun c1_ =>
 if c1_ = true then
  if 0 ≤ (0 : Int) ∧ (0 : Int) < (Args.A.length : Int) then
   ((some ((Args.A).getD ((0 : Int)).toNat (0, 0, 0, 0, 0, 0, nl0, 0)))).bind fun c4_ =>
   if (0 : Int) = a0 then
    some ([(c4_.1)], 1)
   else
    (m_bSq1 n (c4_.2.2.2.2.2.2.1) a0).bind fun t => match t with
    | (c6_0, c6_1) =>
     if c6_1 = true then
      if 0 ≤ c6_0 ∧ c6_0 < (c4_.2.2.2.2.2.2.1.l.length : Int) then
       if (c6_0).toNat < (((c4_.2.2.2.2.2.2.1)).l).length then
        ((some ((((c4_.2.2.2.2.2.2.1)).l).getD (c6_0).toNat 0))).bind fun c10_ =>
        if 0 ≤ c10_ ∧ c10_ < (Args.A.length : Int) then
         ((some ((Args.A).getD (c10_).toNat (0, 0, 0, 0, 0, 0, nl0, 0)))).bind fun c12_ =>
         (m_pAq1_1 n a0 (c10_, [(c4_.1), (c12_.1)])).bind fun c13_ =>
         some (c13_, (Nat.add big 1))
        else none
       else none
      else none
     else
      if 0 ≤ (w64 (c6_0 - (1 : Int))) ∧ (w64 (c6_0 - (1 : Int))) < (c4_.2.2.2.2.2.2.1.l.length : Int) then
       if ((w64 (c6_0 - (1 : Int)))).toNat < (((c4_.2.2.2.2.2.2.1)).l).length then
        ((some ((((c4_.2.2.2.2.2.2.1)).l).getD ((w64 (c6_0 - (1 : Int)))).toNat 0))).bind fun c10_ =>
        if 0 ≤ c10_ ∧ c10_ < (Args.A.length : Int) then
         ((some ((Args.A).getD (c10_).toNat (0, 0, 0, 0, 0, 0, nl0, 0)))).bind fun c12_ =>
         (m_pAq1_1 n a0 (c10_, [(c4_.1), (c12_.1)])).bind fun c13_ =>
         some (c13_, (Nat.add big 1))
        else none
       else none
      else none
  else none
 else
  none
theorem m_pAq1_ok (n : Nat) (a0 : Int) (r : List Int × Nat) (h : m_pAq1 n a0 = some r) : Gv P (.func 9) (A_pAq1 a0) (H_pAq1 a0) (V_pAq1 a0 r) (R_pAq1 a0 r) := by
 unfold m_pAq1 at h
 obtain ⟨c1_, hc1, h⟩ := Option.bind_eq_some_iff.1 h
 by_cases hc2 : c1_ = true
 ·rw [if_pos hc2] at h
  by_cases hc3 : 0 ≤ (0 : Int) ∧ (0 : Int) < (Args.A.length : Int)
  ·rw [if_pos hc3] at h
   obtain ⟨c4_, hc4, h⟩ := Option.bind_eq_some_iff.1 h
   by_cases hc5 : (0 : Int) = a0
   ·rw [if_pos hc5] at h
    obtain rfl := oI h; exact (runF2 hm (L := lT []) ⟨[4], [(0, 0, false)], 1, 0⟩ (yy 6 (.call (C_treehasq1 a0 c1_ [] [])) <|
ww (m_treehasq1_ok n a0 c1_ hc1) <|
yy 7 (vf) <|
ww (p := (Value.bool (!c1_)) = (Value.bool false)) (vBn hc2) <|
zz 13 (xk1 0 Args.cA hc3) <|
zz 14 (fk10 (((0 : Int)).toNat * 8)) <|
zz 15 (lk11 hc4 (toNatLt hc3)) <|
zz 25 (xnF hc5) ee) (by kernel_rfl))
   ·rw [if_neg hc5] at h
    obtain ⟨⟨c6_0, c6_1⟩, hc6, h⟩ := Option.bind_eq_some_iff.1 h
    dsimp only at h
    by_cases hc7 : c6_1 = true
    ·rw [if_pos hc7] at h
     by_cases hc8 : 0 ≤ c6_0 ∧ c6_0 < (c4_.2.2.2.2.2.2.1.l.length : Int)
     ·rw [if_pos hc8] at h
      by_cases hc9 : (c6_0).toNat < (((c4_.2.2.2.2.2.2.1)).l).length
      ·rw [if_pos hc9] at h
       obtain ⟨c10_, hc10, h⟩ := Option.bind_eq_some_iff.1 h
       by_cases hc11 : 0 ≤ c10_ ∧ c10_ < (Args.A.length : Int)
       ·rw [if_pos hc11] at h
        obtain ⟨c12_, hc12, h⟩ := Option.bind_eq_some_iff.1 h
        obtain ⟨c13_, hc13, h⟩ := Option.bind_eq_some_iff.1 h
        obtain rfl := oI h; exact (runF2 hm (L := lT [(64, ⟨⟨[0, 1, 5, 6], [(0, 2, false)], 1, 0⟩, (X_pAq1_1 a0 c13_).1, (X_pAq1_1 a0 c13_).2⟩)]) ⟨[4], [(0, 0, true)], 1, 0⟩ (yy 6 (.call (C_treehasq1 a0 c1_ [] [])) <|
ww (m_treehasq1_ok n a0 c1_ hc1) <|
yy 7 (vf) <|
ww (p := (Value.bool (!c1_)) = (Value.bool false)) (vBn hc2) <|
zz 13 (xk1 0 Args.cA hc3) <|
zz 14 (fk10 (((0 : Int)).toNat * 8)) <|
zz 15 (lk11 hc4 (toNatLt hc3)) <|
zz 25 (xnT hc5) <|
zz 31 (xk1 0 Args.cA hc3) <|
zz 32 (fk12 (((0 : Int)).toNat * 8)) <|
zz 33 (lk13 hc4 (toNatLt hc3)) <|
yy 38 (.call (C_bSq1 (c4_.2.2.2.2.2.2.1) a0 (c6_0, c6_1) [] [])) <|
ww (m_bSq1_ok n (c4_.2.2.2.2.2.2.1) a0 (c6_0, c6_1) hc6) <|
yy 47 (vf) <|
ww (p := (Value.bool (!c6_1)) = (Value.bool false)) (vBn hc7) <|
zz 52 (xk6 (Nat.add ((c4_.2.2.2.2.2.2.1)).num 64) ((c4_.2.2.2.2.2.2.1)).cap hc8) <|
zz 53 (nk7 hc10 hc9) <|
zz 58 (xk1 0 Args.cA hc11) <|
zz 59 (fk10 ((c10_).toNat * 8)) <|
zz 60 (lk11 hc12 (toNatLt hc11)) <|
ww (p := LG P none (fnN P 9) 0 (codeOf P 9 [false, false, false, true, true, true, true]) (S_pAq1_1 a0 (c10_, [(c4_.1), (c12_.1)])) (X_pAq1_1 a0 c13_)) (m_pAq1_1_ok n a0 (c10_, [(c4_.1), (c12_.1)]) c13_ hc13) <|
ww (iv_flat c13_ 3) ee) (by kernel_rfl))
       ·rw [if_neg hc11] at h; cases h
      ·rw [if_neg hc9] at h; cases h
     ·rw [if_neg hc8] at h; cases h
    ·rw [if_neg hc7] at h
     by_cases hc8 : 0 ≤ (w64 (c6_0 - (1 : Int))) ∧ (w64 (c6_0 - (1 : Int))) < (c4_.2.2.2.2.2.2.1.l.length : Int)
     ·rw [if_pos hc8] at h
      by_cases hc9 : ((w64 (c6_0 - (1 : Int)))).toNat < (((c4_.2.2.2.2.2.2.1)).l).length
      ·rw [if_pos hc9] at h
       obtain ⟨c10_, hc10, h⟩ := Option.bind_eq_some_iff.1 h
       by_cases hc11 : 0 ≤ c10_ ∧ c10_ < (Args.A.length : Int)
       ·rw [if_pos hc11] at h
        obtain ⟨c12_, hc12, h⟩ := Option.bind_eq_some_iff.1 h
        obtain ⟨c13_, hc13, h⟩ := Option.bind_eq_some_iff.1 h
        obtain rfl := oI h; exact (runF2 hm (L := lT [(67, ⟨⟨[0, 1, 5, 6], [(0, 2, false)], 1, 0⟩, (X_pAq1_1 a0 c13_).1, (X_pAq1_1 a0 c13_).2⟩)]) ⟨[4], [(0, 0, true)], 1, 0⟩ (yy 6 (.call (C_treehasq1 a0 c1_ [] [])) <|
ww (m_treehasq1_ok n a0 c1_ hc1) <|
yy 7 (vf) <|
ww (p := (Value.bool (!c1_)) = (Value.bool false)) (vBn hc2) <|
zz 13 (xk1 0 Args.cA hc3) <|
zz 14 (fk10 (((0 : Int)).toNat * 8)) <|
zz 15 (lk11 hc4 (toNatLt hc3)) <|
zz 25 (xnT hc5) <|
zz 31 (xk1 0 Args.cA hc3) <|
zz 32 (fk12 (((0 : Int)).toNat * 8)) <|
zz 33 (lk13 hc4 (toNatLt hc3)) <|
yy 38 (.call (C_bSq1 (c4_.2.2.2.2.2.2.1) a0 (c6_0, c6_1) [] [])) <|
ww (m_bSq1_ok n (c4_.2.2.2.2.2.2.1) a0 (c6_0, c6_1) hc6) <|
yy 47 (vt) <|
ww (p := (Value.bool (!c6_1)) = (Value.bool true)) (vBn (Bool.eq_false_iff.2 hc7)) <|
zz 55 (xk6 (Nat.add ((c4_.2.2.2.2.2.2.1)).num 64) ((c4_.2.2.2.2.2.2.1)).cap hc8) <|
zz 56 (nk7 hc10 hc9) <|
zz 61 (xk1 0 Args.cA hc11) <|
zz 62 (fk10 ((c10_).toNat * 8)) <|
zz 63 (lk11 hc12 (toNatLt hc11)) <|
ww (p := LG P none (fnN P 9) 0 (codeOf P 9 [false, false, false, true, true, true, true]) (S_pAq1_1 a0 (c10_, [(c4_.1), (c12_.1)])) (X_pAq1_1 a0 c13_)) (m_pAq1_1_ok n a0 (c10_, [(c4_.1), (c12_.1)]) c13_ hc13) <|
ww (iv_flat c13_ 3) ee) (by kernel_rfl))
       ·rw [if_neg hc11] at h; cases h
      ·rw [if_neg hc9] at h; cases h
     ·rw [if_neg hc8] at h; cases h
  ·rw [if_neg hc3] at h; cases h
 ·rw [if_neg hc2] at h
  cases h

def A_sIq1 (a0 : List Int) (a1 : Nat) (a2 : List Int) (a3 : Nat) (a4 : Nat) : List Value := [(sN 0 0 (a0).length a1), (sN 1 0 a3 a4)]
def H_sIq1 (a0 : List Int) (a1 : Nat) (a2 : List Int) (a3 : Nat) (a4 : Nat) : AH := ⟨sB [(0, (some (.cells (layT (iv a0)) 3))), (1, (some (.cells (layT (iv a2)) 3)))], 2, 2⟩
def V_sIq1 (a0 : List Int) (a1 : Nat) (a2 : List Int) (a3 : Nat) (a4 : Nat) (r : Bool) : Value := match r with
 | o0 => (bO o0)
def R_sIq1 (a0 : List Int) (a1 : Nat) (a2 : List Int) (a3 : Nat) (a4 : Nat) (r : Bool) : AH := match r with
 | o0 => ⟨sB [], 2, 2⟩
abbrev G_sIq1 (a0 : List Int) (a1 : Nat) (a2 : List Int) (a3 : Nat) (a4 : Nat) (r : Bool) : Prop := Gv P (.func 10) (A_sIq1 a0 a1 a2 a3 a4) (H_sIq1 a0 a1 a2 a3 a4) (V_sIq1 a0 a1 a2 a3 a4 r) (R_sIq1 a0 a1 a2 a3 a4 r)
abbrev C_sIq1 (a0 : List Int) (a1 : Nat) (a2 : List Int) (a3 : Nat) (a4 : Nat) (r : Bool) (ins outs : BL) : CallA := ⟨2, ins, V_sIq1 a0 a1 a2 a3 a4 r, R_sIq1 a0 a1 a2 a3 a4 r, outs⟩
def S_sIq1_1 (x1_0 : List Int) (x1_1 : List Int) (x1_2 : Nat) (x1_3 : Nat) (x1_4 : Nat) (st : Int) : XSt := match st with
 | x1_5 => (sT 26 [(0, (sN 0 0 (x1_0).length x1_2)), (1, (sN 1 0 x1_3 x1_4)), (5, (i6 x1_5))], [], ⟨sB [(0, (some (.cells (layT (iv x1_0)) 3))), (1, (some (.cells (layT (iv x1_1)) 3)))], 2, 2⟩)
def X_sIq1_1 (x1_0 : List Int) (x1_1 : List Int) (x1_2 : Nat) (x1_3 : Nat) (x1_4 : Nat) (r : (Unit) ⊕ (Unit)) : Ex × XSt := match r with
 | .inl _ => (.ret, (sT 26 [(4, (bO false))], [], ⟨sB [(0, (some (.cells (layT (iv x1_0)) 3))), (1, (some (.cells (layT (iv x1_1)) 3)))], 2, 2⟩))
 | .inr _ => (.exit 0, (sT 26 [], [], ⟨sB [(0, (some (.cells (layT (iv x1_0)) 3))), (1, (some (.cells (layT (iv x1_1)) 3)))], 2, 2⟩))
abbrev Q_sIq1_1 (rnd : Option Nat) (x1_0 : List Int) (x1_1 : List Int) (x1_2 : Nat) (x1_3 : Nat) (x1_4 : Nat) (st : Int) (c : Ex × XSt) : Prop := CG P rnd (fnN P 10) 2 (codeOf P 10 [false, false, true, false, true, true]) (S_sIq1_1 x1_0 x1_1 x1_2 x1_3 x1_4 st) c
abbrev U_sIq1_1 (rd : Option Nat) (x1_0 : List Int) (x1_1 : List Int) (x1_2 : Nat) (x1_3 : Nat) (x1_4 : Nat) (st : Int) (r : (Unit) ⊕ (Unit)) : Prop := CG P rd (fnN P 10) 2 (codeOf P 10 [false, true, false, true, true]) (S_sIq1_1 x1_0 x1_1 x1_2 x1_3 x1_4 st) (X_sIq1_1 x1_0 x1_1 x1_2 x1_3 x1_4 r)
def B_sIq1_1 (n : Nat) (x1_0 : List Int) (x1_1 : List Int) (x1_2 : Nat) (x1_3 : Nat) (x1_4 : Nat) (st : Int) : Option ((Int) ⊕ ((Unit) ⊕ (Unit))) := match st with
 | x1_5 =>
  if x1_5 < (x1_0.length : Int) then
   if 0 ≤ x1_5 ∧ x1_5 < (x1_0.length : Int) then
    ((some ((x1_0).getD (x1_5).toNat 0))).bind fun y1_3_ =>
    if 0 ≤ x1_5 ∧ x1_5 < ((x1_3 : Nat) : Int) then
     if (x1_5).toNat < (x1_1).length then
      ((some ((x1_1).getD (x1_5).toNat 0))).bind fun y1_6_ =>
      if y1_3_ = y1_6_ then
       some (.inl (w64 (x1_5 + (1 : Int))))
      else
       some (.inr (.inl ()))
     else none
    else none
   else none
  else
   some (.inr (.inr ()))
def m_sIq1_1 (n : Nat) (x1_0 : List Int) (x1_1 : List Int) (x1_2 : Nat) (x1_3 : Nat) (x1_4 : Nat) (st : Int) : Option ((Unit) ⊕ (Unit)) := iterM (B_sIq1_1 n x1_0 x1_1 x1_2 x1_3 x1_4) n st
theorem q_sIq1_1_0 (n : Nat) {rnd : Option Nat} (x1_0 x1_1 : List Int) (x1_2 x1_3 x1_4 : Nat) (x1_5 : Int) (hy1_1 : x1_5 < (x1_0.length : Int)) (hy1_2 : 0 ≤ x1_5 ∧ x1_5 < (x1_0.length : Int)) (y1_3_ : Int) (hy1_3 : (some ((x1_0).getD (x1_5).toNat 0)) = some y1_3_) (hy1_4 : 0 ≤ x1_5 ∧ x1_5 < ((x1_3 : Nat) : Int)) (hy1_5 : (x1_5).toNat < (x1_1).length) (y1_6_ : Int) (hy1_6 : (some ((x1_1).getD (x1_5).toNat 0)) = some y1_6_) (hy1_7 : y1_3_ = y1_6_) : Q_sIq1_1 rnd x1_0 x1_1 x1_2 x1_3 x1_4 x1_5 (.normal, S_sIq1_1 x1_0 x1_1 x1_2 x1_3 x1_4 (w64 (x1_5 + (1 : Int)))) :=
 runC2 hm (L := lT []) ⟨[0, 1, 5], [(0, 0, true), (1, 1, true)], 2, 2⟩ (zz 5 (xdT hy1_1) <|
zz 12 (xk9 0 x1_2 hy1_2) <|
zz 13 (xivN hy1_3 (toNatLt hy1_2)) <|
zz 16 (xk9 1 x1_4 hy1_4) <|
zz 17 (xivN hy1_6 hy1_5) <|
zz 18 (xnF hy1_7) <|
ww (iv_flat x1_0 3) <|
ww (iv_flat x1_1 3) <|
ee) (by kernel_rfl)
theorem q_sIq1_1_1 (n : Nat) {rnd : Option Nat} (x1_0 x1_1 : List Int) (x1_2 x1_3 x1_4 : Nat) (x1_5 : Int) (hy1_1 : x1_5 < (x1_0.length : Int)) (hy1_2 : 0 ≤ x1_5 ∧ x1_5 < (x1_0.length : Int)) (y1_3_ : Int) (hy1_3 : (some ((x1_0).getD (x1_5).toNat 0)) = some y1_3_) (hy1_4 : 0 ≤ x1_5 ∧ x1_5 < ((x1_3 : Nat) : Int)) (hy1_5 : (x1_5).toNat < (x1_1).length) (y1_6_ : Int) (hy1_6 : (some ((x1_1).getD (x1_5).toNat 0)) = some y1_6_) (hy1_7 : ¬ (y1_3_ = y1_6_)) : Q_sIq1_1 rnd x1_0 x1_1 x1_2 x1_3 x1_4 x1_5 (X_sIq1_1 x1_0 x1_1 x1_2 x1_3 x1_4 (.inl ())) :=
 runC2 hm (L := lT []) ⟨[4], [(0, 0, true), (1, 1, true)], 2, 2⟩ (zz 5 (xdT hy1_1) <|
zz 12 (xk9 0 x1_2 hy1_2) <|
zz 13 (xivN hy1_3 (toNatLt hy1_2)) <|
zz 16 (xk9 1 x1_4 hy1_4) <|
zz 17 (xivN hy1_6 hy1_5) <|
zz 18 (xnT hy1_7) <|
ww (iv_flat x1_0 3) <|
ww (iv_flat x1_1 3) <|
ee) (by kernel_rfl)
theorem q_sIq1_1_2 (n : Nat) {rnd : Option Nat} (x1_0 x1_1 : List Int) (x1_2 x1_3 x1_4 : Nat) (x1_5 : Int) (hy1_1 : ¬ (x1_5 < (x1_0.length : Int))) : Q_sIq1_1 rnd x1_0 x1_1 x1_2 x1_3 x1_4 x1_5 (X_sIq1_1 x1_0 x1_1 x1_2 x1_3 x1_4 (.inr ())) :=
 runC2 hm (L := lT []) ⟨[], [(0, 0, true), (1, 1, true)], 2, 2⟩ (zz 5 (xdF hy1_1) <|
ww (iv_flat x1_0 3) <|
ww (iv_flat x1_1 3) <|
ee) (by kernel_rfl)
theorem m_sIq1_1_ok (n : Nat) {rnd : Option Nat} (x1_0 : List Int) (x1_1 : List Int) (x1_2 : Nat) (x1_3 : Nat) (x1_4 : Nat) (st : Int) (r : (Unit) ⊕ (Unit)) (h : m_sIq1_1 n x1_0 x1_1 x1_2 x1_3 x1_4 st = some r) : CG P rnd (fnN P 10) 2 (codeOf P 10 [false, true, false, true, true]) (S_sIq1_1 x1_0 x1_1 x1_2 x1_3 x1_4 st) (X_sIq1_1 x1_0 x1_1 x1_2 x1_3 x1_4 r) :=
 CG.iter (b := codeOf P 10 [false, false, true, false, true, true]) (by kernel_rfl) (body := B_sIq1_1 n x1_0 x1_1 x1_2 x1_3 x1_4) (S := S_sIq1_1 x1_0 x1_1 x1_2 x1_3 x1_4) (X := X_sIq1_1 x1_0 x1_1 x1_2 x1_3 x1_4)
  (fun x1_5 s' h => by
  unfold B_sIq1_1 at h
  dsimp only at h
  by_cases hy1_1 : x1_5 < (x1_0.length : Int)
  ·rw [if_pos hy1_1] at h
   by_cases hy1_2 : 0 ≤ x1_5 ∧ x1_5 < (x1_0.length : Int)
   ·rw [if_pos hy1_2] at h
    obtain ⟨y1_3_, hy1_3, h⟩ := Option.bind_eq_some_iff.1 h
    by_cases hy1_4 : 0 ≤ x1_5 ∧ x1_5 < ((x1_3 : Nat) : Int)
    ·rw [if_pos hy1_4] at h
     by_cases hy1_5 : (x1_5).toNat < (x1_1).length
     ·rw [if_pos hy1_5] at h
      obtain ⟨y1_6_, hy1_6, h⟩ := Option.bind_eq_some_iff.1 h
      by_cases hy1_7 : y1_3_ = y1_6_
      ·rw [if_pos hy1_7] at h
       obtain rfl := Sum.inl.inj (oI h); exact q_sIq1_1_0 n x1_0 x1_1 x1_2 x1_3 x1_4 x1_5 hy1_1 hy1_2 y1_3_ hy1_3 hy1_4 hy1_5 y1_6_ hy1_6 hy1_7
      ·rw [if_neg hy1_7] at h
       cases h
     ·rw [if_neg hy1_5] at h; cases h
    ·rw [if_neg hy1_4] at h; cases h
   ·rw [if_neg hy1_2] at h; cases h
  ·rw [if_neg hy1_1] at h
   cases h)
  (fun x1_5 r h => by
  unfold B_sIq1_1 at h
  dsimp only at h
  by_cases hy1_1 : x1_5 < (x1_0.length : Int)
  ·rw [if_pos hy1_1] at h
   by_cases hy1_2 : 0 ≤ x1_5 ∧ x1_5 < (x1_0.length : Int)
   ·rw [if_pos hy1_2] at h
    obtain ⟨y1_3_, hy1_3, h⟩ := Option.bind_eq_some_iff.1 h
    by_cases hy1_4 : 0 ≤ x1_5 ∧ x1_5 < ((x1_3 : Nat) : Int)
    ·rw [if_pos hy1_4] at h
     by_cases hy1_5 : (x1_5).toNat < (x1_1).length
     ·rw [if_pos hy1_5] at h
      obtain ⟨y1_6_, hy1_6, h⟩ := Option.bind_eq_some_iff.1 h
      by_cases hy1_7 : y1_3_ = y1_6_
      ·rw [if_pos hy1_7] at h
       cases h
      ·rw [if_neg hy1_7] at h
       obtain rfl := Sum.inr.inj (oI h); exact q_sIq1_1_1 n x1_0 x1_1 x1_2 x1_3 x1_4 x1_5 hy1_1 hy1_2 y1_3_ hy1_3 hy1_4 hy1_5 y1_6_ hy1_6 hy1_7
     ·rw [if_neg hy1_5] at h; cases h
    ·rw [if_neg hy1_4] at h; cases h
   ·rw [if_neg hy1_2] at h; cases h
  ·rw [if_neg hy1_1] at h
   obtain rfl := Sum.inr.inj (oI h); exact q_sIq1_1_2 n x1_0 x1_1 x1_2 x1_3 x1_4 x1_5 hy1_1)
  (fun r => by intro hx; rcases r with _ | _ <;> cases hx) h
def m_sIq1 (n : Nat) (a0 : List Int) (a1 : Nat) (a2 : List Int) (a3 : Nat) (a4 : Nat) : Option (Bool) :=
 if (a0.length : Int) = ((a3 : Nat) : Int) then
  match m_sIq1_1 n a0 a2 a1 a3 a4 0 with
  | none => none
  | some (.inl _) =>
   some false
  | some (.inr _) =>
   some true
 else
  some false
theorem m_sIq1_ok (n : Nat) (a0 : List Int) (a1 : Nat) (a2 : List Int) (a3 : Nat) (a4 : Nat) (r : Bool) (h : m_sIq1 n a0 a1 a2 a3 a4 = some r) : Gv P (.func 10) (A_sIq1 a0 a1 a2 a3 a4) (H_sIq1 a0 a1 a2 a3 a4) (V_sIq1 a0 a1 a2 a3 a4 r) (R_sIq1 a0 a1 a2 a3 a4 r) := by
 unfold m_sIq1 at h
 by_cases hc1 : (a0.length : Int) = ((a3 : Nat) : Int)
 ·rw [if_pos hc1] at h
  rcases hc2 : m_sIq1_1 n a0 a2 a1 a3 a4 0 with _ | (⟨⟩ | ⟨⟩)
  ·rw [hc2] at h; cases h
  ·rw [hc2] at h
   dsimp only at h
   obtain rfl := oI h; exact (runF2 hm (L := lT [(14, ⟨⟨[0, 1, 5], [(0, 0, true), (1, 1, true)], 2, 2⟩, (X_sIq1_1 a0 a2 a1 a3 a4 (.inl ())).1, (X_sIq1_1 a0 a2 a1 a3 a4 (.inl ())).2⟩)]) ⟨[4], [], 2, 2⟩ (zz 8 (xnF hc1) <|
ww (p := U_sIq1_1 none a0 a2 a1 a3 a4 0 (.inl ())) (m_sIq1_1_ok n a0 a2 a1 a3 a4 0 (.inl ()) hc2) <|
ww (iv_flat a0 3) <|
ww (iv_flat a2 3) ee) (by kernel_rfl))
  ·rw [hc2] at h
   dsimp only at h
   obtain rfl := oI h; exact (runF2 hm (L := lT [(14, ⟨⟨[0, 1, 5], [(0, 0, true), (1, 1, true)], 2, 2⟩, (X_sIq1_1 a0 a2 a1 a3 a4 (.inr ())).1, (X_sIq1_1 a0 a2 a1 a3 a4 (.inr ())).2⟩)]) ⟨[4], [], 2, 2⟩ (zz 8 (xnF hc1) <|
ww (p := U_sIq1_1 none a0 a2 a1 a3 a4 0 (.inr ())) (m_sIq1_1_ok n a0 a2 a1 a3 a4 0 (.inr ()) hc2) <|
ww (iv_flat a0 3) <|
ww (iv_flat a2 3) ee) (by kernel_rfl))
 ·rw [if_neg hc1] at h
  obtain rfl := oI h; exact (runF2 hm (L := lT []) ⟨[4], [], 2, 2⟩ (zz 8 (xnT hc1) ee) (by kernel_rfl))

def A_partsEndq1 (a0 : Int) : List Value := [(sW 0 0 (Args.A).length Args.cA), (i6 a0)]
def H_partsEndq1 (a0 : Int) : AH := ⟨sB [], 0, 0⟩
def V_partsEndq1 (a0 : Int) (r : Int) : Value := match r with
 | o0 => (i6 o0)
def R_partsEndq1 (a0 : Int) (r : Int) : AH := match r with
 | o0 => ⟨sB [], 0, 0⟩
abbrev G_partsEndq1 (a0 : Int) (r : Int) : Prop := Gv P (.func 21) (A_partsEndq1 a0) (H_partsEndq1 a0) (V_partsEndq1 a0 r) (R_partsEndq1 a0 r)
abbrev C_partsEndq1 (a0 : Int) (r : Int) (ins outs : BL) : CallA := ⟨0, ins, V_partsEndq1 a0 r, R_partsEndq1 a0 r, outs⟩
def S_partsEndq1_1 (st : Int) : XSt := match st with
 | x1_0 => (sT 28 [(0, (sW 0 0 (Args.A).length Args.cA)), (1, (i6 x1_0))], [], ⟨sB [], 0, 0⟩)
def X_partsEndq1_1 (r : Int) : Ex × XSt := match r with
 | z1_0 => (.exit 0, (sT 28 [(1, (i6 z1_0))], [], ⟨sB [], 0, 0⟩))
abbrev Q_partsEndq1_1 (rnd : Option Nat) (st : Int) (c : Ex × XSt) : Prop := CG P rnd (fnN P 21) 0 (codeOf P 21 [false, false, false, true]) (S_partsEndq1_1 st) c
abbrev U_partsEndq1_1 (rd : Option Nat) (st : Int) (r : Int) : Prop := CG P rd (fnN P 21) 0 (codeOf P 21 [false, false, true]) (S_partsEndq1_1 st) (X_partsEndq1_1 r)
def B_partsEndq1_1 (n : Nat) (st : Int) : Option ((Int) ⊕ (Int)) := match st with
 | x1_0 =>
  if 0 ≤ x1_0 ∧ x1_0 < (Args.A.length : Int) then
   ((some ((Args.A).getD (x1_0).toNat (0, 0, 0, 0, 0, 0, nl0, 0)))).bind fun y1_2_ =>
   if (y1_2_.2.2.2.2.2.2.1.l.length : Int) > (0 : Int) then
    ((some (w64 ((y1_2_.2.2.2.2.2.2.1.l.length : Int) - (1 : Int))))).bind fun y1_4_ =>
    if 0 ≤ y1_4_ ∧ y1_4_ < (y1_2_.2.2.2.2.2.2.1.l.length : Int) then
     if (y1_4_).toNat < (((y1_2_.2.2.2.2.2.2.1)).l).length then
      ((some ((((y1_2_.2.2.2.2.2.2.1)).l).getD (y1_4_).toNat 0))).bind fun y1_7_ =>
      some (.inl y1_7_)
     else none
    else none
   else
    some (.inr x1_0)
  else none
def m_partsEndq1_1 (n : Nat) (st : Int) : Option (Int) := iterM (B_partsEndq1_1 n) n st
theorem q_partsEndq1_1_0 (n : Nat) {rnd : Option Nat} (x1_0 : Int) (hy1_1 : 0 ≤ x1_0 ∧ x1_0 < (Args.A.length : Int)) (y1_2_ : R8) (hy1_2 : (some ((Args.A).getD (x1_0).toNat (0, 0, 0, 0, 0, 0, nl0, 0))) = some y1_2_) (hy1_3 : (y1_2_.2.2.2.2.2.2.1.l.length : Int) > (0 : Int)) (y1_4_ : Int) (hy1_4 : (some (w64 ((y1_2_.2.2.2.2.2.2.1.l.length : Int) - (1 : Int)))) = some y1_4_) (hy1_5 : 0 ≤ y1_4_ ∧ y1_4_ < (y1_2_.2.2.2.2.2.2.1.l.length : Int)) (hy1_6 : (y1_4_).toNat < (((y1_2_.2.2.2.2.2.2.1)).l).length) (y1_7_ : Int) (hy1_7 : (some ((((y1_2_.2.2.2.2.2.2.1)).l).getD (y1_4_).toNat 0)) = some y1_7_) : Q_partsEndq1_1 rnd x1_0 (.normal, S_partsEndq1_1 y1_7_) :=
 runC2 hm (L := lT []) ⟨[0, 1], [], 0, 0⟩ (zz 4 (xk1 0 Args.cA hy1_1) <|
zz 5 (fk12 ((x1_0).toNat * 8)) <|
zz 6 (lk13 hy1_2 (toNatLt hy1_1)) <|
zz 8 (xdT hy1_3) <|
zz 13 (xk1 0 Args.cA hy1_1) <|
zz 14 (fk12 ((x1_0).toNat * 8)) <|
zz 15 (lk13 hy1_2 (toNatLt hy1_1)) <|
zz 18 (xk1 0 Args.cA hy1_1) <|
zz 19 (fk12 ((x1_0).toNat * 8)) <|
zz 20 (lk13 hy1_2 (toNatLt hy1_1)) <|
zz 22 (xnm hy1_4) <|
zz 23 (xk6 (Nat.add ((y1_2_.2.2.2.2.2.2.1)).num 64) ((y1_2_.2.2.2.2.2.2.1)).cap hy1_5) <|
zz 24 (nk7 hy1_7 hy1_6) <|
ee) (by kernel_rfl)
theorem q_partsEndq1_1_1 (n : Nat) {rnd : Option Nat} (x1_0 : Int) (hy1_1 : 0 ≤ x1_0 ∧ x1_0 < (Args.A.length : Int)) (y1_2_ : R8) (hy1_2 : (some ((Args.A).getD (x1_0).toNat (0, 0, 0, 0, 0, 0, nl0, 0))) = some y1_2_) (hy1_3 : ¬ ((y1_2_.2.2.2.2.2.2.1.l.length : Int) > (0 : Int))) : Q_partsEndq1_1 rnd x1_0 (X_partsEndq1_1 x1_0) :=
 runC2 hm (L := lT []) ⟨[1], [], 0, 0⟩ (zz 4 (xk1 0 Args.cA hy1_1) <|
zz 5 (fk12 ((x1_0).toNat * 8)) <|
zz 6 (lk13 hy1_2 (toNatLt hy1_1)) <|
zz 8 (xdF hy1_3) <|
ee) (by kernel_rfl)
theorem m_partsEndq1_1_ok (n : Nat) {rnd : Option Nat} (st : Int) (r : Int) (h : m_partsEndq1_1 n st = some r) : CG P rnd (fnN P 21) 0 (codeOf P 21 [false, false, true]) (S_partsEndq1_1 st) (X_partsEndq1_1 r) :=
 CG.iter (b := codeOf P 21 [false, false, false, true]) (by kernel_rfl) (body := B_partsEndq1_1 n) (S := S_partsEndq1_1) (X := X_partsEndq1_1)
  (fun x1_0 s' h => by
  unfold B_partsEndq1_1 at h
  dsimp only at h
  by_cases hy1_1 : 0 ≤ x1_0 ∧ x1_0 < (Args.A.length : Int)
  ·rw [if_pos hy1_1] at h
   obtain ⟨y1_2_, hy1_2, h⟩ := Option.bind_eq_some_iff.1 h
   by_cases hy1_3 : (y1_2_.2.2.2.2.2.2.1.l.length : Int) > (0 : Int)
   ·rw [if_pos hy1_3] at h
    obtain ⟨y1_4_, hy1_4, h⟩ := Option.bind_eq_some_iff.1 h
    by_cases hy1_5 : 0 ≤ y1_4_ ∧ y1_4_ < (y1_2_.2.2.2.2.2.2.1.l.length : Int)
    ·rw [if_pos hy1_5] at h
     by_cases hy1_6 : (y1_4_).toNat < (((y1_2_.2.2.2.2.2.2.1)).l).length
     ·rw [if_pos hy1_6] at h
      obtain ⟨y1_7_, hy1_7, h⟩ := Option.bind_eq_some_iff.1 h
      obtain rfl := Sum.inl.inj (oI h); exact q_partsEndq1_1_0 n x1_0 hy1_1 y1_2_ hy1_2 hy1_3 y1_4_ hy1_4 hy1_5 hy1_6 y1_7_ hy1_7
     ·rw [if_neg hy1_6] at h; cases h
    ·rw [if_neg hy1_5] at h; cases h
   ·rw [if_neg hy1_3] at h
    cases h
  ·rw [if_neg hy1_1] at h; cases h)
  (fun x1_0 r h => by
  unfold B_partsEndq1_1 at h
  dsimp only at h
  by_cases hy1_1 : 0 ≤ x1_0 ∧ x1_0 < (Args.A.length : Int)
  ·rw [if_pos hy1_1] at h
   obtain ⟨y1_2_, hy1_2, h⟩ := Option.bind_eq_some_iff.1 h
   by_cases hy1_3 : (y1_2_.2.2.2.2.2.2.1.l.length : Int) > (0 : Int)
   ·rw [if_pos hy1_3] at h
    obtain ⟨y1_4_, hy1_4, h⟩ := Option.bind_eq_some_iff.1 h
    by_cases hy1_5 : 0 ≤ y1_4_ ∧ y1_4_ < (y1_2_.2.2.2.2.2.2.1.l.length : Int)
    ·rw [if_pos hy1_5] at h
     by_cases hy1_6 : (y1_4_).toNat < (((y1_2_.2.2.2.2.2.2.1)).l).length
     ·rw [if_pos hy1_6] at h
      obtain ⟨y1_7_, hy1_7, h⟩ := Option.bind_eq_some_iff.1 h
      cases h
     ·rw [if_neg hy1_6] at h; cases h
    ·rw [if_neg hy1_5] at h; cases h
   ·rw [if_neg hy1_3] at h
    obtain rfl := Sum.inr.inj (oI h); exact q_partsEndq1_1_1 n x1_0 hy1_1 y1_2_ hy1_2 hy1_3
  ·rw [if_neg hy1_1] at h; cases h)
  (fun r => by intro hx; cases hx) h
def m_partsEndq1 (n : Nat) (a0 : Int) : Option (Int) :=
 (m_partsEndq1_1 n a0).bind fun c1_ =>
 some (w64 (c1_ + (1 : Int)))
theorem m_partsEndq1_ok (n : Nat) (a0 : Int) (r : Int) (h : m_partsEndq1 n a0 = some r) : Gv P (.func 21) (A_partsEndq1 a0) (H_partsEndq1 a0) (V_partsEndq1 a0 r) (R_partsEndq1 a0 r) := by
 unfold m_partsEndq1 at h
 obtain ⟨c1_, hc1, h⟩ := Option.bind_eq_some_iff.1 h
 obtain rfl := oI h; exact (runF2 hm (L := lT [(4, ⟨⟨[0, 1], [], 0, 0⟩, (X_partsEndq1_1 c1_).1, (X_partsEndq1_1 c1_).2⟩)]) ⟨[4], [], 0, 0⟩ (ww (p := U_partsEndq1_1 none a0 c1_) (m_partsEndq1_1_ok n a0 c1_ hc1) ee) (by kernel_rfl))

def A_tEq1 (a0 : Int) : List Value := [(sW 0 0 (Args.A).length Args.cA), (i6 a0)]
def H_tEq1 (a0 : Int) : AH := ⟨sB [], 0, 0⟩
def V_tEq1 (a0 : Int) (r : Int) : Value := match r with
 | o0 => (i6 o0)
def R_tEq1 (a0 : Int) (r : Int) : AH := match r with
 | o0 => ⟨sB [], 0, 0⟩
abbrev G_tEq1 (a0 : Int) (r : Int) : Prop := Gv P (.func 11) (A_tEq1 a0) (H_tEq1 a0) (V_tEq1 a0 r) (R_tEq1 a0 r)
abbrev C_tEq1 (a0 : Int) (r : Int) (ins outs : BL) : CallA := ⟨0, ins, V_tEq1 a0 r, R_tEq1 a0 r, outs⟩
def m_tEq1 (n : Nat) (a0 : Int) : Option (Int) :=
 (m_treehasq1 n a0).bind fun c1_ =>
 if c1_ = true then
  (m_partsEndq1 n a0).bind fun c3_ =>
  some c3_
 else
  none
theorem m_tEq1_ok (n : Nat) (a0 : Int) (r : Int) (h : m_tEq1 n a0 = some r) : Gv P (.func 11) (A_tEq1 a0) (H_tEq1 a0) (V_tEq1 a0 r) (R_tEq1 a0 r) := by
 unfold m_tEq1 at h
 obtain ⟨c1_, hc1, h⟩ := Option.bind_eq_some_iff.1 h
 by_cases hc2 : c1_ = true
 ·rw [if_pos hc2] at h
  obtain ⟨c3_, hc3, h⟩ := Option.bind_eq_some_iff.1 h
  obtain rfl := oI h; exact (runF2 hm (L := lT []) ⟨[4], [], 0, 0⟩ (yy 6 (.call (C_treehasq1 a0 c1_ [] [])) <|
ww (m_treehasq1_ok n a0 c1_ hc1) <|
yy 7 (vf) <|
ww (p := (Value.bool (!c1_)) = (Value.bool false)) (vBn hc2) <|
yy 12 (.call (C_partsEndq1 a0 c3_ [] [])) <|
ww (m_partsEndq1_ok n a0 c3_ hc3) ee) (by kernel_rfl))
 ·rw [if_neg hc2] at h
  cases h

def A_plq1 (a0 : Int) : List Value := [(sW 0 0 (Args.A).length Args.cA), (i6 a0)]
def H_plq1 (a0 : Int) : AH := ⟨sB [], 0, 0⟩
def V_plq1 (a0 : Int) (r : Unit) : Value := match r with
 | _ => (Value.func (.func 26) #[] #[(pN 0 0), (pN 1 0)])
def R_plq1 (a0 : Int) (r : Unit) : AH := match r with
 | _ => ⟨sB [(0, (some (.cells (layT [(sW 0 0 (Args.A).length Args.cA)]) 22))), (1, (some (.cells (layT [(i6 a0)]) 3)))], 2, 0⟩
abbrev G_plq1 (a0 : Int) (r : Unit) : Prop := Gv P (.func 22) (A_plq1 a0) (H_plq1 a0) (V_plq1 a0 r) (R_plq1 a0 r)
abbrev C_plq1 (a0 : Int) (r : Unit) (ins outs : BL) : CallA := ⟨0, ins, V_plq1 a0 r, R_plq1 a0 r, outs⟩
def m_plq1 (n : Nat) (a0 : Int) : Option (Unit) :=
 some ()
theorem m_plq1_ok (n : Nat) (a0 : Int) (r : Unit) (h : m_plq1 n a0 = some r) : Gv P (.func 22) (A_plq1 a0) (H_plq1 a0) (V_plq1 a0 r) (R_plq1 a0 r) := by
 unfold m_plq1 at h
 obtain rfl := oI h; exact (runF2 hm (L := lT []) ⟨[4], [(0, 0, false), (1, 1, false)], 2, 0⟩ (ee) (by kernel_rfl))

def A_pIq1 (a0 : Int) (a1 : Int) (a2 : Int) (a3 : Int) (a4 : Int) (a5 : Int) (a6 : NL) (a7 : Int) : List Value := [(Value.agg #[(i6 a0), (i6 a1), (i6 a2), (i6 a3), (i6 a4), (i6 a5), (nlV a6), (Value.int .u64 a7)])]
def H_pIq1 (a0 : Int) (a1 : Int) (a2 : Int) (a3 : Int) (a4 : Int) (a5 : Int) (a6 : NL) (a7 : Int) : AH := ⟨sB [], 0, 0⟩
def V_pIq1 (a0 : Int) (a1 : Int) (a2 : Int) (a3 : Int) (a4 : Int) (a5 : Int) (a6 : NL) (a7 : Int) (r : Bool) : Value := match r with
 | o0 => (bO o0)
def R_pIq1 (a0 : Int) (a1 : Int) (a2 : Int) (a3 : Int) (a4 : Int) (a5 : Int) (a6 : NL) (a7 : Int) (r : Bool) : AH := match r with
 | o0 => ⟨sB [], 0, 0⟩
abbrev G_pIq1 (a0 : Int) (a1 : Int) (a2 : Int) (a3 : Int) (a4 : Int) (a5 : Int) (a6 : NL) (a7 : Int) (r : Bool) : Prop := Gv P (.func 23) (A_pIq1 a0 a1 a2 a3 a4 a5 a6 a7) (H_pIq1 a0 a1 a2 a3 a4 a5 a6 a7) (V_pIq1 a0 a1 a2 a3 a4 a5 a6 a7 r) (R_pIq1 a0 a1 a2 a3 a4 a5 a6 a7 r)
abbrev C_pIq1 (a0 : Int) (a1 : Int) (a2 : Int) (a3 : Int) (a4 : Int) (a5 : Int) (a6 : NL) (a7 : Int) (r : Bool) (ins outs : BL) : CallA := ⟨0, ins, V_pIq1 a0 a1 a2 a3 a4 a5 a6 a7 r, R_pIq1 a0 a1 a2 a3 a4 a5 a6 a7 r, outs⟩
def m_pIq1 (n : Nat) (a0 : Int) (a1 : Int) (a2 : Int) (a3 : Int) (a4 : Int) (a5 : Int) (a6 : NL) (a7 : Int) : Option (Bool) :=
 if a1 = (1 : Int) then
  some true
 else
  if a1 = (2 : Int) then
   some true
  else
   some false
theorem m_pIq1_ok (n : Nat) (a0 : Int) (a1 : Int) (a2 : Int) (a3 : Int) (a4 : Int) (a5 : Int) (a6 : NL) (a7 : Int) (r : Bool) (h : m_pIq1 n a0 a1 a2 a3 a4 a5 a6 a7 = some r) : Gv P (.func 23) (A_pIq1 a0 a1 a2 a3 a4 a5 a6 a7) (H_pIq1 a0 a1 a2 a3 a4 a5 a6 a7) (V_pIq1 a0 a1 a2 a3 a4 a5 a6 a7 r) (R_pIq1 a0 a1 a2 a3 a4 a5 a6 a7 r) := by
 unfold m_pIq1 at h
 by_cases hc1 : a1 = (1 : Int)
 ·rw [if_pos hc1] at h
  obtain rfl := oI h; exact (runF2 hm (L := lT []) ⟨[2], [], 0, 0⟩ (zz 6 (xeT hc1) ee) (by kernel_rfl))
 ·rw [if_neg hc1] at h
  by_cases hc2 : a1 = (2 : Int)
  ·rw [if_pos hc2] at h
   obtain rfl := oI h; exact (runF2 hm (L := lT []) ⟨[2], [], 0, 0⟩ (zz 6 (xeF hc1) <|
zz 10 (xeT hc2) ee) (by kernel_rfl))
  ·rw [if_neg hc2] at h
   obtain rfl := oI h; exact (runF2 hm (L := lT []) ⟨[2], [], 0, 0⟩ (zz 6 (xeF hc1) <|
zz 10 (xeF hc2) ee) (by kernel_rfl))

def A_lV_111010y1 (a0 : Int) (a1 : Int) : List Value := [(i6 a1)]
def H_lV_111010y1 (a0 : Int) (a1 : Int) : AH := ⟨sB [(0, (some (rblk P 12 [false, true, false, true, true, true] .ready none [(1, (pN 2 0)), (3, (pN 3 0)), (9, (Value.func (.func 26) #[] #[(pN 4 0), (pN 5 0)]))] 1))), (1, (some (.marks true))), (2, (some (.cells (layT [(sW 0 0 (Args.A).length Args.cA)]) 22))), (3, (some (.cells (layT [(Value.slice none 0 0)]) 30))), (4, (some (.cells (layT [(sW 0 0 (Args.A).length Args.cA)]) 22))), (5, (some (.cells (layT [(i6 a0)]) 3)))], 6, 6⟩
def V_lV_111010y1 (a0 : Int) (a1 : Int) (r : List Int) : Value := match r with
 | o0 => (bO true)
def R_lV_111010y1 (a0 : Int) (a1 : Int) (r : List Int) : AH := match r with
 | o0 => ⟨sB [(0, (some (rblk P 12 [false, true, false, true, true, true] .ready none [(1, (pN 2 0)), (3, (pN 3 0)), (9, (Value.func (.func 26) #[] #[(pN 4 0), (pN 5 0)]))] 1))), (1, (some (.marks true))), (2, (some (.cells (layT [(sW 0 0 (Args.A).length Args.cA)]) 22))), (3, (some (.cells (layT [(slN o0 6)]) 30))), (4, (some (.cells (layT [(sW 0 0 (Args.A).length Args.cA)]) 22))), (5, (some (.cells (layT [(i6 a0)]) 3))), (6, (nblk o0 3))], 7, 0⟩
abbrev G_lV_111010y1 (a0 : Int) (a1 : Int) (r : List Int) : Prop := Gv P (.yield 0) (A_lV_111010y1 a0 a1) (H_lV_111010y1 a0 a1) (V_lV_111010y1 a0 a1 r) (R_lV_111010y1 a0 a1 r)
abbrev C_lV_111010y1 (a0 : Int) (a1 : Int) (r : List Int) (ins outs : BL) : CallA := ⟨6, ins, V_lV_111010y1 a0 a1 r, R_lV_111010y1 a0 a1 r, outs⟩
def m_lV_111010y1 (n : Nat) (a0 : Int) (a1 : Int) : Option (List Int) :=
 if 0 ≤ a1 ∧ a1 < (Args.A.length : Int) then
  ((some ((Args.A).getD (a1).toNat (0, 0, 0, 0, 0, 0, nl0, 0)))).bind fun c2_ =>
  (m_pIq1 n (c2_.1) (c2_.2.1) (c2_.2.2.1) (c2_.2.2.2.1) (c2_.2.2.2.2.1) (c2_.2.2.2.2.2.1) (c2_.2.2.2.2.2.2.1) (c2_.2.2.2.2.2.2.2)).bind fun c3_ =>
  if c3_ = true then
   some ([] : List Int)
  else
   some [a1]
 else none
theorem m_lV_111010y1_ok (n : Nat) (a0 : Int) (a1 : Int) (r : List Int) (h : m_lV_111010y1 n a0 a1 = some r) : Gv P (.yield 0) (A_lV_111010y1 a0 a1) (H_lV_111010y1 a0 a1) (V_lV_111010y1 a0 a1 r) (R_lV_111010y1 a0 a1 r) := by
 unfold m_lV_111010y1 at h
 by_cases hc1 : 0 ≤ a1 ∧ a1 < (Args.A.length : Int)
 ·rw [if_pos hc1] at h
  obtain ⟨c2_, hc2, h⟩ := Option.bind_eq_some_iff.1 h
  obtain ⟨c3_, hc3, h⟩ := Option.bind_eq_some_iff.1 h
  by_cases hc4 : c3_ = true
  ·rw [if_pos hc4] at h
   obtain rfl := oI h; exact (runY_ok hm (A1 := aT []) (L1 := lT []) (A2 := aT [(4, .pur (pW 0 ((a1).toNat * 8))), (5, .ld (Value.agg #[(i6 (c2_.1)), (i6 (c2_.2.1)), (i6 (c2_.2.2.1)), (i6 (c2_.2.2.2.1)), (i6 (c2_.2.2.2.2.1)), (i6 (c2_.2.2.2.2.2.1)), (nlV (c2_.2.2.2.2.2.2.1)), (Value.int .u64 (c2_.2.2.2.2.2.2.2))])), (6, .call (C_pIq1 (c2_.1) (c2_.2.1) (c2_.2.2.1) (c2_.2.2.2.1) (c2_.2.2.2.2.1) (c2_.2.2.2.2.2.1) (c2_.2.2.2.2.2.2.1) (c2_.2.2.2.2.2.2.2) c3_ [] [])), (7, vf)]) (L2 := lT []) (wk := ⟨[], [(0, 0, false), (1, 1, false), (2, 2, false), (3, 3, false), (4, 4, false), (5, 5, false)], 7, 0⟩) (ps := [xp1 0 (Args.A).length Args.cA a1, lp2 (a1).toNat c2_, G_pIq1 (c2_.1) (c2_.2.1) (c2_.2.2.1) (c2_.2.2.2.1) (c2_.2.2.2.2.1) (c2_.2.2.2.2.2.1) (c2_.2.2.2.2.2.2.1) (c2_.2.2.2.2.2.2.2) c3_, (Value.bool (!c3_)) = (Value.bool false)]) (by kernel_rfl) ⟨((xk1 0 Args.cA hc1).p), ((lk2 hc2 (toNatLt hc1)).p), (m_pIq1_ok n (c2_.1) (c2_.2.1) (c2_.2.2.1) (c2_.2.2.2.1) (c2_.2.2.2.2.1) (c2_.2.2.2.2.2.1) (c2_.2.2.2.2.2.2.1) (c2_.2.2.2.2.2.2.2) c3_ hc3), (vBn hc4), trivial⟩)
  ·rw [if_neg hc4] at h
   obtain rfl := oI h; exact (runY_ok hm (A1 := aT []) (L1 := lT []) (A2 := aT [(4, .pur (pW 0 ((a1).toNat * 8))), (5, .ld (Value.agg #[(i6 (c2_.1)), (i6 (c2_.2.1)), (i6 (c2_.2.2.1)), (i6 (c2_.2.2.2.1)), (i6 (c2_.2.2.2.2.1)), (i6 (c2_.2.2.2.2.2.1)), (nlV (c2_.2.2.2.2.2.2.1)), (Value.int .u64 (c2_.2.2.2.2.2.2.2))])), (6, .call (C_pIq1 (c2_.1) (c2_.2.1) (c2_.2.2.1) (c2_.2.2.2.1) (c2_.2.2.2.2.1) (c2_.2.2.2.2.2.1) (c2_.2.2.2.2.2.2.1) (c2_.2.2.2.2.2.2.2) c3_ [] [])), (7, vt)]) (L2 := lT []) (wk := ⟨[], [(0, 0, false), (1, 1, false), (2, 2, false), (3, 3, false), (4, 4, false), (5, 5, false), (6, 7, false)], 7, 0⟩) (ps := [xp1 0 (Args.A).length Args.cA a1, lp2 (a1).toNat c2_, G_pIq1 (c2_.1) (c2_.2.1) (c2_.2.2.1) (c2_.2.2.2.1) (c2_.2.2.2.2.1) (c2_.2.2.2.2.2.1) (c2_.2.2.2.2.2.2.1) (c2_.2.2.2.2.2.2.2) c3_, (Value.bool (!c3_)) = (Value.bool true)]) (by kernel_rfl) ⟨((xk1 0 Args.cA hc1).p), ((lk2 hc2 (toNatLt hc1)).p), (m_pIq1_ok n (c2_.1) (c2_.2.1) (c2_.2.2.1) (c2_.2.2.2.1) (c2_.2.2.2.2.1) (c2_.2.2.2.2.2.1) (c2_.2.2.2.2.2.2.1) (c2_.2.2.2.2.2.2.2) c3_ hc3), (vBn (Bool.eq_false_iff.2 hc4)), trivial⟩)
 ·rw [if_neg hc1] at h; cases h

def A_lV_111010y2 (a0 : List Int) (a1 : Int) (a2 : Int) : List Value := [(i6 a2)]
def H_lV_111010y2 (a0 : List Int) (a1 : Int) (a2 : Int) : AH := ⟨sB [(0, (some (rblk P 12 [false, true, false, true, true, true] .ready none [(1, (pN 2 0)), (3, (pN 3 0)), (9, (Value.func (.func 26) #[] #[(pN 5 0), (pN 6 0)]))] 1))), (1, (some (.marks true))), (2, (some (.cells (layT [(sW 0 0 (Args.A).length Args.cA)]) 22))), (3, (some (.cells (layT [(sN 4 0 (a0).length (Nat.add big 1))]) 30))), (4, (some (.cells (layT (iv a0)) 3))), (5, (some (.cells (layT [(sW 0 0 (Args.A).length Args.cA)]) 22))), (6, (some (.cells (layT [(i6 a1)]) 3)))], 7, 7⟩
def V_lV_111010y2 (a0 : List Int) (a1 : Int) (a2 : Int) (r : List Int) : Value := match r with
 | o0 => (bO true)
def R_lV_111010y2 (a0 : List Int) (a1 : Int) (a2 : Int) (r : List Int) : AH := match r with
 | o0 => ⟨sB [(0, (some (rblk P 12 [false, true, false, true, true, true] .ready none [(1, (pN 2 0)), (3, (pN 3 0)), (9, (Value.func (.func 26) #[] #[(pN 5 0), (pN 6 0)]))] 1))), (1, (some (.marks true))), (2, (some (.cells (layT [(sW 0 0 (Args.A).length Args.cA)]) 22))), (3, (some (.cells (layT [(sN 7 0 (o0).length (Nat.add big 1))]) 30))), (5, (some (.cells (layT [(sW 0 0 (Args.A).length Args.cA)]) 22))), (6, (some (.cells (layT [(i6 a1)]) 3))), (7, (some (.cells (layT (iv o0)) 3)))], 8, 0⟩
abbrev G_lV_111010y2 (a0 : List Int) (a1 : Int) (a2 : Int) (r : List Int) : Prop := Gv P (.yield 0) (A_lV_111010y2 a0 a1 a2) (H_lV_111010y2 a0 a1 a2) (V_lV_111010y2 a0 a1 a2 r) (R_lV_111010y2 a0 a1 a2 r)
abbrev C_lV_111010y2 (a0 : List Int) (a1 : Int) (a2 : Int) (r : List Int) (ins outs : BL) : CallA := ⟨7, ins, V_lV_111010y2 a0 a1 a2 r, R_lV_111010y2 a0 a1 a2 r, outs⟩
def m_lV_111010y2 (n : Nat) (a0 : List Int) (a1 : Int) (a2 : Int) : Option (List Int) :=
 if 0 ≤ a2 ∧ a2 < (Args.A.length : Int) then
  ((some ((Args.A).getD (a2).toNat (0, 0, 0, 0, 0, 0, nl0, 0)))).bind fun c2_ =>
  (m_pIq1 n (c2_.1) (c2_.2.1) (c2_.2.2.1) (c2_.2.2.2.1) (c2_.2.2.2.2.1) (c2_.2.2.2.2.2.1) (c2_.2.2.2.2.2.2.1) (c2_.2.2.2.2.2.2.2)).bind fun c3_ =>
  if c3_ = true then
   some a0
  else
   if ((a0).length + 1) * 8 ≤ 140737488355328 then
    some (a0 ++ [a2])
   else none
 else none
theorem m_lV_111010y2_ok (n : Nat) (a0 : List Int) (a1 : Int) (a2 : Int) (r : List Int) (h : m_lV_111010y2 n a0 a1 a2 = some r) : Gv P (.yield 0) (A_lV_111010y2 a0 a1 a2) (H_lV_111010y2 a0 a1 a2) (V_lV_111010y2 a0 a1 a2 r) (R_lV_111010y2 a0 a1 a2 r) := by
 unfold m_lV_111010y2 at h
 by_cases hc1 : 0 ≤ a2 ∧ a2 < (Args.A.length : Int)
 ·rw [if_pos hc1] at h
  obtain ⟨c2_, hc2, h⟩ := Option.bind_eq_some_iff.1 h
  obtain ⟨c3_, hc3, h⟩ := Option.bind_eq_some_iff.1 h
  by_cases hc4 : c3_ = true
  ·rw [if_pos hc4] at h
   obtain rfl := oI h; exact (runY_ok hm (A1 := aT []) (L1 := lT []) (A2 := aT [(4, .pur (pW 0 ((a2).toNat * 8))), (5, .ld (Value.agg #[(i6 (c2_.1)), (i6 (c2_.2.1)), (i6 (c2_.2.2.1)), (i6 (c2_.2.2.2.1)), (i6 (c2_.2.2.2.2.1)), (i6 (c2_.2.2.2.2.2.1)), (nlV (c2_.2.2.2.2.2.2.1)), (Value.int .u64 (c2_.2.2.2.2.2.2.2))])), (6, .call (C_pIq1 (c2_.1) (c2_.2.1) (c2_.2.2.1) (c2_.2.2.2.1) (c2_.2.2.2.2.1) (c2_.2.2.2.2.2.1) (c2_.2.2.2.2.2.2.1) (c2_.2.2.2.2.2.2.2) c3_ [] [])), (7, vf)]) (L2 := lT []) (wk := ⟨[], [(0, 0, false), (1, 1, false), (2, 2, false), (3, 3, false), (5, 5, false), (6, 6, false), (7, 4, true)], 8, 0⟩) (ps := [xp1 0 (Args.A).length Args.cA a2, lp2 (a2).toNat c2_, G_pIq1 (c2_.1) (c2_.2.1) (c2_.2.2.1) (c2_.2.2.2.1) (c2_.2.2.2.2.1) (c2_.2.2.2.2.2.1) (c2_.2.2.2.2.2.2.1) (c2_.2.2.2.2.2.2.2) c3_, (Value.bool (!c3_)) = (Value.bool false), FlatB (.cells (layT (iv a0)) 3)]) (by kernel_rfl) ⟨((xk1 0 Args.cA hc1).p), ((lk2 hc2 (toNatLt hc1)).p), (m_pIq1_ok n (c2_.1) (c2_.2.1) (c2_.2.2.1) (c2_.2.2.2.1) (c2_.2.2.2.2.1) (c2_.2.2.2.2.2.1) (c2_.2.2.2.2.2.2.1) (c2_.2.2.2.2.2.2.2) c3_ hc3), (vBn hc4), (iv_flat a0 3), trivial⟩)
  ·rw [if_neg hc4] at h
   by_cases hc5 : ((a0).length + 1) * 8 ≤ 140737488355328
   ·rw [if_pos hc5] at h
    obtain rfl := oI h; exact (runY_ok hm (A1 := aT []) (L1 := lT []) (A2 := aT [(4, .pur (pW 0 ((a2).toNat * 8))), (5, .ld (Value.agg #[(i6 (c2_.1)), (i6 (c2_.2.1)), (i6 (c2_.2.2.1)), (i6 (c2_.2.2.2.1)), (i6 (c2_.2.2.2.2.1)), (i6 (c2_.2.2.2.2.2.1)), (nlV (c2_.2.2.2.2.2.2.1)), (Value.int .u64 (c2_.2.2.2.2.2.2.2))])), (6, .call (C_pIq1 (c2_.1) (c2_.2.1) (c2_.2.2.1) (c2_.2.2.2.1) (c2_.2.2.2.2.1) (c2_.2.2.2.2.2.1) (c2_.2.2.2.2.2.2.1) (c2_.2.2.2.2.2.2.2) c3_ [] [])), (7, vt), (12, .app ⟨none, iv a0, (iv (a0 ++ [a2])), ((a0 ++ [a2])).length, false⟩)]) (L2 := lT []) (wk := ⟨[], [(0, 0, false), (1, 1, false), (2, 2, false), (3, 3, false), (5, 5, false), (6, 6, false), (7, 8, true)], 8, 0⟩) (ps := [xp1 0 (Args.A).length Args.cA a2, lp2 (a2).toNat c2_, G_pIq1 (c2_.1) (c2_.2.1) (c2_.2.2.1) (c2_.2.2.2.1) (c2_.2.2.2.2.1) (c2_.2.2.2.2.2.1) (c2_.2.2.2.2.2.2.1) (c2_.2.2.2.2.2.2.2) c3_, (Value.bool (!c3_)) = (Value.bool true), 0 < 1, rdT (layT (iv a0)) (Nat.mul (a0).length 1) 0 = some (iv a0), fits (Nat.add (a0).length 1) 8 = true, allCells [(i6 a2)] = true, allCells (iv a0) = true, iv a0 ++ [(i6 a2)] = (iv (a0 ++ [a2])), Nat.add (a0).length 1 = ((a0 ++ [a2])).length, FlatB (.cells (layT (iv (a0 ++ [a2]))) 3)]) (by kernel_rfl) ⟨((xk1 0 Args.cA hc1).p), ((lk2 hc2 (toNatLt hc1)).p), (m_pIq1_ok n (c2_.1) (c2_.2.1) (c2_.2.2.1) (c2_.2.2.2.1) (c2_.2.2.2.2.1) (c2_.2.2.2.2.2.1) (c2_.2.2.2.2.2.2.1) (c2_.2.2.2.2.2.2.2) c3_ hc3), (vBn (Bool.eq_false_iff.2 hc4)), ((by decide)), (iv_rd _), (fits_ok hc5 (by have := hc5; show (_ : Nat) + _ ≤ _; omega)), (rfl), (iv_cells _), (by simp [iv]), (by simp), (iv_flat (a0 ++ [a2]) 3), trivial⟩)
   ·rw [if_neg hc5] at h; cases h
 ·rw [if_neg hc1] at h; cases h

def A_viq2 (a0 : Int) (a1 : List Int) (a2 : Int) : List Value := [(sW 0 0 (Args.A).length Args.cA), (i6 a0), (Value.func (.yield 0) #[] #[])]
def H_viq2 (a0 : Int) (a1 : List Int) (a2 : Int) : AH := ⟨sB [(0, (some (rblk P 12 [false, true, false, true, true, true] .ready none [(1, (pN 2 0)), (3, (pN 3 0)), (9, (Value.func (.func 26) #[] #[(pN 5 0), (pN 6 0)]))] 1))), (1, (some (.marks true))), (2, (some (.cells (layT [(sW 0 0 (Args.A).length Args.cA)]) 22))), (3, (some (.cells (layT [(sN 4 0 (a1).length (Nat.add big 1))]) 30))), (4, (some (.cells (layT (iv a1)) 3))), (5, (some (.cells (layT [(sW 0 0 (Args.A).length Args.cA)]) 22))), (6, (some (.cells (layT [(i6 a2)]) 3)))], 7, 7⟩
def V_viq2 (a0 : Int) (a1 : List Int) (a2 : Int) (r : List Int) : Value := match r with
 | o0 => (bO true)
def R_viq2 (a0 : Int) (a1 : List Int) (a2 : Int) (r : List Int) : AH := match r with
 | o0 => ⟨sB [(0, (some (rblk P 12 [false, true, false, true, true, true] .ready none [(1, (pN 2 0)), (3, (pN 3 0)), (9, (Value.func (.func 26) #[] #[(pN 5 0), (pN 6 0)]))] 1))), (1, (some (.marks true))), (2, (some (.cells (layT [(sW 0 0 (Args.A).length Args.cA)]) 22))), (3, (some (.cells (layT [(sN 7 0 (o0).length (Nat.add big 1))]) 30))), (5, (some (.cells (layT [(sW 0 0 (Args.A).length Args.cA)]) 22))), (6, (some (.cells (layT [(i6 a2)]) 3))), (7, (some (.cells (layT (iv o0)) 3)))], 8, 0⟩
abbrev G_viq2 (a0 : Int) (a1 : List Int) (a2 : Int) (r : List Int) : Prop := Gv P (.func 27) (A_viq2 a0 a1 a2) (H_viq2 a0 a1 a2) (V_viq2 a0 a1 a2 r) (R_viq2 a0 a1 a2 r)
abbrev C_viq2 (a0 : Int) (a1 : List Int) (a2 : Int) (r : List Int) (ins outs : BL) : CallA := ⟨7, ins, V_viq2 a0 a1 a2 r, R_viq2 a0 a1 a2 r, outs⟩
def S_viq2_1 (x1_1 : Int) (x1_2 : NL) (x1_3 : Int) (st : List Int × Int) : XSt := match st with
 | (x1_0, x1_4) => (sT 29 [(0, (sW 0 0 (Args.A).length Args.cA)), (2, (Value.func (.yield 0) #[] #[])), (17, (nlV x1_2)), (18, (i6 x1_3)), (19, (i6 x1_4))], [], ⟨sB [(0, (some (rblk P 12 [false, true, false, true, true, true] .ready none [(1, (pN 2 0)), (3, (pN 3 0)), (9, (Value.func (.func 26) #[] #[(pN 5 0), (pN 6 0)]))] 1))), (1, (some (.marks true))), (2, (some (.cells (layT [(sW 0 0 (Args.A).length Args.cA)]) 22))), (3, (some (.cells (layT [(sN 7 0 (x1_0).length (Nat.add big 1))]) 30))), (5, (some (.cells (layT [(sW 0 0 (Args.A).length Args.cA)]) 22))), (6, (some (.cells (layT [(i6 x1_1)]) 3))), (7, (some (.cells (layT (iv x1_0)) 3)))], 8, 0⟩)
def X_viq2_1 (x1_1 : Int) (x1_2 : NL) (x1_3 : Int) (r : List Int) : Ex × XSt := match r with
 | z1_0 => (.exit 0, (sT 29 [], [], ⟨sB [(0, (some (rblk P 12 [false, true, false, true, true, true] .ready none [(1, (pN 2 0)), (3, (pN 3 0)), (9, (Value.func (.func 26) #[] #[(pN 5 0), (pN 6 0)]))] 1))), (1, (some (.marks true))), (2, (some (.cells (layT [(sW 0 0 (Args.A).length Args.cA)]) 22))), (3, (some (.cells (layT [(sN 7 0 (z1_0).length (Nat.add big 1))]) 30))), (5, (some (.cells (layT [(sW 0 0 (Args.A).length Args.cA)]) 22))), (6, (some (.cells (layT [(i6 x1_1)]) 3))), (7, (some (.cells (layT (iv z1_0)) 3)))], 8, 0⟩))
abbrev Q_viq2_1 (rnd : Option Nat) (x1_1 : Int) (x1_2 : NL) (x1_3 : Int) (st : List Int × Int) (c : Ex × XSt) : Prop := CG P rnd (fnN P 27) 7 (codeOf P 27 [false, false, true, false, true, true]) (S_viq2_1 x1_1 x1_2 x1_3 st) c
abbrev U_viq2_1 (rd : Option Nat) (x1_1 : Int) (x1_2 : NL) (x1_3 : Int) (st : List Int × Int) (r : List Int) : Prop := CG P rd (fnN P 27) 7 (codeOf P 27 [false, true, false, true, true]) (S_viq2_1 x1_1 x1_2 x1_3 st) (X_viq2_1 x1_1 x1_2 x1_3 r)
def B_viq2_1 (rec_viq2 : (Int) → (List Int) → (Int) → Option (List Int)) (n : Nat) (x1_1 : Int) (x1_2 : NL) (x1_3 : Int) (st : List Int × Int) : Option ((List Int × Int) ⊕ (List Int)) := match st with
 | (x1_0, x1_4) =>
  if x1_4 < x1_3 then
   if 0 ≤ x1_4 ∧ x1_4 < (x1_2.l.length : Int) then
    if (x1_4).toNat < ((x1_2).l).length then
     ((some (((x1_2).l).getD (x1_4).toNat 0))).bind fun y1_4_ =>
     (rec_viq2 y1_4_ x1_0 x1_1).bind fun y1_5_ =>
     some (.inl (y1_5_, (w64 (x1_4 + (1 : Int)))))
    else none
   else none
  else
   some (.inr x1_0)
def m_viq2_1 (rec_viq2 : (Int) → (List Int) → (Int) → Option (List Int)) (n : Nat) (x1_1 : Int) (x1_2 : NL) (x1_3 : Int) (st : List Int × Int) : Option (List Int) := iterM (B_viq2_1 rec_viq2 n x1_1 x1_2 x1_3) n st
theorem q_viq2_1_0 (rec_viq2 : (Int) → (List Int) → (Int) → Option (List Int)) (hrec_viq2 : ∀ (a0 : Int) (a1 : List Int) (a2 : Int) (r : List Int), rec_viq2 a0 a1 a2 = some r → Gv P (.func 27) (A_viq2 a0 a1 a2) (H_viq2 a0 a1 a2) (V_viq2 a0 a1 a2 r) (R_viq2 a0 a1 a2 r)) (n : Nat) {rnd : Option Nat} (x1_0 : List Int) (x1_1 : Int) (x1_2 : NL) (x1_3 x1_4 : Int) (hy1_1 : x1_4 < x1_3) (hy1_2 : 0 ≤ x1_4 ∧ x1_4 < (x1_2.l.length : Int)) (hy1_3 : (x1_4).toNat < ((x1_2).l).length) (y1_4_ : Int) (hy1_4 : (some (((x1_2).l).getD (x1_4).toNat 0)) = some y1_4_) (y1_5_ : List Int) (hy1_5 : rec_viq2 y1_4_ x1_0 x1_1 = some y1_5_) : Q_viq2_1 rnd x1_1 x1_2 x1_3 (x1_0, x1_4) (.normal, S_viq2_1 x1_1 x1_2 x1_3 (y1_5_, (w64 (x1_4 + (1 : Int))))) :=
 runC2 hm (L := lT []) ⟨[0, 2, 17, 18, 19], [(0, 0, false), (1, 1, false), (2, 2, false), (3, 3, false), (5, 5, false), (6, 6, false), (7, 8, true)], 8, 0⟩ (zz 1 (xdT hy1_1) <|
zz 7 (xk6 (Nat.add (x1_2).num 64) (x1_2).cap hy1_2) <|
zz 8 (nk7 hy1_4 hy1_3) <|
yy 14 (.call (C_viq2 y1_4_ x1_0 x1_1 y1_5_ [(0, 0, false), (1, 1, false), (2, 2, false), (3, 3, false), (4, 7, true), (5, 5, false), (6, 6, false)] [(0, 0, false), (1, 1, false), (2, 2, false), (3, 3, false), (5, 5, false), (6, 6, false), (8, 7, true)])) <|
ww (hrec_viq2 y1_4_ x1_0 x1_1 y1_5_ hy1_5) <|
ww (iv_flat x1_0 3) <|
ww (iv_flat y1_5_ 3) <|
ww (iv_flat y1_5_ 3) <|
ee) (by kernel_rfl)
theorem q_viq2_1_1 (rec_viq2 : (Int) → (List Int) → (Int) → Option (List Int)) (hrec_viq2 : ∀ (a0 : Int) (a1 : List Int) (a2 : Int) (r : List Int), rec_viq2 a0 a1 a2 = some r → Gv P (.func 27) (A_viq2 a0 a1 a2) (H_viq2 a0 a1 a2) (V_viq2 a0 a1 a2 r) (R_viq2 a0 a1 a2 r)) (n : Nat) {rnd : Option Nat} (x1_0 : List Int) (x1_1 : Int) (x1_2 : NL) (x1_3 x1_4 : Int) (hy1_1 : ¬ (x1_4 < x1_3)) : Q_viq2_1 rnd x1_1 x1_2 x1_3 (x1_0, x1_4) (X_viq2_1 x1_1 x1_2 x1_3 x1_0) :=
 runC2 hm (L := lT []) ⟨[], [(0, 0, false), (1, 1, false), (2, 2, false), (3, 3, false), (5, 5, false), (6, 6, false), (7, 7, true)], 8, 0⟩ (zz 1 (xdF hy1_1) <|
ww (iv_flat x1_0 3) <|
ee) (by kernel_rfl)
theorem m_viq2_1_ok (rec_viq2 : (Int) → (List Int) → (Int) → Option (List Int)) (hrec_viq2 : ∀ (a0 : Int) (a1 : List Int) (a2 : Int) (r : List Int), rec_viq2 a0 a1 a2 = some r → Gv P (.func 27) (A_viq2 a0 a1 a2) (H_viq2 a0 a1 a2) (V_viq2 a0 a1 a2 r) (R_viq2 a0 a1 a2 r)) (n : Nat) {rnd : Option Nat} (x1_1 : Int) (x1_2 : NL) (x1_3 : Int) (st : List Int × Int) (r : List Int) (h : m_viq2_1 rec_viq2 n x1_1 x1_2 x1_3 st = some r) : CG P rnd (fnN P 27) 7 (codeOf P 27 [false, true, false, true, true]) (S_viq2_1 x1_1 x1_2 x1_3 st) (X_viq2_1 x1_1 x1_2 x1_3 r) :=
 CG.iter (b := codeOf P 27 [false, false, true, false, true, true]) (by kernel_rfl) (body := B_viq2_1 rec_viq2 n x1_1 x1_2 x1_3) (S := S_viq2_1 x1_1 x1_2 x1_3) (X := X_viq2_1 x1_1 x1_2 x1_3)
  (fun s s' h => by
  obtain ⟨x1_0, x1_4⟩ := s
  unfold B_viq2_1 at h
  dsimp only at h
  by_cases hy1_1 : x1_4 < x1_3
  ·rw [if_pos hy1_1] at h
   by_cases hy1_2 : 0 ≤ x1_4 ∧ x1_4 < (x1_2.l.length : Int)
   ·rw [if_pos hy1_2] at h
    by_cases hy1_3 : (x1_4).toNat < ((x1_2).l).length
    ·rw [if_pos hy1_3] at h
     obtain ⟨y1_4_, hy1_4, h⟩ := Option.bind_eq_some_iff.1 h
     obtain ⟨y1_5_, hy1_5, h⟩ := Option.bind_eq_some_iff.1 h
     obtain rfl := Sum.inl.inj (oI h); exact q_viq2_1_0 rec_viq2 hrec_viq2 n x1_0 x1_1 x1_2 x1_3 x1_4 hy1_1 hy1_2 hy1_3 y1_4_ hy1_4 y1_5_ hy1_5
    ·rw [if_neg hy1_3] at h; cases h
   ·rw [if_neg hy1_2] at h; cases h
  ·rw [if_neg hy1_1] at h
   cases h)
  (fun s r h => by
  obtain ⟨x1_0, x1_4⟩ := s
  unfold B_viq2_1 at h
  dsimp only at h
  by_cases hy1_1 : x1_4 < x1_3
  ·rw [if_pos hy1_1] at h
   by_cases hy1_2 : 0 ≤ x1_4 ∧ x1_4 < (x1_2.l.length : Int)
   ·rw [if_pos hy1_2] at h
    by_cases hy1_3 : (x1_4).toNat < ((x1_2).l).length
    ·rw [if_pos hy1_3] at h
     obtain ⟨y1_4_, hy1_4, h⟩ := Option.bind_eq_some_iff.1 h
     obtain ⟨y1_5_, hy1_5, h⟩ := Option.bind_eq_some_iff.1 h
     cases h
    ·rw [if_neg hy1_3] at h; cases h
   ·rw [if_neg hy1_2] at h; cases h
  ·rw [if_neg hy1_1] at h
   obtain rfl := Sum.inr.inj (oI h); exact q_viq2_1_1 rec_viq2 hrec_viq2 n x1_0 x1_1 x1_2 x1_3 x1_4 hy1_1)
  (fun r => by intro hx; cases hx) h
def s_viq2 (rec_viq2 : (Int) → (List Int) → (Int) → Option (List Int)) (n : Nat) (a0 : Int) (a1 : List Int) (a2 : Int) : Option (List Int) :=
 (m_lV_111010y2 n a1 a2 a0).bind fun c1_ =>
 if 0 ≤ a0 ∧ a0 < (Args.A.length : Int) then
  ((some ((Args.A).getD (a0).toNat (0, 0, 0, 0, 0, 0, nl0, 0)))).bind fun c3_ =>
  (m_viq2_1 rec_viq2 n a2 (c3_.2.2.2.2.2.2.1) (c3_.2.2.2.2.2.2.1.l.length : Int) (c1_, 0)).bind fun c4_ =>
  some c4_
 else none
theorem s_viq2_ok (rec_viq2 : (Int) → (List Int) → (Int) → Option (List Int)) (hrec_viq2 : ∀ (a0 : Int) (a1 : List Int) (a2 : Int) (r : List Int), rec_viq2 a0 a1 a2 = some r → Gv P (.func 27) (A_viq2 a0 a1 a2) (H_viq2 a0 a1 a2) (V_viq2 a0 a1 a2 r) (R_viq2 a0 a1 a2 r)) (n : Nat) (a0 : Int) (a1 : List Int) (a2 : Int) (r : List Int) (h : s_viq2 rec_viq2 n a0 a1 a2 = some r) : Gv P (.func 27) (A_viq2 a0 a1 a2) (H_viq2 a0 a1 a2) (V_viq2 a0 a1 a2 r) (R_viq2 a0 a1 a2 r) := by
 unfold s_viq2 at h
 obtain ⟨c1_, hc1, h⟩ := Option.bind_eq_some_iff.1 h
 by_cases hc2 : 0 ≤ a0 ∧ a0 < (Args.A.length : Int)
 ·rw [if_pos hc2] at h
  obtain ⟨c3_, hc3, h⟩ := Option.bind_eq_some_iff.1 h
  obtain ⟨c4_, hc4, h⟩ := Option.bind_eq_some_iff.1 h
  obtain rfl := oI h; exact (runF2 hm (L := lT [(19, ⟨⟨[0, 2, 17, 18, 19], [(0, 0, false), (1, 1, false), (2, 2, false), (3, 3, false), (5, 5, false), (6, 6, false), (7, 7, true)], 8, 0⟩, (X_viq2_1 a2 (c3_.2.2.2.2.2.2.1) (c3_.2.2.2.2.2.2.1.l.length : Int) c4_).1, (X_viq2_1 a2 (c3_.2.2.2.2.2.2.1) (c3_.2.2.2.2.2.2.1.l.length : Int) c4_).2⟩)]) ⟨[6], [(0, 0, false), (1, 1, false), (2, 2, false), (3, 3, false), (5, 5, false), (6, 6, false), (7, 7, true)], 8, 0⟩ (yy 6 (.call (C_lV_111010y2 a1 a2 a0 c1_ [(0, 0, false), (1, 1, false), (2, 2, false), (3, 3, false), (4, 4, true), (5, 5, false), (6, 6, false)] [(0, 0, false), (1, 1, false), (2, 2, false), (3, 3, false), (5, 5, false), (6, 6, false), (7, 7, true)])) <|
ww (m_lV_111010y2_ok n a1 a2 a0 c1_ hc1) <|
ww (iv_flat a1 3) <|
ww (iv_flat c1_ 3) <|
zz 13 (xk1 0 Args.cA hc2) <|
zz 14 (fk12 ((a0).toNat * 8)) <|
zz 15 (lk13 hc3 (toNatLt hc2)) <|
ww (p := U_viq2_1 none a2 (c3_.2.2.2.2.2.2.1) (c3_.2.2.2.2.2.2.1.l.length : Int) (c1_, 0) c4_) (m_viq2_1_ok rec_viq2 hrec_viq2 n a2 (c3_.2.2.2.2.2.2.1) (c3_.2.2.2.2.2.2.1.l.length : Int) (c1_, 0) c4_ hc4) <|
ww (iv_flat c1_ 3) <|
ww (iv_flat c4_ 3) ee) (by kernel_rfl))
 ·rw [if_neg hc2] at h; cases h
def m_viq2 : Nat → (Int) → (List Int) → (Int) → Option (List Int)
 | 0 => fun _ _ _ => none
 | n + 1 => fun a0 a1 a2 => s_viq2 (m_viq2 n) n a0 a1 a2
theorem m_viq2_ok : ∀ (n : Nat) (a0 : Int) (a1 : List Int) (a2 : Int) (r : List Int) (h : m_viq2 n a0 a1 a2 = some r), Gv P (.func 27) (A_viq2 a0 a1 a2) (H_viq2 a0 a1 a2) (V_viq2 a0 a1 a2 r) (R_viq2 a0 a1 a2 r)
 | 0, _, _, _, _, h => nomatch h
 | n + 1, a0, a1, a2, r, h => s_viq2_ok (m_viq2 n) (m_viq2_ok n) n a0 a1 a2 r h

def A_viq1 (a0 : Int) (a1 : Int) : List Value := [(sW 0 0 (Args.A).length Args.cA), (i6 a0), (Value.func (.yield 0) #[] #[])]
def H_viq1 (a0 : Int) (a1 : Int) : AH := ⟨sB [(0, (some (rblk P 12 [false, true, false, true, true, true] .ready none [(1, (pN 2 0)), (3, (pN 3 0)), (9, (Value.func (.func 26) #[] #[(pN 4 0), (pN 5 0)]))] 1))), (1, (some (.marks true))), (2, (some (.cells (layT [(sW 0 0 (Args.A).length Args.cA)]) 22))), (3, (some (.cells (layT [(Value.slice none 0 0)]) 30))), (4, (some (.cells (layT [(sW 0 0 (Args.A).length Args.cA)]) 22))), (5, (some (.cells (layT [(i6 a1)]) 3)))], 6, 6⟩
def V_viq1 (a0 : Int) (a1 : Int) (r : List Int) : Value := match r with
 | o0 => (bO true)
def R_viq1 (a0 : Int) (a1 : Int) (r : List Int) : AH := match r with
 | o0 => ⟨sB [(0, (some (rblk P 12 [false, true, false, true, true, true] .ready none [(1, (pN 2 0)), (3, (pN 3 0)), (9, (Value.func (.func 26) #[] #[(pN 4 0), (pN 5 0)]))] 1))), (1, (some (.marks true))), (2, (some (.cells (layT [(sW 0 0 (Args.A).length Args.cA)]) 22))), (3, (some (.cells (layT [(slN o0 6)]) 30))), (4, (some (.cells (layT [(sW 0 0 (Args.A).length Args.cA)]) 22))), (5, (some (.cells (layT [(i6 a1)]) 3))), (6, (nblk o0 3))], 7, 0⟩
abbrev G_viq1 (a0 : Int) (a1 : Int) (r : List Int) : Prop := Gv P (.func 27) (A_viq1 a0 a1) (H_viq1 a0 a1) (V_viq1 a0 a1 r) (R_viq1 a0 a1 r)
abbrev C_viq1 (a0 : Int) (a1 : Int) (r : List Int) (ins outs : BL) : CallA := ⟨6, ins, V_viq1 a0 a1 r, R_viq1 a0 a1 r, outs⟩
def S_viq1_1 (x1_1 : Int) (x1_2 : NL) (x1_3 : Int) (st : List Int × Int) : XSt := match st with
 | (x1_0, x1_4) => (sT 29 [(0, (sW 0 0 (Args.A).length Args.cA)), (2, (Value.func (.yield 0) #[] #[])), (17, (nlV x1_2)), (18, (i6 x1_3)), (19, (i6 x1_4))], [], ⟨sB [(0, (some (rblk P 12 [false, true, false, true, true, true] .ready none [(1, (pN 2 0)), (3, (pN 3 0)), (9, (Value.func (.func 26) #[] #[(pN 4 0), (pN 5 0)]))] 1))), (1, (some (.marks true))), (2, (some (.cells (layT [(sW 0 0 (Args.A).length Args.cA)]) 22))), (3, (some (.cells (layT [(slN x1_0 6)]) 30))), (4, (some (.cells (layT [(sW 0 0 (Args.A).length Args.cA)]) 22))), (5, (some (.cells (layT [(i6 x1_1)]) 3))), (6, (nblk x1_0 3))], 7, 0⟩)
def X_viq1_1 (x1_1 : Int) (x1_2 : NL) (x1_3 : Int) (r : List Int) : Ex × XSt := match r with
 | z1_0 => (.exit 0, (sT 29 [], [], ⟨sB [(0, (some (rblk P 12 [false, true, false, true, true, true] .ready none [(1, (pN 2 0)), (3, (pN 3 0)), (9, (Value.func (.func 26) #[] #[(pN 4 0), (pN 5 0)]))] 1))), (1, (some (.marks true))), (2, (some (.cells (layT [(sW 0 0 (Args.A).length Args.cA)]) 22))), (3, (some (.cells (layT [(slN z1_0 6)]) 30))), (4, (some (.cells (layT [(sW 0 0 (Args.A).length Args.cA)]) 22))), (5, (some (.cells (layT [(i6 x1_1)]) 3))), (6, (nblk z1_0 3))], 7, 0⟩))
abbrev Q_viq1_1 (rnd : Option Nat) (x1_1 : Int) (x1_2 : NL) (x1_3 : Int) (st : List Int × Int) (c : Ex × XSt) : Prop := CG P rnd (fnN P 27) 6 (codeOf P 27 [false, false, true, false, true, true]) (S_viq1_1 x1_1 x1_2 x1_3 st) c
abbrev U_viq1_1 (rd : Option Nat) (x1_1 : Int) (x1_2 : NL) (x1_3 : Int) (st : List Int × Int) (r : List Int) : Prop := CG P rd (fnN P 27) 6 (codeOf P 27 [false, true, false, true, true]) (S_viq1_1 x1_1 x1_2 x1_3 st) (X_viq1_1 x1_1 x1_2 x1_3 r)
def B_viq1_1 (rec_viq1 : (Int) → (Int) → Option (List Int)) (n : Nat) (x1_1 : Int) (x1_2 : NL) (x1_3 : Int) (st : List Int × Int) : Option ((List Int × Int) ⊕ (List Int)) := match st with
 | (x1_0, x1_4) =>
  match x1_0 with
  | [] =>
   if x1_4 < x1_3 then
    if 0 ≤ x1_4 ∧ x1_4 < (x1_2.l.length : Int) then
     if (x1_4).toNat < ((x1_2).l).length then
      ((some (((x1_2).l).getD (x1_4).toNat 0))).bind fun y1_4_ =>
      (rec_viq1 y1_4_ x1_1).bind fun y1_5_ =>
      match y1_5_ with
      | [] =>
       some (.inl (([] : List Int), (w64 (x1_4 + (1 : Int)))))
      | y1_5_a :: y1_5_t =>
       some (.inl ((y1_5_a :: y1_5_t), (w64 (x1_4 + (1 : Int)))))
     else none
    else none
   else
    some (.inr ([] : List Int))
  | x1_0a :: x1_0t =>
   if x1_4 < x1_3 then
    if 0 ≤ x1_4 ∧ x1_4 < (x1_2.l.length : Int) then
     if (x1_4).toNat < ((x1_2).l).length then
      ((some (((x1_2).l).getD (x1_4).toNat 0))).bind fun y1_4_ =>
      (m_viq2 n y1_4_ (x1_0a :: x1_0t) x1_1).bind fun y1_5_ =>
      match y1_5_ with
      | [] =>
       none
      | y1_5_a :: y1_5_t =>
       some (.inl ((y1_5_a :: y1_5_t), (w64 (x1_4 + (1 : Int)))))
     else none
    else none
   else
    some (.inr (x1_0a :: x1_0t))
def m_viq1_1 (rec_viq1 : (Int) → (Int) → Option (List Int)) (n : Nat) (x1_1 : Int) (x1_2 : NL) (x1_3 : Int) (st : List Int × Int) : Option (List Int) := iterM (B_viq1_1 rec_viq1 n x1_1 x1_2 x1_3) n st
theorem q_viq1_1_0 (rec_viq1 : (Int) → (Int) → Option (List Int)) (hrec_viq1 : ∀ (a0 : Int) (a1 : Int) (r : List Int), rec_viq1 a0 a1 = some r → Gv P (.func 27) (A_viq1 a0 a1) (H_viq1 a0 a1) (V_viq1 a0 a1 r) (R_viq1 a0 a1 r)) (n : Nat) {rnd : Option Nat} (x1_1 : Int) (x1_2 : NL) (x1_3 x1_4 : Int) (hy1_1 : x1_4 < x1_3) (hy1_2 : 0 ≤ x1_4 ∧ x1_4 < (x1_2.l.length : Int)) (hy1_3 : (x1_4).toNat < ((x1_2).l).length) (y1_4_ : Int) (hy1_4 : (some (((x1_2).l).getD (x1_4).toNat 0)) = some y1_4_) (hy1_5 : rec_viq1 y1_4_ x1_1 = some []) : Q_viq1_1 rnd x1_1 x1_2 x1_3 (([] : List Int), x1_4) (.normal, S_viq1_1 x1_1 x1_2 x1_3 (([] : List Int), (w64 (x1_4 + (1 : Int))))) :=
 runC2 hm (L := lT []) ⟨[0, 2, 17, 18, 19], [(0, 0, false), (1, 1, false), (2, 2, false), (3, 3, false), (4, 4, false), (5, 5, false)], 7, 0⟩ (zz 1 (xdT hy1_1) <|
zz 7 (xk6 (Nat.add (x1_2).num 64) (x1_2).cap hy1_2) <|
zz 8 (nk7 hy1_4 hy1_3) <|
yy 14 (.call (C_viq1 y1_4_ x1_1 ([] : List Int) [(0, 0, false), (1, 1, false), (2, 2, false), (3, 3, false), (4, 4, false), (5, 5, false)] [(0, 0, false), (1, 1, false), (2, 2, false), (3, 3, false), (4, 4, false), (5, 5, false)])) <|
ww (hrec_viq1 y1_4_ x1_1 ([] : List Int) hy1_5) <|
ee) (by kernel_rfl)
theorem q_viq1_1_1 (rec_viq1 : (Int) → (Int) → Option (List Int)) (hrec_viq1 : ∀ (a0 : Int) (a1 : Int) (r : List Int), rec_viq1 a0 a1 = some r → Gv P (.func 27) (A_viq1 a0 a1) (H_viq1 a0 a1) (V_viq1 a0 a1 r) (R_viq1 a0 a1 r)) (n : Nat) {rnd : Option Nat} (x1_1 : Int) (x1_2 : NL) (x1_3 x1_4 : Int) (hy1_1 : x1_4 < x1_3) (hy1_2 : 0 ≤ x1_4 ∧ x1_4 < (x1_2.l.length : Int)) (hy1_3 : (x1_4).toNat < ((x1_2).l).length) (y1_4_ : Int) (hy1_4 : (some (((x1_2).l).getD (x1_4).toNat 0)) = some y1_4_) (y1_5_a : Int) (y1_5_t : List (Int)) (hy1_5 : rec_viq1 y1_4_ x1_1 = some (y1_5_a :: y1_5_t)) : Q_viq1_1 rnd x1_1 x1_2 x1_3 (([] : List Int), x1_4) (.normal, S_viq1_1 x1_1 x1_2 x1_3 ((y1_5_a :: y1_5_t), (w64 (x1_4 + (1 : Int))))) :=
 runC2 hm (L := lT []) ⟨[0, 2, 17, 18, 19], [(0, 0, false), (1, 1, false), (2, 2, false), (3, 3, false), (4, 4, false), (5, 5, false), (6, 7, true)], 7, 0⟩ (zz 1 (xdT hy1_1) <|
zz 7 (xk6 (Nat.add (x1_2).num 64) (x1_2).cap hy1_2) <|
zz 8 (nk7 hy1_4 hy1_3) <|
yy 14 (.call (C_viq1 y1_4_ x1_1 (y1_5_a :: y1_5_t) [(0, 0, false), (1, 1, false), (2, 2, false), (3, 3, false), (4, 4, false), (5, 5, false)] [(0, 0, false), (1, 1, false), (2, 2, false), (3, 3, false), (4, 4, false), (5, 5, false), (7, 6, true)])) <|
ww (hrec_viq1 y1_4_ x1_1 (y1_5_a :: y1_5_t) hy1_5) <|
ww (iv_flat (y1_5_a :: y1_5_t) 3) <|
ww (iv_flat (y1_5_a :: y1_5_t) 3) <|
ee) (by kernel_rfl)
theorem q_viq1_1_2 (rec_viq1 : (Int) → (Int) → Option (List Int)) (hrec_viq1 : ∀ (a0 : Int) (a1 : Int) (r : List Int), rec_viq1 a0 a1 = some r → Gv P (.func 27) (A_viq1 a0 a1) (H_viq1 a0 a1) (V_viq1 a0 a1 r) (R_viq1 a0 a1 r)) (n : Nat) {rnd : Option Nat} (x1_1 : Int) (x1_2 : NL) (x1_3 x1_4 : Int) (hy1_1 : ¬ (x1_4 < x1_3)) : Q_viq1_1 rnd x1_1 x1_2 x1_3 (([] : List Int), x1_4) (X_viq1_1 x1_1 x1_2 x1_3 ([] : List Int)) :=
 runC2 hm (L := lT []) ⟨[], [(0, 0, false), (1, 1, false), (2, 2, false), (3, 3, false), (4, 4, false), (5, 5, false)], 7, 0⟩ (zz 1 (xdF hy1_1) <|
ee) (by kernel_rfl)
theorem q_viq1_1_3 (rec_viq1 : (Int) → (Int) → Option (List Int)) (hrec_viq1 : ∀ (a0 : Int) (a1 : Int) (r : List Int), rec_viq1 a0 a1 = some r → Gv P (.func 27) (A_viq1 a0 a1) (H_viq1 a0 a1) (V_viq1 a0 a1 r) (R_viq1 a0 a1 r)) (n : Nat) {rnd : Option Nat} (x1_0a : Int) (x1_0t : List (Int)) (x1_1 : Int) (x1_2 : NL) (x1_3 x1_4 : Int) (hy1_1 : x1_4 < x1_3) (hy1_2 : 0 ≤ x1_4 ∧ x1_4 < (x1_2.l.length : Int)) (hy1_3 : (x1_4).toNat < ((x1_2).l).length) (y1_4_ : Int) (hy1_4 : (some (((x1_2).l).getD (x1_4).toNat 0)) = some y1_4_) (y1_5_a : Int) (y1_5_t : List (Int)) (hy1_5 : m_viq2 n y1_4_ (x1_0a :: x1_0t) x1_1 = some (y1_5_a :: y1_5_t)) : Q_viq1_1 rnd x1_1 x1_2 x1_3 ((x1_0a :: x1_0t), x1_4) (.normal, S_viq1_1 x1_1 x1_2 x1_3 ((y1_5_a :: y1_5_t), (w64 (x1_4 + (1 : Int))))) :=
 runC2 hm (L := lT []) ⟨[0, 2, 17, 18, 19], [(0, 0, false), (1, 1, false), (2, 2, false), (3, 3, false), (4, 4, false), (5, 5, false), (6, 7, true)], 7, 0⟩ (zz 1 (xdT hy1_1) <|
zz 7 (xk6 (Nat.add (x1_2).num 64) (x1_2).cap hy1_2) <|
zz 8 (nk7 hy1_4 hy1_3) <|
yy 14 (.call (C_viq2 y1_4_ (x1_0a :: x1_0t) x1_1 (y1_5_a :: y1_5_t) [(0, 0, false), (1, 1, false), (2, 2, false), (3, 3, false), (4, 6, true), (5, 4, false), (6, 5, false)] [(0, 0, false), (1, 1, false), (2, 2, false), (3, 3, false), (4, 5, false), (5, 6, false), (7, 7, true)])) <|
ww (m_viq2_ok n y1_4_ (x1_0a :: x1_0t) x1_1 (y1_5_a :: y1_5_t) hy1_5) <|
ww (iv_flat (x1_0a :: x1_0t) 3) <|
ww (iv_flat (y1_5_a :: y1_5_t) 3) <|
ww (iv_flat (y1_5_a :: y1_5_t) 3) <|
ee) (by kernel_rfl)
theorem q_viq1_1_4 (rec_viq1 : (Int) → (Int) → Option (List Int)) (hrec_viq1 : ∀ (a0 : Int) (a1 : Int) (r : List Int), rec_viq1 a0 a1 = some r → Gv P (.func 27) (A_viq1 a0 a1) (H_viq1 a0 a1) (V_viq1 a0 a1 r) (R_viq1 a0 a1 r)) (n : Nat) {rnd : Option Nat} (x1_0a : Int) (x1_0t : List (Int)) (x1_1 : Int) (x1_2 : NL) (x1_3 x1_4 : Int) (hy1_1 : ¬ (x1_4 < x1_3)) : Q_viq1_1 rnd x1_1 x1_2 x1_3 ((x1_0a :: x1_0t), x1_4) (X_viq1_1 x1_1 x1_2 x1_3 (x1_0a :: x1_0t)) :=
 runC2 hm (L := lT []) ⟨[], [(0, 0, false), (1, 1, false), (2, 2, false), (3, 3, false), (4, 4, false), (5, 5, false), (6, 6, true)], 7, 0⟩ (zz 1 (xdF hy1_1) <|
ww (iv_flat (x1_0a :: x1_0t) 3) <|
ee) (by kernel_rfl)
theorem m_viq1_1_ok (rec_viq1 : (Int) → (Int) → Option (List Int)) (hrec_viq1 : ∀ (a0 : Int) (a1 : Int) (r : List Int), rec_viq1 a0 a1 = some r → Gv P (.func 27) (A_viq1 a0 a1) (H_viq1 a0 a1) (V_viq1 a0 a1 r) (R_viq1 a0 a1 r)) (n : Nat) {rnd : Option Nat} (x1_1 : Int) (x1_2 : NL) (x1_3 : Int) (st : List Int × Int) (r : List Int) (h : m_viq1_1 rec_viq1 n x1_1 x1_2 x1_3 st = some r) : CG P rnd (fnN P 27) 6 (codeOf P 27 [false, true, false, true, true]) (S_viq1_1 x1_1 x1_2 x1_3 st) (X_viq1_1 x1_1 x1_2 x1_3 r) :=
 CG.iter (b := codeOf P 27 [false, false, true, false, true, true]) (by kernel_rfl) (body := B_viq1_1 rec_viq1 n x1_1 x1_2 x1_3) (S := S_viq1_1 x1_1 x1_2 x1_3) (X := X_viq1_1 x1_1 x1_2 x1_3)
  (fun s s' h => by
  obtain ⟨x1_0, x1_4⟩ := s
  unfold B_viq1_1 at h
  dsimp only at h
  cases x1_0 with
  | nil =>
   dsimp only at h
   by_cases hy1_1 : x1_4 < x1_3
   ·rw [if_pos hy1_1] at h
    by_cases hy1_2 : 0 ≤ x1_4 ∧ x1_4 < (x1_2.l.length : Int)
    ·rw [if_pos hy1_2] at h
     by_cases hy1_3 : (x1_4).toNat < ((x1_2).l).length
     ·rw [if_pos hy1_3] at h
      obtain ⟨y1_4_, hy1_4, h⟩ := Option.bind_eq_some_iff.1 h
      obtain ⟨y1_5_, hy1_5, h⟩ := Option.bind_eq_some_iff.1 h
      cases y1_5_ with
      | nil =>
       dsimp only at h
       obtain rfl := Sum.inl.inj (oI h); exact q_viq1_1_0 rec_viq1 hrec_viq1 n x1_1 x1_2 x1_3 x1_4 hy1_1 hy1_2 hy1_3 y1_4_ hy1_4 hy1_5
      | cons y1_5_a y1_5_t =>
       dsimp only at h
       obtain rfl := Sum.inl.inj (oI h); exact q_viq1_1_1 rec_viq1 hrec_viq1 n x1_1 x1_2 x1_3 x1_4 hy1_1 hy1_2 hy1_3 y1_4_ hy1_4 y1_5_a y1_5_t hy1_5
     ·rw [if_neg hy1_3] at h; cases h
    ·rw [if_neg hy1_2] at h; cases h
   ·rw [if_neg hy1_1] at h
    cases h
  | cons x1_0a x1_0t =>
   dsimp only at h
   by_cases hy1_1 : x1_4 < x1_3
   ·rw [if_pos hy1_1] at h
    by_cases hy1_2 : 0 ≤ x1_4 ∧ x1_4 < (x1_2.l.length : Int)
    ·rw [if_pos hy1_2] at h
     by_cases hy1_3 : (x1_4).toNat < ((x1_2).l).length
     ·rw [if_pos hy1_3] at h
      obtain ⟨y1_4_, hy1_4, h⟩ := Option.bind_eq_some_iff.1 h
      obtain ⟨y1_5_, hy1_5, h⟩ := Option.bind_eq_some_iff.1 h
      cases y1_5_ with
      | nil =>
       dsimp only at h
       cases h
      | cons y1_5_a y1_5_t =>
       dsimp only at h
       obtain rfl := Sum.inl.inj (oI h); exact q_viq1_1_3 rec_viq1 hrec_viq1 n x1_0a x1_0t x1_1 x1_2 x1_3 x1_4 hy1_1 hy1_2 hy1_3 y1_4_ hy1_4 y1_5_a y1_5_t hy1_5
     ·rw [if_neg hy1_3] at h; cases h
    ·rw [if_neg hy1_2] at h; cases h
   ·rw [if_neg hy1_1] at h
    cases h)
  (fun s r h => by
  obtain ⟨x1_0, x1_4⟩ := s
  unfold B_viq1_1 at h
  dsimp only at h
  cases x1_0 with
  | nil =>
   dsimp only at h
   by_cases hy1_1 : x1_4 < x1_3
   ·rw [if_pos hy1_1] at h
    by_cases hy1_2 : 0 ≤ x1_4 ∧ x1_4 < (x1_2.l.length : Int)
    ·rw [if_pos hy1_2] at h
     by_cases hy1_3 : (x1_4).toNat < ((x1_2).l).length
     ·rw [if_pos hy1_3] at h
      obtain ⟨y1_4_, hy1_4, h⟩ := Option.bind_eq_some_iff.1 h
      obtain ⟨y1_5_, hy1_5, h⟩ := Option.bind_eq_some_iff.1 h
      cases y1_5_ with
      | nil =>
       dsimp only at h
       cases h
      | cons y1_5_a y1_5_t =>
       dsimp only at h
       cases h
     ·rw [if_neg hy1_3] at h; cases h
    ·rw [if_neg hy1_2] at h; cases h
   ·rw [if_neg hy1_1] at h
    obtain rfl := Sum.inr.inj (oI h); exact q_viq1_1_2 rec_viq1 hrec_viq1 n x1_1 x1_2 x1_3 x1_4 hy1_1
  | cons x1_0a x1_0t =>
   dsimp only at h
   by_cases hy1_1 : x1_4 < x1_3
   ·rw [if_pos hy1_1] at h
    by_cases hy1_2 : 0 ≤ x1_4 ∧ x1_4 < (x1_2.l.length : Int)
    ·rw [if_pos hy1_2] at h
     by_cases hy1_3 : (x1_4).toNat < ((x1_2).l).length
     ·rw [if_pos hy1_3] at h
      obtain ⟨y1_4_, hy1_4, h⟩ := Option.bind_eq_some_iff.1 h
      obtain ⟨y1_5_, hy1_5, h⟩ := Option.bind_eq_some_iff.1 h
      cases y1_5_ with
      | nil =>
       dsimp only at h
       cases h
      | cons y1_5_a y1_5_t =>
       dsimp only at h
       cases h
     ·rw [if_neg hy1_3] at h; cases h
    ·rw [if_neg hy1_2] at h; cases h
   ·rw [if_neg hy1_1] at h
    obtain rfl := Sum.inr.inj (oI h); exact q_viq1_1_4 rec_viq1 hrec_viq1 n x1_0a x1_0t x1_1 x1_2 x1_3 x1_4 hy1_1)
  (fun r => by intro hx; cases hx) h
def s_viq1 (rec_viq1 : (Int) → (Int) → Option (List Int)) (n : Nat) (a0 : Int) (a1 : Int) : Option (List Int) :=
 (m_lV_111010y1 n a1 a0).bind fun c1_ =>
 match c1_ with
 | [] =>
  if 0 ≤ a0 ∧ a0 < (Args.A.length : Int) then
   ((some ((Args.A).getD (a0).toNat (0, 0, 0, 0, 0, 0, nl0, 0)))).bind fun c3_ =>
   (m_viq1_1 rec_viq1 n a1 (c3_.2.2.2.2.2.2.1) (c3_.2.2.2.2.2.2.1.l.length : Int) (([] : List Int), 0)).bind fun c4_ =>
   match c4_ with
   | [] =>
    some ([] : List Int)
   | c4_a :: c4_t =>
    some (c4_a :: c4_t)
  else none
 | c1_a :: c1_t =>
  if 0 ≤ a0 ∧ a0 < (Args.A.length : Int) then
   ((some ((Args.A).getD (a0).toNat (0, 0, 0, 0, 0, 0, nl0, 0)))).bind fun c3_ =>
   (m_viq1_1 rec_viq1 n a1 (c3_.2.2.2.2.2.2.1) (c3_.2.2.2.2.2.2.1.l.length : Int) ((c1_a :: c1_t), 0)).bind fun c4_ =>
   match c4_ with
   | [] =>
    some ([] : List Int)
   | c4_a :: c4_t =>
    some (c4_a :: c4_t)
  else none
theorem s_viq1_ok (rec_viq1 : (Int) → (Int) → Option (List Int)) (hrec_viq1 : ∀ (a0 : Int) (a1 : Int) (r : List Int), rec_viq1 a0 a1 = some r → Gv P (.func 27) (A_viq1 a0 a1) (H_viq1 a0 a1) (V_viq1 a0 a1 r) (R_viq1 a0 a1 r)) (n : Nat) (a0 : Int) (a1 : Int) (r : List Int) (h : s_viq1 rec_viq1 n a0 a1 = some r) : Gv P (.func 27) (A_viq1 a0 a1) (H_viq1 a0 a1) (V_viq1 a0 a1 r) (R_viq1 a0 a1 r) := by
 unfold s_viq1 at h
 obtain ⟨c1_, hc1, h⟩ := Option.bind_eq_some_iff.1 h
 cases c1_ with
 | nil =>
  dsimp only at h
  by_cases hc2 : 0 ≤ a0 ∧ a0 < (Args.A.length : Int)
  ·rw [if_pos hc2] at h
   obtain ⟨c3_, hc3, h⟩ := Option.bind_eq_some_iff.1 h
   obtain ⟨c4_, hc4, h⟩ := Option.bind_eq_some_iff.1 h
   cases c4_ with
   | nil =>
    dsimp only at h
    obtain rfl := oI h; exact (runF2 hm (L := lT [(19, ⟨⟨[0, 2, 17, 18, 19], [(0, 0, false), (1, 1, false), (2, 2, false), (3, 3, false), (4, 4, false), (5, 5, false)], 7, 0⟩, (X_viq1_1 a1 (c3_.2.2.2.2.2.2.1) (c3_.2.2.2.2.2.2.1.l.length : Int) ([] : List Int)).1, (X_viq1_1 a1 (c3_.2.2.2.2.2.2.1) (c3_.2.2.2.2.2.2.1.l.length : Int) ([] : List Int)).2⟩)]) ⟨[6], [(0, 0, false), (1, 1, false), (2, 2, false), (3, 3, false), (4, 4, false), (5, 5, false)], 7, 0⟩ (yy 6 (.call (C_lV_111010y1 a1 a0 ([] : List Int) [(0, 0, false), (1, 1, false), (2, 2, false), (3, 3, false), (4, 4, false), (5, 5, false)] [(0, 0, false), (1, 1, false), (2, 2, false), (3, 3, false), (4, 4, false), (5, 5, false)])) <|
ww (m_lV_111010y1_ok n a1 a0 ([] : List Int) hc1) <|
zz 13 (xk1 0 Args.cA hc2) <|
zz 14 (fk12 ((a0).toNat * 8)) <|
zz 15 (lk13 hc3 (toNatLt hc2)) <|
ww (p := U_viq1_1 none a1 (c3_.2.2.2.2.2.2.1) (c3_.2.2.2.2.2.2.1.l.length : Int) (([] : List Int), 0) ([] : List Int)) (m_viq1_1_ok rec_viq1 hrec_viq1 n a1 (c3_.2.2.2.2.2.2.1) (c3_.2.2.2.2.2.2.1.l.length : Int) (([] : List Int), 0) ([] : List Int) hc4) ee) (by kernel_rfl))
   | cons c4_a c4_t =>
    dsimp only at h
    obtain rfl := oI h; exact (runF2 hm (L := lT [(19, ⟨⟨[0, 2, 17, 18, 19], [(0, 0, false), (1, 1, false), (2, 2, false), (3, 3, false), (4, 4, false), (5, 5, false)], 7, 0⟩, (X_viq1_1 a1 (c3_.2.2.2.2.2.2.1) (c3_.2.2.2.2.2.2.1.l.length : Int) (c4_a :: c4_t)).1, (X_viq1_1 a1 (c3_.2.2.2.2.2.2.1) (c3_.2.2.2.2.2.2.1.l.length : Int) (c4_a :: c4_t)).2⟩)]) ⟨[6], [(0, 0, false), (1, 1, false), (2, 2, false), (3, 3, false), (4, 4, false), (5, 5, false), (6, 6, true)], 7, 0⟩ (yy 6 (.call (C_lV_111010y1 a1 a0 ([] : List Int) [(0, 0, false), (1, 1, false), (2, 2, false), (3, 3, false), (4, 4, false), (5, 5, false)] [(0, 0, false), (1, 1, false), (2, 2, false), (3, 3, false), (4, 4, false), (5, 5, false)])) <|
ww (m_lV_111010y1_ok n a1 a0 ([] : List Int) hc1) <|
zz 13 (xk1 0 Args.cA hc2) <|
zz 14 (fk12 ((a0).toNat * 8)) <|
zz 15 (lk13 hc3 (toNatLt hc2)) <|
ww (p := U_viq1_1 none a1 (c3_.2.2.2.2.2.2.1) (c3_.2.2.2.2.2.2.1.l.length : Int) (([] : List Int), 0) (c4_a :: c4_t)) (m_viq1_1_ok rec_viq1 hrec_viq1 n a1 (c3_.2.2.2.2.2.2.1) (c3_.2.2.2.2.2.2.1.l.length : Int) (([] : List Int), 0) (c4_a :: c4_t) hc4) <|
ww (iv_flat (c4_a :: c4_t) 3) ee) (by kernel_rfl))
  ·rw [if_neg hc2] at h; cases h
 | cons c1_a c1_t =>
  dsimp only at h
  by_cases hc2 : 0 ≤ a0 ∧ a0 < (Args.A.length : Int)
  ·rw [if_pos hc2] at h
   obtain ⟨c3_, hc3, h⟩ := Option.bind_eq_some_iff.1 h
   obtain ⟨c4_, hc4, h⟩ := Option.bind_eq_some_iff.1 h
   cases c4_ with
   | nil =>
    dsimp only at h
    obtain rfl := oI h; exact (runF2 hm (L := lT [(19, ⟨⟨[0, 2, 17, 18, 19], [(0, 0, false), (1, 1, false), (2, 2, false), (3, 3, false), (4, 4, false), (5, 5, false), (6, 6, true)], 7, 0⟩, (X_viq1_1 a1 (c3_.2.2.2.2.2.2.1) (c3_.2.2.2.2.2.2.1.l.length : Int) ([] : List Int)).1, (X_viq1_1 a1 (c3_.2.2.2.2.2.2.1) (c3_.2.2.2.2.2.2.1.l.length : Int) ([] : List Int)).2⟩)]) ⟨[6], [(0, 0, false), (1, 1, false), (2, 2, false), (3, 3, false), (4, 4, false), (5, 5, false)], 7, 0⟩ (yy 6 (.call (C_lV_111010y1 a1 a0 (c1_a :: c1_t) [(0, 0, false), (1, 1, false), (2, 2, false), (3, 3, false), (4, 4, false), (5, 5, false)] [(0, 0, false), (1, 1, false), (2, 2, false), (3, 3, false), (4, 4, false), (5, 5, false), (6, 6, true)])) <|
ww (m_lV_111010y1_ok n a1 a0 (c1_a :: c1_t) hc1) <|
ww (iv_flat (c1_a :: c1_t) 3) <|
zz 13 (xk1 0 Args.cA hc2) <|
zz 14 (fk12 ((a0).toNat * 8)) <|
zz 15 (lk13 hc3 (toNatLt hc2)) <|
ww (p := U_viq1_1 none a1 (c3_.2.2.2.2.2.2.1) (c3_.2.2.2.2.2.2.1.l.length : Int) ((c1_a :: c1_t), 0) ([] : List Int)) (m_viq1_1_ok rec_viq1 hrec_viq1 n a1 (c3_.2.2.2.2.2.2.1) (c3_.2.2.2.2.2.2.1.l.length : Int) ((c1_a :: c1_t), 0) ([] : List Int) hc4) <|
ww (iv_flat (c1_a :: c1_t) 3) ee) (by kernel_rfl))
   | cons c4_a c4_t =>
    dsimp only at h
    obtain rfl := oI h; exact (runF2 hm (L := lT [(19, ⟨⟨[0, 2, 17, 18, 19], [(0, 0, false), (1, 1, false), (2, 2, false), (3, 3, false), (4, 4, false), (5, 5, false), (6, 6, true)], 7, 0⟩, (X_viq1_1 a1 (c3_.2.2.2.2.2.2.1) (c3_.2.2.2.2.2.2.1.l.length : Int) (c4_a :: c4_t)).1, (X_viq1_1 a1 (c3_.2.2.2.2.2.2.1) (c3_.2.2.2.2.2.2.1.l.length : Int) (c4_a :: c4_t)).2⟩)]) ⟨[6], [(0, 0, false), (1, 1, false), (2, 2, false), (3, 3, false), (4, 4, false), (5, 5, false), (6, 6, true)], 7, 0⟩ (yy 6 (.call (C_lV_111010y1 a1 a0 (c1_a :: c1_t) [(0, 0, false), (1, 1, false), (2, 2, false), (3, 3, false), (4, 4, false), (5, 5, false)] [(0, 0, false), (1, 1, false), (2, 2, false), (3, 3, false), (4, 4, false), (5, 5, false), (6, 6, true)])) <|
ww (m_lV_111010y1_ok n a1 a0 (c1_a :: c1_t) hc1) <|
ww (iv_flat (c1_a :: c1_t) 3) <|
zz 13 (xk1 0 Args.cA hc2) <|
zz 14 (fk12 ((a0).toNat * 8)) <|
zz 15 (lk13 hc3 (toNatLt hc2)) <|
ww (p := U_viq1_1 none a1 (c3_.2.2.2.2.2.2.1) (c3_.2.2.2.2.2.2.1.l.length : Int) ((c1_a :: c1_t), 0) (c4_a :: c4_t)) (m_viq1_1_ok rec_viq1 hrec_viq1 n a1 (c3_.2.2.2.2.2.2.1) (c3_.2.2.2.2.2.2.1.l.length : Int) ((c1_a :: c1_t), 0) (c4_a :: c4_t) hc4) <|
ww (iv_flat (c1_a :: c1_t) 3) <|
ww (iv_flat (c4_a :: c4_t) 3) ee) (by kernel_rfl))
  ·rw [if_neg hc2] at h; cases h
def m_viq1 : Nat → (Int) → (Int) → Option (List Int)
 | 0 => fun _ _ => none
 | n + 1 => fun a0 a1 => s_viq1 (m_viq1 n) n a0 a1
theorem m_viq1_ok : ∀ (n : Nat) (a0 : Int) (a1 : Int) (r : List Int) (h : m_viq1 n a0 a1 = some r), Gv P (.func 27) (A_viq1 a0 a1) (H_viq1 a0 a1) (V_viq1 a0 a1 r) (R_viq1 a0 a1 r)
 | 0, _, _, _, h => nomatch h
 | n + 1, a0, a1, r, h => s_viq1_ok (m_viq1 n) (m_viq1_ok n) n a0 a1 r h

def A_pl1q1 (a0 : Int) : List Value := [(Value.func (.yield 0) #[] #[]), (pN 4 0), (pN 5 0)]
def H_pl1q1 (a0 : Int) : AH := ⟨sB [(0, (some (rblk P 12 [false, true, false, true, true, true] .ready none [(1, (pN 2 0)), (3, (pN 3 0)), (9, (Value.func (.func 26) #[] #[(pN 4 0), (pN 5 0)]))] 1))), (1, (some (.marks true))), (2, (some (.cells (layT [(sW 0 0 (Args.A).length Args.cA)]) 22))), (3, (some (.cells (layT [(Value.slice none 0 0)]) 30))), (4, (some (.cells (layT [(sW 0 0 (Args.A).length Args.cA)]) 22))), (5, (some (.cells (layT [(i6 a0)]) 3)))], 6, 6⟩
def V_pl1q1 (a0 : Int) (r : List Int) : Value := match r with
 | o0 => (Value.tuple #[])
def R_pl1q1 (a0 : Int) (r : List Int) : AH := match r with
 | o0 => ⟨sB [(0, (some (rblk P 12 [false, true, false, true, true, true] .ready none [(1, (pN 2 0)), (3, (pN 3 0)), (9, (Value.func (.func 26) #[] #[(pN 4 0), (pN 5 0)]))] 1))), (1, (some (.marks true))), (2, (some (.cells (layT [(sW 0 0 (Args.A).length Args.cA)]) 22))), (3, (some (.cells (layT [(slN o0 6)]) 30))), (4, (some (.cells (layT [(sW 0 0 (Args.A).length Args.cA)]) 22))), (5, (some (.cells (layT [(i6 a0)]) 3))), (6, (nblk o0 3))], 7, 0⟩
abbrev G_pl1q1 (a0 : Int) (r : List Int) : Prop := Gv P (.func 26) (A_pl1q1 a0) (H_pl1q1 a0) (V_pl1q1 a0 r) (R_pl1q1 a0 r)
abbrev C_pl1q1 (a0 : Int) (r : List Int) (ins outs : BL) : CallA := ⟨6, ins, V_pl1q1 a0 r, R_pl1q1 a0 r, outs⟩
def m_pl1q1 (n : Nat) (a0 : Int) : Option (List Int) :=
 (m_viq1 n a0 a0).bind fun c1_ =>
 match c1_ with
 | [] =>
  some ([] : List Int)
 | c1_a :: c1_t =>
  some (c1_a :: c1_t)
theorem m_pl1q1_ok (n : Nat) (a0 : Int) (r : List Int) (h : m_pl1q1 n a0 = some r) : Gv P (.func 26) (A_pl1q1 a0) (H_pl1q1 a0) (V_pl1q1 a0 r) (R_pl1q1 a0 r) := by
 unfold m_pl1q1 at h
 obtain ⟨c1_, hc1, h⟩ := Option.bind_eq_some_iff.1 h
 cases c1_ with
 | nil =>
  dsimp only at h
  obtain rfl := oI h; exact (runF2 hm (L := lT []) ⟨[], [(0, 0, false), (1, 1, false), (2, 2, false), (3, 3, false), (4, 4, false), (5, 5, false)], 7, 0⟩ (yy 3 (.call (C_viq1 a0 a0 ([] : List Int) [(0, 0, false), (1, 1, false), (2, 2, false), (3, 3, false), (4, 4, false), (5, 5, false)] [(0, 0, false), (1, 1, false), (2, 2, false), (3, 3, false), (4, 4, false), (5, 5, false)])) <|
ww (m_viq1_ok n a0 a0 ([] : List Int) hc1) ee) (by kernel_rfl))
 | cons c1_a c1_t =>
  dsimp only at h
  obtain rfl := oI h; exact (runF2 hm (L := lT []) ⟨[], [(0, 0, false), (1, 1, false), (2, 2, false), (3, 3, false), (4, 4, false), (5, 5, false), (6, 6, true)], 7, 0⟩ (yy 3 (.call (C_viq1 a0 a0 (c1_a :: c1_t) [(0, 0, false), (1, 1, false), (2, 2, false), (3, 3, false), (4, 4, false), (5, 5, false)] [(0, 0, false), (1, 1, false), (2, 2, false), (3, 3, false), (4, 4, false), (5, 5, false), (6, 6, true)])) <|
ww (m_viq1_ok n a0 a0 (c1_a :: c1_t) hc1) <|
ww (iv_flat (c1_a :: c1_t) 3) <|
ww (iv_flat (c1_a :: c1_t) 3) ee) (by kernel_rfl))

def A_lVq1 : List Value := [(sW 0 0 (Args.A).length Args.cA)]
def H_lVq1 : AH := ⟨sB [], 0, 0⟩
def V_lVq1 (r : List Int) : Value := match r with
 | o0 => (slN o0 1)
def R_lVq1 (r : List Int) : AH := match r with
 | o0 => ⟨sB [(0, (some (.marks false))), (1, (nblk o0 3))], 2, 0⟩
abbrev G_lVq1 (r : List Int) : Prop := Gv P (.func 12) A_lVq1 H_lVq1 (V_lVq1  r) (R_lVq1  r)
abbrev C_lVq1 (r : List Int) (ins outs : BL) : CallA := ⟨0, ins, V_lVq1  r, R_lVq1  r, outs⟩
def m_lVq1 (n : Nat) : Option (List Int) :=
 (m_tCq1 n).bind fun c1_ =>
 if c1_ = (0 : Int) then
  (m_plq1 n 0).bind fun _ =>
  (m_pl1q1 n 0).bind fun c4_ =>
  match c4_ with
  | [] =>
   some ([] : List Int)
  | c4_a :: c4_t =>
   some (c4_a :: c4_t)
 else
  none
theorem m_lVq1_ok (n : Nat) (r : List Int) (h : m_lVq1 n = some r) : Gv P (.func 12) A_lVq1 H_lVq1 (V_lVq1  r) (R_lVq1  r) := by
 unfold m_lVq1 at h
 obtain ⟨c1_, hc1, h⟩ := Option.bind_eq_some_iff.1 h
 by_cases hc2 : c1_ = (0 : Int)
 ·rw [if_pos hc2] at h
  obtain ⟨_, hc3, h⟩ := Option.bind_eq_some_iff.1 h
  obtain ⟨c4_, hc4, h⟩ := Option.bind_eq_some_iff.1 h
  cases c4_ with
  | nil =>
   dsimp only at h
   obtain rfl := oI h; exact (runF2 hm (L := lT []) ⟨[2], [(0, 4, false)], 2, 0⟩ (yy 6 (.call (C_tCq1  c1_ [] [])) <|
ww (m_tCq1_ok n  c1_ hc1) <|
zz 7 (xnF hc2) <|
yy 14 (.call (C_plq1 0 () [] [(2, 0, false), (3, 1, false)])) <|
ww (m_plq1_ok n 0 () hc3) <|
yy 16 (.rng (C_pl1q1 0 ([] : List Int) [(0, 5, false), (1, 4, false), (2, 0, false), (3, 1, false), (4, 2, false), (5, 3, false)] [(5, 0, false), (4, 1, false), (0, 2, false), (1, 3, false), (2, 4, false), (3, 5, false)]) [1, 3, 9]) <|
ww (m_pl1q1_ok n 0 ([] : List Int) hc4) ee) (by kernel_rfl))
  | cons c4_a c4_t =>
   dsimp only at h
   obtain rfl := oI h; exact (runF2 hm (L := lT []) ⟨[2], [(0, 4, false), (1, 6, true)], 2, 0⟩ (yy 6 (.call (C_tCq1  c1_ [] [])) <|
ww (m_tCq1_ok n  c1_ hc1) <|
zz 7 (xnF hc2) <|
yy 14 (.call (C_plq1 0 () [] [(2, 0, false), (3, 1, false)])) <|
ww (m_plq1_ok n 0 () hc3) <|
yy 16 (.rng (C_pl1q1 0 (c4_a :: c4_t) [(0, 5, false), (1, 4, false), (2, 0, false), (3, 1, false), (4, 2, false), (5, 3, false)] [(5, 0, false), (4, 1, false), (0, 2, false), (1, 3, false), (2, 4, false), (3, 5, false), (6, 6, true)]) [1, 3, 9]) <|
ww (m_pl1q1_ok n 0 (c4_a :: c4_t) hc4) <|
ww (iv_flat (c4_a :: c4_t) 3) <|
ww (iv_flat (c4_a :: c4_t) 3) ee) (by kernel_rfl))
 ·rw [if_neg hc2] at h
  cases h

def A_tF_11010y1 (a0 : Int) (a1 : Int) (a2 : Int) (a3 : Bool) (a4 : Int) (a5 : Int) : List Value := [(i6 a5)]
def H_tF_11010y1 (a0 : Int) (a1 : Int) (a2 : Int) (a3 : Bool) (a4 : Int) (a5 : Int) : AH := ⟨sB [(0, (some (rblk P 13 [false, true, false, true, true] .ready none [(3, (pN 2 0)), (4, (pN 3 0)), (5, (pN 4 0)), (6, (pN 5 0)), (7, (pN 6 0)), (14, (Value.func (.func 26) #[] #[(pN 7 0), (pN 8 0)]))] 1))), (1, (some (.marks true))), (2, (some (.cells (layT [(sW 0 0 (Args.A).length Args.cA)]) 22))), (3, (some (.cells (layT [(i6 a0)]) 3))), (4, (some (.cells (layT [(i6 a1)]) 3))), (5, (some (.cells (layT [(i6 a2)]) 3))), (6, (some (.cells (layT [(bO a3)]) 4))), (7, (some (.cells (layT [(sW 0 0 (Args.A).length Args.cA)]) 22))), (8, (some (.cells (layT [(i6 a4)]) 3)))], 9, 9⟩
def V_tF_11010y1 (a0 : Int) (a1 : Int) (a2 : Int) (a3 : Bool) (a4 : Int) (a5 : Int) (r : (Unit) ⊕ (Unit)) : Value := match r with
 | .inl _ => (bO false)
 | .inr _ => (bO true)
def R_tF_11010y1 (a0 : Int) (a1 : Int) (a2 : Int) (a3 : Bool) (a4 : Int) (a5 : Int) (r : (Unit) ⊕ (Unit)) : AH := match r with
 | .inl _ => ⟨sB [(0, (some (rblk P 13 [false, true, false, true, true] .done (some .ret) [(3, (pN 2 0)), (4, (pN 3 0)), (5, (pN 4 0)), (6, (pN 5 0)), (7, (pN 6 0)), (14, (Value.func (.func 26) #[] #[(pN 7 0), (pN 8 0)]))] 1))), (1, (some (.marks true))), (2, (some (.cells (layT [(sW 0 0 (Args.A).length Args.cA)]) 22))), (3, (some (.cells (layT [(i6 a0)]) 3))), (4, (some (.cells (layT [(i6 a1)]) 3))), (5, (some (.cells (layT [(i6 a5)]) 3))), (6, (some (.cells (layT [(bO true)]) 4))), (7, (some (.cells (layT [(sW 0 0 (Args.A).length Args.cA)]) 22))), (8, (some (.cells (layT [(i6 a4)]) 3)))], 9, 0⟩
 | .inr _ => ⟨sB [(0, (some (rblk P 13 [false, true, false, true, true] .ready none [(3, (pN 2 0)), (4, (pN 3 0)), (5, (pN 4 0)), (6, (pN 5 0)), (7, (pN 6 0)), (14, (Value.func (.func 26) #[] #[(pN 7 0), (pN 8 0)]))] 1))), (1, (some (.marks true))), (2, (some (.cells (layT [(sW 0 0 (Args.A).length Args.cA)]) 22))), (3, (some (.cells (layT [(i6 a0)]) 3))), (4, (some (.cells (layT [(i6 a1)]) 3))), (5, (some (.cells (layT [(i6 a2)]) 3))), (6, (some (.cells (layT [(bO a3)]) 4))), (7, (some (.cells (layT [(sW 0 0 (Args.A).length Args.cA)]) 22))), (8, (some (.cells (layT [(i6 a4)]) 3)))], 9, 0⟩
abbrev G_tF_11010y1 (a0 : Int) (a1 : Int) (a2 : Int) (a3 : Bool) (a4 : Int) (a5 : Int) (r : (Unit) ⊕ (Unit)) : Prop := Gv P (.yield 0) (A_tF_11010y1 a0 a1 a2 a3 a4 a5) (H_tF_11010y1 a0 a1 a2 a3 a4 a5) (V_tF_11010y1 a0 a1 a2 a3 a4 a5 r) (R_tF_11010y1 a0 a1 a2 a3 a4 a5 r)
abbrev C_tF_11010y1 (a0 : Int) (a1 : Int) (a2 : Int) (a3 : Bool) (a4 : Int) (a5 : Int) (r : (Unit) ⊕ (Unit)) (ins outs : BL) : CallA := ⟨9, ins, V_tF_11010y1 a0 a1 a2 a3 a4 a5 r, R_tF_11010y1 a0 a1 a2 a3 a4 a5 r, outs⟩
def m_tF_11010y1 (n : Nat) (a0 : Int) (a1 : Int) (a2 : Int) (a3 : Bool) (a4 : Int) (a5 : Int) : Option ((Unit) ⊕ (Unit)) :=
 if 0 ≤ a5 ∧ a5 < (Args.A.length : Int) then
  ((some ((Args.A).getD (a5).toNat (0, 0, 0, 0, 0, 0, nl0, 0)))).bind fun c2_ =>
  (m_pIq1 n (c2_.1) (c2_.2.1) (c2_.2.2.1) (c2_.2.2.2.1) (c2_.2.2.2.2.1) (c2_.2.2.2.2.2.1) (c2_.2.2.2.2.2.2.1) (c2_.2.2.2.2.2.2.2)).bind fun c3_ =>
  if c3_ = true then
   if (c2_.1) = a0 then
    if (c2_.2.2.1) = a1 then
     some (.inl ())
    else
     some (.inr ())
   else
    some (.inr ())
  else
   some (.inr ())
 else none
theorem m_tF_11010y1_ok (n : Nat) (a0 : Int) (a1 : Int) (a2 : Int) (a3 : Bool) (a4 : Int) (a5 : Int) (r : (Unit) ⊕ (Unit)) (h : m_tF_11010y1 n a0 a1 a2 a3 a4 a5 = some r) : Gv P (.yield 0) (A_tF_11010y1 a0 a1 a2 a3 a4 a5) (H_tF_11010y1 a0 a1 a2 a3 a4 a5) (V_tF_11010y1 a0 a1 a2 a3 a4 a5 r) (R_tF_11010y1 a0 a1 a2 a3 a4 a5 r) := by
 unfold m_tF_11010y1 at h
 by_cases hc1 : 0 ≤ a5 ∧ a5 < (Args.A.length : Int)
 ·rw [if_pos hc1] at h
  obtain ⟨c2_, hc2, h⟩ := Option.bind_eq_some_iff.1 h
  obtain ⟨c3_, hc3, h⟩ := Option.bind_eq_some_iff.1 h
  by_cases hc4 : c3_ = true
  ·rw [if_pos hc4] at h
   by_cases hc5 : (c2_.1) = a0
   ·rw [if_pos hc5] at h
    by_cases hc6 : (c2_.2.2.1) = a1
    ·rw [if_pos hc6] at h
     obtain rfl := oI h; exact (runY_ok hm (A1 := aT []) (L1 := lT []) (A2 := aT [(4, .pur (pW 0 ((a5).toNat * 8))), (5, .ld (Value.agg #[(i6 (c2_.1)), (i6 (c2_.2.1)), (i6 (c2_.2.2.1)), (i6 (c2_.2.2.2.1)), (i6 (c2_.2.2.2.2.1)), (i6 (c2_.2.2.2.2.2.1)), (nlV (c2_.2.2.2.2.2.2.1)), (Value.int .u64 (c2_.2.2.2.2.2.2.2))])), (10, .call (C_pIq1 (c2_.1) (c2_.2.1) (c2_.2.2.1) (c2_.2.2.2.1) (c2_.2.2.2.2.1) (c2_.2.2.2.2.2.1) (c2_.2.2.2.2.2.2.1) (c2_.2.2.2.2.2.2.2) c3_ [] [])), (11, vt), (15, vt), (21, vt)]) (L2 := lT []) (wk := ⟨[], [(0, 0, false), (1, 1, false), (2, 2, false), (3, 3, false), (4, 4, false), (5, 5, false), (6, 6, false), (7, 7, false), (8, 8, false)], 9, 0⟩) (ps := [xp1 0 (Args.A).length Args.cA a5, lp2 (a5).toNat c2_, G_pIq1 (c2_.1) (c2_.2.1) (c2_.2.2.1) (c2_.2.2.2.1) (c2_.2.2.2.2.1) (c2_.2.2.2.2.2.1) (c2_.2.2.2.2.2.2.1) (c2_.2.2.2.2.2.2.2) c3_, bT c3_, eT (c2_.1) a0, eT (c2_.2.2.1) a1]) (by kernel_rfl) ⟨((xk1 0 Args.cA hc1).p), ((lk2 hc2 (toNatLt hc1)).p), (m_pIq1_ok n (c2_.1) (c2_.2.1) (c2_.2.2.1) (c2_.2.2.2.1) (c2_.2.2.2.2.1) (c2_.2.2.2.2.2.1) (c2_.2.2.2.2.2.2.1) (c2_.2.2.2.2.2.2.2) c3_ hc3), ((xbT hc4).p), ((xeT hc5).p), ((xeT hc6).p), trivial⟩)
    ·rw [if_neg hc6] at h
     obtain rfl := oI h; exact (runY_ok hm (A1 := aT []) (L1 := lT []) (A2 := aT [(4, .pur (pW 0 ((a5).toNat * 8))), (5, .ld (Value.agg #[(i6 (c2_.1)), (i6 (c2_.2.1)), (i6 (c2_.2.2.1)), (i6 (c2_.2.2.2.1)), (i6 (c2_.2.2.2.2.1)), (i6 (c2_.2.2.2.2.2.1)), (nlV (c2_.2.2.2.2.2.2.1)), (Value.int .u64 (c2_.2.2.2.2.2.2.2))])), (10, .call (C_pIq1 (c2_.1) (c2_.2.1) (c2_.2.2.1) (c2_.2.2.2.1) (c2_.2.2.2.2.1) (c2_.2.2.2.2.2.1) (c2_.2.2.2.2.2.2.1) (c2_.2.2.2.2.2.2.2) c3_ [] [])), (11, vt), (15, vt), (21, vf)]) (L2 := lT []) (wk := ⟨[], [(0, 0, false), (1, 1, false), (2, 2, false), (3, 3, false), (4, 4, false), (5, 5, false), (6, 6, false), (7, 7, false), (8, 8, false)], 9, 0⟩) (ps := [xp1 0 (Args.A).length Args.cA a5, lp2 (a5).toNat c2_, G_pIq1 (c2_.1) (c2_.2.1) (c2_.2.2.1) (c2_.2.2.2.1) (c2_.2.2.2.2.1) (c2_.2.2.2.2.2.1) (c2_.2.2.2.2.2.2.1) (c2_.2.2.2.2.2.2.2) c3_, bT c3_, eT (c2_.1) a0, eF (c2_.2.2.1) a1]) (by kernel_rfl) ⟨((xk1 0 Args.cA hc1).p), ((lk2 hc2 (toNatLt hc1)).p), (m_pIq1_ok n (c2_.1) (c2_.2.1) (c2_.2.2.1) (c2_.2.2.2.1) (c2_.2.2.2.2.1) (c2_.2.2.2.2.2.1) (c2_.2.2.2.2.2.2.1) (c2_.2.2.2.2.2.2.2) c3_ hc3), ((xbT hc4).p), ((xeT hc5).p), ((xeF hc6).p), trivial⟩)
   ·rw [if_neg hc5] at h
    obtain rfl := oI h; exact (runY_ok hm (A1 := aT []) (L1 := lT []) (A2 := aT [(4, .pur (pW 0 ((a5).toNat * 8))), (5, .ld (Value.agg #[(i6 (c2_.1)), (i6 (c2_.2.1)), (i6 (c2_.2.2.1)), (i6 (c2_.2.2.2.1)), (i6 (c2_.2.2.2.2.1)), (i6 (c2_.2.2.2.2.2.1)), (nlV (c2_.2.2.2.2.2.2.1)), (Value.int .u64 (c2_.2.2.2.2.2.2.2))])), (10, .call (C_pIq1 (c2_.1) (c2_.2.1) (c2_.2.2.1) (c2_.2.2.2.1) (c2_.2.2.2.2.1) (c2_.2.2.2.2.2.1) (c2_.2.2.2.2.2.2.1) (c2_.2.2.2.2.2.2.2) c3_ [] [])), (11, vt), (15, vf)]) (L2 := lT []) (wk := ⟨[], [(0, 0, false), (1, 1, false), (2, 2, false), (3, 3, false), (4, 4, false), (5, 5, false), (6, 6, false), (7, 7, false), (8, 8, false)], 9, 0⟩) (ps := [xp1 0 (Args.A).length Args.cA a5, lp2 (a5).toNat c2_, G_pIq1 (c2_.1) (c2_.2.1) (c2_.2.2.1) (c2_.2.2.2.1) (c2_.2.2.2.2.1) (c2_.2.2.2.2.2.1) (c2_.2.2.2.2.2.2.1) (c2_.2.2.2.2.2.2.2) c3_, bT c3_, eF (c2_.1) a0]) (by kernel_rfl) ⟨((xk1 0 Args.cA hc1).p), ((lk2 hc2 (toNatLt hc1)).p), (m_pIq1_ok n (c2_.1) (c2_.2.1) (c2_.2.2.1) (c2_.2.2.2.1) (c2_.2.2.2.2.1) (c2_.2.2.2.2.2.1) (c2_.2.2.2.2.2.2.1) (c2_.2.2.2.2.2.2.2) c3_ hc3), ((xbT hc4).p), ((xeF hc5).p), trivial⟩)
  ·rw [if_neg hc4] at h
   obtain rfl := oI h; exact (runY_ok hm (A1 := aT []) (L1 := lT []) (A2 := aT [(4, .pur (pW 0 ((a5).toNat * 8))), (5, .ld (Value.agg #[(i6 (c2_.1)), (i6 (c2_.2.1)), (i6 (c2_.2.2.1)), (i6 (c2_.2.2.2.1)), (i6 (c2_.2.2.2.2.1)), (i6 (c2_.2.2.2.2.2.1)), (nlV (c2_.2.2.2.2.2.2.1)), (Value.int .u64 (c2_.2.2.2.2.2.2.2))])), (10, .call (C_pIq1 (c2_.1) (c2_.2.1) (c2_.2.2.1) (c2_.2.2.2.1) (c2_.2.2.2.2.1) (c2_.2.2.2.2.2.1) (c2_.2.2.2.2.2.2.1) (c2_.2.2.2.2.2.2.2) c3_ [] [])), (11, vf)]) (L2 := lT []) (wk := ⟨[], [(0, 0, false), (1, 1, false), (2, 2, false), (3, 3, false), (4, 4, false), (5, 5, false), (6, 6, false), (7, 7, false), (8, 8, false)], 9, 0⟩) (ps := [xp1 0 (Args.A).length Args.cA a5, lp2 (a5).toNat c2_, G_pIq1 (c2_.1) (c2_.2.1) (c2_.2.2.1) (c2_.2.2.2.1) (c2_.2.2.2.2.1) (c2_.2.2.2.2.2.1) (c2_.2.2.2.2.2.2.1) (c2_.2.2.2.2.2.2.2) c3_, bF c3_]) (by kernel_rfl) ⟨((xk1 0 Args.cA hc1).p), ((lk2 hc2 (toNatLt hc1)).p), (m_pIq1_ok n (c2_.1) (c2_.2.1) (c2_.2.2.1) (c2_.2.2.2.1) (c2_.2.2.2.2.1) (c2_.2.2.2.2.2.1) (c2_.2.2.2.2.2.2.1) (c2_.2.2.2.2.2.2.2) c3_ hc3), ((xbF hc4).p), trivial⟩)
 ·rw [if_neg hc1] at h; cases h

def A_viq3 (a0 : Int) (a1 : Int) (a2 : Int) (a3 : Int) (a4 : Bool) (a5 : Int) : List Value := [(sW 0 0 (Args.A).length Args.cA), (i6 a0), (Value.func (.yield 0) #[] #[])]
def H_viq3 (a0 : Int) (a1 : Int) (a2 : Int) (a3 : Int) (a4 : Bool) (a5 : Int) : AH := ⟨sB [(0, (some (rblk P 13 [false, true, false, true, true] .ready none [(3, (pN 2 0)), (4, (pN 3 0)), (5, (pN 4 0)), (6, (pN 5 0)), (7, (pN 6 0)), (14, (Value.func (.func 26) #[] #[(pN 7 0), (pN 8 0)]))] 1))), (1, (some (.marks true))), (2, (some (.cells (layT [(sW 0 0 (Args.A).length Args.cA)]) 22))), (3, (some (.cells (layT [(i6 a1)]) 3))), (4, (some (.cells (layT [(i6 a2)]) 3))), (5, (some (.cells (layT [(i6 a3)]) 3))), (6, (some (.cells (layT [(bO a4)]) 4))), (7, (some (.cells (layT [(sW 0 0 (Args.A).length Args.cA)]) 22))), (8, (some (.cells (layT [(i6 a5)]) 3)))], 9, 9⟩
def V_viq3 (a0 : Int) (a1 : Int) (a2 : Int) (a3 : Int) (a4 : Bool) (a5 : Int) (r : (Int) ⊕ (Unit)) : Value := match r with
 | .inl o0 => (bO false)
 | .inr _ => (bO true)
def R_viq3 (a0 : Int) (a1 : Int) (a2 : Int) (a3 : Int) (a4 : Bool) (a5 : Int) (r : (Int) ⊕ (Unit)) : AH := match r with
 | .inl o0 => ⟨sB [(0, (some (rblk P 13 [false, true, false, true, true] .done (some .ret) [(3, (pN 2 0)), (4, (pN 3 0)), (5, (pN 4 0)), (6, (pN 5 0)), (7, (pN 6 0)), (14, (Value.func (.func 26) #[] #[(pN 7 0), (pN 8 0)]))] 1))), (1, (some (.marks true))), (2, (some (.cells (layT [(sW 0 0 (Args.A).length Args.cA)]) 22))), (3, (some (.cells (layT [(i6 a1)]) 3))), (4, (some (.cells (layT [(i6 a2)]) 3))), (5, (some (.cells (layT [(i6 o0)]) 3))), (6, (some (.cells (layT [(bO true)]) 4))), (7, (some (.cells (layT [(sW 0 0 (Args.A).length Args.cA)]) 22))), (8, (some (.cells (layT [(i6 a5)]) 3)))], 9, 0⟩
 | .inr _ => ⟨sB [(0, (some (rblk P 13 [false, true, false, true, true] .ready none [(3, (pN 2 0)), (4, (pN 3 0)), (5, (pN 4 0)), (6, (pN 5 0)), (7, (pN 6 0)), (14, (Value.func (.func 26) #[] #[(pN 7 0), (pN 8 0)]))] 1))), (1, (some (.marks true))), (2, (some (.cells (layT [(sW 0 0 (Args.A).length Args.cA)]) 22))), (3, (some (.cells (layT [(i6 a1)]) 3))), (4, (some (.cells (layT [(i6 a2)]) 3))), (5, (some (.cells (layT [(i6 a3)]) 3))), (6, (some (.cells (layT [(bO a4)]) 4))), (7, (some (.cells (layT [(sW 0 0 (Args.A).length Args.cA)]) 22))), (8, (some (.cells (layT [(i6 a5)]) 3)))], 9, 0⟩
abbrev G_viq3 (a0 : Int) (a1 : Int) (a2 : Int) (a3 : Int) (a4 : Bool) (a5 : Int) (r : (Int) ⊕ (Unit)) : Prop := Gv P (.func 27) (A_viq3 a0 a1 a2 a3 a4 a5) (H_viq3 a0 a1 a2 a3 a4 a5) (V_viq3 a0 a1 a2 a3 a4 a5 r) (R_viq3 a0 a1 a2 a3 a4 a5 r)
abbrev C_viq3 (a0 : Int) (a1 : Int) (a2 : Int) (a3 : Int) (a4 : Bool) (a5 : Int) (r : (Int) ⊕ (Unit)) (ins outs : BL) : CallA := ⟨9, ins, V_viq3 a0 a1 a2 a3 a4 a5 r, R_viq3 a0 a1 a2 a3 a4 a5 r, outs⟩
def S_viq3_1 (x1_0 : Int) (x1_1 : Int) (x1_2 : Int) (x1_3 : Bool) (x1_4 : Int) (x1_5 : NL) (x1_6 : Int) (st : Int) : XSt := match st with
 | x1_7 => (sT 29 [(0, (sW 0 0 (Args.A).length Args.cA)), (2, (Value.func (.yield 0) #[] #[])), (17, (nlV x1_5)), (18, (i6 x1_6)), (19, (i6 x1_7))], [], ⟨sB [(0, (some (rblk P 13 [false, true, false, true, true] .ready none [(3, (pN 2 0)), (4, (pN 3 0)), (5, (pN 4 0)), (6, (pN 5 0)), (7, (pN 6 0)), (14, (Value.func (.func 26) #[] #[(pN 7 0), (pN 8 0)]))] 1))), (1, (some (.marks true))), (2, (some (.cells (layT [(sW 0 0 (Args.A).length Args.cA)]) 22))), (3, (some (.cells (layT [(i6 x1_0)]) 3))), (4, (some (.cells (layT [(i6 x1_1)]) 3))), (5, (some (.cells (layT [(i6 x1_2)]) 3))), (6, (some (.cells (layT [(bO x1_3)]) 4))), (7, (some (.cells (layT [(sW 0 0 (Args.A).length Args.cA)]) 22))), (8, (some (.cells (layT [(i6 x1_4)]) 3)))], 9, 0⟩)
def X_viq3_1 (x1_0 : Int) (x1_1 : Int) (x1_2 : Int) (x1_3 : Bool) (x1_4 : Int) (x1_5 : NL) (x1_6 : Int) (r : (Int) ⊕ (Unit)) : Ex × XSt := match r with
 | .inl z1_0 => (.ret, (sT 29 [(6, (bO false))], [], ⟨sB [(0, (some (rblk P 13 [false, true, false, true, true] .done (some .ret) [(3, (pN 2 0)), (4, (pN 3 0)), (5, (pN 4 0)), (6, (pN 5 0)), (7, (pN 6 0)), (14, (Value.func (.func 26) #[] #[(pN 7 0), (pN 8 0)]))] 1))), (1, (some (.marks true))), (2, (some (.cells (layT [(sW 0 0 (Args.A).length Args.cA)]) 22))), (3, (some (.cells (layT [(i6 x1_0)]) 3))), (4, (some (.cells (layT [(i6 x1_1)]) 3))), (5, (some (.cells (layT [(i6 z1_0)]) 3))), (6, (some (.cells (layT [(bO true)]) 4))), (7, (some (.cells (layT [(sW 0 0 (Args.A).length Args.cA)]) 22))), (8, (some (.cells (layT [(i6 x1_4)]) 3)))], 9, 0⟩))
 | .inr _ => (.exit 0, (sT 29 [], [], ⟨sB [(0, (some (rblk P 13 [false, true, false, true, true] .ready none [(3, (pN 2 0)), (4, (pN 3 0)), (5, (pN 4 0)), (6, (pN 5 0)), (7, (pN 6 0)), (14, (Value.func (.func 26) #[] #[(pN 7 0), (pN 8 0)]))] 1))), (1, (some (.marks true))), (2, (some (.cells (layT [(sW 0 0 (Args.A).length Args.cA)]) 22))), (3, (some (.cells (layT [(i6 x1_0)]) 3))), (4, (some (.cells (layT [(i6 x1_1)]) 3))), (5, (some (.cells (layT [(i6 x1_2)]) 3))), (6, (some (.cells (layT [(bO x1_3)]) 4))), (7, (some (.cells (layT [(sW 0 0 (Args.A).length Args.cA)]) 22))), (8, (some (.cells (layT [(i6 x1_4)]) 3)))], 9, 0⟩))
abbrev Q_viq3_1 (rnd : Option Nat) (x1_0 : Int) (x1_1 : Int) (x1_2 : Int) (x1_3 : Bool) (x1_4 : Int) (x1_5 : NL) (x1_6 : Int) (st : Int) (c : Ex × XSt) : Prop := CG P rnd (fnN P 27) 9 (codeOf P 27 [false, false, true, false, true, true]) (S_viq3_1 x1_0 x1_1 x1_2 x1_3 x1_4 x1_5 x1_6 st) c
abbrev U_viq3_1 (rd : Option Nat) (x1_0 : Int) (x1_1 : Int) (x1_2 : Int) (x1_3 : Bool) (x1_4 : Int) (x1_5 : NL) (x1_6 : Int) (st : Int) (r : (Int) ⊕ (Unit)) : Prop := CG P rd (fnN P 27) 9 (codeOf P 27 [false, true, false, true, true]) (S_viq3_1 x1_0 x1_1 x1_2 x1_3 x1_4 x1_5 x1_6 st) (X_viq3_1 x1_0 x1_1 x1_2 x1_3 x1_4 x1_5 x1_6 r)
def B_viq3_1 (rec_viq3 : (Int) → (Int) → (Int) → (Int) → (Bool) → (Int) → Option ((Int) ⊕ (Unit))) (n : Nat) (x1_0 : Int) (x1_1 : Int) (x1_2 : Int) (x1_3 : Bool) (x1_4 : Int) (x1_5 : NL) (x1_6 : Int) (st : Int) : Option ((Int) ⊕ ((Int) ⊕ (Unit))) := match st with
 | x1_7 =>
  if x1_7 < x1_6 then
   if 0 ≤ x1_7 ∧ x1_7 < (x1_5.l.length : Int) then
    if (x1_7).toNat < ((x1_5).l).length then
     ((some (((x1_5).l).getD (x1_7).toNat 0))).bind fun y1_4_ =>
     match rec_viq3 y1_4_ x1_0 x1_1 x1_2 x1_3 x1_4 with
     | none => none
     | some (.inl y1_5_) =>
      some (.inr (.inl y1_5_))
     | some (.inr _) =>
      some (.inl (w64 (x1_7 + (1 : Int))))
    else none
   else none
  else
   some (.inr (.inr ()))
def m_viq3_1 (rec_viq3 : (Int) → (Int) → (Int) → (Int) → (Bool) → (Int) → Option ((Int) ⊕ (Unit))) (n : Nat) (x1_0 : Int) (x1_1 : Int) (x1_2 : Int) (x1_3 : Bool) (x1_4 : Int) (x1_5 : NL) (x1_6 : Int) (st : Int) : Option ((Int) ⊕ (Unit)) := iterM (B_viq3_1 rec_viq3 n x1_0 x1_1 x1_2 x1_3 x1_4 x1_5 x1_6) n st
theorem q_viq3_1_0 (rec_viq3 : (Int) → (Int) → (Int) → (Int) → (Bool) → (Int) → Option ((Int) ⊕ (Unit))) (hrec_viq3 : ∀ (a0 : Int) (a1 : Int) (a2 : Int) (a3 : Int) (a4 : Bool) (a5 : Int) (r : (Int) ⊕ (Unit)), rec_viq3 a0 a1 a2 a3 a4 a5 = some r → Gv P (.func 27) (A_viq3 a0 a1 a2 a3 a4 a5) (H_viq3 a0 a1 a2 a3 a4 a5) (V_viq3 a0 a1 a2 a3 a4 a5 r) (R_viq3 a0 a1 a2 a3 a4 a5 r)) (n : Nat) {rnd : Option Nat} (x1_0 x1_1 x1_2 : Int) (x1_3 : Bool) (x1_4 : Int) (x1_5 : NL) (x1_6 x1_7 : Int) (hy1_1 : x1_7 < x1_6) (hy1_2 : 0 ≤ x1_7 ∧ x1_7 < (x1_5.l.length : Int)) (hy1_3 : (x1_7).toNat < ((x1_5).l).length) (y1_4_ : Int) (hy1_4 : (some (((x1_5).l).getD (x1_7).toNat 0)) = some y1_4_) (y1_5_ : Int) (hy1_5 : rec_viq3 y1_4_ x1_0 x1_1 x1_2 x1_3 x1_4 = some (.inl y1_5_)) : Q_viq3_1 rnd x1_0 x1_1 x1_2 x1_3 x1_4 x1_5 x1_6 x1_7 (X_viq3_1 x1_0 x1_1 x1_2 x1_3 x1_4 x1_5 x1_6 (.inl y1_5_)) :=
 runC2 hm (L := lT []) ⟨[6], [(0, 0, false), (1, 1, false), (2, 2, false), (3, 3, false), (4, 4, false), (5, 5, false), (6, 6, false), (7, 7, false), (8, 8, false)], 9, 0⟩ (zz 1 (xdT hy1_1) <|
zz 7 (xk6 (Nat.add (x1_5).num 64) (x1_5).cap hy1_2) <|
zz 8 (nk7 hy1_4 hy1_3) <|
yy 14 (.call (C_viq3 y1_4_ x1_0 x1_1 x1_2 x1_3 x1_4 (.inl y1_5_) [(0, 0, false), (1, 1, false), (2, 2, false), (3, 3, false), (4, 4, false), (5, 5, false), (6, 6, false), (7, 7, false), (8, 8, false)] [(0, 0, false), (1, 1, false), (2, 2, false), (3, 3, false), (4, 4, false), (5, 5, false), (6, 6, false), (7, 7, false), (8, 8, false)])) <|
ww (hrec_viq3 y1_4_ x1_0 x1_1 x1_2 x1_3 x1_4 (.inl y1_5_) hy1_5) <|
ee) (by kernel_rfl)
theorem q_viq3_1_1 (rec_viq3 : (Int) → (Int) → (Int) → (Int) → (Bool) → (Int) → Option ((Int) ⊕ (Unit))) (hrec_viq3 : ∀ (a0 : Int) (a1 : Int) (a2 : Int) (a3 : Int) (a4 : Bool) (a5 : Int) (r : (Int) ⊕ (Unit)), rec_viq3 a0 a1 a2 a3 a4 a5 = some r → Gv P (.func 27) (A_viq3 a0 a1 a2 a3 a4 a5) (H_viq3 a0 a1 a2 a3 a4 a5) (V_viq3 a0 a1 a2 a3 a4 a5 r) (R_viq3 a0 a1 a2 a3 a4 a5 r)) (n : Nat) {rnd : Option Nat} (x1_0 x1_1 x1_2 : Int) (x1_3 : Bool) (x1_4 : Int) (x1_5 : NL) (x1_6 x1_7 : Int) (hy1_1 : x1_7 < x1_6) (hy1_2 : 0 ≤ x1_7 ∧ x1_7 < (x1_5.l.length : Int)) (hy1_3 : (x1_7).toNat < ((x1_5).l).length) (y1_4_ : Int) (hy1_4 : (some (((x1_5).l).getD (x1_7).toNat 0)) = some y1_4_) (hy1_5 : rec_viq3 y1_4_ x1_0 x1_1 x1_2 x1_3 x1_4 = some (.inr ())) : Q_viq3_1 rnd x1_0 x1_1 x1_2 x1_3 x1_4 x1_5 x1_6 x1_7 (.normal, S_viq3_1 x1_0 x1_1 x1_2 x1_3 x1_4 x1_5 x1_6 (w64 (x1_7 + (1 : Int)))) :=
 runC2 hm (L := lT []) ⟨[0, 2, 17, 18, 19], [(0, 0, false), (1, 1, false), (2, 2, false), (3, 3, false), (4, 4, false), (5, 5, false), (6, 6, false), (7, 7, false), (8, 8, false)], 9, 0⟩ (zz 1 (xdT hy1_1) <|
zz 7 (xk6 (Nat.add (x1_5).num 64) (x1_5).cap hy1_2) <|
zz 8 (nk7 hy1_4 hy1_3) <|
yy 14 (.call (C_viq3 y1_4_ x1_0 x1_1 x1_2 x1_3 x1_4 (.inr ()) [(0, 0, false), (1, 1, false), (2, 2, false), (3, 3, false), (4, 4, false), (5, 5, false), (6, 6, false), (7, 7, false), (8, 8, false)] [(0, 0, false), (1, 1, false), (2, 2, false), (3, 3, false), (4, 4, false), (5, 5, false), (6, 6, false), (7, 7, false), (8, 8, false)])) <|
ww (hrec_viq3 y1_4_ x1_0 x1_1 x1_2 x1_3 x1_4 (.inr ()) hy1_5) <|
ee) (by kernel_rfl)
theorem q_viq3_1_2 (rec_viq3 : (Int) → (Int) → (Int) → (Int) → (Bool) → (Int) → Option ((Int) ⊕ (Unit))) (hrec_viq3 : ∀ (a0 : Int) (a1 : Int) (a2 : Int) (a3 : Int) (a4 : Bool) (a5 : Int) (r : (Int) ⊕ (Unit)), rec_viq3 a0 a1 a2 a3 a4 a5 = some r → Gv P (.func 27) (A_viq3 a0 a1 a2 a3 a4 a5) (H_viq3 a0 a1 a2 a3 a4 a5) (V_viq3 a0 a1 a2 a3 a4 a5 r) (R_viq3 a0 a1 a2 a3 a4 a5 r)) (n : Nat) {rnd : Option Nat} (x1_0 x1_1 x1_2 : Int) (x1_3 : Bool) (x1_4 : Int) (x1_5 : NL) (x1_6 x1_7 : Int) (hy1_1 : ¬ (x1_7 < x1_6)) : Q_viq3_1 rnd x1_0 x1_1 x1_2 x1_3 x1_4 x1_5 x1_6 x1_7 (X_viq3_1 x1_0 x1_1 x1_2 x1_3 x1_4 x1_5 x1_6 (.inr ())) :=
 runC2 hm (L := lT []) ⟨[], [(0, 0, false), (1, 1, false), (2, 2, false), (3, 3, false), (4, 4, false), (5, 5, false), (6, 6, false), (7, 7, false), (8, 8, false)], 9, 0⟩ (zz 1 (xdF hy1_1) <|
ee) (by kernel_rfl)
theorem m_viq3_1_ok (rec_viq3 : (Int) → (Int) → (Int) → (Int) → (Bool) → (Int) → Option ((Int) ⊕ (Unit))) (hrec_viq3 : ∀ (a0 : Int) (a1 : Int) (a2 : Int) (a3 : Int) (a4 : Bool) (a5 : Int) (r : (Int) ⊕ (Unit)), rec_viq3 a0 a1 a2 a3 a4 a5 = some r → Gv P (.func 27) (A_viq3 a0 a1 a2 a3 a4 a5) (H_viq3 a0 a1 a2 a3 a4 a5) (V_viq3 a0 a1 a2 a3 a4 a5 r) (R_viq3 a0 a1 a2 a3 a4 a5 r)) (n : Nat) {rnd : Option Nat} (x1_0 : Int) (x1_1 : Int) (x1_2 : Int) (x1_3 : Bool) (x1_4 : Int) (x1_5 : NL) (x1_6 : Int) (st : Int) (r : (Int) ⊕ (Unit)) (h : m_viq3_1 rec_viq3 n x1_0 x1_1 x1_2 x1_3 x1_4 x1_5 x1_6 st = some r) : CG P rnd (fnN P 27) 9 (codeOf P 27 [false, true, false, true, true]) (S_viq3_1 x1_0 x1_1 x1_2 x1_3 x1_4 x1_5 x1_6 st) (X_viq3_1 x1_0 x1_1 x1_2 x1_3 x1_4 x1_5 x1_6 r) :=
 CG.iter (b := codeOf P 27 [false, false, true, false, true, true]) (by kernel_rfl) (body := B_viq3_1 rec_viq3 n x1_0 x1_1 x1_2 x1_3 x1_4 x1_5 x1_6) (S := S_viq3_1 x1_0 x1_1 x1_2 x1_3 x1_4 x1_5 x1_6) (X := X_viq3_1 x1_0 x1_1 x1_2 x1_3 x1_4 x1_5 x1_6)
  (fun x1_7 s' h => by
  unfold B_viq3_1 at h
  dsimp only at h
  by_cases hy1_1 : x1_7 < x1_6
  ·rw [if_pos hy1_1] at h
   by_cases hy1_2 : 0 ≤ x1_7 ∧ x1_7 < (x1_5.l.length : Int)
   ·rw [if_pos hy1_2] at h
    by_cases hy1_3 : (x1_7).toNat < ((x1_5).l).length
    ·rw [if_pos hy1_3] at h
     obtain ⟨y1_4_, hy1_4, h⟩ := Option.bind_eq_some_iff.1 h
     rcases hy1_5 : rec_viq3 y1_4_ x1_0 x1_1 x1_2 x1_3 x1_4 with _ | (y1_5_ | ⟨⟩)
     ·rw [hy1_5] at h; cases h
     ·rw [hy1_5] at h
      dsimp only at h
      cases h
     ·rw [hy1_5] at h
      dsimp only at h
      obtain rfl := Sum.inl.inj (oI h); exact q_viq3_1_1 rec_viq3 hrec_viq3 n x1_0 x1_1 x1_2 x1_3 x1_4 x1_5 x1_6 x1_7 hy1_1 hy1_2 hy1_3 y1_4_ hy1_4 hy1_5
    ·rw [if_neg hy1_3] at h; cases h
   ·rw [if_neg hy1_2] at h; cases h
  ·rw [if_neg hy1_1] at h
   cases h)
  (fun x1_7 r h => by
  unfold B_viq3_1 at h
  dsimp only at h
  by_cases hy1_1 : x1_7 < x1_6
  ·rw [if_pos hy1_1] at h
   by_cases hy1_2 : 0 ≤ x1_7 ∧ x1_7 < (x1_5.l.length : Int)
   ·rw [if_pos hy1_2] at h
    by_cases hy1_3 : (x1_7).toNat < ((x1_5).l).length
    ·rw [if_pos hy1_3] at h
     obtain ⟨y1_4_, hy1_4, h⟩ := Option.bind_eq_some_iff.1 h
     rcases hy1_5 : rec_viq3 y1_4_ x1_0 x1_1 x1_2 x1_3 x1_4 with _ | (y1_5_ | ⟨⟩)
     ·rw [hy1_5] at h; cases h
     ·rw [hy1_5] at h
      dsimp only at h
      obtain rfl := Sum.inr.inj (oI h); exact q_viq3_1_0 rec_viq3 hrec_viq3 n x1_0 x1_1 x1_2 x1_3 x1_4 x1_5 x1_6 x1_7 hy1_1 hy1_2 hy1_3 y1_4_ hy1_4 y1_5_ hy1_5
     ·rw [hy1_5] at h
      dsimp only at h
      cases h
    ·rw [if_neg hy1_3] at h; cases h
   ·rw [if_neg hy1_2] at h; cases h
  ·rw [if_neg hy1_1] at h
   obtain rfl := Sum.inr.inj (oI h); exact q_viq3_1_2 rec_viq3 hrec_viq3 n x1_0 x1_1 x1_2 x1_3 x1_4 x1_5 x1_6 x1_7 hy1_1)
  (fun r => by intro hx; rcases r with _ | _ <;> cases hx) h
def s_viq3 (rec_viq3 : (Int) → (Int) → (Int) → (Int) → (Bool) → (Int) → Option ((Int) ⊕ (Unit))) (n : Nat) (a0 : Int) (a1 : Int) (a2 : Int) (a3 : Int) (a4 : Bool) (a5 : Int) : Option ((Int) ⊕ (Unit)) :=
 match m_tF_11010y1 n a1 a2 a3 a4 a5 a0 with
 | none => none
 | some (.inl _) =>
  some (.inl a0)
 | some (.inr _) =>
  if 0 ≤ a0 ∧ a0 < (Args.A.length : Int) then
   ((some ((Args.A).getD (a0).toNat (0, 0, 0, 0, 0, 0, nl0, 0)))).bind fun c3_ =>
   match m_viq3_1 rec_viq3 n a1 a2 a3 a4 a5 (c3_.2.2.2.2.2.2.1) (c3_.2.2.2.2.2.2.1.l.length : Int) 0 with
   | none => none
   | some (.inl c4_) =>
    some (.inl c4_)
   | some (.inr _) =>
    some (.inr ())
  else none
theorem s_viq3_ok (rec_viq3 : (Int) → (Int) → (Int) → (Int) → (Bool) → (Int) → Option ((Int) ⊕ (Unit))) (hrec_viq3 : ∀ (a0 : Int) (a1 : Int) (a2 : Int) (a3 : Int) (a4 : Bool) (a5 : Int) (r : (Int) ⊕ (Unit)), rec_viq3 a0 a1 a2 a3 a4 a5 = some r → Gv P (.func 27) (A_viq3 a0 a1 a2 a3 a4 a5) (H_viq3 a0 a1 a2 a3 a4 a5) (V_viq3 a0 a1 a2 a3 a4 a5 r) (R_viq3 a0 a1 a2 a3 a4 a5 r)) (n : Nat) (a0 : Int) (a1 : Int) (a2 : Int) (a3 : Int) (a4 : Bool) (a5 : Int) (r : (Int) ⊕ (Unit)) (h : s_viq3 rec_viq3 n a0 a1 a2 a3 a4 a5 = some r) : Gv P (.func 27) (A_viq3 a0 a1 a2 a3 a4 a5) (H_viq3 a0 a1 a2 a3 a4 a5) (V_viq3 a0 a1 a2 a3 a4 a5 r) (R_viq3 a0 a1 a2 a3 a4 a5 r) := by
 unfold s_viq3 at h
 rcases hc1 : m_tF_11010y1 n a1 a2 a3 a4 a5 a0 with _ | (⟨⟩ | ⟨⟩)
 ·rw [hc1] at h; cases h
 ·rw [hc1] at h
  dsimp only at h
  obtain rfl := oI h; exact (runF2 hm (L := lT []) ⟨[6], [(0, 0, false), (1, 1, false), (2, 2, false), (3, 3, false), (4, 4, false), (5, 5, false), (6, 6, false), (7, 7, false), (8, 8, false)], 9, 0⟩ (yy 6 (.call (C_tF_11010y1 a1 a2 a3 a4 a5 a0 (.inl ()) [(0, 0, false), (1, 1, false), (2, 2, false), (3, 3, false), (4, 4, false), (5, 5, false), (6, 6, false), (7, 7, false), (8, 8, false)] [(0, 0, false), (1, 1, false), (2, 2, false), (3, 3, false), (4, 4, false), (5, 5, false), (6, 6, false), (7, 7, false), (8, 8, false)])) <|
ww (m_tF_11010y1_ok n a1 a2 a3 a4 a5 a0 (.inl ()) hc1) ee) (by kernel_rfl))
 ·rw [hc1] at h
  dsimp only at h
  by_cases hc2 : 0 ≤ a0 ∧ a0 < (Args.A.length : Int)
  ·rw [if_pos hc2] at h
   obtain ⟨c3_, hc3, h⟩ := Option.bind_eq_some_iff.1 h
   rcases hc4 : m_viq3_1 rec_viq3 n a1 a2 a3 a4 a5 (c3_.2.2.2.2.2.2.1) (c3_.2.2.2.2.2.2.1.l.length : Int) 0 with _ | (c4_ | ⟨⟩)
   ·rw [hc4] at h; cases h
   ·rw [hc4] at h
    dsimp only at h
    obtain rfl := oI h; exact (runF2 hm (L := lT [(19, ⟨⟨[0, 2, 17, 18, 19], [(0, 0, false), (1, 1, false), (2, 2, false), (3, 3, false), (4, 4, false), (5, 5, false), (6, 6, false), (7, 7, false), (8, 8, false)], 9, 0⟩, (X_viq3_1 a1 a2 a3 a4 a5 (c3_.2.2.2.2.2.2.1) (c3_.2.2.2.2.2.2.1.l.length : Int) (.inl c4_)).1, (X_viq3_1 a1 a2 a3 a4 a5 (c3_.2.2.2.2.2.2.1) (c3_.2.2.2.2.2.2.1.l.length : Int) (.inl c4_)).2⟩)]) ⟨[6], [(0, 0, false), (1, 1, false), (2, 2, false), (3, 3, false), (4, 4, false), (5, 5, false), (6, 6, false), (7, 7, false), (8, 8, false)], 9, 0⟩ (yy 6 (.call (C_tF_11010y1 a1 a2 a3 a4 a5 a0 (.inr ()) [(0, 0, false), (1, 1, false), (2, 2, false), (3, 3, false), (4, 4, false), (5, 5, false), (6, 6, false), (7, 7, false), (8, 8, false)] [(0, 0, false), (1, 1, false), (2, 2, false), (3, 3, false), (4, 4, false), (5, 5, false), (6, 6, false), (7, 7, false), (8, 8, false)])) <|
ww (m_tF_11010y1_ok n a1 a2 a3 a4 a5 a0 (.inr ()) hc1) <|
zz 13 (xk1 0 Args.cA hc2) <|
zz 14 (fk12 ((a0).toNat * 8)) <|
zz 15 (lk13 hc3 (toNatLt hc2)) <|
ww (p := U_viq3_1 none a1 a2 a3 a4 a5 (c3_.2.2.2.2.2.2.1) (c3_.2.2.2.2.2.2.1.l.length : Int) 0 (.inl c4_)) (m_viq3_1_ok rec_viq3 hrec_viq3 n a1 a2 a3 a4 a5 (c3_.2.2.2.2.2.2.1) (c3_.2.2.2.2.2.2.1.l.length : Int) 0 (.inl c4_) hc4) ee) (by kernel_rfl))
   ·rw [hc4] at h
    dsimp only at h
    obtain rfl := oI h; exact (runF2 hm (L := lT [(19, ⟨⟨[0, 2, 17, 18, 19], [(0, 0, false), (1, 1, false), (2, 2, false), (3, 3, false), (4, 4, false), (5, 5, false), (6, 6, false), (7, 7, false), (8, 8, false)], 9, 0⟩, (X_viq3_1 a1 a2 a3 a4 a5 (c3_.2.2.2.2.2.2.1) (c3_.2.2.2.2.2.2.1.l.length : Int) (.inr ())).1, (X_viq3_1 a1 a2 a3 a4 a5 (c3_.2.2.2.2.2.2.1) (c3_.2.2.2.2.2.2.1.l.length : Int) (.inr ())).2⟩)]) ⟨[6], [(0, 0, false), (1, 1, false), (2, 2, false), (3, 3, false), (4, 4, false), (5, 5, false), (6, 6, false), (7, 7, false), (8, 8, false)], 9, 0⟩ (yy 6 (.call (C_tF_11010y1 a1 a2 a3 a4 a5 a0 (.inr ()) [(0, 0, false), (1, 1, false), (2, 2, false), (3, 3, false), (4, 4, false), (5, 5, false), (6, 6, false), (7, 7, false), (8, 8, false)] [(0, 0, false), (1, 1, false), (2, 2, false), (3, 3, false), (4, 4, false), (5, 5, false), (6, 6, false), (7, 7, false), (8, 8, false)])) <|
ww (m_tF_11010y1_ok n a1 a2 a3 a4 a5 a0 (.inr ()) hc1) <|
zz 13 (xk1 0 Args.cA hc2) <|
zz 14 (fk12 ((a0).toNat * 8)) <|
zz 15 (lk13 hc3 (toNatLt hc2)) <|
ww (p := U_viq3_1 none a1 a2 a3 a4 a5 (c3_.2.2.2.2.2.2.1) (c3_.2.2.2.2.2.2.1.l.length : Int) 0 (.inr ())) (m_viq3_1_ok rec_viq3 hrec_viq3 n a1 a2 a3 a4 a5 (c3_.2.2.2.2.2.2.1) (c3_.2.2.2.2.2.2.1.l.length : Int) 0 (.inr ()) hc4) ee) (by kernel_rfl))
  ·rw [if_neg hc2] at h; cases h
def m_viq3 : Nat → (Int) → (Int) → (Int) → (Int) → (Bool) → (Int) → Option ((Int) ⊕ (Unit))
 | 0 => fun _ _ _ _ _ _ => none
 | n + 1 => fun a0 a1 a2 a3 a4 a5 => s_viq3 (m_viq3 n) n a0 a1 a2 a3 a4 a5
theorem m_viq3_ok : ∀ (n : Nat) (a0 : Int) (a1 : Int) (a2 : Int) (a3 : Int) (a4 : Bool) (a5 : Int) (r : (Int) ⊕ (Unit)) (h : m_viq3 n a0 a1 a2 a3 a4 a5 = some r), Gv P (.func 27) (A_viq3 a0 a1 a2 a3 a4 a5) (H_viq3 a0 a1 a2 a3 a4 a5) (V_viq3 a0 a1 a2 a3 a4 a5 r) (R_viq3 a0 a1 a2 a3 a4 a5 r)
 | 0, _, _, _, _, _, _, _, h => nomatch h
 | n + 1, a0, a1, a2, a3, a4, a5, r, h => s_viq3_ok (m_viq3 n) (m_viq3_ok n) n a0 a1 a2 a3 a4 a5 r h

def A_pl1q2 (a0 : Int) (a1 : Int) (a2 : Int) (a3 : Bool) (a4 : Int) : List Value := [(Value.func (.yield 0) #[] #[]), (pN 7 0), (pN 8 0)]
def H_pl1q2 (a0 : Int) (a1 : Int) (a2 : Int) (a3 : Bool) (a4 : Int) : AH := ⟨sB [(0, (some (rblk P 13 [false, true, false, true, true] .ready none [(3, (pN 2 0)), (4, (pN 3 0)), (5, (pN 4 0)), (6, (pN 5 0)), (7, (pN 6 0)), (14, (Value.func (.func 26) #[] #[(pN 7 0), (pN 8 0)]))] 1))), (1, (some (.marks true))), (2, (some (.cells (layT [(sW 0 0 (Args.A).length Args.cA)]) 22))), (3, (some (.cells (layT [(i6 a0)]) 3))), (4, (some (.cells (layT [(i6 a1)]) 3))), (5, (some (.cells (layT [(i6 a2)]) 3))), (6, (some (.cells (layT [(bO a3)]) 4))), (7, (some (.cells (layT [(sW 0 0 (Args.A).length Args.cA)]) 22))), (8, (some (.cells (layT [(i6 a4)]) 3)))], 9, 9⟩
def V_pl1q2 (a0 : Int) (a1 : Int) (a2 : Int) (a3 : Bool) (a4 : Int) (r : (Int) ⊕ (Unit)) : Value := match r with
 | .inl o0 => (Value.tuple #[])
 | .inr _ => (Value.tuple #[])
def R_pl1q2 (a0 : Int) (a1 : Int) (a2 : Int) (a3 : Bool) (a4 : Int) (r : (Int) ⊕ (Unit)) : AH := match r with
 | .inl o0 => ⟨sB [(0, (some (rblk P 13 [false, true, false, true, true] .done (some .ret) [(3, (pN 2 0)), (4, (pN 3 0)), (5, (pN 4 0)), (6, (pN 5 0)), (7, (pN 6 0)), (14, (Value.func (.func 26) #[] #[(pN 7 0), (pN 8 0)]))] 1))), (1, (some (.marks true))), (2, (some (.cells (layT [(sW 0 0 (Args.A).length Args.cA)]) 22))), (3, (some (.cells (layT [(i6 a0)]) 3))), (4, (some (.cells (layT [(i6 a1)]) 3))), (5, (some (.cells (layT [(i6 o0)]) 3))), (6, (some (.cells (layT [(bO true)]) 4))), (7, (some (.cells (layT [(sW 0 0 (Args.A).length Args.cA)]) 22))), (8, (some (.cells (layT [(i6 a4)]) 3)))], 9, 0⟩
 | .inr _ => ⟨sB [(0, (some (rblk P 13 [false, true, false, true, true] .ready none [(3, (pN 2 0)), (4, (pN 3 0)), (5, (pN 4 0)), (6, (pN 5 0)), (7, (pN 6 0)), (14, (Value.func (.func 26) #[] #[(pN 7 0), (pN 8 0)]))] 1))), (1, (some (.marks true))), (2, (some (.cells (layT [(sW 0 0 (Args.A).length Args.cA)]) 22))), (3, (some (.cells (layT [(i6 a0)]) 3))), (4, (some (.cells (layT [(i6 a1)]) 3))), (5, (some (.cells (layT [(i6 a2)]) 3))), (6, (some (.cells (layT [(bO a3)]) 4))), (7, (some (.cells (layT [(sW 0 0 (Args.A).length Args.cA)]) 22))), (8, (some (.cells (layT [(i6 a4)]) 3)))], 9, 0⟩
abbrev G_pl1q2 (a0 : Int) (a1 : Int) (a2 : Int) (a3 : Bool) (a4 : Int) (r : (Int) ⊕ (Unit)) : Prop := Gv P (.func 26) (A_pl1q2 a0 a1 a2 a3 a4) (H_pl1q2 a0 a1 a2 a3 a4) (V_pl1q2 a0 a1 a2 a3 a4 r) (R_pl1q2 a0 a1 a2 a3 a4 r)
abbrev C_pl1q2 (a0 : Int) (a1 : Int) (a2 : Int) (a3 : Bool) (a4 : Int) (r : (Int) ⊕ (Unit)) (ins outs : BL) : CallA := ⟨9, ins, V_pl1q2 a0 a1 a2 a3 a4 r, R_pl1q2 a0 a1 a2 a3 a4 r, outs⟩
def m_pl1q2 (n : Nat) (a0 : Int) (a1 : Int) (a2 : Int) (a3 : Bool) (a4 : Int) : Option ((Int) ⊕ (Unit)) :=
 match m_viq3 n a4 a0 a1 a2 a3 a4 with
 | none => none
 | some (.inl c1_) =>
  some (.inl c1_)
 | some (.inr _) =>
  some (.inr ())
theorem m_pl1q2_ok (n : Nat) (a0 : Int) (a1 : Int) (a2 : Int) (a3 : Bool) (a4 : Int) (r : (Int) ⊕ (Unit)) (h : m_pl1q2 n a0 a1 a2 a3 a4 = some r) : Gv P (.func 26) (A_pl1q2 a0 a1 a2 a3 a4) (H_pl1q2 a0 a1 a2 a3 a4) (V_pl1q2 a0 a1 a2 a3 a4 r) (R_pl1q2 a0 a1 a2 a3 a4 r) := by
 unfold m_pl1q2 at h
 rcases hc1 : m_viq3 n a4 a0 a1 a2 a3 a4 with _ | (c1_ | ⟨⟩)
 ·rw [hc1] at h; cases h
 ·rw [hc1] at h
  dsimp only at h
  obtain rfl := oI h; exact (runF2 hm (L := lT []) ⟨[], [(0, 0, false), (1, 1, false), (2, 2, false), (3, 3, false), (4, 4, false), (5, 5, false), (6, 6, false), (7, 7, false), (8, 8, false)], 9, 0⟩ (yy 3 (.call (C_viq3 a4 a0 a1 a2 a3 a4 (.inl c1_) [(0, 0, false), (1, 1, false), (2, 2, false), (3, 3, false), (4, 4, false), (5, 5, false), (6, 6, false), (7, 7, false), (8, 8, false)] [(0, 0, false), (1, 1, false), (2, 2, false), (3, 3, false), (4, 4, false), (5, 5, false), (6, 6, false), (7, 7, false), (8, 8, false)])) <|
ww (m_viq3_ok n a4 a0 a1 a2 a3 a4 (.inl c1_) hc1) ee) (by kernel_rfl))
 ·rw [hc1] at h
  dsimp only at h
  obtain rfl := oI h; exact (runF2 hm (L := lT []) ⟨[], [(0, 0, false), (1, 1, false), (2, 2, false), (3, 3, false), (4, 4, false), (5, 5, false), (6, 6, false), (7, 7, false), (8, 8, false)], 9, 0⟩ (yy 3 (.call (C_viq3 a4 a0 a1 a2 a3 a4 (.inr ()) [(0, 0, false), (1, 1, false), (2, 2, false), (3, 3, false), (4, 4, false), (5, 5, false), (6, 6, false), (7, 7, false), (8, 8, false)] [(0, 0, false), (1, 1, false), (2, 2, false), (3, 3, false), (4, 4, false), (5, 5, false), (6, 6, false), (7, 7, false), (8, 8, false)])) <|
ww (m_viq3_ok n a4 a0 a1 a2 a3 a4 (.inr ()) hc1) ee) (by kernel_rfl))

def A_tFq1 (a0 : Int) (a1 : Int) : List Value := [(sW 0 0 (Args.A).length Args.cA), (i6 a0), (i6 a1)]
def H_tFq1 (a0 : Int) (a1 : Int) : AH := ⟨sB [], 0, 0⟩
def V_tFq1 (a0 : Int) (a1 : Int) (r : Int × Bool) : Value := match r with
 | (o0, o1) => (Value.tuple #[(i6 o0), (bO o1)])
def R_tFq1 (a0 : Int) (a1 : Int) (r : Int × Bool) : AH := match r with
 | (o0, o1) => ⟨sB [(0, (some (.marks false))), (1, (some (.cells (layT [(i6 o0)]) 3))), (2, (some (.cells (layT [(bO o1)]) 4)))], 3, 0⟩
abbrev G_tFq1 (a0 : Int) (a1 : Int) (r : Int × Bool) : Prop := Gv P (.func 13) (A_tFq1 a0 a1) (H_tFq1 a0 a1) (V_tFq1 a0 a1 r) (R_tFq1 a0 a1 r)
abbrev C_tFq1 (a0 : Int) (a1 : Int) (r : Int × Bool) (ins outs : BL) : CallA := ⟨0, ins, V_tFq1 a0 a1 r, R_tFq1 a0 a1 r, outs⟩
def m_tFq1 (n : Nat) (a0 : Int) (a1 : Int) : Option (Int × Bool) :=
 (m_tCq1 n).bind fun c1_ =>
 if c1_ = (0 : Int) then
  (m_plq1 n 0).bind fun _ =>
  match m_pl1q2 n a0 a1 0 false 0 with
  | none => none
  | some (.inl c4_) =>
   some (c4_, true)
  | some (.inr _) =>
   some (0, false)
 else
  none
theorem m_tFq1_ok (n : Nat) (a0 : Int) (a1 : Int) (r : Int × Bool) (h : m_tFq1 n a0 a1 = some r) : Gv P (.func 13) (A_tFq1 a0 a1) (H_tFq1 a0 a1) (V_tFq1 a0 a1 r) (R_tFq1 a0 a1 r) := by
 unfold m_tFq1 at h
 obtain ⟨c1_, hc1, h⟩ := Option.bind_eq_some_iff.1 h
 by_cases hc2 : c1_ = (0 : Int)
 ·rw [if_pos hc2] at h
  obtain ⟨_, hc3, h⟩ := Option.bind_eq_some_iff.1 h
  rcases hc4 : m_pl1q2 n a0 a1 0 false 0 with _ | (c4_ | ⟨⟩)
  ·rw [hc4] at h; cases h
  ·rw [hc4] at h
   dsimp only at h
   obtain rfl := oI h; exact (runF2 hm (L := lT []) ⟨[6, 7], [(0, 7, false), (1, 3, false), (2, 4, false)], 3, 0⟩ (yy 9 (.call (C_tCq1  c1_ [] [])) <|
ww (m_tCq1_ok n  c1_ hc1) <|
zz 10 (xnF hc2) <|
yy 15 (.call (C_plq1 0 () [] [(5, 0, false), (6, 1, false)])) <|
ww (m_plq1_ok n 0 () hc3) <|
yy 17 (.rng (C_pl1q2 a0 a1 0 false 0 (.inl c4_) [(0, 8, false), (1, 7, false), (2, 0, false), (3, 1, false), (4, 2, false), (5, 3, false), (6, 4, false), (7, 5, false), (8, 6, false)] [(8, 0, false), (7, 1, false), (0, 2, false), (1, 3, false), (2, 4, false), (3, 5, false), (4, 6, false), (5, 7, false), (6, 8, false)]) [3, 4, 5, 6, 7, 14]) <|
ww (m_pl1q2_ok n a0 a1 0 false 0 (.inl c4_) hc4) ee) (by kernel_rfl))
  ·rw [hc4] at h
   dsimp only at h
   obtain rfl := oI h; exact (runF2 hm (L := lT []) ⟨[6, 7], [(0, 7, false), (1, 3, false), (2, 4, false)], 3, 0⟩ (yy 9 (.call (C_tCq1  c1_ [] [])) <|
ww (m_tCq1_ok n  c1_ hc1) <|
zz 10 (xnF hc2) <|
yy 15 (.call (C_plq1 0 () [] [(5, 0, false), (6, 1, false)])) <|
ww (m_plq1_ok n 0 () hc3) <|
yy 17 (.rng (C_pl1q2 a0 a1 0 false 0 (.inr ()) [(0, 8, false), (1, 7, false), (2, 0, false), (3, 1, false), (4, 2, false), (5, 3, false), (6, 4, false), (7, 5, false), (8, 6, false)] [(8, 0, false), (7, 1, false), (0, 2, false), (1, 3, false), (2, 4, false), (3, 5, false), (4, 6, false), (5, 7, false), (6, 8, false)]) [3, 4, 5, 6, 7, 14]) <|
ww (m_pl1q2_ok n a0 a1 0 false 0 (.inr ()) hc4) ee) (by kernel_rfl))
 ·rw [if_neg hc2] at h
  cases h


end Go.Proofs.Ytalepmolclldlaa.trp
