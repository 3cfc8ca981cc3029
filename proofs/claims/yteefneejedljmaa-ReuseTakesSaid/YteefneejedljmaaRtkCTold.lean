/-
  What functions do, told by pure functions. No condition.
-/
import Derived.Test.YteefneejedljmaaRtkBTold
set_option linter.unusedSimpArgs false
set_option linter.unusedVariables false
set_option linter.unusedSectionVars false
set_option linter.unnecessarySimpa false
set_option maxRecDepth 100000
noncomputable section
namespace Go.Proofs.Yteefneejedljmaa.rtk
open Go Go.Proofs.Yteefneejedljmaa Ax
variable [Args]
def A_reuseTakeq1 (a0 : Int) (a1 : Int) : List Value := [(sW 0 0 (Args.A).length Args.cA), (i6 a0), (i6 a1)]
def H_reuseTakeq1 (a0 : Int) (a1 : Int) : AH := ⟨sB [], 0, 0⟩
def V_reuseTakeq1 (a0 : Int) (a1 : Int) (r : (List R8) ⊕ (Unit)) : Value := match r with
 | .inl o0 => (Value.tuple #[(sN 0 0 (o0).length (Nat.add big 8)), (bO true)])
 | .inr _ => (Value.tuple #[(Value.slice none 0 0), (bO false)])
def R_reuseTakeq1 (a0 : Int) (a1 : Int) (r : (List R8) ⊕ (Unit)) : AH := match r with
 | .inl o0 => ⟨sB [(0, (some (.cells (layT (rows rw_iiiiiiLu o0)) 33)))], 1, 0⟩
 | .inr _ => ⟨sB [], 0, 0⟩
abbrev G_reuseTakeq1 (a0 : Int) (a1 : Int) (r : (List R8) ⊕ (Unit)) : Prop := Gv P (.func 8) (A_reuseTakeq1 a0 a1) (H_reuseTakeq1 a0 a1) (V_reuseTakeq1 a0 a1 r) (R_reuseTakeq1 a0 a1 r)
abbrev C_reuseTakeq1 (a0 : Int) (a1 : Int) (r : (List R8) ⊕ (Unit)) (ins outs : BL) : CallA := ⟨0, ins, V_reuseTakeq1 a0 a1 r, R_reuseTakeq1 a0 a1 r, outs⟩
def m_reuseTakeq1 (n : Nat) (a0 : Int) (a1 : Int) : Option ((List R8) ⊕ (Unit)) :=
 match m_treeFindq1 n a0 a1 with
 | none => none
 | some (.inl (c1_0, c1_1)) =>
  if c1_1 = true then
   (m_tSq1 n).bind fun t => match t with
   | (c3_0, c3_1) =>
    (m_rRq1 n c3_0 c3_1 c3_1 c1_0).bind fun c4_ =>
    if c4_ = true then
     (m_treeSubq1 n c1_0).bind fun c6_ =>
     some (.inl c6_)
    else
     some (.inr ())
  else
   some (.inr ())
 | some (.inr _) =>
  some (.inr ())
theorem m_reuseTakeq1_ok (n : Nat) (a0 : Int) (a1 : Int) (r : (List R8) ⊕ (Unit)) (h : m_reuseTakeq1 n a0 a1 = some r) : Gv P (.func 8) (A_reuseTakeq1 a0 a1) (H_reuseTakeq1 a0 a1) (V_reuseTakeq1 a0 a1 r) (R_reuseTakeq1 a0 a1 r) := by
 unfold m_reuseTakeq1 at h
 rcases hc1 : m_treeFindq1 n a0 a1 with _ | (⟨c1_0, c1_1⟩ | ⟨⟩)
 ·rw [hc1] at h; cases h
 ·rw [hc1] at h
  dsimp only at h
  by_cases hc2 : c1_1 = true
  ·rw [if_pos hc2] at h
   obtain ⟨⟨c3_0, c3_1⟩, hc3, h⟩ := Option.bind_eq_some_iff.1 h
   dsimp only at h
   obtain ⟨c4_, hc4, h⟩ := Option.bind_eq_some_iff.1 h
   by_cases hc5 : c4_ = true
   ·rw [if_pos hc5] at h
    obtain ⟨c6_, hc6, h⟩ := Option.bind_eq_some_iff.1 h
    obtain rfl := oI h; exact runF2 hm (L := lT []) ⟨[6, 7], [(0, 6, true)], 1, 0, [], false, []⟩ (yy 7 (.call (C_treeFindq1 a0 a1 (.inl (c1_0, c1_1)) [] [(1, 1, false), (2, 2, false)])) <|
ww (m_treeFindq1_ok n a0 a1 (.inl (c1_0, c1_1)) hc1) <|
yy 16 (vf) <|
ww (p := (Value.bool (!c1_1)) = (Value.bool false)) (vBn hc2) <|
yy 20 (.call (C_tSq1  (c3_0, c3_1) [] [(4, 1, true)])) <|
ww (m_tSq1_ok n  (c3_0, c3_1) hc3) <|
ww (rows_flat rwf_b c3_0 4) <|
yy 22 (.call (C_rRq1 c3_0 c3_1 c3_1 c1_0 c4_ [(0, 4, true)] [])) <|
ww (m_rRq1_ok n c3_0 c3_1 c3_1 c1_0 c4_ hc4) <|
ww (rows_flat rwf_b c3_0 4) <|
yy 23 (vf) <|
ww (p := (Value.bool (!c4_)) = (Value.bool false)) (vBn hc5) <|
yy 29 (.call (C_treeSubq1 c1_0 c6_ [] [(6, 1, true)])) <|
ww (m_treeSubq1_ok n c1_0 c6_ hc6) <|
ww (rows_flat rwf_iiiiiiLu c6_ 33) <|
ww (rows_flat rwf_iiiiiiLu c6_ 33) ee) (by kernel_rfl)
   ·rw [if_neg hc5] at h
    obtain rfl := oI h; exact runF2 hm (L := lT []) ⟨[6, 7], [], 0, 0, [], false, []⟩ (yy 7 (.call (C_treeFindq1 a0 a1 (.inl (c1_0, c1_1)) [] [(1, 1, false), (2, 2, false)])) <|
ww (m_treeFindq1_ok n a0 a1 (.inl (c1_0, c1_1)) hc1) <|
yy 16 (vf) <|
ww (p := (Value.bool (!c1_1)) = (Value.bool false)) (vBn hc2) <|
yy 20 (.call (C_tSq1  (c3_0, c3_1) [] [(4, 1, true)])) <|
ww (m_tSq1_ok n  (c3_0, c3_1) hc3) <|
ww (rows_flat rwf_b c3_0 4) <|
yy 22 (.call (C_rRq1 c3_0 c3_1 c3_1 c1_0 c4_ [(0, 4, true)] [])) <|
ww (m_rRq1_ok n c3_0 c3_1 c3_1 c1_0 c4_ hc4) <|
ww (rows_flat rwf_b c3_0 4) <|
yy 23 (vt) <|
ww (p := (Value.bool (!c4_)) = (Value.bool true)) (vBn (Bool.eq_false_iff.2 hc5)) ee) (by kernel_rfl)
  ·rw [if_neg hc2] at h
   obtain rfl := oI h; exact runF2 hm (L := lT []) ⟨[6, 7], [], 0, 0, [], false, []⟩ (yy 7 (.call (C_treeFindq1 a0 a1 (.inl (c1_0, c1_1)) [] [(1, 1, false), (2, 2, false)])) <|
ww (m_treeFindq1_ok n a0 a1 (.inl (c1_0, c1_1)) hc1) <|
yy 16 (vt) <|
ww (p := (Value.bool (!c1_1)) = (Value.bool true)) (vBn (Bool.eq_false_iff.2 hc2)) ee) (by kernel_rfl)
 ·rw [hc1] at h
  dsimp only at h
  obtain rfl := oI h; exact runF2 hm (L := lT []) ⟨[6, 7], [], 0, 0, [], false, []⟩ (yy 7 (.call (C_treeFindq1 a0 a1 (.inr ()) [] [(0, 0, false), (1, 1, false)])) <|
ww (m_treeFindq1_ok n a0 a1 (.inr ()) hc1) ee) (by kernel_rfl)

def A_Rendq2 (a0 : List R8) (a1 : Int) : List Value := [(sN 0 0 (a0).length (Nat.add big 8)), (i6 a1)]
def H_Rendq2 (a0 : List R8) (a1 : Int) : AH := ⟨sB [(0, (some (.cells (layT (rows rw_iiiiiiLu a0)) 33)))], 1, 1⟩
def V_Rendq2 (a0 : List R8) (a1 : Int) (r : Int) : Value := match r with
 | o0 => (i6 o0)
def R_Rendq2 (a0 : List R8) (a1 : Int) (r : Int) : AH := match r with
 | o0 => ⟨sB [], 1, 1⟩
abbrev G_Rendq2 (a0 : List R8) (a1 : Int) (r : Int) : Prop := Gv P (.func 14) (A_Rendq2 a0 a1) (H_Rendq2 a0 a1) (V_Rendq2 a0 a1 r) (R_Rendq2 a0 a1 r)
abbrev C_Rendq2 (a0 : List R8) (a1 : Int) (r : Int) (ins outs : BL) : CallA := ⟨1, ins, V_Rendq2 a0 a1 r, R_Rendq2 a0 a1 r, outs⟩
def S_Rendq2_1 (x1_0 : List R8) (x1_1 : Int) (st : Int × Int × Int) : XSt := match st with
 | (x1_2, x1_3, x1_4) => (sT 68 [(0, (sN 0 0 (x1_0).length (Nat.add big 8))), (1, (i6 x1_1)), (5, (i6 x1_2)), (6, (i6 x1_3)), (7, (i6 x1_4))], [], ⟨sB [(0, (some (.cells (layT (rows rw_iiiiiiLu x1_0)) 33)))], 1, 1⟩)
def X_Rendq2_1 (x1_0 : List R8) (x1_1 : Int) (r : (Unit) ⊕ (Int × Int)) : Ex × XSt := match r with
 | .inl _ => (.ret, (sT 68 [(4, (i6 (-1 : Int)))], [], ⟨sB [(0, (some (.cells (layT (rows rw_iiiiiiLu x1_0)) 33)))], 1, 1⟩))
 | .inr (z1_0, z1_1) => (.exit 0, (sT 68 [(0, (sN 0 0 (x1_0).length (Nat.add big 8))), (1, (i6 x1_1)), (5, (i6 z1_0)), (6, (i6 z1_1))], [], ⟨sB [(0, (some (.cells (layT (rows rw_iiiiiiLu x1_0)) 33)))], 1, 1⟩))
abbrev Q_Rendq2_1 (rnd : Option Nat) (x1_0 : List R8) (x1_1 : Int) (st : Int × Int × Int) (c : Ex × XSt) : Prop := CG P rnd (fnN P 14) 1 (codeOf P 14 [false, false, true, false, true, true]) (S_Rendq2_1 x1_0 x1_1 st) c
abbrev U_Rendq2_1 (rd : Option Nat) (x1_0 : List R8) (x1_1 : Int) (st : Int × Int × Int) (r : (Unit) ⊕ (Int × Int)) : Prop := CG P rd (fnN P 14) 1 (codeOf P 14 [false, true, false, true, true]) (S_Rendq2_1 x1_0 x1_1 st) (X_Rendq2_1 x1_0 x1_1 r)
def B_Rendq2_1 (rec_Rendq2 : (List R8) → (Int) → Option (Int)) (n : Nat) (x1_0 : List R8) (x1_1 : Int) (st : Int × Int × Int) : Option ((Int × Int × Int) ⊕ ((Unit) ⊕ (Int × Int))) := match st with
 | (x1_2, x1_3, x1_4) =>
  if 0 ≤ x1_1 ∧ x1_1 < (x1_0.length : Int) then
   ((some ((x1_0).getD (x1_1).toNat (0, 0, 0, 0, 0, 0, nl0, 0)))).bind fun y1_2_ =>
   if x1_4 < (y1_2_.2.2.2.2.2.2.1.l.length : Int) then
    if 0 ≤ x1_4 ∧ x1_4 < (y1_2_.2.2.2.2.2.2.1.l.length : Int) then
     if (x1_4).toNat < (((y1_2_.2.2.2.2.2.2.1)).l).length then
      ((some ((((y1_2_.2.2.2.2.2.2.1)).l).getD (x1_4).toNat 0))).bind fun y1_6_ =>
      if y1_6_ = x1_2 then
       if x1_2 ≥ (x1_0.length : Int) then
        some (.inr (.inl ()))
       else
        if 0 ≤ x1_2 ∧ x1_2 < (x1_0.length : Int) then
         ((some ((x1_0).getD (x1_2).toNat (0, 0, 0, 0, 0, 0, nl0, 0)))).bind fun y1_10_ =>
         if (y1_10_.2.2.1) < x1_3 then
          some (.inr (.inl ()))
         else
          (rec_Rendq2 x1_0 x1_2).bind fun y1_12_ =>
          if y1_12_ < (0 : Int) then
           some (.inr (.inl ()))
          else
           some (.inl (y1_12_, (y1_10_.2.2.2.2.1), (w64 (x1_4 + (1 : Int)))))
        else none
      else
       some (.inr (.inl ()))
     else none
    else none
   else
    some (.inr (.inr (x1_2, x1_3)))
  else none
def m_Rendq2_1 (rec_Rendq2 : (List R8) → (Int) → Option (Int)) (n : Nat) (x1_0 : List R8) (x1_1 : Int) (st : Int × Int × Int) : Option ((Unit) ⊕ (Int × Int)) := iterM (B_Rendq2_1 rec_Rendq2 n x1_0 x1_1) n st
theorem q_Rendq2_1_0 (rec_Rendq2 : (List R8) → (Int) → Option (Int)) (hrec_Rendq2 : ∀ (a0 : List R8) (a1 : Int) (r : Int), rec_Rendq2 a0 a1 = some r → Gv P (.func 14) (A_Rendq2 a0 a1) (H_Rendq2 a0 a1) (V_Rendq2 a0 a1 r) (R_Rendq2 a0 a1 r)) (n : Nat) {rnd : Option Nat} (x1_0 : List R8) (x1_1 x1_2 x1_3 x1_4 : Int) (hy1_1 : 0 ≤ x1_1 ∧ x1_1 < (x1_0.length : Int)) (y1_2_ : R8) (hy1_2 : (some ((x1_0).getD (x1_1).toNat (0, 0, 0, 0, 0, 0, nl0, 0))) = some y1_2_) (hy1_3 : x1_4 < (y1_2_.2.2.2.2.2.2.1.l.length : Int)) (hy1_4 : 0 ≤ x1_4 ∧ x1_4 < (y1_2_.2.2.2.2.2.2.1.l.length : Int)) (hy1_5 : (x1_4).toNat < (((y1_2_.2.2.2.2.2.2.1)).l).length) (y1_6_ : Int) (hy1_6 : (some ((((y1_2_.2.2.2.2.2.2.1)).l).getD (x1_4).toNat 0)) = some y1_6_) (hy1_7 : y1_6_ = x1_2) (hy1_8 : x1_2 ≥ (x1_0.length : Int)) : Q_Rendq2_1 rnd x1_0 x1_1 (x1_2, x1_3, x1_4) (X_Rendq2_1 x1_0 x1_1 (.inl ())) :=
 runC2 hm (L := lT []) ⟨[4], [(0, 0, true)], 1, 1, [], false, []⟩ (zz 5 (xk22 0 U8 hy1_1) <|
zz 7 (ok25 hy1_2 (toNatLt hy1_1)) <|
zz 9 (xdT hy1_3) <|
zz 17 (xk22 0 U8 hy1_1) <|
zz 19 (ok25 hy1_2 (toNatLt hy1_1)) <|
zz 21 (xk9 (Nat.add ((y1_2_.2.2.2.2.2.2.1)).num 64) ((y1_2_.2.2.2.2.2.2.1)).cap hy1_4) <|
zz 22 (nk10 hy1_6 hy1_5) <|
zz 24 (xnF hy1_7) <|
zz 29 (xdT hy1_8) <|
ww (rows_flat rwf_iiiiiiLu x1_0 33) <|
ee) (by kernel_rfl)
theorem q_Rendq2_1_1 (rec_Rendq2 : (List R8) → (Int) → Option (Int)) (hrec_Rendq2 : ∀ (a0 : List R8) (a1 : Int) (r : Int), rec_Rendq2 a0 a1 = some r → Gv P (.func 14) (A_Rendq2 a0 a1) (H_Rendq2 a0 a1) (V_Rendq2 a0 a1 r) (R_Rendq2 a0 a1 r)) (n : Nat) {rnd : Option Nat} (x1_0 : List R8) (x1_1 x1_2 x1_3 x1_4 : Int) (hy1_1 : 0 ≤ x1_1 ∧ x1_1 < (x1_0.length : Int)) (y1_2_ : R8) (hy1_2 : (some ((x1_0).getD (x1_1).toNat (0, 0, 0, 0, 0, 0, nl0, 0))) = some y1_2_) (hy1_3 : x1_4 < (y1_2_.2.2.2.2.2.2.1.l.length : Int)) (hy1_4 : 0 ≤ x1_4 ∧ x1_4 < (y1_2_.2.2.2.2.2.2.1.l.length : Int)) (hy1_5 : (x1_4).toNat < (((y1_2_.2.2.2.2.2.2.1)).l).length) (y1_6_ : Int) (hy1_6 : (some ((((y1_2_.2.2.2.2.2.2.1)).l).getD (x1_4).toNat 0)) = some y1_6_) (hy1_7 : y1_6_ = x1_2) (hy1_8 : ¬ (x1_2 ≥ (x1_0.length : Int))) (hy1_9 : 0 ≤ x1_2 ∧ x1_2 < (x1_0.length : Int)) (y1_10_ : R8) (hy1_10 : (some ((x1_0).getD (x1_2).toNat (0, 0, 0, 0, 0, 0, nl0, 0))) = some y1_10_) (hy1_11 : (y1_10_.2.2.1) < x1_3) : Q_Rendq2_1 rnd x1_0 x1_1 (x1_2, x1_3, x1_4) (X_Rendq2_1 x1_0 x1_1 (.inl ())) :=
 runC2 hm (L := lT []) ⟨[4], [(0, 0, true)], 1, 1, [], false, []⟩ (zz 5 (xk22 0 U8 hy1_1) <|
zz 7 (ok25 hy1_2 (toNatLt hy1_1)) <|
zz 9 (xdT hy1_3) <|
zz 17 (xk22 0 U8 hy1_1) <|
zz 19 (ok25 hy1_2 (toNatLt hy1_1)) <|
zz 21 (xk9 (Nat.add ((y1_2_.2.2.2.2.2.2.1)).num 64) ((y1_2_.2.2.2.2.2.2.1)).cap hy1_4) <|
zz 22 (nk10 hy1_6 hy1_5) <|
zz 24 (xnF hy1_7) <|
zz 29 (xdF hy1_8) <|
zz 34 (xk22 0 U8 hy1_9) <|
zz 36 (ok24 hy1_10 (toNatLt hy1_9)) <|
zz 38 (xdT hy1_11) <|
ww (rows_flat rwf_iiiiiiLu x1_0 33) <|
ee) (by kernel_rfl)
theorem q_Rendq2_1_2 (rec_Rendq2 : (List R8) → (Int) → Option (Int)) (hrec_Rendq2 : ∀ (a0 : List R8) (a1 : Int) (r : Int), rec_Rendq2 a0 a1 = some r → Gv P (.func 14) (A_Rendq2 a0 a1) (H_Rendq2 a0 a1) (V_Rendq2 a0 a1 r) (R_Rendq2 a0 a1 r)) (n : Nat) {rnd : Option Nat} (x1_0 : List R8) (x1_1 x1_2 x1_3 x1_4 : Int) (hy1_1 : 0 ≤ x1_1 ∧ x1_1 < (x1_0.length : Int)) (y1_2_ : R8) (hy1_2 : (some ((x1_0).getD (x1_1).toNat (0, 0, 0, 0, 0, 0, nl0, 0))) = some y1_2_) (hy1_3 : x1_4 < (y1_2_.2.2.2.2.2.2.1.l.length : Int)) (hy1_4 : 0 ≤ x1_4 ∧ x1_4 < (y1_2_.2.2.2.2.2.2.1.l.length : Int)) (hy1_5 : (x1_4).toNat < (((y1_2_.2.2.2.2.2.2.1)).l).length) (y1_6_ : Int) (hy1_6 : (some ((((y1_2_.2.2.2.2.2.2.1)).l).getD (x1_4).toNat 0)) = some y1_6_) (hy1_7 : y1_6_ = x1_2) (hy1_8 : ¬ (x1_2 ≥ (x1_0.length : Int))) (hy1_9 : 0 ≤ x1_2 ∧ x1_2 < (x1_0.length : Int)) (y1_10_ : R8) (hy1_10 : (some ((x1_0).getD (x1_2).toNat (0, 0, 0, 0, 0, 0, nl0, 0))) = some y1_10_) (hy1_11 : ¬ ((y1_10_.2.2.1) < x1_3)) (y1_12_ : Int) (hy1_12 : rec_Rendq2 x1_0 x1_2 = some y1_12_) (hy1_13 : y1_12_ < (0 : Int)) : Q_Rendq2_1 rnd x1_0 x1_1 (x1_2, x1_3, x1_4) (X_Rendq2_1 x1_0 x1_1 (.inl ())) :=
 runC2 hm (L := lT []) ⟨[4], [(0, 0, true)], 1, 1, [], false, []⟩ (zz 5 (xk22 0 U8 hy1_1) <|
zz 7 (ok25 hy1_2 (toNatLt hy1_1)) <|
zz 9 (xdT hy1_3) <|
zz 17 (xk22 0 U8 hy1_1) <|
zz 19 (ok25 hy1_2 (toNatLt hy1_1)) <|
zz 21 (xk9 (Nat.add ((y1_2_.2.2.2.2.2.2.1)).num 64) ((y1_2_.2.2.2.2.2.2.1)).cap hy1_4) <|
zz 22 (nk10 hy1_6 hy1_5) <|
zz 24 (xnF hy1_7) <|
zz 29 (xdF hy1_8) <|
zz 34 (xk22 0 U8 hy1_9) <|
zz 36 (ok24 hy1_10 (toNatLt hy1_9)) <|
zz 38 (xdF hy1_11) <|
zz 44 (xk22 0 U8 hy1_9) <|
zz 46 (ok26 hy1_10 (toNatLt hy1_9)) <|
yy 51 (.call (C_Rendq2 x1_0 x1_2 y1_12_ [(0, 0, true)] [])) <|
ww (hrec_Rendq2 x1_0 x1_2 y1_12_ hy1_12) <|
ww (rows_flat rwf_iiiiiiLu x1_0 33) <|
zz 55 (xdT hy1_13) <|
ww (rows_flat rwf_iiiiiiLu x1_0 33) <|
ee) (by kernel_rfl)
theorem q_Rendq2_1_3 (rec_Rendq2 : (List R8) → (Int) → Option (Int)) (hrec_Rendq2 : ∀ (a0 : List R8) (a1 : Int) (r : Int), rec_Rendq2 a0 a1 = some r → Gv P (.func 14) (A_Rendq2 a0 a1) (H_Rendq2 a0 a1) (V_Rendq2 a0 a1 r) (R_Rendq2 a0 a1 r)) (n : Nat) {rnd : Option Nat} (x1_0 : List R8) (x1_1 x1_2 x1_3 x1_4 : Int) (hy1_1 : 0 ≤ x1_1 ∧ x1_1 < (x1_0.length : Int)) (y1_2_ : R8) (hy1_2 : (some ((x1_0).getD (x1_1).toNat (0, 0, 0, 0, 0, 0, nl0, 0))) = some y1_2_) (hy1_3 : x1_4 < (y1_2_.2.2.2.2.2.2.1.l.length : Int)) (hy1_4 : 0 ≤ x1_4 ∧ x1_4 < (y1_2_.2.2.2.2.2.2.1.l.length : Int)) (hy1_5 : (x1_4).toNat < (((y1_2_.2.2.2.2.2.2.1)).l).length) (y1_6_ : Int) (hy1_6 : (some ((((y1_2_.2.2.2.2.2.2.1)).l).getD (x1_4).toNat 0)) = some y1_6_) (hy1_7 : y1_6_ = x1_2) (hy1_8 : ¬ (x1_2 ≥ (x1_0.length : Int))) (hy1_9 : 0 ≤ x1_2 ∧ x1_2 < (x1_0.length : Int)) (y1_10_ : R8) (hy1_10 : (some ((x1_0).getD (x1_2).toNat (0, 0, 0, 0, 0, 0, nl0, 0))) = some y1_10_) (hy1_11 : ¬ ((y1_10_.2.2.1) < x1_3)) (y1_12_ : Int) (hy1_12 : rec_Rendq2 x1_0 x1_2 = some y1_12_) (hy1_13 : ¬ (y1_12_ < (0 : Int))) : Q_Rendq2_1 rnd x1_0 x1_1 (x1_2, x1_3, x1_4) (.normal, S_Rendq2_1 x1_0 x1_1 (y1_12_, (y1_10_.2.2.2.2.1), (w64 (x1_4 + (1 : Int))))) :=
 runC2 hm (L := lT []) ⟨[0, 1, 5, 6, 7], [(0, 0, true)], 1, 1, [], false, []⟩ (zz 5 (xk22 0 U8 hy1_1) <|
zz 7 (ok25 hy1_2 (toNatLt hy1_1)) <|
zz 9 (xdT hy1_3) <|
zz 17 (xk22 0 U8 hy1_1) <|
zz 19 (ok25 hy1_2 (toNatLt hy1_1)) <|
zz 21 (xk9 (Nat.add ((y1_2_.2.2.2.2.2.2.1)).num 64) ((y1_2_.2.2.2.2.2.2.1)).cap hy1_4) <|
zz 22 (nk10 hy1_6 hy1_5) <|
zz 24 (xnF hy1_7) <|
zz 29 (xdF hy1_8) <|
zz 34 (xk22 0 U8 hy1_9) <|
zz 36 (ok24 hy1_10 (toNatLt hy1_9)) <|
zz 38 (xdF hy1_11) <|
zz 44 (xk22 0 U8 hy1_9) <|
zz 46 (ok26 hy1_10 (toNatLt hy1_9)) <|
yy 51 (.call (C_Rendq2 x1_0 x1_2 y1_12_ [(0, 0, true)] [])) <|
ww (hrec_Rendq2 x1_0 x1_2 y1_12_ hy1_12) <|
ww (rows_flat rwf_iiiiiiLu x1_0 33) <|
zz 55 (xdF hy1_13) <|
ww (rows_flat rwf_iiiiiiLu x1_0 33) <|
ee) (by kernel_rfl)
theorem q_Rendq2_1_4 (rec_Rendq2 : (List R8) → (Int) → Option (Int)) (hrec_Rendq2 : ∀ (a0 : List R8) (a1 : Int) (r : Int), rec_Rendq2 a0 a1 = some r → Gv P (.func 14) (A_Rendq2 a0 a1) (H_Rendq2 a0 a1) (V_Rendq2 a0 a1 r) (R_Rendq2 a0 a1 r)) (n : Nat) {rnd : Option Nat} (x1_0 : List R8) (x1_1 x1_2 x1_3 x1_4 : Int) (hy1_1 : 0 ≤ x1_1 ∧ x1_1 < (x1_0.length : Int)) (y1_2_ : R8) (hy1_2 : (some ((x1_0).getD (x1_1).toNat (0, 0, 0, 0, 0, 0, nl0, 0))) = some y1_2_) (hy1_3 : x1_4 < (y1_2_.2.2.2.2.2.2.1.l.length : Int)) (hy1_4 : 0 ≤ x1_4 ∧ x1_4 < (y1_2_.2.2.2.2.2.2.1.l.length : Int)) (hy1_5 : (x1_4).toNat < (((y1_2_.2.2.2.2.2.2.1)).l).length) (y1_6_ : Int) (hy1_6 : (some ((((y1_2_.2.2.2.2.2.2.1)).l).getD (x1_4).toNat 0)) = some y1_6_) (hy1_7 : ¬ (y1_6_ = x1_2)) : Q_Rendq2_1 rnd x1_0 x1_1 (x1_2, x1_3, x1_4) (X_Rendq2_1 x1_0 x1_1 (.inl ())) :=
 runC2 hm (L := lT []) ⟨[4], [(0, 0, true)], 1, 1, [], false, []⟩ (zz 5 (xk22 0 U8 hy1_1) <|
zz 7 (ok25 hy1_2 (toNatLt hy1_1)) <|
zz 9 (xdT hy1_3) <|
zz 17 (xk22 0 U8 hy1_1) <|
zz 19 (ok25 hy1_2 (toNatLt hy1_1)) <|
zz 21 (xk9 (Nat.add ((y1_2_.2.2.2.2.2.2.1)).num 64) ((y1_2_.2.2.2.2.2.2.1)).cap hy1_4) <|
zz 22 (nk10 hy1_6 hy1_5) <|
zz 24 (xnT hy1_7) <|
ww (rows_flat rwf_iiiiiiLu x1_0 33) <|
ee) (by kernel_rfl)
theorem q_Rendq2_1_5 (rec_Rendq2 : (List R8) → (Int) → Option (Int)) (hrec_Rendq2 : ∀ (a0 : List R8) (a1 : Int) (r : Int), rec_Rendq2 a0 a1 = some r → Gv P (.func 14) (A_Rendq2 a0 a1) (H_Rendq2 a0 a1) (V_Rendq2 a0 a1 r) (R_Rendq2 a0 a1 r)) (n : Nat) {rnd : Option Nat} (x1_0 : List R8) (x1_1 x1_2 x1_3 x1_4 : Int) (hy1_1 : 0 ≤ x1_1 ∧ x1_1 < (x1_0.length : Int)) (y1_2_ : R8) (hy1_2 : (some ((x1_0).getD (x1_1).toNat (0, 0, 0, 0, 0, 0, nl0, 0))) = some y1_2_) (hy1_3 : ¬ (x1_4 < (y1_2_.2.2.2.2.2.2.1.l.length : Int))) : Q_Rendq2_1 rnd x1_0 x1_1 (x1_2, x1_3, x1_4) (X_Rendq2_1 x1_0 x1_1 (.inr (x1_2, x1_3))) :=
 runC2 hm (L := lT []) ⟨[0, 1, 5, 6], [(0, 0, true)], 1, 1, [], false, []⟩ (zz 5 (xk22 0 U8 hy1_1) <|
zz 7 (ok25 hy1_2 (toNatLt hy1_1)) <|
zz 9 (xdF hy1_3) <|
ww (rows_flat rwf_iiiiiiLu x1_0 33) <|
ee) (by kernel_rfl)
theorem m_Rendq2_1_ok (rec_Rendq2 : (List R8) → (Int) → Option (Int)) (hrec_Rendq2 : ∀ (a0 : List R8) (a1 : Int) (r : Int), rec_Rendq2 a0 a1 = some r → Gv P (.func 14) (A_Rendq2 a0 a1) (H_Rendq2 a0 a1) (V_Rendq2 a0 a1 r) (R_Rendq2 a0 a1 r)) (n : Nat) {rnd : Option Nat} (x1_0 : List R8) (x1_1 : Int) (st : Int × Int × Int) (r : (Unit) ⊕ (Int × Int)) (h : m_Rendq2_1 rec_Rendq2 n x1_0 x1_1 st = some r) : CG P rnd (fnN P 14) 1 (codeOf P 14 [false, true, false, true, true]) (S_Rendq2_1 x1_0 x1_1 st) (X_Rendq2_1 x1_0 x1_1 r) :=
 CG.iter (b := codeOf P 14 [false, false, true, false, true, true]) (by kernel_rfl) (body := B_Rendq2_1 rec_Rendq2 n x1_0 x1_1) (S := S_Rendq2_1 x1_0 x1_1) (X := X_Rendq2_1 x1_0 x1_1)
  (fun s s' h => by
  obtain ⟨x1_2, x1_3, x1_4⟩ := s
  unfold B_Rendq2_1 at h
  dsimp only at h
  by_cases hy1_1 : 0 ≤ x1_1 ∧ x1_1 < (x1_0.length : Int)
  ·rw [if_pos hy1_1] at h
   obtain ⟨y1_2_, hy1_2, h⟩ := Option.bind_eq_some_iff.1 h
   by_cases hy1_3 : x1_4 < (y1_2_.2.2.2.2.2.2.1.l.length : Int)
   ·rw [if_pos hy1_3] at h
    by_cases hy1_4 : 0 ≤ x1_4 ∧ x1_4 < (y1_2_.2.2.2.2.2.2.1.l.length : Int)
    ·rw [if_pos hy1_4] at h
     by_cases hy1_5 : (x1_4).toNat < (((y1_2_.2.2.2.2.2.2.1)).l).length
     ·rw [if_pos hy1_5] at h
      obtain ⟨y1_6_, hy1_6, h⟩ := Option.bind_eq_some_iff.1 h
      by_cases hy1_7 : y1_6_ = x1_2
      ·rw [if_pos hy1_7] at h
       by_cases hy1_8 : x1_2 ≥ (x1_0.length : Int)
       ·rw [if_pos hy1_8] at h
        cases h
       ·rw [if_neg hy1_8] at h
        by_cases hy1_9 : 0 ≤ x1_2 ∧ x1_2 < (x1_0.length : Int)
        ·rw [if_pos hy1_9] at h
         obtain ⟨y1_10_, hy1_10, h⟩ := Option.bind_eq_some_iff.1 h
         by_cases hy1_11 : (y1_10_.2.2.1) < x1_3
         ·rw [if_pos hy1_11] at h
          cases h
         ·rw [if_neg hy1_11] at h
          obtain ⟨y1_12_, hy1_12, h⟩ := Option.bind_eq_some_iff.1 h
          by_cases hy1_13 : y1_12_ < (0 : Int)
          ·rw [if_pos hy1_13] at h
           cases h
          ·rw [if_neg hy1_13] at h
           obtain rfl := Sum.inl.inj (oI h); exact q_Rendq2_1_3 rec_Rendq2 hrec_Rendq2 n x1_0 x1_1 x1_2 x1_3 x1_4 hy1_1 y1_2_ hy1_2 hy1_3 hy1_4 hy1_5 y1_6_ hy1_6 hy1_7 hy1_8 hy1_9 y1_10_ hy1_10 hy1_11 y1_12_ hy1_12 hy1_13
        ·rw [if_neg hy1_9] at h; cases h
      ·rw [if_neg hy1_7] at h
       cases h
     ·rw [if_neg hy1_5] at h; cases h
    ·rw [if_neg hy1_4] at h; cases h
   ·rw [if_neg hy1_3] at h
    cases h
  ·rw [if_neg hy1_1] at h; cases h)
  (fun s r h => by
  obtain ⟨x1_2, x1_3, x1_4⟩ := s
  unfold B_Rendq2_1 at h
  dsimp only at h
  by_cases hy1_1 : 0 ≤ x1_1 ∧ x1_1 < (x1_0.length : Int)
  ·rw [if_pos hy1_1] at h
   obtain ⟨y1_2_, hy1_2, h⟩ := Option.bind_eq_some_iff.1 h
   by_cases hy1_3 : x1_4 < (y1_2_.2.2.2.2.2.2.1.l.length : Int)
   ·rw [if_pos hy1_3] at h
    by_cases hy1_4 : 0 ≤ x1_4 ∧ x1_4 < (y1_2_.2.2.2.2.2.2.1.l.length : Int)
    ·rw [if_pos hy1_4] at h
     by_cases hy1_5 : (x1_4).toNat < (((y1_2_.2.2.2.2.2.2.1)).l).length
     ·rw [if_pos hy1_5] at h
      obtain ⟨y1_6_, hy1_6, h⟩ := Option.bind_eq_some_iff.1 h
      by_cases hy1_7 : y1_6_ = x1_2
      ·rw [if_pos hy1_7] at h
       by_cases hy1_8 : x1_2 ≥ (x1_0.length : Int)
       ·rw [if_pos hy1_8] at h
        obtain rfl := Sum.inr.inj (oI h); exact q_Rendq2_1_0 rec_Rendq2 hrec_Rendq2 n x1_0 x1_1 x1_2 x1_3 x1_4 hy1_1 y1_2_ hy1_2 hy1_3 hy1_4 hy1_5 y1_6_ hy1_6 hy1_7 hy1_8
       ·rw [if_neg hy1_8] at h
        by_cases hy1_9 : 0 ≤ x1_2 ∧ x1_2 < (x1_0.length : Int)
        ·rw [if_pos hy1_9] at h
         obtain ⟨y1_10_, hy1_10, h⟩ := Option.bind_eq_some_iff.1 h
         by_cases hy1_11 : (y1_10_.2.2.1) < x1_3
         ·rw [if_pos hy1_11] at h
          obtain rfl := Sum.inr.inj (oI h); exact q_Rendq2_1_1 rec_Rendq2 hrec_Rendq2 n x1_0 x1_1 x1_2 x1_3 x1_4 hy1_1 y1_2_ hy1_2 hy1_3 hy1_4 hy1_5 y1_6_ hy1_6 hy1_7 hy1_8 hy1_9 y1_10_ hy1_10 hy1_11
         ·rw [if_neg hy1_11] at h
          obtain ⟨y1_12_, hy1_12, h⟩ := Option.bind_eq_some_iff.1 h
          by_cases hy1_13 : y1_12_ < (0 : Int)
          ·rw [if_pos hy1_13] at h
           obtain rfl := Sum.inr.inj (oI h); exact q_Rendq2_1_2 rec_Rendq2 hrec_Rendq2 n x1_0 x1_1 x1_2 x1_3 x1_4 hy1_1 y1_2_ hy1_2 hy1_3 hy1_4 hy1_5 y1_6_ hy1_6 hy1_7 hy1_8 hy1_9 y1_10_ hy1_10 hy1_11 y1_12_ hy1_12 hy1_13
          ·rw [if_neg hy1_13] at h
           cases h
        ·rw [if_neg hy1_9] at h; cases h
      ·rw [if_neg hy1_7] at h
       obtain rfl := Sum.inr.inj (oI h); exact q_Rendq2_1_4 rec_Rendq2 hrec_Rendq2 n x1_0 x1_1 x1_2 x1_3 x1_4 hy1_1 y1_2_ hy1_2 hy1_3 hy1_4 hy1_5 y1_6_ hy1_6 hy1_7
     ·rw [if_neg hy1_5] at h; cases h
    ·rw [if_neg hy1_4] at h; cases h
   ·rw [if_neg hy1_3] at h
    obtain rfl := Sum.inr.inj (oI h); exact q_Rendq2_1_5 rec_Rendq2 hrec_Rendq2 n x1_0 x1_1 x1_2 x1_3 x1_4 hy1_1 y1_2_ hy1_2 hy1_3
  ·rw [if_neg hy1_1] at h; cases h)
  (fun r => by intro hx; rcases r with _ | _ <;> cases hx) h
def s_Rendq2 (rec_Rendq2 : (List R8) → (Int) → Option (Int)) (n : Nat) (a0 : List R8) (a1 : Int) : Option (Int) :=
 if 0 ≤ a1 ∧ a1 < (a0.length : Int) then
  ((some ((a0).getD (a1).toNat (0, 0, 0, 0, 0, 0, nl0, 0)))).bind fun c2_ =>
  match m_Rendq2_1 rec_Rendq2 n a0 a1 ((w64 (a1 + (1 : Int))), (c2_.2.2.1), 0) with
  | none => none
  | some (.inl _) =>
   some (-1)
  | some (.inr (c3_0, c3_1)) =>
   if c3_1 > (c2_.2.2.2.2.1) then
    some (-1)
   else
    some c3_0
 else none
theorem s_Rendq2_ok (rec_Rendq2 : (List R8) → (Int) → Option (Int)) (hrec_Rendq2 : ∀ (a0 : List R8) (a1 : Int) (r : Int), rec_Rendq2 a0 a1 = some r → Gv P (.func 14) (A_Rendq2 a0 a1) (H_Rendq2 a0 a1) (V_Rendq2 a0 a1 r) (R_Rendq2 a0 a1 r)) (n : Nat) (a0 : List R8) (a1 : Int) (r : Int) (h : s_Rendq2 rec_Rendq2 n a0 a1 = some r) : Gv P (.func 14) (A_Rendq2 a0 a1) (H_Rendq2 a0 a1) (V_Rendq2 a0 a1 r) (R_Rendq2 a0 a1 r) := by
 unfold s_Rendq2 at h
 by_cases hc1 : 0 ≤ a1 ∧ a1 < (a0.length : Int)
 ·rw [if_pos hc1] at h
  obtain ⟨c2_, hc2, h⟩ := Option.bind_eq_some_iff.1 h
  rcases hc3 : m_Rendq2_1 rec_Rendq2 n a0 a1 ((w64 (a1 + (1 : Int))), (c2_.2.2.1), 0) with _ | (⟨⟩ | ⟨c3_0, c3_1⟩)
  ·rw [hc3] at h; cases h
  ·rw [hc3] at h
   dsimp only at h
   obtain rfl := oI h; exact runF2 hm (L := lT [(16, ⟨⟨[0, 1, 5, 6, 7], [(0, 0, true)], 1, 1, [], false, []⟩, (X_Rendq2_1 a0 a1 (.inl ())).1, (X_Rendq2_1 a0 a1 (.inl ())).2⟩)]) ⟨[4], [], 1, 1, [], false, []⟩ (zz 7 (xk22 0 U8 hc1) <|
zz 9 (ok24 hc2 (toNatLt hc1)) <|
ww (p := U_Rendq2_1 none a0 a1 ((w64 (a1 + (1 : Int))), (c2_.2.2.1), 0) (.inl ())) (m_Rendq2_1_ok rec_Rendq2 hrec_Rendq2 n a0 a1 ((w64 (a1 + (1 : Int))), (c2_.2.2.1), 0) (.inl ()) hc3) <|
ww (rows_flat rwf_iiiiiiLu a0 33) ee) (by kernel_rfl)
  ·rw [hc3] at h
   dsimp only at h
   by_cases hc4 : c3_1 > (c2_.2.2.2.2.1)
   ·rw [if_pos hc4] at h
    obtain rfl := oI h; exact runF2 hm (L := lT [(16, ⟨⟨[0, 1, 5, 6, 7], [(0, 0, true)], 1, 1, [], false, []⟩, (X_Rendq2_1 a0 a1 (.inr (c3_0, c3_1))).1, (X_Rendq2_1 a0 a1 (.inr (c3_0, c3_1))).2⟩)]) ⟨[4], [], 1, 1, [], false, []⟩ (zz 7 (xk22 0 U8 hc1) <|
zz 9 (ok24 hc2 (toNatLt hc1)) <|
ww (p := U_Rendq2_1 none a0 a1 ((w64 (a1 + (1 : Int))), (c2_.2.2.1), 0) (.inr (c3_0, c3_1))) (m_Rendq2_1_ok rec_Rendq2 hrec_Rendq2 n a0 a1 ((w64 (a1 + (1 : Int))), (c2_.2.2.1), 0) (.inr (c3_0, c3_1)) hc3) <|
ww (rows_flat rwf_iiiiiiLu a0 33) <|
zz 22 (xk22 0 U8 hc1) <|
zz 24 (ok26 hc2 (toNatLt hc1)) <|
zz 25 (xdT hc4) ee) (by kernel_rfl)
   ·rw [if_neg hc4] at h
    obtain rfl := oI h; exact runF2 hm (L := lT [(16, ⟨⟨[0, 1, 5, 6, 7], [(0, 0, true)], 1, 1, [], false, []⟩, (X_Rendq2_1 a0 a1 (.inr (c3_0, c3_1))).1, (X_Rendq2_1 a0 a1 (.inr (c3_0, c3_1))).2⟩)]) ⟨[4], [], 1, 1, [], false, []⟩ (zz 7 (xk22 0 U8 hc1) <|
zz 9 (ok24 hc2 (toNatLt hc1)) <|
ww (p := U_Rendq2_1 none a0 a1 ((w64 (a1 + (1 : Int))), (c2_.2.2.1), 0) (.inr (c3_0, c3_1))) (m_Rendq2_1_ok rec_Rendq2 hrec_Rendq2 n a0 a1 ((w64 (a1 + (1 : Int))), (c2_.2.2.1), 0) (.inr (c3_0, c3_1)) hc3) <|
ww (rows_flat rwf_iiiiiiLu a0 33) <|
zz 22 (xk22 0 U8 hc1) <|
zz 24 (ok26 hc2 (toNatLt hc1)) <|
zz 25 (xdF hc4) ee) (by kernel_rfl)
 ·rw [if_neg hc1] at h; cases h
def m_Rendq2 : Nat → (List R8) → (Int) → Option (Int)
 | 0 => fun _ _ => none
 | n + 1 => fun a0 a1 => s_Rendq2 (m_Rendq2 n) n a0 a1
theorem m_Rendq2_ok : ∀ (n : Nat) (a0 : List R8) (a1 : Int) (r : Int) (h : m_Rendq2 n a0 a1 = some r), Gv P (.func 14) (A_Rendq2 a0 a1) (H_Rendq2 a0 a1) (V_Rendq2 a0 a1 r) (R_Rendq2 a0 a1 r)
 | 0, _, _, _, h => nomatch h
 | n + 1, a0, a1, r, h => s_Rendq2_ok (m_Rendq2 n) (m_Rendq2_ok n) n a0 a1 r h

def A_RCheckq2 (a0 : List R8) : List Value := [(sN 0 0 (a0).length (Nat.add big 8))]
def H_RCheckq2 (a0 : List R8) : AH := ⟨sB [(0, (some (.cells (layT (rows rw_iiiiiiLu a0)) 33)))], 1, 1⟩
def V_RCheckq2 (a0 : List R8) (r : Int) : Value := match r with
 | o0 => (i6 o0)
def R_RCheckq2 (a0 : List R8) (r : Int) : AH := match r with
 | o0 => ⟨sB [], 1, 1⟩
abbrev G_RCheckq2 (a0 : List R8) (r : Int) : Prop := Gv P (.func 6) (A_RCheckq2 a0) (H_RCheckq2 a0) (V_RCheckq2 a0 r) (R_RCheckq2 a0 r)
abbrev C_RCheckq2 (a0 : List R8) (r : Int) (ins outs : BL) : CallA := ⟨1, ins, V_RCheckq2 a0 r, R_RCheckq2 a0 r, outs⟩
def S_RCheckq2_1 (x1_0 : List R8) (st : Int) : XSt := match st with
 | x1_1 => (sT 41 [(0, (sN 0 0 (x1_0).length (Nat.add big 8))), (3, (i6 x1_1))], [], ⟨sB [(0, (some (.cells (layT (rows rw_iiiiiiLu x1_0)) 33)))], 1, 1⟩)
def X_RCheckq2_1 (x1_0 : List R8) (r : (Unit) ⊕ (Unit)) : Ex × XSt := match r with
 | .inl _ => (.ret, (sT 41 [(2, (i6 (2 : Int)))], [], ⟨sB [(0, (some (.cells (layT (rows rw_iiiiiiLu x1_0)) 33)))], 1, 1⟩))
 | .inr _ => (.exit 0, (sT 41 [(0, (sN 0 0 (x1_0).length (Nat.add big 8)))], [], ⟨sB [(0, (some (.cells (layT (rows rw_iiiiiiLu x1_0)) 33)))], 1, 1⟩))
abbrev Q_RCheckq2_1 (rnd : Option Nat) (x1_0 : List R8) (st : Int) (c : Ex × XSt) : Prop := CG P rnd (fnN P 6) 1 (codeOf P 6 [false, false, true, false, true, true]) (S_RCheckq2_1 x1_0 st) c
abbrev U_RCheckq2_1 (rd : Option Nat) (x1_0 : List R8) (st : Int) (r : (Unit) ⊕ (Unit)) : Prop := CG P rd (fnN P 6) 1 (codeOf P 6 [false, true, false, true, true]) (S_RCheckq2_1 x1_0 st) (X_RCheckq2_1 x1_0 r)
def B_RCheckq2_1 (n : Nat) (x1_0 : List R8) (st : Int) : Option ((Int) ⊕ ((Unit) ⊕ (Unit))) := match st with
 | x1_1 =>
  if x1_1 < (x1_0.length : Int) then
   if 0 ≤ x1_1 ∧ x1_1 < (x1_0.length : Int) then
    ((some ((x1_0).getD (x1_1).toNat (0, 0, 0, 0, 0, 0, nl0, 0)))).bind fun y1_3_ =>
    (m_Rbareq1 n (y1_3_.1) (y1_3_.2.1) (y1_3_.2.2.1) (y1_3_.2.2.2.1) (y1_3_.2.2.2.2.1) (y1_3_.2.2.2.2.2.1) (y1_3_.2.2.2.2.2.2.1) (y1_3_.2.2.2.2.2.2.2)).bind fun y1_4_ =>
    if y1_4_ = true then
     if x1_1 > (0 : Int) then
      if (y1_3_.2.1) = (1 : Int) then
       some (.inr (.inl ()))
      else
       some (.inl (w64 (x1_1 + (1 : Int))))
     else
      some (.inl (w64 (x1_1 + (1 : Int))))
    else
     some (.inr (.inl ()))
   else none
  else
   some (.inr (.inr ()))
def m_RCheckq2_1 (n : Nat) (x1_0 : List R8) (st : Int) : Option ((Unit) ⊕ (Unit)) := iterM (B_RCheckq2_1 n x1_0) n st
theorem q_RCheckq2_1_0 (n : Nat) {rnd : Option Nat} (x1_0 : List R8) (x1_1 : Int) (hy1_1 : x1_1 < (x1_0.length : Int)) (hy1_2 : 0 ≤ x1_1 ∧ x1_1 < (x1_0.length : Int)) (y1_3_ : R8) (hy1_3 : (some ((x1_0).getD (x1_1).toNat (0, 0, 0, 0, 0, 0, nl0, 0))) = some y1_3_) (y1_4_ : Bool) (hy1_4 : m_Rbareq1 n (y1_3_.1) (y1_3_.2.1) (y1_3_.2.2.1) (y1_3_.2.2.2.1) (y1_3_.2.2.2.2.1) (y1_3_.2.2.2.2.2.1) (y1_3_.2.2.2.2.2.2.1) (y1_3_.2.2.2.2.2.2.2) = some y1_4_) (hy1_5 : y1_4_ = true) (hy1_6 : x1_1 > (0 : Int)) (hy1_7 : (y1_3_.2.1) = (1 : Int)) : Q_RCheckq2_1 rnd x1_0 x1_1 (X_RCheckq2_1 x1_0 (.inl ())) :=
 runC2 hm (L := lT []) ⟨[2], [(0, 0, true)], 1, 1, [], false, []⟩ (zz 5 (xdT hy1_1) <|
zz 12 (xk22 0 U8 hy1_2) <|
yy 13 (.ld (Value.agg #[(i6 (y1_3_.1)), (i6 (y1_3_.2.1)), (i6 (y1_3_.2.2.1)), (i6 (y1_3_.2.2.2.1)), (i6 (y1_3_.2.2.2.2.1)), (i6 (y1_3_.2.2.2.2.2.1)), (nlV (y1_3_.2.2.2.2.2.2.1)), (Value.int .u64 (y1_3_.2.2.2.2.2.2.2))])) <|
ww (p := rdT (layT (rows rw_iiiiiiLu x1_0)) 8 ((x1_1).toNat * 8) = some [(i6 (y1_3_.1)), (i6 (y1_3_.2.1)), (i6 (y1_3_.2.2.1)), (i6 (y1_3_.2.2.2.1)), (i6 (y1_3_.2.2.2.2.1)), (i6 (y1_3_.2.2.2.2.2.1)), (nlV (y1_3_.2.2.2.2.2.2.1)), (Value.int .u64 (y1_3_.2.2.2.2.2.2.2))]) (rows_rdpN rwf_iiiiiiLu (0, 0, 0, 0, 0, 0, nl0, 0) (hr := hy1_3) (i := (x1_1).toNat) (j := 0) ((x1_1).toNat * 8) rfl (toNatLt hy1_2) (by decide) rfl) <|
yy 14 (.call (C_Rbareq1 (y1_3_.1) (y1_3_.2.1) (y1_3_.2.2.1) (y1_3_.2.2.2.1) (y1_3_.2.2.2.2.1) (y1_3_.2.2.2.2.2.1) (y1_3_.2.2.2.2.2.2.1) (y1_3_.2.2.2.2.2.2.2) y1_4_ [] [])) <|
ww (m_Rbareq1_ok n (y1_3_.1) (y1_3_.2.1) (y1_3_.2.2.1) (y1_3_.2.2.2.1) (y1_3_.2.2.2.2.1) (y1_3_.2.2.2.2.2.1) (y1_3_.2.2.2.2.2.2.1) (y1_3_.2.2.2.2.2.2.2) y1_4_ hy1_4) <|
yy 15 (vf) <|
ww (p := (Value.bool (!y1_4_)) = (Value.bool false)) (vBn hy1_5) <|
zz 18 (xdT hy1_6) <|
zz 22 (xk22 0 U8 hy1_2) <|
zz 24 (ok23 hy1_3 (toNatLt hy1_2)) <|
zz 25 (xeT hy1_7) <|
ww (rows_flat rwf_iiiiiiLu x1_0 33) <|
ee) (by kernel_rfl)
theorem q_RCheckq2_1_1 (n : Nat) {rnd : Option Nat} (x1_0 : List R8) (x1_1 : Int) (hy1_1 : x1_1 < (x1_0.length : Int)) (hy1_2 : 0 ≤ x1_1 ∧ x1_1 < (x1_0.length : Int)) (y1_3_ : R8) (hy1_3 : (some ((x1_0).getD (x1_1).toNat (0, 0, 0, 0, 0, 0, nl0, 0))) = some y1_3_) (y1_4_ : Bool) (hy1_4 : m_Rbareq1 n (y1_3_.1) (y1_3_.2.1) (y1_3_.2.2.1) (y1_3_.2.2.2.1) (y1_3_.2.2.2.2.1) (y1_3_.2.2.2.2.2.1) (y1_3_.2.2.2.2.2.2.1) (y1_3_.2.2.2.2.2.2.2) = some y1_4_) (hy1_5 : y1_4_ = true) (hy1_6 : x1_1 > (0 : Int)) (hy1_7 : ¬ ((y1_3_.2.1) = (1 : Int))) : Q_RCheckq2_1 rnd x1_0 x1_1 (.normal, S_RCheckq2_1 x1_0 (w64 (x1_1 + (1 : Int)))) :=
 runC2 hm (L := lT []) ⟨[0, 3], [(0, 0, true)], 1, 1, [], false, []⟩ (zz 5 (xdT hy1_1) <|
zz 12 (xk22 0 U8 hy1_2) <|
yy 13 (.ld (Value.agg #[(i6 (y1_3_.1)), (i6 (y1_3_.2.1)), (i6 (y1_3_.2.2.1)), (i6 (y1_3_.2.2.2.1)), (i6 (y1_3_.2.2.2.2.1)), (i6 (y1_3_.2.2.2.2.2.1)), (nlV (y1_3_.2.2.2.2.2.2.1)), (Value.int .u64 (y1_3_.2.2.2.2.2.2.2))])) <|
ww (p := rdT (layT (rows rw_iiiiiiLu x1_0)) 8 ((x1_1).toNat * 8) = some [(i6 (y1_3_.1)), (i6 (y1_3_.2.1)), (i6 (y1_3_.2.2.1)), (i6 (y1_3_.2.2.2.1)), (i6 (y1_3_.2.2.2.2.1)), (i6 (y1_3_.2.2.2.2.2.1)), (nlV (y1_3_.2.2.2.2.2.2.1)), (Value.int .u64 (y1_3_.2.2.2.2.2.2.2))]) (rows_rdpN rwf_iiiiiiLu (0, 0, 0, 0, 0, 0, nl0, 0) (hr := hy1_3) (i := (x1_1).toNat) (j := 0) ((x1_1).toNat * 8) rfl (toNatLt hy1_2) (by decide) rfl) <|
yy 14 (.call (C_Rbareq1 (y1_3_.1) (y1_3_.2.1) (y1_3_.2.2.1) (y1_3_.2.2.2.1) (y1_3_.2.2.2.2.1) (y1_3_.2.2.2.2.2.1) (y1_3_.2.2.2.2.2.2.1) (y1_3_.2.2.2.2.2.2.2) y1_4_ [] [])) <|
ww (m_Rbareq1_ok n (y1_3_.1) (y1_3_.2.1) (y1_3_.2.2.1) (y1_3_.2.2.2.1) (y1_3_.2.2.2.2.1) (y1_3_.2.2.2.2.2.1) (y1_3_.2.2.2.2.2.2.1) (y1_3_.2.2.2.2.2.2.2) y1_4_ hy1_4) <|
yy 15 (vf) <|
ww (p := (Value.bool (!y1_4_)) = (Value.bool false)) (vBn hy1_5) <|
zz 18 (xdT hy1_6) <|
zz 22 (xk22 0 U8 hy1_2) <|
zz 24 (ok23 hy1_3 (toNatLt hy1_2)) <|
zz 25 (xeF hy1_7) <|
ww (rows_flat rwf_iiiiiiLu x1_0 33) <|
ee) (by kernel_rfl)
theorem q_RCheckq2_1_2 (n : Nat) {rnd : Option Nat} (x1_0 : List R8) (x1_1 : Int) (hy1_1 : x1_1 < (x1_0.length : Int)) (hy1_2 : 0 ≤ x1_1 ∧ x1_1 < (x1_0.length : Int)) (y1_3_ : R8) (hy1_3 : (some ((x1_0).getD (x1_1).toNat (0, 0, 0, 0, 0, 0, nl0, 0))) = some y1_3_) (y1_4_ : Bool) (hy1_4 : m_Rbareq1 n (y1_3_.1) (y1_3_.2.1) (y1_3_.2.2.1) (y1_3_.2.2.2.1) (y1_3_.2.2.2.2.1) (y1_3_.2.2.2.2.2.1) (y1_3_.2.2.2.2.2.2.1) (y1_3_.2.2.2.2.2.2.2) = some y1_4_) (hy1_5 : y1_4_ = true) (hy1_6 : ¬ (x1_1 > (0 : Int))) : Q_RCheckq2_1 rnd x1_0 x1_1 (.normal, S_RCheckq2_1 x1_0 (w64 (x1_1 + (1 : Int)))) :=
 runC2 hm (L := lT []) ⟨[0, 3], [(0, 0, true)], 1, 1, [], false, []⟩ (zz 5 (xdT hy1_1) <|
zz 12 (xk22 0 U8 hy1_2) <|
yy 13 (.ld (Value.agg #[(i6 (y1_3_.1)), (i6 (y1_3_.2.1)), (i6 (y1_3_.2.2.1)), (i6 (y1_3_.2.2.2.1)), (i6 (y1_3_.2.2.2.2.1)), (i6 (y1_3_.2.2.2.2.2.1)), (nlV (y1_3_.2.2.2.2.2.2.1)), (Value.int .u64 (y1_3_.2.2.2.2.2.2.2))])) <|
ww (p := rdT (layT (rows rw_iiiiiiLu x1_0)) 8 ((x1_1).toNat * 8) = some [(i6 (y1_3_.1)), (i6 (y1_3_.2.1)), (i6 (y1_3_.2.2.1)), (i6 (y1_3_.2.2.2.1)), (i6 (y1_3_.2.2.2.2.1)), (i6 (y1_3_.2.2.2.2.2.1)), (nlV (y1_3_.2.2.2.2.2.2.1)), (Value.int .u64 (y1_3_.2.2.2.2.2.2.2))]) (rows_rdpN rwf_iiiiiiLu (0, 0, 0, 0, 0, 0, nl0, 0) (hr := hy1_3) (i := (x1_1).toNat) (j := 0) ((x1_1).toNat * 8) rfl (toNatLt hy1_2) (by decide) rfl) <|
yy 14 (.call (C_Rbareq1 (y1_3_.1) (y1_3_.2.1) (y1_3_.2.2.1) (y1_3_.2.2.2.1) (y1_3_.2.2.2.2.1) (y1_3_.2.2.2.2.2.1) (y1_3_.2.2.2.2.2.2.1) (y1_3_.2.2.2.2.2.2.2) y1_4_ [] [])) <|
ww (m_Rbareq1_ok n (y1_3_.1) (y1_3_.2.1) (y1_3_.2.2.1) (y1_3_.2.2.2.1) (y1_3_.2.2.2.2.1) (y1_3_.2.2.2.2.2.1) (y1_3_.2.2.2.2.2.2.1) (y1_3_.2.2.2.2.2.2.2) y1_4_ hy1_4) <|
yy 15 (vf) <|
ww (p := (Value.bool (!y1_4_)) = (Value.bool false)) (vBn hy1_5) <|
zz 18 (xdF hy1_6) <|
ww (rows_flat rwf_iiiiiiLu x1_0 33) <|
ee) (by kernel_rfl)
theorem q_RCheckq2_1_3 (n : Nat) {rnd : Option Nat} (x1_0 : List R8) (x1_1 : Int) (hy1_1 : x1_1 < (x1_0.length : Int)) (hy1_2 : 0 ≤ x1_1 ∧ x1_1 < (x1_0.length : Int)) (y1_3_ : R8) (hy1_3 : (some ((x1_0).getD (x1_1).toNat (0, 0, 0, 0, 0, 0, nl0, 0))) = some y1_3_) (y1_4_ : Bool) (hy1_4 : m_Rbareq1 n (y1_3_.1) (y1_3_.2.1) (y1_3_.2.2.1) (y1_3_.2.2.2.1) (y1_3_.2.2.2.2.1) (y1_3_.2.2.2.2.2.1) (y1_3_.2.2.2.2.2.2.1) (y1_3_.2.2.2.2.2.2.2) = some y1_4_) (hy1_5 : ¬ (y1_4_ = true)) : Q_RCheckq2_1 rnd x1_0 x1_1 (X_RCheckq2_1 x1_0 (.inl ())) :=
 runC2 hm (L := lT []) ⟨[2], [(0, 0, true)], 1, 1, [], false, []⟩ (zz 5 (xdT hy1_1) <|
zz 12 (xk22 0 U8 hy1_2) <|
yy 13 (.ld (Value.agg #[(i6 (y1_3_.1)), (i6 (y1_3_.2.1)), (i6 (y1_3_.2.2.1)), (i6 (y1_3_.2.2.2.1)), (i6 (y1_3_.2.2.2.2.1)), (i6 (y1_3_.2.2.2.2.2.1)), (nlV (y1_3_.2.2.2.2.2.2.1)), (Value.int .u64 (y1_3_.2.2.2.2.2.2.2))])) <|
ww (p := rdT (layT (rows rw_iiiiiiLu x1_0)) 8 ((x1_1).toNat * 8) = some [(i6 (y1_3_.1)), (i6 (y1_3_.2.1)), (i6 (y1_3_.2.2.1)), (i6 (y1_3_.2.2.2.1)), (i6 (y1_3_.2.2.2.2.1)), (i6 (y1_3_.2.2.2.2.2.1)), (nlV (y1_3_.2.2.2.2.2.2.1)), (Value.int .u64 (y1_3_.2.2.2.2.2.2.2))]) (rows_rdpN rwf_iiiiiiLu (0, 0, 0, 0, 0, 0, nl0, 0) (hr := hy1_3) (i := (x1_1).toNat) (j := 0) ((x1_1).toNat * 8) rfl (toNatLt hy1_2) (by decide) rfl) <|
yy 14 (.call (C_Rbareq1 (y1_3_.1) (y1_3_.2.1) (y1_3_.2.2.1) (y1_3_.2.2.2.1) (y1_3_.2.2.2.2.1) (y1_3_.2.2.2.2.2.1) (y1_3_.2.2.2.2.2.2.1) (y1_3_.2.2.2.2.2.2.2) y1_4_ [] [])) <|
ww (m_Rbareq1_ok n (y1_3_.1) (y1_3_.2.1) (y1_3_.2.2.1) (y1_3_.2.2.2.1) (y1_3_.2.2.2.2.1) (y1_3_.2.2.2.2.2.1) (y1_3_.2.2.2.2.2.2.1) (y1_3_.2.2.2.2.2.2.2) y1_4_ hy1_4) <|
yy 15 (vt) <|
ww (p := (Value.bool (!y1_4_)) = (Value.bool true)) (vBn (Bool.eq_false_iff.2 hy1_5)) <|
ww (rows_flat rwf_iiiiiiLu x1_0 33) <|
ee) (by kernel_rfl)
theorem q_RCheckq2_1_4 (n : Nat) {rnd : Option Nat} (x1_0 : List R8) (x1_1 : Int) (hy1_1 : ¬ (x1_1 < (x1_0.length : Int))) : Q_RCheckq2_1 rnd x1_0 x1_1 (X_RCheckq2_1 x1_0 (.inr ())) :=
 runC2 hm (L := lT []) ⟨[0], [(0, 0, true)], 1, 1, [], false, []⟩ (zz 5 (xdF hy1_1) <|
ww (rows_flat rwf_iiiiiiLu x1_0 33) <|
ee) (by kernel_rfl)
theorem m_RCheckq2_1_ok (n : Nat) {rnd : Option Nat} (x1_0 : List R8) (st : Int) (r : (Unit) ⊕ (Unit)) (h : m_RCheckq2_1 n x1_0 st = some r) : CG P rnd (fnN P 6) 1 (codeOf P 6 [false, true, false, true, true]) (S_RCheckq2_1 x1_0 st) (X_RCheckq2_1 x1_0 r) :=
 CG.iter (b := codeOf P 6 [false, false, true, false, true, true]) (by kernel_rfl) (body := B_RCheckq2_1 n x1_0) (S := S_RCheckq2_1 x1_0) (X := X_RCheckq2_1 x1_0)
  (fun x1_1 s' h => by
  unfold B_RCheckq2_1 at h
  dsimp only at h
  by_cases hy1_1 : x1_1 < (x1_0.length : Int)
  ·rw [if_pos hy1_1] at h
   by_cases hy1_2 : 0 ≤ x1_1 ∧ x1_1 < (x1_0.length : Int)
   ·rw [if_pos hy1_2] at h
    obtain ⟨y1_3_, hy1_3, h⟩ := Option.bind_eq_some_iff.1 h
    obtain ⟨y1_4_, hy1_4, h⟩ := Option.bind_eq_some_iff.1 h
    by_cases hy1_5 : y1_4_ = true
    ·rw [if_pos hy1_5] at h
     by_cases hy1_6 : x1_1 > (0 : Int)
     ·rw [if_pos hy1_6] at h
      by_cases hy1_7 : (y1_3_.2.1) = (1 : Int)
      ·rw [if_pos hy1_7] at h
       cases h
      ·rw [if_neg hy1_7] at h
       obtain rfl := Sum.inl.inj (oI h); exact q_RCheckq2_1_1 n x1_0 x1_1 hy1_1 hy1_2 y1_3_ hy1_3 y1_4_ hy1_4 hy1_5 hy1_6 hy1_7
     ·rw [if_neg hy1_6] at h
      obtain rfl := Sum.inl.inj (oI h); exact q_RCheckq2_1_2 n x1_0 x1_1 hy1_1 hy1_2 y1_3_ hy1_3 y1_4_ hy1_4 hy1_5 hy1_6
    ·rw [if_neg hy1_5] at h
     cases h
   ·rw [if_neg hy1_2] at h; cases h
  ·rw [if_neg hy1_1] at h
   cases h)
  (fun x1_1 r h => by
  unfold B_RCheckq2_1 at h
  dsimp only at h
  by_cases hy1_1 : x1_1 < (x1_0.length : Int)
  ·rw [if_pos hy1_1] at h
   by_cases hy1_2 : 0 ≤ x1_1 ∧ x1_1 < (x1_0.length : Int)
   ·rw [if_pos hy1_2] at h
    obtain ⟨y1_3_, hy1_3, h⟩ := Option.bind_eq_some_iff.1 h
    obtain ⟨y1_4_, hy1_4, h⟩ := Option.bind_eq_some_iff.1 h
    by_cases hy1_5 : y1_4_ = true
    ·rw [if_pos hy1_5] at h
     by_cases hy1_6 : x1_1 > (0 : Int)
     ·rw [if_pos hy1_6] at h
      by_cases hy1_7 : (y1_3_.2.1) = (1 : Int)
      ·rw [if_pos hy1_7] at h
       obtain rfl := Sum.inr.inj (oI h); exact q_RCheckq2_1_0 n x1_0 x1_1 hy1_1 hy1_2 y1_3_ hy1_3 y1_4_ hy1_4 hy1_5 hy1_6 hy1_7
      ·rw [if_neg hy1_7] at h
       cases h
     ·rw [if_neg hy1_6] at h
      cases h
    ·rw [if_neg hy1_5] at h
     obtain rfl := Sum.inr.inj (oI h); exact q_RCheckq2_1_3 n x1_0 x1_1 hy1_1 hy1_2 y1_3_ hy1_3 y1_4_ hy1_4 hy1_5
   ·rw [if_neg hy1_2] at h; cases h
  ·rw [if_neg hy1_1] at h
   obtain rfl := Sum.inr.inj (oI h); exact q_RCheckq2_1_4 n x1_0 x1_1 hy1_1)
  (fun r => by intro hx; rcases r with _ | _ <;> cases hx) h
def m_RCheckq2 (n : Nat) (a0 : List R8) : Option (Int) :=
 if (a0.length : Int) > (524288 : Int) then
  some 3
 else
  match m_RCheckq2_1 n a0 0 with
  | none => none
  | some (.inl _) =>
   some 2
  | some (.inr _) =>
   if (a0.length : Int) = (0 : Int) then
    some 2
   else
    (m_Rendq2 n a0 0).bind fun c4_ =>
    if c4_ = (a0.length : Int) then
     some 0
    else
     some 2
theorem m_RCheckq2_ok (n : Nat) (a0 : List R8) (r : Int) (h : m_RCheckq2 n a0 = some r) : Gv P (.func 6) (A_RCheckq2 a0) (H_RCheckq2 a0) (V_RCheckq2 a0 r) (R_RCheckq2 a0 r) := by
 unfold m_RCheckq2 at h
 by_cases hc1 : (a0.length : Int) > (524288 : Int)
 ·rw [if_pos hc1] at h
  obtain rfl := oI h; exact runF2 hm (L := lT []) ⟨[2], [], 1, 1, [], false, []⟩ (zz 6 (xdT hc1) ee) (by kernel_rfl)
 ·rw [if_neg hc1] at h
  rcases hc2 : m_RCheckq2_1 n a0 0 with _ | (⟨⟩ | ⟨⟩)
  ·rw [hc2] at h; cases h
  ·rw [hc2] at h
   dsimp only at h
   obtain rfl := oI h; exact runF2 hm (L := lT [(12, ⟨⟨[0, 3], [(0, 0, true)], 1, 1, [], false, []⟩, (X_RCheckq2_1 a0 (.inl ())).1, (X_RCheckq2_1 a0 (.inl ())).2⟩)]) ⟨[2], [], 1, 1, [], false, []⟩ (zz 6 (xdF hc1) <|
ww (p := U_RCheckq2_1 none a0 0 (.inl ())) (m_RCheckq2_1_ok n a0 0 (.inl ()) hc2) <|
ww (rows_flat rwf_iiiiiiLu a0 33) ee) (by kernel_rfl)
  ·rw [hc2] at h
   dsimp only at h
   by_cases hc3 : (a0.length : Int) = (0 : Int)
   ·rw [if_pos hc3] at h
    obtain rfl := oI h; exact runF2 hm (L := lT [(12, ⟨⟨[0, 3], [(0, 0, true)], 1, 1, [], false, []⟩, (X_RCheckq2_1 a0 (.inr ())).1, (X_RCheckq2_1 a0 (.inr ())).2⟩)]) ⟨[2], [], 1, 1, [], false, []⟩ (zz 6 (xdF hc1) <|
ww (p := U_RCheckq2_1 none a0 0 (.inr ())) (m_RCheckq2_1_ok n a0 0 (.inr ()) hc2) <|
ww (rows_flat rwf_iiiiiiLu a0 33) <|
zz 17 (xeT hc3) ee) (by kernel_rfl)
   ·rw [if_neg hc3] at h
    obtain ⟨c4_, hc4, h⟩ := Option.bind_eq_some_iff.1 h
    by_cases hc5 : c4_ = (a0.length : Int)
    ·rw [if_pos hc5] at h
     obtain rfl := oI h; exact runF2 hm (L := lT [(12, ⟨⟨[0, 3], [(0, 0, true)], 1, 1, [], false, []⟩, (X_RCheckq2_1 a0 (.inr ())).1, (X_RCheckq2_1 a0 (.inr ())).2⟩)]) ⟨[2], [], 1, 1, [], false, []⟩ (zz 6 (xdF hc1) <|
ww (p := U_RCheckq2_1 none a0 0 (.inr ())) (m_RCheckq2_1_ok n a0 0 (.inr ()) hc2) <|
ww (rows_flat rwf_iiiiiiLu a0 33) <|
zz 17 (xeF hc3) <|
yy 20 (.call (C_Rendq2 a0 0 c4_ [(0, 0, true)] [])) <|
ww (m_Rendq2_ok n a0 0 c4_ hc4) <|
ww (rows_flat rwf_iiiiiiLu a0 33) <|
zz 23 (xnF hc5) ee) (by kernel_rfl)
    ·rw [if_neg hc5] at h
     obtain rfl := oI h; exact runF2 hm (L := lT [(12, ⟨⟨[0, 3], [(0, 0, true)], 1, 1, [], false, []⟩, (X_RCheckq2_1 a0 (.inr ())).1, (X_RCheckq2_1 a0 (.inr ())).2⟩)]) ⟨[2], [], 1, 1, [], false, []⟩ (zz 6 (xdF hc1) <|
ww (p := U_RCheckq2_1 none a0 0 (.inr ())) (m_RCheckq2_1_ok n a0 0 (.inr ()) hc2) <|
ww (rows_flat rwf_iiiiiiLu a0 33) <|
zz 17 (xeF hc3) <|
yy 20 (.call (C_Rendq2 a0 0 c4_ [(0, 0, true)] [])) <|
ww (m_Rendq2_ok n a0 0 c4_ hc4) <|
ww (rows_flat rwf_iiiiiiLu a0 33) <|
zz 23 (xnT hc5) ee) (by kernel_rfl)

def A_iOq2 (a0 : List R8) : List Value := [(sN 0 0 (a0).length (Nat.add big 8))]
def H_iOq2 (a0 : List R8) : AH := ⟨sB [(0, (some (.cells (layT (rows rw_iiiiiiLu a0)) 33)))], 1, 1⟩
def V_iOq2 (a0 : List R8) (r : Bool) : Value := match r with
 | o0 => (bO o0)
def R_iOq2 (a0 : List R8) (r : Bool) : AH := match r with
 | o0 => ⟨sB [], 1, 1⟩
abbrev G_iOq2 (a0 : List R8) (r : Bool) : Prop := Gv P (.func 34) (A_iOq2 a0) (H_iOq2 a0) (V_iOq2 a0 r) (R_iOq2 a0 r)
abbrev C_iOq2 (a0 : List R8) (r : Bool) (ins outs : BL) : CallA := ⟨1, ins, V_iOq2 a0 r, R_iOq2 a0 r, outs⟩
def S_iOq2_1 (x1_0 : List R8) (x1_3 : Int) (st : List (Int × Int × Int) × Nat × Int) : XSt := match st with
 | (x1_1, x1_2, x1_4) => (sT 99 [(0, (sN 0 0 (x1_0).length (Nat.add big 8))), (3, (slQ x1_1 1 x1_2 3)), (8, (sN 0 0 (x1_0).length (Nat.add big 8))), (9, (i6 x1_3)), (10, (i6 x1_4))], [], ⟨sB [(0, (some (.cells (layT (rows rw_iiiiiiLu x1_0)) 33))), (1, (nblkR rw_iii x1_1 72))], 2, 1⟩)
def X_iOq2_1 (x1_0 : List R8) (x1_3 : Int) (r : (Unit) ⊕ (List (Int × Int × Int) × Nat)) : Ex × XSt := match r with
 | .inl _ => (.ret, (sT 99 [(2, (bO false))], [], ⟨sB [(0, (some (.cells (layT (rows rw_iiiiiiLu x1_0)) 33)))], 1, 1⟩))
 | .inr (z1_0, z1_1) => (.exit 0, (sT 99 [(3, (slQ z1_0 1 z1_1 3))], [], ⟨sB [(0, (some (.cells (layT (rows rw_iiiiiiLu x1_0)) 33))), (1, (nblkR rw_iii z1_0 72))], 2, 1⟩))
abbrev Q_iOq2_1 (rnd : Option Nat) (x1_0 : List R8) (x1_3 : Int) (st : List (Int × Int × Int) × Nat × Int) (c : Ex × XSt) : Prop := CG P rnd (fnN P 34) 1 (codeOf P 34 [false, false, true, false, true, true]) (S_iOq2_1 x1_0 x1_3 st) c
abbrev U_iOq2_1 (rd : Option Nat) (x1_0 : List R8) (x1_3 : Int) (st : List (Int × Int × Int) × Nat × Int) (r : (Unit) ⊕ (List (Int × Int × Int) × Nat)) : Prop := CG P rd (fnN P 34) 1 (codeOf P 34 [false, true, false, true, true]) (S_iOq2_1 x1_0 x1_3 st) (X_iOq2_1 x1_0 x1_3 r)
def B_iOq2_1 (n : Nat) (x1_0 : List R8) (x1_3 : Int) (st : List (Int × Int × Int) × Nat × Int) : Option ((List (Int × Int × Int) × Nat × Int) ⊕ ((Unit) ⊕ (List (Int × Int × Int) × Nat))) := match st with
 | (x1_1, x1_2, x1_4) =>
  match x1_1 with
  | [] =>
   if x1_4 < x1_3 then
    if 0 ≤ x1_4 ∧ x1_4 < (x1_0.length : Int) then
     ((some ((x1_0).getD (x1_4).toNat (0, 0, 0, 0, 0, 0, nl0, 0)))).bind fun y1_3_ =>
     if x1_4 > (0 : Int) then
      some (.inr (.inl ()))
     else
      if (y1_3_.2.2.2.2.2.2.1.l.length : Int) > (0 : Int) then
       some (.inl ([(x1_4, (0 : Int), (y1_3_.2.2.1))], 1, (w64 (x1_4 + (1 : Int)))))
      else
       some (.inl (([] : List (Int × Int × Int)), 0, (w64 (x1_4 + (1 : Int)))))
    else none
   else
    some (.inr (.inr (([] : List (Int × Int × Int)), 0)))
  | x1_1a :: x1_1t =>
   if x1_4 < x1_3 then
    if 0 ≤ x1_4 ∧ x1_4 < (x1_0.length : Int) then
     ((some ((x1_0).getD (x1_4).toNat (0, 0, 0, 0, 0, 0, nl0, 0)))).bind fun y1_3_ =>
     if x1_4 > (0 : Int) then
      if ((x1_2 : Nat) : Int) = (0 : Int) then
       some (.inr (.inl ()))
      else
       ((some (w64 (((x1_2 : Nat) : Int) - (1 : Int))))).bind fun y1_6_ =>
       if 0 ≤ y1_6_ ∧ y1_6_ < ((x1_2 : Nat) : Int) then
        if (y1_6_).toNat < ((x1_1a :: x1_1t)).length then
         ((some (((x1_1a :: x1_1t)).getD (y1_6_).toNat (0, 0, 0)))).bind fun y1_9_ =>
         if 0 ≤ (y1_9_.1) ∧ (y1_9_.1) < (x1_0.length : Int) then
          ((some ((x1_0).getD ((y1_9_.1)).toNat (0, 0, 0, 0, 0, 0, nl0, 0)))).bind fun y1_11_ =>
          if 0 ≤ (y1_9_.2.1) ∧ (y1_9_.2.1) < (y1_11_.2.2.2.2.2.2.1.l.length : Int) then
           if ((y1_9_.2.1)).toNat < (((y1_11_.2.2.2.2.2.2.1)).l).length then
            ((some ((((y1_11_.2.2.2.2.2.2.1)).l).getD ((y1_9_.2.1)).toNat 0))).bind fun y1_14_ =>
            if y1_14_ = x1_4 then
             if (y1_3_.2.2.1) < (y1_9_.2.2) then
              some (.inr (.inl ()))
             else
              if (y1_3_.2.2.2.2.1) > (y1_11_.2.2.2.2.1) then
               some (.inr (.inl ()))
              else
               if (w64 ((y1_9_.2.1) + (1 : Int))) = (y1_11_.2.2.2.2.2.2.1.l.length : Int) then
                if 0 ≤ y1_6_ ∧ y1_6_ ≤ ((x1_2 : Nat) : Int) then
                 if (y1_3_.2.2.2.2.2.2.1.l.length : Int) > (0 : Int) then
                  if (y1_6_).toNat ≤ ((((x1_1a :: x1_1t)).set (y1_6_).toNat ((y1_9_.1), (w64 ((y1_9_.2.1) + (1 : Int))), (y1_3_.2.2.2.2.1)))).length then
                   if ((y1_6_).toNat + 1) * 24 ≤ 140737488355328 then
                    some (.inl (((List.take (y1_6_).toNat (((x1_1a :: x1_1t)).set (y1_6_).toNat ((y1_9_.1), (w64 ((y1_9_.2.1) + (1 : Int))), (y1_3_.2.2.2.2.1)))) ++ [(x1_4, (0 : Int), (y1_3_.2.2.1))]), ((((List.take (y1_6_).toNat (((x1_1a :: x1_1t)).set (y1_6_).toNat ((y1_9_.1), (w64 ((y1_9_.2.1) + (1 : Int))), (y1_3_.2.2.2.2.1)))) ++ [(x1_4, (0 : Int), (y1_3_.2.2.1))])).length), (w64 (x1_4 + (1 : Int)))))
                   else none
                  else none
                 else
                  some (.inl ((((x1_1a :: x1_1t)).set (y1_6_).toNat ((y1_9_.1), (w64 ((y1_9_.2.1) + (1 : Int))), (y1_3_.2.2.2.2.1))), ((y1_6_).toNat), (w64 (x1_4 + (1 : Int)))))
                else none
               else
                if (y1_3_.2.2.2.2.2.2.1.l.length : Int) > (0 : Int) then
                 if x1_2 ≤ ((((x1_1a :: x1_1t)).set (y1_6_).toNat ((y1_9_.1), (w64 ((y1_9_.2.1) + (1 : Int))), (y1_3_.2.2.2.2.1)))).length then
                  if (x1_2 + 1) * 24 ≤ 140737488355328 then
                   some (.inl (((List.take x1_2 (((x1_1a :: x1_1t)).set (y1_6_).toNat ((y1_9_.1), (w64 ((y1_9_.2.1) + (1 : Int))), (y1_3_.2.2.2.2.1)))) ++ [(x1_4, (0 : Int), (y1_3_.2.2.1))]), ((((List.take x1_2 (((x1_1a :: x1_1t)).set (y1_6_).toNat ((y1_9_.1), (w64 ((y1_9_.2.1) + (1 : Int))), (y1_3_.2.2.2.2.1)))) ++ [(x1_4, (0 : Int), (y1_3_.2.2.1))])).length), (w64 (x1_4 + (1 : Int)))))
                  else none
                 else none
                else
                 some (.inl ((((x1_1a :: x1_1t)).set (y1_6_).toNat ((y1_9_.1), (w64 ((y1_9_.2.1) + (1 : Int))), (y1_3_.2.2.2.2.1))), x1_2, (w64 (x1_4 + (1 : Int)))))
            else
             some (.inr (.inl ()))
           else none
          else none
         else none
        else none
       else none
     else
      if (y1_3_.2.2.2.2.2.2.1.l.length : Int) > (0 : Int) then
       if x1_2 ≤ ((x1_1a :: x1_1t)).length then
        if (x1_2 + 1) * 24 ≤ 140737488355328 then
         some (.inl (((List.take x1_2 (x1_1a :: x1_1t)) ++ [(x1_4, (0 : Int), (y1_3_.2.2.1))]), ((((List.take x1_2 (x1_1a :: x1_1t)) ++ [(x1_4, (0 : Int), (y1_3_.2.2.1))])).length), (w64 (x1_4 + (1 : Int)))))
        else none
       else none
      else
       some (.inl ((x1_1a :: x1_1t), x1_2, (w64 (x1_4 + (1 : Int)))))
    else none
   else
    some (.inr (.inr ((x1_1a :: x1_1t), x1_2)))
def m_iOq2_1 (n : Nat) (x1_0 : List R8) (x1_3 : Int) (st : List (Int × Int × Int) × Nat × Int) : Option ((Unit) ⊕ (List (Int × Int × Int) × Nat)) := iterM (B_iOq2_1 n x1_0 x1_3) n st
theorem q_iOq2_1_0 (n : Nat) {rnd : Option Nat} (x1_0 : List R8) (x1_2 : Nat) (x1_3 x1_4 : Int) (hy1_1 : x1_4 < x1_3) (hy1_2 : 0 ≤ x1_4 ∧ x1_4 < (x1_0.length : Int)) (y1_3_ : R8) (hy1_3 : (some ((x1_0).getD (x1_4).toNat (0, 0, 0, 0, 0, 0, nl0, 0))) = some y1_3_) (hy1_4 : x1_4 > (0 : Int)) : Q_iOq2_1 rnd x1_0 x1_3 (([] : List (Int × Int × Int)), x1_2, x1_4) (X_iOq2_1 x1_0 x1_3 (.inl ())) :=
 runC2 hm (L := lT []) ⟨[2], [(0, 0, true)], 1, 1, [], false, []⟩ (zz 1 (xdT hy1_1) <|
zz 8 (xk22 0 U8 hy1_2) <|
yy 9 (.ld (Value.agg #[(i6 (y1_3_.1)), (i6 (y1_3_.2.1)), (i6 (y1_3_.2.2.1)), (i6 (y1_3_.2.2.2.1)), (i6 (y1_3_.2.2.2.2.1)), (i6 (y1_3_.2.2.2.2.2.1)), (nlV (y1_3_.2.2.2.2.2.2.1)), (Value.int .u64 (y1_3_.2.2.2.2.2.2.2))])) <|
ww (p := rdT (layT (rows rw_iiiiiiLu x1_0)) 8 ((x1_4).toNat * 8) = some [(i6 (y1_3_.1)), (i6 (y1_3_.2.1)), (i6 (y1_3_.2.2.1)), (i6 (y1_3_.2.2.2.1)), (i6 (y1_3_.2.2.2.2.1)), (i6 (y1_3_.2.2.2.2.2.1)), (nlV (y1_3_.2.2.2.2.2.2.1)), (Value.int .u64 (y1_3_.2.2.2.2.2.2.2))]) (rows_rdpN rwf_iiiiiiLu (0, 0, 0, 0, 0, 0, nl0, 0) (hr := hy1_3) (i := (x1_4).toNat) (j := 0) ((x1_4).toNat * 8) rfl (toNatLt hy1_2) (by decide) rfl) <|
zz 16 (xdT hy1_4) <|
ww (rows_flat rwf_iiiiiiLu x1_0 33) <|
ee) (by kernel_rfl)
theorem q_iOq2_1_1 (n : Nat) {rnd : Option Nat} (x1_0 : List R8) (x1_2 : Nat) (x1_3 x1_4 : Int) (hy1_1 : x1_4 < x1_3) (hy1_2 : 0 ≤ x1_4 ∧ x1_4 < (x1_0.length : Int)) (y1_3_ : R8) (hy1_3 : (some ((x1_0).getD (x1_4).toNat (0, 0, 0, 0, 0, 0, nl0, 0))) = some y1_3_) (hy1_4 : ¬ (x1_4 > (0 : Int))) (hy1_5 : (y1_3_.2.2.2.2.2.2.1.l.length : Int) > (0 : Int)) : Q_iOq2_1 rnd x1_0 x1_3 (([] : List (Int × Int × Int)), x1_2, x1_4) (.normal, S_iOq2_1 x1_0 x1_3 ([(x1_4, (0 : Int), (y1_3_.2.2.1))], 1, (w64 (x1_4 + (1 : Int))))) :=
 runC2 hm (L := lT []) ⟨[0, 3, 8, 9, 10], [(0, 0, true), (1, 4, false)], 2, 1, [], false, []⟩ (zz 1 (xdT hy1_1) <|
zz 8 (xk22 0 U8 hy1_2) <|
yy 9 (.ld (Value.agg #[(i6 (y1_3_.1)), (i6 (y1_3_.2.1)), (i6 (y1_3_.2.2.1)), (i6 (y1_3_.2.2.2.1)), (i6 (y1_3_.2.2.2.2.1)), (i6 (y1_3_.2.2.2.2.2.1)), (nlV (y1_3_.2.2.2.2.2.2.1)), (Value.int .u64 (y1_3_.2.2.2.2.2.2.2))])) <|
ww (p := rdT (layT (rows rw_iiiiiiLu x1_0)) 8 ((x1_4).toNat * 8) = some [(i6 (y1_3_.1)), (i6 (y1_3_.2.1)), (i6 (y1_3_.2.2.1)), (i6 (y1_3_.2.2.2.1)), (i6 (y1_3_.2.2.2.2.1)), (i6 (y1_3_.2.2.2.2.2.1)), (nlV (y1_3_.2.2.2.2.2.2.1)), (Value.int .u64 (y1_3_.2.2.2.2.2.2.2))]) (rows_rdpN rwf_iiiiiiLu (0, 0, 0, 0, 0, 0, nl0, 0) (hr := hy1_3) (i := (x1_4).toNat) (j := 0) ((x1_4).toNat * 8) rfl (toNatLt hy1_2) (by decide) rfl) <|
zz 16 (xdF hy1_4) <|
zz 22 (xdT hy1_5) <|
ww (rows_flat rwf_iiiiiiLu x1_0 33) <|
ee) (by kernel_rfl)
theorem q_iOq2_1_2 (n : Nat) {rnd : Option Nat} (x1_0 : List R8) (x1_2 : Nat) (x1_3 x1_4 : Int) (hy1_1 : x1_4 < x1_3) (hy1_2 : 0 ≤ x1_4 ∧ x1_4 < (x1_0.length : Int)) (y1_3_ : R8) (hy1_3 : (some ((x1_0).getD (x1_4).toNat (0, 0, 0, 0, 0, 0, nl0, 0))) = some y1_3_) (hy1_4 : ¬ (x1_4 > (0 : Int))) (hy1_5 : ¬ ((y1_3_.2.2.2.2.2.2.1.l.length : Int) > (0 : Int))) : Q_iOq2_1 rnd x1_0 x1_3 (([] : List (Int × Int × Int)), x1_2, x1_4) (.normal, S_iOq2_1 x1_0 x1_3 (([] : List (Int × Int × Int)), 0, (w64 (x1_4 + (1 : Int))))) :=
 runC2 hm (L := lT []) ⟨[0, 3, 8, 9, 10], [(0, 0, true)], 2, 1, [], false, []⟩ (zz 1 (xdT hy1_1) <|
zz 8 (xk22 0 U8 hy1_2) <|
yy 9 (.ld (Value.agg #[(i6 (y1_3_.1)), (i6 (y1_3_.2.1)), (i6 (y1_3_.2.2.1)), (i6 (y1_3_.2.2.2.1)), (i6 (y1_3_.2.2.2.2.1)), (i6 (y1_3_.2.2.2.2.2.1)), (nlV (y1_3_.2.2.2.2.2.2.1)), (Value.int .u64 (y1_3_.2.2.2.2.2.2.2))])) <|
ww (p := rdT (layT (rows rw_iiiiiiLu x1_0)) 8 ((x1_4).toNat * 8) = some [(i6 (y1_3_.1)), (i6 (y1_3_.2.1)), (i6 (y1_3_.2.2.1)), (i6 (y1_3_.2.2.2.1)), (i6 (y1_3_.2.2.2.2.1)), (i6 (y1_3_.2.2.2.2.2.1)), (nlV (y1_3_.2.2.2.2.2.2.1)), (Value.int .u64 (y1_3_.2.2.2.2.2.2.2))]) (rows_rdpN rwf_iiiiiiLu (0, 0, 0, 0, 0, 0, nl0, 0) (hr := hy1_3) (i := (x1_4).toNat) (j := 0) ((x1_4).toNat * 8) rfl (toNatLt hy1_2) (by decide) rfl) <|
zz 16 (xdF hy1_4) <|
zz 22 (xdF hy1_5) <|
ww (rows_flat rwf_iiiiiiLu x1_0 33) <|
ee) (by kernel_rfl)
theorem q_iOq2_1_3 (n : Nat) {rnd : Option Nat} (x1_0 : List R8) (x1_2 : Nat) (x1_3 x1_4 : Int) (hy1_1 : ¬ (x1_4 < x1_3)) : Q_iOq2_1 rnd x1_0 x1_3 (([] : List (Int × Int × Int)), x1_2, x1_4) (X_iOq2_1 x1_0 x1_3 (.inr (([] : List (Int × Int × Int)), 0))) :=
 runC2 hm (L := lT []) ⟨[3], [(0, 0, true)], 2, 1, [], false, []⟩ (zz 1 (xdF hy1_1) <|
ww (rows_flat rwf_iiiiiiLu x1_0 33) <|
ee) (by kernel_rfl)
theorem q_iOq2_1_4 (n : Nat) {rnd : Option Nat} (x1_0 : List R8) (x1_1a : Int × Int × Int) (x1_1t : List (Int × Int × Int)) (x1_2 : Nat) (x1_3 x1_4 : Int) (hy1_1 : x1_4 < x1_3) (hy1_2 : 0 ≤ x1_4 ∧ x1_4 < (x1_0.length : Int)) (y1_3_ : R8) (hy1_3 : (some ((x1_0).getD (x1_4).toNat (0, 0, 0, 0, 0, 0, nl0, 0))) = some y1_3_) (hy1_4 : x1_4 > (0 : Int)) (hy1_5 : ((x1_2 : Nat) : Int) = (0 : Int)) : Q_iOq2_1 rnd x1_0 x1_3 ((x1_1a :: x1_1t), x1_2, x1_4) (X_iOq2_1 x1_0 x1_3 (.inl ())) :=
 runC2 hm (L := lT []) ⟨[2], [(0, 0, true)], 1, 1, [], false, []⟩ (zz 1 (xdT hy1_1) <|
zz 8 (xk22 0 U8 hy1_2) <|
yy 9 (.ld (Value.agg #[(i6 (y1_3_.1)), (i6 (y1_3_.2.1)), (i6 (y1_3_.2.2.1)), (i6 (y1_3_.2.2.2.1)), (i6 (y1_3_.2.2.2.2.1)), (i6 (y1_3_.2.2.2.2.2.1)), (nlV (y1_3_.2.2.2.2.2.2.1)), (Value.int .u64 (y1_3_.2.2.2.2.2.2.2))])) <|
ww (p := rdT (layT (rows rw_iiiiiiLu x1_0)) 8 ((x1_4).toNat * 8) = some [(i6 (y1_3_.1)), (i6 (y1_3_.2.1)), (i6 (y1_3_.2.2.1)), (i6 (y1_3_.2.2.2.1)), (i6 (y1_3_.2.2.2.2.1)), (i6 (y1_3_.2.2.2.2.2.1)), (nlV (y1_3_.2.2.2.2.2.2.1)), (Value.int .u64 (y1_3_.2.2.2.2.2.2.2))]) (rows_rdpN rwf_iiiiiiLu (0, 0, 0, 0, 0, 0, nl0, 0) (hr := hy1_3) (i := (x1_4).toNat) (j := 0) ((x1_4).toNat * 8) rfl (toNatLt hy1_2) (by decide) rfl) <|
zz 16 (xdT hy1_4) <|
zz 22 (xeT hy1_5) <|
ww (rows_flat rwf_iiiiiiLu x1_0 33) <|
ee) (by kernel_rfl)
theorem q_iOq2_1_5 (n : Nat) {rnd : Option Nat} (x1_0 : List R8) (x1_1a : Int × Int × Int) (x1_1t : List (Int × Int × Int)) (x1_2 : Nat) (x1_3 x1_4 : Int) (hy1_1 : x1_4 < x1_3) (hy1_2 : 0 ≤ x1_4 ∧ x1_4 < (x1_0.length : Int)) (y1_3_ : R8) (hy1_3 : (some ((x1_0).getD (x1_4).toNat (0, 0, 0, 0, 0, 0, nl0, 0))) = some y1_3_) (hy1_4 : x1_4 > (0 : Int)) (hy1_5 : ¬ (((x1_2 : Nat) : Int) = (0 : Int))) (y1_6_ : Int) (hy1_6 : (some (w64 (((x1_2 : Nat) : Int) - (1 : Int)))) = some y1_6_) (hy1_7 : 0 ≤ y1_6_ ∧ y1_6_ < ((x1_2 : Nat) : Int)) (hy1_8 : (y1_6_).toNat < ((x1_1a :: x1_1t)).length) (y1_9_ : Int × Int × Int) (hy1_9 : (some (((x1_1a :: x1_1t)).getD (y1_6_).toNat (0, 0, 0))) = some y1_9_) (hy1_10 : 0 ≤ (y1_9_.1) ∧ (y1_9_.1) < (x1_0.length : Int)) (y1_11_ : R8) (hy1_11 : (some ((x1_0).getD ((y1_9_.1)).toNat (0, 0, 0, 0, 0, 0, nl0, 0))) = some y1_11_) (hy1_12 : 0 ≤ (y1_9_.2.1) ∧ (y1_9_.2.1) < (y1_11_.2.2.2.2.2.2.1.l.length : Int)) (hy1_13 : ((y1_9_.2.1)).toNat < (((y1_11_.2.2.2.2.2.2.1)).l).length) (y1_14_ : Int) (hy1_14 : (some ((((y1_11_.2.2.2.2.2.2.1)).l).getD ((y1_9_.2.1)).toNat 0)) = some y1_14_) (hy1_15 : y1_14_ = x1_4) (hy1_16 : (y1_3_.2.2.1) < (y1_9_.2.2)) : Q_iOq2_1 rnd x1_0 x1_3 ((x1_1a :: x1_1t), x1_2, x1_4) (X_iOq2_1 x1_0 x1_3 (.inl ())) :=
 runC2 hm (L := lT []) ⟨[2], [(0, 0, true)], 1, 1, [], false, []⟩ (zz 1 (xdT hy1_1) <|
zz 8 (xk22 0 U8 hy1_2) <|
yy 9 (.ld (Value.agg #[(i6 (y1_3_.1)), (i6 (y1_3_.2.1)), (i6 (y1_3_.2.2.1)), (i6 (y1_3_.2.2.2.1)), (i6 (y1_3_.2.2.2.2.1)), (i6 (y1_3_.2.2.2.2.2.1)), (nlV (y1_3_.2.2.2.2.2.2.1)), (Value.int .u64 (y1_3_.2.2.2.2.2.2.2))])) <|
ww (p := rdT (layT (rows rw_iiiiiiLu x1_0)) 8 ((x1_4).toNat * 8) = some [(i6 (y1_3_.1)), (i6 (y1_3_.2.1)), (i6 (y1_3_.2.2.1)), (i6 (y1_3_.2.2.2.1)), (i6 (y1_3_.2.2.2.2.1)), (i6 (y1_3_.2.2.2.2.2.1)), (nlV (y1_3_.2.2.2.2.2.2.1)), (Value.int .u64 (y1_3_.2.2.2.2.2.2.2))]) (rows_rdpN rwf_iiiiiiLu (0, 0, 0, 0, 0, 0, nl0, 0) (hr := hy1_3) (i := (x1_4).toNat) (j := 0) ((x1_4).toNat * 8) rfl (toNatLt hy1_2) (by decide) rfl) <|
zz 16 (xdT hy1_4) <|
zz 22 (xeF hy1_5) <|
zz 28 (xnm hy1_6) <|
zz 29 (xk15 1 U3 hy1_7) <|
zz 36 (ok16 hy1_9 (hy1_8)) <|
zz 37 (xk22 0 U8 hy1_10) <|
yy 38 (.ld (Value.agg #[(i6 (y1_11_.1)), (i6 (y1_11_.2.1)), (i6 (y1_11_.2.2.1)), (i6 (y1_11_.2.2.2.1)), (i6 (y1_11_.2.2.2.2.1)), (i6 (y1_11_.2.2.2.2.2.1)), (nlV (y1_11_.2.2.2.2.2.2.1)), (Value.int .u64 (y1_11_.2.2.2.2.2.2.2))])) <|
ww (p := rdT (layT (rows rw_iiiiiiLu x1_0)) 8 (((y1_9_.1)).toNat * 8) = some [(i6 (y1_11_.1)), (i6 (y1_11_.2.1)), (i6 (y1_11_.2.2.1)), (i6 (y1_11_.2.2.2.1)), (i6 (y1_11_.2.2.2.2.1)), (i6 (y1_11_.2.2.2.2.2.1)), (nlV (y1_11_.2.2.2.2.2.2.1)), (Value.int .u64 (y1_11_.2.2.2.2.2.2.2))]) (rows_rdpN rwf_iiiiiiLu (0, 0, 0, 0, 0, 0, nl0, 0) (hr := hy1_11) (i := ((y1_9_.1)).toNat) (j := 0) (((y1_9_.1)).toNat * 8) rfl (toNatLt hy1_10) (by decide) rfl) <|
zz 48 (ok17 hy1_9 (hy1_8)) <|
zz 49 (xk9 (Nat.add ((y1_11_.2.2.2.2.2.2.1)).num 64) ((y1_11_.2.2.2.2.2.2.1)).cap hy1_12) <|
zz 50 (nk10 hy1_14 hy1_13) <|
zz 52 (xnF hy1_15) <|
zz 59 (ok18 hy1_9 (hy1_8)) <|
zz 60 (xdT hy1_16) <|
ww (rows_flat rwf_iiiiiiLu x1_0 33) <|
ee) (by kernel_rfl)
theorem q_iOq2_1_6 (n : Nat) {rnd : Option Nat} (x1_0 : List R8) (x1_1a : Int × Int × Int) (x1_1t : List (Int × Int × Int)) (x1_2 : Nat) (x1_3 x1_4 : Int) (hy1_1 : x1_4 < x1_3) (hy1_2 : 0 ≤ x1_4 ∧ x1_4 < (x1_0.length : Int)) (y1_3_ : R8) (hy1_3 : (some ((x1_0).getD (x1_4).toNat (0, 0, 0, 0, 0, 0, nl0, 0))) = some y1_3_) (hy1_4 : x1_4 > (0 : Int)) (hy1_5 : ¬ (((x1_2 : Nat) : Int) = (0 : Int))) (y1_6_ : Int) (hy1_6 : (some (w64 (((x1_2 : Nat) : Int) - (1 : Int)))) = some y1_6_) (hy1_7 : 0 ≤ y1_6_ ∧ y1_6_ < ((x1_2 : Nat) : Int)) (hy1_8 : (y1_6_).toNat < ((x1_1a :: x1_1t)).length) (y1_9_ : Int × Int × Int) (hy1_9 : (some (((x1_1a :: x1_1t)).getD (y1_6_).toNat (0, 0, 0))) = some y1_9_) (hy1_10 : 0 ≤ (y1_9_.1) ∧ (y1_9_.1) < (x1_0.length : Int)) (y1_11_ : R8) (hy1_11 : (some ((x1_0).getD ((y1_9_.1)).toNat (0, 0, 0, 0, 0, 0, nl0, 0))) = some y1_11_) (hy1_12 : 0 ≤ (y1_9_.2.1) ∧ (y1_9_.2.1) < (y1_11_.2.2.2.2.2.2.1.l.length : Int)) (hy1_13 : ((y1_9_.2.1)).toNat < (((y1_11_.2.2.2.2.2.2.1)).l).length) (y1_14_ : Int) (hy1_14 : (some ((((y1_11_.2.2.2.2.2.2.1)).l).getD ((y1_9_.2.1)).toNat 0)) = some y1_14_) (hy1_15 : y1_14_ = x1_4) (hy1_16 : ¬ ((y1_3_.2.2.1) < (y1_9_.2.2))) (hy1_17 : (y1_3_.2.2.2.2.1) > (y1_11_.2.2.2.2.1)) : Q_iOq2_1 rnd x1_0 x1_3 ((x1_1a :: x1_1t), x1_2, x1_4) (X_iOq2_1 x1_0 x1_3 (.inl ())) :=
 runC2 hm (L := lT []) ⟨[2], [(0, 0, true)], 1, 1, [], false, []⟩ (zz 1 (xdT hy1_1) <|
zz 8 (xk22 0 U8 hy1_2) <|
yy 9 (.ld (Value.agg #[(i6 (y1_3_.1)), (i6 (y1_3_.2.1)), (i6 (y1_3_.2.2.1)), (i6 (y1_3_.2.2.2.1)), (i6 (y1_3_.2.2.2.2.1)), (i6 (y1_3_.2.2.2.2.2.1)), (nlV (y1_3_.2.2.2.2.2.2.1)), (Value.int .u64 (y1_3_.2.2.2.2.2.2.2))])) <|
ww (p := rdT (layT (rows rw_iiiiiiLu x1_0)) 8 ((x1_4).toNat * 8) = some [(i6 (y1_3_.1)), (i6 (y1_3_.2.1)), (i6 (y1_3_.2.2.1)), (i6 (y1_3_.2.2.2.1)), (i6 (y1_3_.2.2.2.2.1)), (i6 (y1_3_.2.2.2.2.2.1)), (nlV (y1_3_.2.2.2.2.2.2.1)), (Value.int .u64 (y1_3_.2.2.2.2.2.2.2))]) (rows_rdpN rwf_iiiiiiLu (0, 0, 0, 0, 0, 0, nl0, 0) (hr := hy1_3) (i := (x1_4).toNat) (j := 0) ((x1_4).toNat * 8) rfl (toNatLt hy1_2) (by decide) rfl) <|
zz 16 (xdT hy1_4) <|
zz 22 (xeF hy1_5) <|
zz 28 (xnm hy1_6) <|
zz 29 (xk15 1 U3 hy1_7) <|
zz 36 (ok16 hy1_9 (hy1_8)) <|
zz 37 (xk22 0 U8 hy1_10) <|
yy 38 (.ld (Value.agg #[(i6 (y1_11_.1)), (i6 (y1_11_.2.1)), (i6 (y1_11_.2.2.1)), (i6 (y1_11_.2.2.2.1)), (i6 (y1_11_.2.2.2.2.1)), (i6 (y1_11_.2.2.2.2.2.1)), (nlV (y1_11_.2.2.2.2.2.2.1)), (Value.int .u64 (y1_11_.2.2.2.2.2.2.2))])) <|
ww (p := rdT (layT (rows rw_iiiiiiLu x1_0)) 8 (((y1_9_.1)).toNat * 8) = some [(i6 (y1_11_.1)), (i6 (y1_11_.2.1)), (i6 (y1_11_.2.2.1)), (i6 (y1_11_.2.2.2.1)), (i6 (y1_11_.2.2.2.2.1)), (i6 (y1_11_.2.2.2.2.2.1)), (nlV (y1_11_.2.2.2.2.2.2.1)), (Value.int .u64 (y1_11_.2.2.2.2.2.2.2))]) (rows_rdpN rwf_iiiiiiLu (0, 0, 0, 0, 0, 0, nl0, 0) (hr := hy1_11) (i := ((y1_9_.1)).toNat) (j := 0) (((y1_9_.1)).toNat * 8) rfl (toNatLt hy1_10) (by decide) rfl) <|
zz 48 (ok17 hy1_9 (hy1_8)) <|
zz 49 (xk9 (Nat.add ((y1_11_.2.2.2.2.2.2.1)).num 64) ((y1_11_.2.2.2.2.2.2.1)).cap hy1_12) <|
zz 50 (nk10 hy1_14 hy1_13) <|
zz 52 (xnF hy1_15) <|
zz 59 (ok18 hy1_9 (hy1_8)) <|
zz 60 (xdF hy1_16) <|
zz 67 (xdT hy1_17) <|
ww (rows_flat rwf_iiiiiiLu x1_0 33) <|
ee) (by kernel_rfl)
theorem q_iOq2_1_7 (n : Nat) {rnd : Option Nat} (x1_0 : List R8) (x1_1a : Int × Int × Int) (x1_1t : List (Int × Int × Int)) (x1_2 : Nat) (x1_3 x1_4 : Int) (hy1_1 : x1_4 < x1_3) (hy1_2 : 0 ≤ x1_4 ∧ x1_4 < (x1_0.length : Int)) (y1_3_ : R8) (hy1_3 : (some ((x1_0).getD (x1_4).toNat (0, 0, 0, 0, 0, 0, nl0, 0))) = some y1_3_) (hy1_4 : x1_4 > (0 : Int)) (hy1_5 : ¬ (((x1_2 : Nat) : Int) = (0 : Int))) (y1_6_ : Int) (hy1_6 : (some (w64 (((x1_2 : Nat) : Int) - (1 : Int)))) = some y1_6_) (hy1_7 : 0 ≤ y1_6_ ∧ y1_6_ < ((x1_2 : Nat) : Int)) (hy1_8 : (y1_6_).toNat < ((x1_1a :: x1_1t)).length) (y1_9_ : Int × Int × Int) (hy1_9 : (some (((x1_1a :: x1_1t)).getD (y1_6_).toNat (0, 0, 0))) = some y1_9_) (hy1_10 : 0 ≤ (y1_9_.1) ∧ (y1_9_.1) < (x1_0.length : Int)) (y1_11_ : R8) (hy1_11 : (some ((x1_0).getD ((y1_9_.1)).toNat (0, 0, 0, 0, 0, 0, nl0, 0))) = some y1_11_) (hy1_12 : 0 ≤ (y1_9_.2.1) ∧ (y1_9_.2.1) < (y1_11_.2.2.2.2.2.2.1.l.length : Int)) (hy1_13 : ((y1_9_.2.1)).toNat < (((y1_11_.2.2.2.2.2.2.1)).l).length) (y1_14_ : Int) (hy1_14 : (some ((((y1_11_.2.2.2.2.2.2.1)).l).getD ((y1_9_.2.1)).toNat 0)) = some y1_14_) (hy1_15 : y1_14_ = x1_4) (hy1_16 : ¬ ((y1_3_.2.2.1) < (y1_9_.2.2))) (hy1_17 : ¬ ((y1_3_.2.2.2.2.1) > (y1_11_.2.2.2.2.1))) (hy1_18 : (w64 ((y1_9_.2.1) + (1 : Int))) = (y1_11_.2.2.2.2.2.2.1.l.length : Int)) (hy1_19 : 0 ≤ y1_6_ ∧ y1_6_ ≤ ((x1_2 : Nat) : Int)) (hy1_20 : (y1_3_.2.2.2.2.2.2.1.l.length : Int) > (0 : Int)) (hy1_21 : (y1_6_).toNat ≤ ((((x1_1a :: x1_1t)).set (y1_6_).toNat ((y1_9_.1), (w64 ((y1_9_.2.1) + (1 : Int))), (y1_3_.2.2.2.2.1)))).length) (hy1_22 : ((y1_6_).toNat + 1) * 24 ≤ 140737488355328) : Q_iOq2_1 rnd x1_0 x1_3 ((x1_1a :: x1_1t), x1_2, x1_4) (.normal, S_iOq2_1 x1_0 x1_3 (((List.take (y1_6_).toNat (((x1_1a :: x1_1t)).set (y1_6_).toNat ((y1_9_.1), (w64 ((y1_9_.2.1) + (1 : Int))), (y1_3_.2.2.2.2.1)))) ++ [(x1_4, (0 : Int), (y1_3_.2.2.1))]), ((((List.take (y1_6_).toNat (((x1_1a :: x1_1t)).set (y1_6_).toNat ((y1_9_.1), (w64 ((y1_9_.2.1) + (1 : Int))), (y1_3_.2.2.2.2.1)))) ++ [(x1_4, (0 : Int), (y1_3_.2.2.1))])).length), (w64 (x1_4 + (1 : Int))))) :=
 by
 obtain ⟨za, zt, hz⟩ : ∃ a t, ((List.take (y1_6_).toNat (((x1_1a :: x1_1t)).set (y1_6_).toNat ((y1_9_.1), (w64 ((y1_9_.2.1) + (1 : Int))), (y1_3_.2.2.2.2.1)))) ++ [(x1_4, (0 : Int), (y1_3_.2.2.1))]) = a :: t := snoc_cons (List.take (y1_6_).toNat (((x1_1a :: x1_1t)).set (y1_6_).toNat ((y1_9_.1), (w64 ((y1_9_.2.1) + (1 : Int))), (y1_3_.2.2.2.2.1)))) (x1_4, (0 : Int), (y1_3_.2.2.1))
 rw [hz]
 exact runC2 hm (L := lT []) ⟨[0, 3, 8, 9, 10], [(0, 0, true), (1, 5, true)], 2, 1, [], false, []⟩ (zz 1 (xdT hy1_1) <|
zz 8 (xk22 0 U8 hy1_2) <|
yy 9 (.ld (Value.agg #[(i6 (y1_3_.1)), (i6 (y1_3_.2.1)), (i6 (y1_3_.2.2.1)), (i6 (y1_3_.2.2.2.1)), (i6 (y1_3_.2.2.2.2.1)), (i6 (y1_3_.2.2.2.2.2.1)), (nlV (y1_3_.2.2.2.2.2.2.1)), (Value.int .u64 (y1_3_.2.2.2.2.2.2.2))])) <|
ww (p := rdT (layT (rows rw_iiiiiiLu x1_0)) 8 ((x1_4).toNat * 8) = some [(i6 (y1_3_.1)), (i6 (y1_3_.2.1)), (i6 (y1_3_.2.2.1)), (i6 (y1_3_.2.2.2.1)), (i6 (y1_3_.2.2.2.2.1)), (i6 (y1_3_.2.2.2.2.2.1)), (nlV (y1_3_.2.2.2.2.2.2.1)), (Value.int .u64 (y1_3_.2.2.2.2.2.2.2))]) (rows_rdpN rwf_iiiiiiLu (0, 0, 0, 0, 0, 0, nl0, 0) (hr := hy1_3) (i := (x1_4).toNat) (j := 0) ((x1_4).toNat * 8) rfl (toNatLt hy1_2) (by decide) rfl) <|
zz 16 (xdT hy1_4) <|
zz 22 (xeF hy1_5) <|
zz 28 (xnm hy1_6) <|
zz 29 (xk15 1 U3 hy1_7) <|
zz 36 (ok16 hy1_9 (hy1_8)) <|
zz 37 (xk22 0 U8 hy1_10) <|
yy 38 (.ld (Value.agg #[(i6 (y1_11_.1)), (i6 (y1_11_.2.1)), (i6 (y1_11_.2.2.1)), (i6 (y1_11_.2.2.2.1)), (i6 (y1_11_.2.2.2.2.1)), (i6 (y1_11_.2.2.2.2.2.1)), (nlV (y1_11_.2.2.2.2.2.2.1)), (Value.int .u64 (y1_11_.2.2.2.2.2.2.2))])) <|
ww (p := rdT (layT (rows rw_iiiiiiLu x1_0)) 8 (((y1_9_.1)).toNat * 8) = some [(i6 (y1_11_.1)), (i6 (y1_11_.2.1)), (i6 (y1_11_.2.2.1)), (i6 (y1_11_.2.2.2.1)), (i6 (y1_11_.2.2.2.2.1)), (i6 (y1_11_.2.2.2.2.2.1)), (nlV (y1_11_.2.2.2.2.2.2.1)), (Value.int .u64 (y1_11_.2.2.2.2.2.2.2))]) (rows_rdpN rwf_iiiiiiLu (0, 0, 0, 0, 0, 0, nl0, 0) (hr := hy1_11) (i := ((y1_9_.1)).toNat) (j := 0) (((y1_9_.1)).toNat * 8) rfl (toNatLt hy1_10) (by decide) rfl) <|
zz 48 (ok17 hy1_9 (hy1_8)) <|
zz 49 (xk9 (Nat.add ((y1_11_.2.2.2.2.2.2.1)).num 64) ((y1_11_.2.2.2.2.2.2.1)).cap hy1_12) <|
zz 50 (nk10 hy1_14 hy1_13) <|
zz 52 (xnF hy1_15) <|
zz 59 (ok18 hy1_9 (hy1_8)) <|
zz 60 (xdF hy1_16) <|
zz 67 (xdF hy1_17) <|
zz 76 (ok17 hy1_9 (hy1_8)) <|
yy 82 (.sto (layT (rows rw_iii (((x1_1a :: x1_1t)).set (y1_6_).toNat ((y1_9_.1), (w64 ((y1_9_.2.1) + (1 : Int))), (y1_9_.2.2)))))) <|
ww (p := ∃ old, rdT (layT (rows rw_iii (x1_1a :: x1_1t))) 1 (Nat.add ((y1_6_).toNat * 3) 1) = some old) (Exists.elim (rows_stN rwf_iii (0, 0, 0) (hr := hy1_9) (i := (y1_6_).toNat) (j := 1) (l := [(i6 (w64 ((y1_9_.2.1) + (1 : Int))))]) ((y1_9_.1), (w64 ((y1_9_.2.1) + (1 : Int))), (y1_9_.2.2)) (Nat.add ((y1_6_).toNat * 3) 1) rfl (hy1_8) (Nat.le_of_ble_eq_true rfl) rfl) fun o h => ⟨o, h.1⟩) <|
ww (p := layL [(i6 (w64 ((y1_9_.2.1) + (1 : Int))))] (Nat.add ((y1_6_).toNat * 3) 1) (layT (rows rw_iii (x1_1a :: x1_1t))) = layT (rows rw_iii (((x1_1a :: x1_1t)).set (y1_6_).toNat ((y1_9_.1), (w64 ((y1_9_.2.1) + (1 : Int))), (y1_9_.2.2))))) (Exists.elim (rows_stN rwf_iii (0, 0, 0) (hr := hy1_9) (i := (y1_6_).toNat) (j := 1) (l := [(i6 (w64 ((y1_9_.2.1) + (1 : Int))))]) ((y1_9_.1), (w64 ((y1_9_.2.1) + (1 : Int))), (y1_9_.2.2)) (Nat.add ((y1_6_).toNat * 3) 1) rfl (hy1_8) (Nat.le_of_ble_eq_true rfl) rfl) fun o h => h.2) <|
yy 85 (.sto (layT (rows rw_iii (((x1_1a :: x1_1t)).set (y1_6_).toNat ((y1_9_.1), (w64 ((y1_9_.2.1) + (1 : Int))), (y1_3_.2.2.2.2.1)))))) <|
ww (p := ∃ old, rdT (layT (rows rw_iii (((x1_1a :: x1_1t)).set (y1_6_).toNat ((y1_9_.1), (w64 ((y1_9_.2.1) + (1 : Int))), (y1_9_.2.2))))) 1 (Nat.add ((y1_6_).toNat * 3) 2) = some old) (Exists.elim (rows_stS rwf_iii (i := (y1_6_).toNat) (j := 2) (l := [(i6 (y1_3_.2.2.2.2.1))]) ((y1_9_.1), (w64 ((y1_9_.2.1) + (1 : Int))), (y1_9_.2.2)) ((y1_9_.1), (w64 ((y1_9_.2.1) + (1 : Int))), (y1_3_.2.2.2.2.1)) (Nat.add ((y1_6_).toNat * 3) 2) rfl (hy1_8) (Nat.le_of_ble_eq_true rfl) rfl) fun o h => ⟨o, h.1⟩) <|
ww (p := layL [(i6 (y1_3_.2.2.2.2.1))] (Nat.add ((y1_6_).toNat * 3) 2) (layT (rows rw_iii (((x1_1a :: x1_1t)).set (y1_6_).toNat ((y1_9_.1), (w64 ((y1_9_.2.1) + (1 : Int))), (y1_9_.2.2))))) = layT (rows rw_iii (((x1_1a :: x1_1t)).set (y1_6_).toNat ((y1_9_.1), (w64 ((y1_9_.2.1) + (1 : Int))), (y1_3_.2.2.2.2.1))))) (Exists.elim (rows_stS rwf_iii (i := (y1_6_).toNat) (j := 2) (l := [(i6 (y1_3_.2.2.2.2.1))]) ((y1_9_.1), (w64 ((y1_9_.2.1) + (1 : Int))), (y1_9_.2.2)) ((y1_9_.1), (w64 ((y1_9_.2.1) + (1 : Int))), (y1_3_.2.2.2.2.1)) (Nat.add ((y1_6_).toNat * 3) 2) rfl (hy1_8) (Nat.le_of_ble_eq_true rfl) rfl) fun o h => h.2) <|
yy 90 (.ld (i6 (w64 ((y1_9_.2.1) + (1 : Int))))) <|
ww (p := (layT (rows rw_iii (((x1_1a :: x1_1t)).set (y1_6_).toNat ((y1_9_.1), (w64 ((y1_9_.2.1) + (1 : Int))), (y1_3_.2.2.2.2.1))))).get (Nat.add ((y1_6_).toNat * 3) 1) = some (i6 (w64 ((y1_9_.2.1) + (1 : Int))))) (rows_ldS rwf_iii (i := (y1_6_).toNat) (j := 1) ((y1_9_.1), (w64 ((y1_9_.2.1) + (1 : Int))), (y1_3_.2.2.2.2.1)) (Nat.add ((y1_6_).toNat * 3) 1) rfl (hy1_8) (by decide) rfl) <|
zz 94 (xeT hy1_18) <|
zz 99 (xnm hy1_6) <|
yy 100 (.pur (sN 1 0 (y1_6_).toNat (Nat.add big 3))) <|
ww (p := opSlice P 69 (sN 1 0 x1_2 (Nat.add big 3)) none (some (i6 y1_6_)) none Ax.h0 = some ((sN 1 0 (y1_6_).toNat (Nat.add big 3)), Ax.h0)) (slRowHi (e := 72) (es := 3) (by kernel_rfl) (by kernel_rfl) rfl rfl hy1_19) <|
zz 106 (xdT hy1_20) <|
yy 114 (.app ⟨none, rows rw_iii (List.take (y1_6_).toNat (((x1_1a :: x1_1t)).set (y1_6_).toNat ((y1_9_.1), (w64 ((y1_9_.2.1) + (1 : Int))), (y1_3_.2.2.2.2.1)))), (rows rw_iii (za :: zt)), ((za :: zt)).length, false⟩) <|
ww (p := 0 < 1) ((by decide)) <|
ww (p := rdT (layT (rows rw_iii (((x1_1a :: x1_1t)).set (y1_6_).toNat ((y1_9_.1), (w64 ((y1_9_.2.1) + (1 : Int))), (y1_3_.2.2.2.2.1))))) (Nat.mul (y1_6_).toNat 3) 0 = some (rows rw_iii (List.take (y1_6_).toNat (((x1_1a :: x1_1t)).set (y1_6_).toNat ((y1_9_.1), (w64 ((y1_9_.2.1) + (1 : Int))), (y1_3_.2.2.2.2.1)))))) (rows_rdTake rwf_iii _ _ hy1_21) <|
ww (p := fits (Nat.add (y1_6_).toNat 1) 24 = true) (fits_ok hy1_22 (by have := hy1_22; show (_ : Nat) + _ ≤ _; omega)) <|
ww (p := allCells [(i6 x1_4), (i6 (0 : Int)), (i6 (y1_3_.2.2.1))] = true) (rfl) <|
ww (p := allCells (rows rw_iii (List.take (y1_6_).toNat (((x1_1a :: x1_1t)).set (y1_6_).toNat ((y1_9_.1), (w64 ((y1_9_.2.1) + (1 : Int))), (y1_3_.2.2.2.2.1))))) = true) (rows_cells rwf_iii _) <|
ww (p := rows rw_iii (List.take (y1_6_).toNat (((x1_1a :: x1_1t)).set (y1_6_).toNat ((y1_9_.1), (w64 ((y1_9_.2.1) + (1 : Int))), (y1_3_.2.2.2.2.1)))) ++ [(i6 x1_4), (i6 (0 : Int)), (i6 (y1_3_.2.2.1))] = (rows rw_iii (za :: zt))) (by rw [← hz]; exact (rows_app rw_iii (List.take (y1_6_).toNat (((x1_1a :: x1_1t)).set (y1_6_).toNat ((y1_9_.1), (w64 ((y1_9_.2.1) + (1 : Int))), (y1_3_.2.2.2.2.1)))) [(x1_4, (0 : Int), (y1_3_.2.2.1))])) <|
ww (p := Nat.add (y1_6_).toNat 1 = ((za :: zt)).length) (by rw [← hz]; exact (take_len hy1_21 rfl)) <|
ww (rows_flat rwf_iiiiiiLu x1_0 33) <|
ww (rows_flat rwf_iii (za :: zt) 72) <|
ee) (by kernel_rfl)
theorem q_iOq2_1_8 (n : Nat) {rnd : Option Nat} (x1_0 : List R8) (x1_1a : Int × Int × Int) (x1_1t : List (Int × Int × Int)) (x1_2 : Nat) (x1_3 x1_4 : Int) (hy1_1 : x1_4 < x1_3) (hy1_2 : 0 ≤ x1_4 ∧ x1_4 < (x1_0.length : Int)) (y1_3_ : R8) (hy1_3 : (some ((x1_0).getD (x1_4).toNat (0, 0, 0, 0, 0, 0, nl0, 0))) = some y1_3_) (hy1_4 : x1_4 > (0 : Int)) (hy1_5 : ¬ (((x1_2 : Nat) : Int) = (0 : Int))) (y1_6_ : Int) (hy1_6 : (some (w64 (((x1_2 : Nat) : Int) - (1 : Int)))) = some y1_6_) (hy1_7 : 0 ≤ y1_6_ ∧ y1_6_ < ((x1_2 : Nat) : Int)) (hy1_8 : (y1_6_).toNat < ((x1_1a :: x1_1t)).length) (y1_9_ : Int × Int × Int) (hy1_9 : (some (((x1_1a :: x1_1t)).getD (y1_6_).toNat (0, 0, 0))) = some y1_9_) (hy1_10 : 0 ≤ (y1_9_.1) ∧ (y1_9_.1) < (x1_0.length : Int)) (y1_11_ : R8) (hy1_11 : (some ((x1_0).getD ((y1_9_.1)).toNat (0, 0, 0, 0, 0, 0, nl0, 0))) = some y1_11_) (hy1_12 : 0 ≤ (y1_9_.2.1) ∧ (y1_9_.2.1) < (y1_11_.2.2.2.2.2.2.1.l.length : Int)) (hy1_13 : ((y1_9_.2.1)).toNat < (((y1_11_.2.2.2.2.2.2.1)).l).length) (y1_14_ : Int) (hy1_14 : (some ((((y1_11_.2.2.2.2.2.2.1)).l).getD ((y1_9_.2.1)).toNat 0)) = some y1_14_) (hy1_15 : y1_14_ = x1_4) (hy1_16 : ¬ ((y1_3_.2.2.1) < (y1_9_.2.2))) (hy1_17 : ¬ ((y1_3_.2.2.2.2.1) > (y1_11_.2.2.2.2.1))) (hy1_18 : (w64 ((y1_9_.2.1) + (1 : Int))) = (y1_11_.2.2.2.2.2.2.1.l.length : Int)) (hy1_19 : 0 ≤ y1_6_ ∧ y1_6_ ≤ ((x1_2 : Nat) : Int)) (hy1_20 : ¬ ((y1_3_.2.2.2.2.2.2.1.l.length : Int) > (0 : Int))) : Q_iOq2_1 rnd x1_0 x1_3 ((x1_1a :: x1_1t), x1_2, x1_4) (.normal, S_iOq2_1 x1_0 x1_3 ((((x1_1a :: x1_1t)).set (y1_6_).toNat ((y1_9_.1), (w64 ((y1_9_.2.1) + (1 : Int))), (y1_3_.2.2.2.2.1))), ((y1_6_).toNat), (w64 (x1_4 + (1 : Int))))) :=
 by
 obtain ⟨za, zt, hz⟩ : ∃ a t, (((x1_1a :: x1_1t)).set (y1_6_).toNat ((y1_9_.1), (w64 ((y1_9_.2.1) + (1 : Int))), (y1_3_.2.2.2.2.1))) = a :: t := set_cons
 rw [hz]
 exact runC2 hm (L := lT []) ⟨[0, 3, 8, 9, 10], [(0, 0, true), (1, 1, true)], 2, 1, [], false, []⟩ (zz 1 (xdT hy1_1) <|
zz 8 (xk22 0 U8 hy1_2) <|
yy 9 (.ld (Value.agg #[(i6 (y1_3_.1)), (i6 (y1_3_.2.1)), (i6 (y1_3_.2.2.1)), (i6 (y1_3_.2.2.2.1)), (i6 (y1_3_.2.2.2.2.1)), (i6 (y1_3_.2.2.2.2.2.1)), (nlV (y1_3_.2.2.2.2.2.2.1)), (Value.int .u64 (y1_3_.2.2.2.2.2.2.2))])) <|
ww (p := rdT (layT (rows rw_iiiiiiLu x1_0)) 8 ((x1_4).toNat * 8) = some [(i6 (y1_3_.1)), (i6 (y1_3_.2.1)), (i6 (y1_3_.2.2.1)), (i6 (y1_3_.2.2.2.1)), (i6 (y1_3_.2.2.2.2.1)), (i6 (y1_3_.2.2.2.2.2.1)), (nlV (y1_3_.2.2.2.2.2.2.1)), (Value.int .u64 (y1_3_.2.2.2.2.2.2.2))]) (rows_rdpN rwf_iiiiiiLu (0, 0, 0, 0, 0, 0, nl0, 0) (hr := hy1_3) (i := (x1_4).toNat) (j := 0) ((x1_4).toNat * 8) rfl (toNatLt hy1_2) (by decide) rfl) <|
zz 16 (xdT hy1_4) <|
zz 22 (xeF hy1_5) <|
zz 28 (xnm hy1_6) <|
zz 29 (xk15 1 U3 hy1_7) <|
zz 36 (ok16 hy1_9 (hy1_8)) <|
zz 37 (xk22 0 U8 hy1_10) <|
yy 38 (.ld (Value.agg #[(i6 (y1_11_.1)), (i6 (y1_11_.2.1)), (i6 (y1_11_.2.2.1)), (i6 (y1_11_.2.2.2.1)), (i6 (y1_11_.2.2.2.2.1)), (i6 (y1_11_.2.2.2.2.2.1)), (nlV (y1_11_.2.2.2.2.2.2.1)), (Value.int .u64 (y1_11_.2.2.2.2.2.2.2))])) <|
ww (p := rdT (layT (rows rw_iiiiiiLu x1_0)) 8 (((y1_9_.1)).toNat * 8) = some [(i6 (y1_11_.1)), (i6 (y1_11_.2.1)), (i6 (y1_11_.2.2.1)), (i6 (y1_11_.2.2.2.1)), (i6 (y1_11_.2.2.2.2.1)), (i6 (y1_11_.2.2.2.2.2.1)), (nlV (y1_11_.2.2.2.2.2.2.1)), (Value.int .u64 (y1_11_.2.2.2.2.2.2.2))]) (rows_rdpN rwf_iiiiiiLu (0, 0, 0, 0, 0, 0, nl0, 0) (hr := hy1_11) (i := ((y1_9_.1)).toNat) (j := 0) (((y1_9_.1)).toNat * 8) rfl (toNatLt hy1_10) (by decide) rfl) <|
zz 48 (ok17 hy1_9 (hy1_8)) <|
zz 49 (xk9 (Nat.add ((y1_11_.2.2.2.2.2.2.1)).num 64) ((y1_11_.2.2.2.2.2.2.1)).cap hy1_12) <|
zz 50 (nk10 hy1_14 hy1_13) <|
zz 52 (xnF hy1_15) <|
zz 59 (ok18 hy1_9 (hy1_8)) <|
zz 60 (xdF hy1_16) <|
zz 67 (xdF hy1_17) <|
zz 76 (ok17 hy1_9 (hy1_8)) <|
yy 82 (.sto (layT (rows rw_iii (((x1_1a :: x1_1t)).set (y1_6_).toNat ((y1_9_.1), (w64 ((y1_9_.2.1) + (1 : Int))), (y1_9_.2.2)))))) <|
ww (p := ∃ old, rdT (layT (rows rw_iii (x1_1a :: x1_1t))) 1 (Nat.add ((y1_6_).toNat * 3) 1) = some old) (Exists.elim (rows_stN rwf_iii (0, 0, 0) (hr := hy1_9) (i := (y1_6_).toNat) (j := 1) (l := [(i6 (w64 ((y1_9_.2.1) + (1 : Int))))]) ((y1_9_.1), (w64 ((y1_9_.2.1) + (1 : Int))), (y1_9_.2.2)) (Nat.add ((y1_6_).toNat * 3) 1) rfl (hy1_8) (Nat.le_of_ble_eq_true rfl) rfl) fun o h => ⟨o, h.1⟩) <|
ww (p := layL [(i6 (w64 ((y1_9_.2.1) + (1 : Int))))] (Nat.add ((y1_6_).toNat * 3) 1) (layT (rows rw_iii (x1_1a :: x1_1t))) = layT (rows rw_iii (((x1_1a :: x1_1t)).set (y1_6_).toNat ((y1_9_.1), (w64 ((y1_9_.2.1) + (1 : Int))), (y1_9_.2.2))))) (Exists.elim (rows_stN rwf_iii (0, 0, 0) (hr := hy1_9) (i := (y1_6_).toNat) (j := 1) (l := [(i6 (w64 ((y1_9_.2.1) + (1 : Int))))]) ((y1_9_.1), (w64 ((y1_9_.2.1) + (1 : Int))), (y1_9_.2.2)) (Nat.add ((y1_6_).toNat * 3) 1) rfl (hy1_8) (Nat.le_of_ble_eq_true rfl) rfl) fun o h => h.2) <|
yy 85 (.sto (layT (rows rw_iii (za :: zt)))) <|
ww (p := ∃ old, rdT (layT (rows rw_iii (((x1_1a :: x1_1t)).set (y1_6_).toNat ((y1_9_.1), (w64 ((y1_9_.2.1) + (1 : Int))), (y1_9_.2.2))))) 1 (Nat.add ((y1_6_).toNat * 3) 2) = some old) (Exists.elim (rows_stS rwf_iii (i := (y1_6_).toNat) (j := 2) (l := [(i6 (y1_3_.2.2.2.2.1))]) ((y1_9_.1), (w64 ((y1_9_.2.1) + (1 : Int))), (y1_9_.2.2)) ((y1_9_.1), (w64 ((y1_9_.2.1) + (1 : Int))), (y1_3_.2.2.2.2.1)) (Nat.add ((y1_6_).toNat * 3) 2) rfl (hy1_8) (Nat.le_of_ble_eq_true rfl) rfl) fun o h => ⟨o, h.1⟩) <|
ww (p := layL [(i6 (y1_3_.2.2.2.2.1))] (Nat.add ((y1_6_).toNat * 3) 2) (layT (rows rw_iii (((x1_1a :: x1_1t)).set (y1_6_).toNat ((y1_9_.1), (w64 ((y1_9_.2.1) + (1 : Int))), (y1_9_.2.2))))) = layT (rows rw_iii (za :: zt))) (by rw [← hz]; exact (Exists.elim (rows_stS rwf_iii (i := (y1_6_).toNat) (j := 2) (l := [(i6 (y1_3_.2.2.2.2.1))]) ((y1_9_.1), (w64 ((y1_9_.2.1) + (1 : Int))), (y1_9_.2.2)) ((y1_9_.1), (w64 ((y1_9_.2.1) + (1 : Int))), (y1_3_.2.2.2.2.1)) (Nat.add ((y1_6_).toNat * 3) 2) rfl (hy1_8) (Nat.le_of_ble_eq_true rfl) rfl) fun o h => h.2)) <|
yy 90 (.ld (i6 (w64 ((y1_9_.2.1) + (1 : Int))))) <|
ww (p := (layT (rows rw_iii (za :: zt))).get (Nat.add ((y1_6_).toNat * 3) 1) = some (i6 (w64 ((y1_9_.2.1) + (1 : Int))))) (by rw [← hz]; exact (rows_ldS rwf_iii (i := (y1_6_).toNat) (j := 1) ((y1_9_.1), (w64 ((y1_9_.2.1) + (1 : Int))), (y1_3_.2.2.2.2.1)) (Nat.add ((y1_6_).toNat * 3) 1) rfl (hy1_8) (by decide) rfl)) <|
zz 94 (xeT hy1_18) <|
zz 99 (xnm hy1_6) <|
yy 100 (.pur (sN 1 0 (y1_6_).toNat (Nat.add big 3))) <|
ww (p := opSlice P 69 (sN 1 0 x1_2 (Nat.add big 3)) none (some (i6 y1_6_)) none Ax.h0 = some ((sN 1 0 (y1_6_).toNat (Nat.add big 3)), Ax.h0)) (slRowHi (e := 72) (es := 3) (by kernel_rfl) (by kernel_rfl) rfl rfl hy1_19) <|
zz 106 (xdF hy1_20) <|
ww (rows_flat rwf_iiiiiiLu x1_0 33) <|
ww (rows_flat rwf_iii (za :: zt) 72) <|
ee) (by kernel_rfl)
theorem q_iOq2_1_9 (n : Nat) {rnd : Option Nat} (x1_0 : List R8) (x1_1a : Int × Int × Int) (x1_1t : List (Int × Int × Int)) (x1_2 : Nat) (x1_3 x1_4 : Int) (hy1_1 : x1_4 < x1_3) (hy1_2 : 0 ≤ x1_4 ∧ x1_4 < (x1_0.length : Int)) (y1_3_ : R8) (hy1_3 : (some ((x1_0).getD (x1_4).toNat (0, 0, 0, 0, 0, 0, nl0, 0))) = some y1_3_) (hy1_4 : x1_4 > (0 : Int)) (hy1_5 : ¬ (((x1_2 : Nat) : Int) = (0 : Int))) (y1_6_ : Int) (hy1_6 : (some (w64 (((x1_2 : Nat) : Int) - (1 : Int)))) = some y1_6_) (hy1_7 : 0 ≤ y1_6_ ∧ y1_6_ < ((x1_2 : Nat) : Int)) (hy1_8 : (y1_6_).toNat < ((x1_1a :: x1_1t)).length) (y1_9_ : Int × Int × Int) (hy1_9 : (some (((x1_1a :: x1_1t)).getD (y1_6_).toNat (0, 0, 0))) = some y1_9_) (hy1_10 : 0 ≤ (y1_9_.1) ∧ (y1_9_.1) < (x1_0.length : Int)) (y1_11_ : R8) (hy1_11 : (some ((x1_0).getD ((y1_9_.1)).toNat (0, 0, 0, 0, 0, 0, nl0, 0))) = some y1_11_) (hy1_12 : 0 ≤ (y1_9_.2.1) ∧ (y1_9_.2.1) < (y1_11_.2.2.2.2.2.2.1.l.length : Int)) (hy1_13 : ((y1_9_.2.1)).toNat < (((y1_11_.2.2.2.2.2.2.1)).l).length) (y1_14_ : Int) (hy1_14 : (some ((((y1_11_.2.2.2.2.2.2.1)).l).getD ((y1_9_.2.1)).toNat 0)) = some y1_14_) (hy1_15 : y1_14_ = x1_4) (hy1_16 : ¬ ((y1_3_.2.2.1) < (y1_9_.2.2))) (hy1_17 : ¬ ((y1_3_.2.2.2.2.1) > (y1_11_.2.2.2.2.1))) (hy1_18 : ¬ ((w64 ((y1_9_.2.1) + (1 : Int))) = (y1_11_.2.2.2.2.2.2.1.l.length : Int))) (hy1_19 : (y1_3_.2.2.2.2.2.2.1.l.length : Int) > (0 : Int)) (hy1_20 : x1_2 ≤ ((((x1_1a :: x1_1t)).set (y1_6_).toNat ((y1_9_.1), (w64 ((y1_9_.2.1) + (1 : Int))), (y1_3_.2.2.2.2.1)))).length) (hy1_21 : (x1_2 + 1) * 24 ≤ 140737488355328) : Q_iOq2_1 rnd x1_0 x1_3 ((x1_1a :: x1_1t), x1_2, x1_4) (.normal, S_iOq2_1 x1_0 x1_3 (((List.take x1_2 (((x1_1a :: x1_1t)).set (y1_6_).toNat ((y1_9_.1), (w64 ((y1_9_.2.1) + (1 : Int))), (y1_3_.2.2.2.2.1)))) ++ [(x1_4, (0 : Int), (y1_3_.2.2.1))]), ((((List.take x1_2 (((x1_1a :: x1_1t)).set (y1_6_).toNat ((y1_9_.1), (w64 ((y1_9_.2.1) + (1 : Int))), (y1_3_.2.2.2.2.1)))) ++ [(x1_4, (0 : Int), (y1_3_.2.2.1))])).length), (w64 (x1_4 + (1 : Int))))) :=
 by
 obtain ⟨za, zt, hz⟩ : ∃ a t, ((List.take x1_2 (((x1_1a :: x1_1t)).set (y1_6_).toNat ((y1_9_.1), (w64 ((y1_9_.2.1) + (1 : Int))), (y1_3_.2.2.2.2.1)))) ++ [(x1_4, (0 : Int), (y1_3_.2.2.1))]) = a :: t := snoc_cons (List.take x1_2 (((x1_1a :: x1_1t)).set (y1_6_).toNat ((y1_9_.1), (w64 ((y1_9_.2.1) + (1 : Int))), (y1_3_.2.2.2.2.1)))) (x1_4, (0 : Int), (y1_3_.2.2.1))
 rw [hz]
 exact runC2 hm (L := lT []) ⟨[0, 3, 8, 9, 10], [(0, 0, true), (1, 5, true)], 2, 1, [], false, []⟩ (zz 1 (xdT hy1_1) <|
zz 8 (xk22 0 U8 hy1_2) <|
yy 9 (.ld (Value.agg #[(i6 (y1_3_.1)), (i6 (y1_3_.2.1)), (i6 (y1_3_.2.2.1)), (i6 (y1_3_.2.2.2.1)), (i6 (y1_3_.2.2.2.2.1)), (i6 (y1_3_.2.2.2.2.2.1)), (nlV (y1_3_.2.2.2.2.2.2.1)), (Value.int .u64 (y1_3_.2.2.2.2.2.2.2))])) <|
ww (p := rdT (layT (rows rw_iiiiiiLu x1_0)) 8 ((x1_4).toNat * 8) = some [(i6 (y1_3_.1)), (i6 (y1_3_.2.1)), (i6 (y1_3_.2.2.1)), (i6 (y1_3_.2.2.2.1)), (i6 (y1_3_.2.2.2.2.1)), (i6 (y1_3_.2.2.2.2.2.1)), (nlV (y1_3_.2.2.2.2.2.2.1)), (Value.int .u64 (y1_3_.2.2.2.2.2.2.2))]) (rows_rdpN rwf_iiiiiiLu (0, 0, 0, 0, 0, 0, nl0, 0) (hr := hy1_3) (i := (x1_4).toNat) (j := 0) ((x1_4).toNat * 8) rfl (toNatLt hy1_2) (by decide) rfl) <|
zz 16 (xdT hy1_4) <|
zz 22 (xeF hy1_5) <|
zz 28 (xnm hy1_6) <|
zz 29 (xk15 1 U3 hy1_7) <|
zz 36 (ok16 hy1_9 (hy1_8)) <|
zz 37 (xk22 0 U8 hy1_10) <|
yy 38 (.ld (Value.agg #[(i6 (y1_11_.1)), (i6 (y1_11_.2.1)), (i6 (y1_11_.2.2.1)), (i6 (y1_11_.2.2.2.1)), (i6 (y1_11_.2.2.2.2.1)), (i6 (y1_11_.2.2.2.2.2.1)), (nlV (y1_11_.2.2.2.2.2.2.1)), (Value.int .u64 (y1_11_.2.2.2.2.2.2.2))])) <|
ww (p := rdT (layT (rows rw_iiiiiiLu x1_0)) 8 (((y1_9_.1)).toNat * 8) = some [(i6 (y1_11_.1)), (i6 (y1_11_.2.1)), (i6 (y1_11_.2.2.1)), (i6 (y1_11_.2.2.2.1)), (i6 (y1_11_.2.2.2.2.1)), (i6 (y1_11_.2.2.2.2.2.1)), (nlV (y1_11_.2.2.2.2.2.2.1)), (Value.int .u64 (y1_11_.2.2.2.2.2.2.2))]) (rows_rdpN rwf_iiiiiiLu (0, 0, 0, 0, 0, 0, nl0, 0) (hr := hy1_11) (i := ((y1_9_.1)).toNat) (j := 0) (((y1_9_.1)).toNat * 8) rfl (toNatLt hy1_10) (by decide) rfl) <|
zz 48 (ok17 hy1_9 (hy1_8)) <|
zz 49 (xk9 (Nat.add ((y1_11_.2.2.2.2.2.2.1)).num 64) ((y1_11_.2.2.2.2.2.2.1)).cap hy1_12) <|
zz 50 (nk10 hy1_14 hy1_13) <|
zz 52 (xnF hy1_15) <|
zz 59 (ok18 hy1_9 (hy1_8)) <|
zz 60 (xdF hy1_16) <|
zz 67 (xdF hy1_17) <|
zz 76 (ok17 hy1_9 (hy1_8)) <|
yy 82 (.sto (layT (rows rw_iii (((x1_1a :: x1_1t)).set (y1_6_).toNat ((y1_9_.1), (w64 ((y1_9_.2.1) + (1 : Int))), (y1_9_.2.2)))))) <|
ww (p := ∃ old, rdT (layT (rows rw_iii (x1_1a :: x1_1t))) 1 (Nat.add ((y1_6_).toNat * 3) 1) = some old) (Exists.elim (rows_stN rwf_iii (0, 0, 0) (hr := hy1_9) (i := (y1_6_).toNat) (j := 1) (l := [(i6 (w64 ((y1_9_.2.1) + (1 : Int))))]) ((y1_9_.1), (w64 ((y1_9_.2.1) + (1 : Int))), (y1_9_.2.2)) (Nat.add ((y1_6_).toNat * 3) 1) rfl (hy1_8) (Nat.le_of_ble_eq_true rfl) rfl) fun o h => ⟨o, h.1⟩) <|
ww (p := layL [(i6 (w64 ((y1_9_.2.1) + (1 : Int))))] (Nat.add ((y1_6_).toNat * 3) 1) (layT (rows rw_iii (x1_1a :: x1_1t))) = layT (rows rw_iii (((x1_1a :: x1_1t)).set (y1_6_).toNat ((y1_9_.1), (w64 ((y1_9_.2.1) + (1 : Int))), (y1_9_.2.2))))) (Exists.elim (rows_stN rwf_iii (0, 0, 0) (hr := hy1_9) (i := (y1_6_).toNat) (j := 1) (l := [(i6 (w64 ((y1_9_.2.1) + (1 : Int))))]) ((y1_9_.1), (w64 ((y1_9_.2.1) + (1 : Int))), (y1_9_.2.2)) (Nat.add ((y1_6_).toNat * 3) 1) rfl (hy1_8) (Nat.le_of_ble_eq_true rfl) rfl) fun o h => h.2) <|
yy 85 (.sto (layT (rows rw_iii (((x1_1a :: x1_1t)).set (y1_6_).toNat ((y1_9_.1), (w64 ((y1_9_.2.1) + (1 : Int))), (y1_3_.2.2.2.2.1)))))) <|
ww (p := ∃ old, rdT (layT (rows rw_iii (((x1_1a :: x1_1t)).set (y1_6_).toNat ((y1_9_.1), (w64 ((y1_9_.2.1) + (1 : Int))), (y1_9_.2.2))))) 1 (Nat.add ((y1_6_).toNat * 3) 2) = some old) (Exists.elim (rows_stS rwf_iii (i := (y1_6_).toNat) (j := 2) (l := [(i6 (y1_3_.2.2.2.2.1))]) ((y1_9_.1), (w64 ((y1_9_.2.1) + (1 : Int))), (y1_9_.2.2)) ((y1_9_.1), (w64 ((y1_9_.2.1) + (1 : Int))), (y1_3_.2.2.2.2.1)) (Nat.add ((y1_6_).toNat * 3) 2) rfl (hy1_8) (Nat.le_of_ble_eq_true rfl) rfl) fun o h => ⟨o, h.1⟩) <|
ww (p := layL [(i6 (y1_3_.2.2.2.2.1))] (Nat.add ((y1_6_).toNat * 3) 2) (layT (rows rw_iii (((x1_1a :: x1_1t)).set (y1_6_).toNat ((y1_9_.1), (w64 ((y1_9_.2.1) + (1 : Int))), (y1_9_.2.2))))) = layT (rows rw_iii (((x1_1a :: x1_1t)).set (y1_6_).toNat ((y1_9_.1), (w64 ((y1_9_.2.1) + (1 : Int))), (y1_3_.2.2.2.2.1))))) (Exists.elim (rows_stS rwf_iii (i := (y1_6_).toNat) (j := 2) (l := [(i6 (y1_3_.2.2.2.2.1))]) ((y1_9_.1), (w64 ((y1_9_.2.1) + (1 : Int))), (y1_9_.2.2)) ((y1_9_.1), (w64 ((y1_9_.2.1) + (1 : Int))), (y1_3_.2.2.2.2.1)) (Nat.add ((y1_6_).toNat * 3) 2) rfl (hy1_8) (Nat.le_of_ble_eq_true rfl) rfl) fun o h => h.2) <|
yy 90 (.ld (i6 (w64 ((y1_9_.2.1) + (1 : Int))))) <|
ww (p := (layT (rows rw_iii (((x1_1a :: x1_1t)).set (y1_6_).toNat ((y1_9_.1), (w64 ((y1_9_.2.1) + (1 : Int))), (y1_3_.2.2.2.2.1))))).get (Nat.add ((y1_6_).toNat * 3) 1) = some (i6 (w64 ((y1_9_.2.1) + (1 : Int))))) (rows_ldS rwf_iii (i := (y1_6_).toNat) (j := 1) ((y1_9_.1), (w64 ((y1_9_.2.1) + (1 : Int))), (y1_3_.2.2.2.2.1)) (Nat.add ((y1_6_).toNat * 3) 1) rfl (hy1_8) (by decide) rfl) <|
zz 94 (xeF hy1_18) <|
zz 100 (xdT hy1_19) <|
yy 108 (.app ⟨none, rows rw_iii (List.take x1_2 (((x1_1a :: x1_1t)).set (y1_6_).toNat ((y1_9_.1), (w64 ((y1_9_.2.1) + (1 : Int))), (y1_3_.2.2.2.2.1)))), (rows rw_iii (za :: zt)), ((za :: zt)).length, false⟩) <|
ww (p := 0 < 1) ((by decide)) <|
ww (p := rdT (layT (rows rw_iii (((x1_1a :: x1_1t)).set (y1_6_).toNat ((y1_9_.1), (w64 ((y1_9_.2.1) + (1 : Int))), (y1_3_.2.2.2.2.1))))) (Nat.mul x1_2 3) 0 = some (rows rw_iii (List.take x1_2 (((x1_1a :: x1_1t)).set (y1_6_).toNat ((y1_9_.1), (w64 ((y1_9_.2.1) + (1 : Int))), (y1_3_.2.2.2.2.1)))))) (rows_rdTake rwf_iii _ _ hy1_20) <|
ww (p := fits (Nat.add x1_2 1) 24 = true) (fits_ok hy1_21 (by have := hy1_21; show (_ : Nat) + _ ≤ _; omega)) <|
ww (p := allCells [(i6 x1_4), (i6 (0 : Int)), (i6 (y1_3_.2.2.1))] = true) (rfl) <|
ww (p := allCells (rows rw_iii (List.take x1_2 (((x1_1a :: x1_1t)).set (y1_6_).toNat ((y1_9_.1), (w64 ((y1_9_.2.1) + (1 : Int))), (y1_3_.2.2.2.2.1))))) = true) (rows_cells rwf_iii _) <|
ww (p := rows rw_iii (List.take x1_2 (((x1_1a :: x1_1t)).set (y1_6_).toNat ((y1_9_.1), (w64 ((y1_9_.2.1) + (1 : Int))), (y1_3_.2.2.2.2.1)))) ++ [(i6 x1_4), (i6 (0 : Int)), (i6 (y1_3_.2.2.1))] = (rows rw_iii (za :: zt))) (by rw [← hz]; exact (rows_app rw_iii (List.take x1_2 (((x1_1a :: x1_1t)).set (y1_6_).toNat ((y1_9_.1), (w64 ((y1_9_.2.1) + (1 : Int))), (y1_3_.2.2.2.2.1)))) [(x1_4, (0 : Int), (y1_3_.2.2.1))])) <|
ww (p := Nat.add x1_2 1 = ((za :: zt)).length) (by rw [← hz]; exact (take_len hy1_20 rfl)) <|
ww (rows_flat rwf_iiiiiiLu x1_0 33) <|
ww (rows_flat rwf_iii (za :: zt) 72) <|
ee) (by kernel_rfl)
theorem q_iOq2_1_10 (n : Nat) {rnd : Option Nat} (x1_0 : List R8) (x1_1a : Int × Int × Int) (x1_1t : List (Int × Int × Int)) (x1_2 : Nat) (x1_3 x1_4 : Int) (hy1_1 : x1_4 < x1_3) (hy1_2 : 0 ≤ x1_4 ∧ x1_4 < (x1_0.length : Int)) (y1_3_ : R8) (hy1_3 : (some ((x1_0).getD (x1_4).toNat (0, 0, 0, 0, 0, 0, nl0, 0))) = some y1_3_) (hy1_4 : x1_4 > (0 : Int)) (hy1_5 : ¬ (((x1_2 : Nat) : Int) = (0 : Int))) (y1_6_ : Int) (hy1_6 : (some (w64 (((x1_2 : Nat) : Int) - (1 : Int)))) = some y1_6_) (hy1_7 : 0 ≤ y1_6_ ∧ y1_6_ < ((x1_2 : Nat) : Int)) (hy1_8 : (y1_6_).toNat < ((x1_1a :: x1_1t)).length) (y1_9_ : Int × Int × Int) (hy1_9 : (some (((x1_1a :: x1_1t)).getD (y1_6_).toNat (0, 0, 0))) = some y1_9_) (hy1_10 : 0 ≤ (y1_9_.1) ∧ (y1_9_.1) < (x1_0.length : Int)) (y1_11_ : R8) (hy1_11 : (some ((x1_0).getD ((y1_9_.1)).toNat (0, 0, 0, 0, 0, 0, nl0, 0))) = some y1_11_) (hy1_12 : 0 ≤ (y1_9_.2.1) ∧ (y1_9_.2.1) < (y1_11_.2.2.2.2.2.2.1.l.length : Int)) (hy1_13 : ((y1_9_.2.1)).toNat < (((y1_11_.2.2.2.2.2.2.1)).l).length) (y1_14_ : Int) (hy1_14 : (some ((((y1_11_.2.2.2.2.2.2.1)).l).getD ((y1_9_.2.1)).toNat 0)) = some y1_14_) (hy1_15 : y1_14_ = x1_4) (hy1_16 : ¬ ((y1_3_.2.2.1) < (y1_9_.2.2))) (hy1_17 : ¬ ((y1_3_.2.2.2.2.1) > (y1_11_.2.2.2.2.1))) (hy1_18 : ¬ ((w64 ((y1_9_.2.1) + (1 : Int))) = (y1_11_.2.2.2.2.2.2.1.l.length : Int))) (hy1_19 : ¬ ((y1_3_.2.2.2.2.2.2.1.l.length : Int) > (0 : Int))) : Q_iOq2_1 rnd x1_0 x1_3 ((x1_1a :: x1_1t), x1_2, x1_4) (.normal, S_iOq2_1 x1_0 x1_3 ((((x1_1a :: x1_1t)).set (y1_6_).toNat ((y1_9_.1), (w64 ((y1_9_.2.1) + (1 : Int))), (y1_3_.2.2.2.2.1))), x1_2, (w64 (x1_4 + (1 : Int))))) :=
 by
 obtain ⟨za, zt, hz⟩ : ∃ a t, (((x1_1a :: x1_1t)).set (y1_6_).toNat ((y1_9_.1), (w64 ((y1_9_.2.1) + (1 : Int))), (y1_3_.2.2.2.2.1))) = a :: t := set_cons
 rw [hz]
 exact runC2 hm (L := lT []) ⟨[0, 3, 8, 9, 10], [(0, 0, true), (1, 1, true)], 2, 1, [], false, []⟩ (zz 1 (xdT hy1_1) <|
zz 8 (xk22 0 U8 hy1_2) <|
yy 9 (.ld (Value.agg #[(i6 (y1_3_.1)), (i6 (y1_3_.2.1)), (i6 (y1_3_.2.2.1)), (i6 (y1_3_.2.2.2.1)), (i6 (y1_3_.2.2.2.2.1)), (i6 (y1_3_.2.2.2.2.2.1)), (nlV (y1_3_.2.2.2.2.2.2.1)), (Value.int .u64 (y1_3_.2.2.2.2.2.2.2))])) <|
ww (p := rdT (layT (rows rw_iiiiiiLu x1_0)) 8 ((x1_4).toNat * 8) = some [(i6 (y1_3_.1)), (i6 (y1_3_.2.1)), (i6 (y1_3_.2.2.1)), (i6 (y1_3_.2.2.2.1)), (i6 (y1_3_.2.2.2.2.1)), (i6 (y1_3_.2.2.2.2.2.1)), (nlV (y1_3_.2.2.2.2.2.2.1)), (Value.int .u64 (y1_3_.2.2.2.2.2.2.2))]) (rows_rdpN rwf_iiiiiiLu (0, 0, 0, 0, 0, 0, nl0, 0) (hr := hy1_3) (i := (x1_4).toNat) (j := 0) ((x1_4).toNat * 8) rfl (toNatLt hy1_2) (by decide) rfl) <|
zz 16 (xdT hy1_4) <|
zz 22 (xeF hy1_5) <|
zz 28 (xnm hy1_6) <|
zz 29 (xk15 1 U3 hy1_7) <|
zz 36 (ok16 hy1_9 (hy1_8)) <|
zz 37 (xk22 0 U8 hy1_10) <|
yy 38 (.ld (Value.agg #[(i6 (y1_11_.1)), (i6 (y1_11_.2.1)), (i6 (y1_11_.2.2.1)), (i6 (y1_11_.2.2.2.1)), (i6 (y1_11_.2.2.2.2.1)), (i6 (y1_11_.2.2.2.2.2.1)), (nlV (y1_11_.2.2.2.2.2.2.1)), (Value.int .u64 (y1_11_.2.2.2.2.2.2.2))])) <|
ww (p := rdT (layT (rows rw_iiiiiiLu x1_0)) 8 (((y1_9_.1)).toNat * 8) = some [(i6 (y1_11_.1)), (i6 (y1_11_.2.1)), (i6 (y1_11_.2.2.1)), (i6 (y1_11_.2.2.2.1)), (i6 (y1_11_.2.2.2.2.1)), (i6 (y1_11_.2.2.2.2.2.1)), (nlV (y1_11_.2.2.2.2.2.2.1)), (Value.int .u64 (y1_11_.2.2.2.2.2.2.2))]) (rows_rdpN rwf_iiiiiiLu (0, 0, 0, 0, 0, 0, nl0, 0) (hr := hy1_11) (i := ((y1_9_.1)).toNat) (j := 0) (((y1_9_.1)).toNat * 8) rfl (toNatLt hy1_10) (by decide) rfl) <|
zz 48 (ok17 hy1_9 (hy1_8)) <|
zz 49 (xk9 (Nat.add ((y1_11_.2.2.2.2.2.2.1)).num 64) ((y1_11_.2.2.2.2.2.2.1)).cap hy1_12) <|
zz 50 (nk10 hy1_14 hy1_13) <|
zz 52 (xnF hy1_15) <|
zz 59 (ok18 hy1_9 (hy1_8)) <|
zz 60 (xdF hy1_16) <|
zz 67 (xdF hy1_17) <|
zz 76 (ok17 hy1_9 (hy1_8)) <|
yy 82 (.sto (layT (rows rw_iii (((x1_1a :: x1_1t)).set (y1_6_).toNat ((y1_9_.1), (w64 ((y1_9_.2.1) + (1 : Int))), (y1_9_.2.2)))))) <|
ww (p := ∃ old, rdT (layT (rows rw_iii (x1_1a :: x1_1t))) 1 (Nat.add ((y1_6_).toNat * 3) 1) = some old) (Exists.elim (rows_stN rwf_iii (0, 0, 0) (hr := hy1_9) (i := (y1_6_).toNat) (j := 1) (l := [(i6 (w64 ((y1_9_.2.1) + (1 : Int))))]) ((y1_9_.1), (w64 ((y1_9_.2.1) + (1 : Int))), (y1_9_.2.2)) (Nat.add ((y1_6_).toNat * 3) 1) rfl (hy1_8) (Nat.le_of_ble_eq_true rfl) rfl) fun o h => ⟨o, h.1⟩) <|
ww (p := layL [(i6 (w64 ((y1_9_.2.1) + (1 : Int))))] (Nat.add ((y1_6_).toNat * 3) 1) (layT (rows rw_iii (x1_1a :: x1_1t))) = layT (rows rw_iii (((x1_1a :: x1_1t)).set (y1_6_).toNat ((y1_9_.1), (w64 ((y1_9_.2.1) + (1 : Int))), (y1_9_.2.2))))) (Exists.elim (rows_stN rwf_iii (0, 0, 0) (hr := hy1_9) (i := (y1_6_).toNat) (j := 1) (l := [(i6 (w64 ((y1_9_.2.1) + (1 : Int))))]) ((y1_9_.1), (w64 ((y1_9_.2.1) + (1 : Int))), (y1_9_.2.2)) (Nat.add ((y1_6_).toNat * 3) 1) rfl (hy1_8) (Nat.le_of_ble_eq_true rfl) rfl) fun o h => h.2) <|
yy 85 (.sto (layT (rows rw_iii (za :: zt)))) <|
ww (p := ∃ old, rdT (layT (rows rw_iii (((x1_1a :: x1_1t)).set (y1_6_).toNat ((y1_9_.1), (w64 ((y1_9_.2.1) + (1 : Int))), (y1_9_.2.2))))) 1 (Nat.add ((y1_6_).toNat * 3) 2) = some old) (Exists.elim (rows_stS rwf_iii (i := (y1_6_).toNat) (j := 2) (l := [(i6 (y1_3_.2.2.2.2.1))]) ((y1_9_.1), (w64 ((y1_9_.2.1) + (1 : Int))), (y1_9_.2.2)) ((y1_9_.1), (w64 ((y1_9_.2.1) + (1 : Int))), (y1_3_.2.2.2.2.1)) (Nat.add ((y1_6_).toNat * 3) 2) rfl (hy1_8) (Nat.le_of_ble_eq_true rfl) rfl) fun o h => ⟨o, h.1⟩) <|
ww (p := layL [(i6 (y1_3_.2.2.2.2.1))] (Nat.add ((y1_6_).toNat * 3) 2) (layT (rows rw_iii (((x1_1a :: x1_1t)).set (y1_6_).toNat ((y1_9_.1), (w64 ((y1_9_.2.1) + (1 : Int))), (y1_9_.2.2))))) = layT (rows rw_iii (za :: zt))) (by rw [← hz]; exact (Exists.elim (rows_stS rwf_iii (i := (y1_6_).toNat) (j := 2) (l := [(i6 (y1_3_.2.2.2.2.1))]) ((y1_9_.1), (w64 ((y1_9_.2.1) + (1 : Int))), (y1_9_.2.2)) ((y1_9_.1), (w64 ((y1_9_.2.1) + (1 : Int))), (y1_3_.2.2.2.2.1)) (Nat.add ((y1_6_).toNat * 3) 2) rfl (hy1_8) (Nat.le_of_ble_eq_true rfl) rfl) fun o h => h.2)) <|
yy 90 (.ld (i6 (w64 ((y1_9_.2.1) + (1 : Int))))) <|
ww (p := (layT (rows rw_iii (za :: zt))).get (Nat.add ((y1_6_).toNat * 3) 1) = some (i6 (w64 ((y1_9_.2.1) + (1 : Int))))) (by rw [← hz]; exact (rows_ldS rwf_iii (i := (y1_6_).toNat) (j := 1) ((y1_9_.1), (w64 ((y1_9_.2.1) + (1 : Int))), (y1_3_.2.2.2.2.1)) (Nat.add ((y1_6_).toNat * 3) 1) rfl (hy1_8) (by decide) rfl)) <|
zz 94 (xeF hy1_18) <|
zz 100 (xdF hy1_19) <|
ww (rows_flat rwf_iiiiiiLu x1_0 33) <|
ww (rows_flat rwf_iii (za :: zt) 72) <|
ee) (by kernel_rfl)
theorem q_iOq2_1_11 (n : Nat) {rnd : Option Nat} (x1_0 : List R8) (x1_1a : Int × Int × Int) (x1_1t : List (Int × Int × Int)) (x1_2 : Nat) (x1_3 x1_4 : Int) (hy1_1 : x1_4 < x1_3) (hy1_2 : 0 ≤ x1_4 ∧ x1_4 < (x1_0.length : Int)) (y1_3_ : R8) (hy1_3 : (some ((x1_0).getD (x1_4).toNat (0, 0, 0, 0, 0, 0, nl0, 0))) = some y1_3_) (hy1_4 : x1_4 > (0 : Int)) (hy1_5 : ¬ (((x1_2 : Nat) : Int) = (0 : Int))) (y1_6_ : Int) (hy1_6 : (some (w64 (((x1_2 : Nat) : Int) - (1 : Int)))) = some y1_6_) (hy1_7 : 0 ≤ y1_6_ ∧ y1_6_ < ((x1_2 : Nat) : Int)) (hy1_8 : (y1_6_).toNat < ((x1_1a :: x1_1t)).length) (y1_9_ : Int × Int × Int) (hy1_9 : (some (((x1_1a :: x1_1t)).getD (y1_6_).toNat (0, 0, 0))) = some y1_9_) (hy1_10 : 0 ≤ (y1_9_.1) ∧ (y1_9_.1) < (x1_0.length : Int)) (y1_11_ : R8) (hy1_11 : (some ((x1_0).getD ((y1_9_.1)).toNat (0, 0, 0, 0, 0, 0, nl0, 0))) = some y1_11_) (hy1_12 : 0 ≤ (y1_9_.2.1) ∧ (y1_9_.2.1) < (y1_11_.2.2.2.2.2.2.1.l.length : Int)) (hy1_13 : ((y1_9_.2.1)).toNat < (((y1_11_.2.2.2.2.2.2.1)).l).length) (y1_14_ : Int) (hy1_14 : (some ((((y1_11_.2.2.2.2.2.2.1)).l).getD ((y1_9_.2.1)).toNat 0)) = some y1_14_) (hy1_15 : ¬ (y1_14_ = x1_4)) : Q_iOq2_1 rnd x1_0 x1_3 ((x1_1a :: x1_1t), x1_2, x1_4) (X_iOq2_1 x1_0 x1_3 (.inl ())) :=
 runC2 hm (L := lT []) ⟨[2], [(0, 0, true)], 1, 1, [], false, []⟩ (zz 1 (xdT hy1_1) <|
zz 8 (xk22 0 U8 hy1_2) <|
yy 9 (.ld (Value.agg #[(i6 (y1_3_.1)), (i6 (y1_3_.2.1)), (i6 (y1_3_.2.2.1)), (i6 (y1_3_.2.2.2.1)), (i6 (y1_3_.2.2.2.2.1)), (i6 (y1_3_.2.2.2.2.2.1)), (nlV (y1_3_.2.2.2.2.2.2.1)), (Value.int .u64 (y1_3_.2.2.2.2.2.2.2))])) <|
ww (p := rdT (layT (rows rw_iiiiiiLu x1_0)) 8 ((x1_4).toNat * 8) = some [(i6 (y1_3_.1)), (i6 (y1_3_.2.1)), (i6 (y1_3_.2.2.1)), (i6 (y1_3_.2.2.2.1)), (i6 (y1_3_.2.2.2.2.1)), (i6 (y1_3_.2.2.2.2.2.1)), (nlV (y1_3_.2.2.2.2.2.2.1)), (Value.int .u64 (y1_3_.2.2.2.2.2.2.2))]) (rows_rdpN rwf_iiiiiiLu (0, 0, 0, 0, 0, 0, nl0, 0) (hr := hy1_3) (i := (x1_4).toNat) (j := 0) ((x1_4).toNat * 8) rfl (toNatLt hy1_2) (by decide) rfl) <|
zz 16 (xdT hy1_4) <|
zz 22 (xeF hy1_5) <|
zz 28 (xnm hy1_6) <|
zz 29 (xk15 1 U3 hy1_7) <|
zz 36 (ok16 hy1_9 (hy1_8)) <|
zz 37 (xk22 0 U8 hy1_10) <|
yy 38 (.ld (Value.agg #[(i6 (y1_11_.1)), (i6 (y1_11_.2.1)), (i6 (y1_11_.2.2.1)), (i6 (y1_11_.2.2.2.1)), (i6 (y1_11_.2.2.2.2.1)), (i6 (y1_11_.2.2.2.2.2.1)), (nlV (y1_11_.2.2.2.2.2.2.1)), (Value.int .u64 (y1_11_.2.2.2.2.2.2.2))])) <|
ww (p := rdT (layT (rows rw_iiiiiiLu x1_0)) 8 (((y1_9_.1)).toNat * 8) = some [(i6 (y1_11_.1)), (i6 (y1_11_.2.1)), (i6 (y1_11_.2.2.1)), (i6 (y1_11_.2.2.2.1)), (i6 (y1_11_.2.2.2.2.1)), (i6 (y1_11_.2.2.2.2.2.1)), (nlV (y1_11_.2.2.2.2.2.2.1)), (Value.int .u64 (y1_11_.2.2.2.2.2.2.2))]) (rows_rdpN rwf_iiiiiiLu (0, 0, 0, 0, 0, 0, nl0, 0) (hr := hy1_11) (i := ((y1_9_.1)).toNat) (j := 0) (((y1_9_.1)).toNat * 8) rfl (toNatLt hy1_10) (by decide) rfl) <|
zz 48 (ok17 hy1_9 (hy1_8)) <|
zz 49 (xk9 (Nat.add ((y1_11_.2.2.2.2.2.2.1)).num 64) ((y1_11_.2.2.2.2.2.2.1)).cap hy1_12) <|
zz 50 (nk10 hy1_14 hy1_13) <|
zz 52 (xnT hy1_15) <|
ww (rows_flat rwf_iiiiiiLu x1_0 33) <|
ee) (by kernel_rfl)
theorem q_iOq2_1_12 (n : Nat) {rnd : Option Nat} (x1_0 : List R8) (x1_1a : Int × Int × Int) (x1_1t : List (Int × Int × Int)) (x1_2 : Nat) (x1_3 x1_4 : Int) (hy1_1 : x1_4 < x1_3) (hy1_2 : 0 ≤ x1_4 ∧ x1_4 < (x1_0.length : Int)) (y1_3_ : R8) (hy1_3 : (some ((x1_0).getD (x1_4).toNat (0, 0, 0, 0, 0, 0, nl0, 0))) = some y1_3_) (hy1_4 : ¬ (x1_4 > (0 : Int))) (hy1_5 : (y1_3_.2.2.2.2.2.2.1.l.length : Int) > (0 : Int)) (hy1_6 : x1_2 ≤ ((x1_1a :: x1_1t)).length) (hy1_7 : (x1_2 + 1) * 24 ≤ 140737488355328) : Q_iOq2_1 rnd x1_0 x1_3 ((x1_1a :: x1_1t), x1_2, x1_4) (.normal, S_iOq2_1 x1_0 x1_3 (((List.take x1_2 (x1_1a :: x1_1t)) ++ [(x1_4, (0 : Int), (y1_3_.2.2.1))]), ((((List.take x1_2 (x1_1a :: x1_1t)) ++ [(x1_4, (0 : Int), (y1_3_.2.2.1))])).length), (w64 (x1_4 + (1 : Int))))) :=
 by
 obtain ⟨za, zt, hz⟩ : ∃ a t, ((List.take x1_2 (x1_1a :: x1_1t)) ++ [(x1_4, (0 : Int), (y1_3_.2.2.1))]) = a :: t := snoc_cons (List.take x1_2 (x1_1a :: x1_1t)) (x1_4, (0 : Int), (y1_3_.2.2.1))
 rw [hz]
 exact runC2 hm (L := lT []) ⟨[0, 3, 8, 9, 10], [(0, 0, true), (1, 4, true)], 2, 1, [], false, []⟩ (zz 1 (xdT hy1_1) <|
zz 8 (xk22 0 U8 hy1_2) <|
yy 9 (.ld (Value.agg #[(i6 (y1_3_.1)), (i6 (y1_3_.2.1)), (i6 (y1_3_.2.2.1)), (i6 (y1_3_.2.2.2.1)), (i6 (y1_3_.2.2.2.2.1)), (i6 (y1_3_.2.2.2.2.2.1)), (nlV (y1_3_.2.2.2.2.2.2.1)), (Value.int .u64 (y1_3_.2.2.2.2.2.2.2))])) <|
ww (p := rdT (layT (rows rw_iiiiiiLu x1_0)) 8 ((x1_4).toNat * 8) = some [(i6 (y1_3_.1)), (i6 (y1_3_.2.1)), (i6 (y1_3_.2.2.1)), (i6 (y1_3_.2.2.2.1)), (i6 (y1_3_.2.2.2.2.1)), (i6 (y1_3_.2.2.2.2.2.1)), (nlV (y1_3_.2.2.2.2.2.2.1)), (Value.int .u64 (y1_3_.2.2.2.2.2.2.2))]) (rows_rdpN rwf_iiiiiiLu (0, 0, 0, 0, 0, 0, nl0, 0) (hr := hy1_3) (i := (x1_4).toNat) (j := 0) ((x1_4).toNat * 8) rfl (toNatLt hy1_2) (by decide) rfl) <|
zz 16 (xdF hy1_4) <|
zz 22 (xdT hy1_5) <|
yy 30 (.app ⟨none, rows rw_iii (List.take x1_2 (x1_1a :: x1_1t)), (rows rw_iii (za :: zt)), ((za :: zt)).length, false⟩) <|
ww (p := 0 < 1) ((by decide)) <|
ww (p := rdT (layT (rows rw_iii (x1_1a :: x1_1t))) (Nat.mul x1_2 3) 0 = some (rows rw_iii (List.take x1_2 (x1_1a :: x1_1t)))) (rows_rdTake rwf_iii _ _ hy1_6) <|
ww (p := fits (Nat.add x1_2 1) 24 = true) (fits_ok hy1_7 (by have := hy1_7; show (_ : Nat) + _ ≤ _; omega)) <|
ww (p := allCells [(i6 x1_4), (i6 (0 : Int)), (i6 (y1_3_.2.2.1))] = true) (rfl) <|
ww (p := allCells (rows rw_iii (List.take x1_2 (x1_1a :: x1_1t))) = true) (rows_cells rwf_iii _) <|
ww (p := rows rw_iii (List.take x1_2 (x1_1a :: x1_1t)) ++ [(i6 x1_4), (i6 (0 : Int)), (i6 (y1_3_.2.2.1))] = (rows rw_iii (za :: zt))) (by rw [← hz]; exact (rows_app rw_iii (List.take x1_2 (x1_1a :: x1_1t)) [(x1_4, (0 : Int), (y1_3_.2.2.1))])) <|
ww (p := Nat.add x1_2 1 = ((za :: zt)).length) (by rw [← hz]; exact (take_len hy1_6 rfl)) <|
ww (rows_flat rwf_iiiiiiLu x1_0 33) <|
ww (rows_flat rwf_iii (za :: zt) 72) <|
ee) (by kernel_rfl)
theorem q_iOq2_1_13 (n : Nat) {rnd : Option Nat} (x1_0 : List R8) (x1_1a : Int × Int × Int) (x1_1t : List (Int × Int × Int)) (x1_2 : Nat) (x1_3 x1_4 : Int) (hy1_1 : x1_4 < x1_3) (hy1_2 : 0 ≤ x1_4 ∧ x1_4 < (x1_0.length : Int)) (y1_3_ : R8) (hy1_3 : (some ((x1_0).getD (x1_4).toNat (0, 0, 0, 0, 0, 0, nl0, 0))) = some y1_3_) (hy1_4 : ¬ (x1_4 > (0 : Int))) (hy1_5 : ¬ ((y1_3_.2.2.2.2.2.2.1.l.length : Int) > (0 : Int))) : Q_iOq2_1 rnd x1_0 x1_3 ((x1_1a :: x1_1t), x1_2, x1_4) (.normal, S_iOq2_1 x1_0 x1_3 ((x1_1a :: x1_1t), x1_2, (w64 (x1_4 + (1 : Int))))) :=
 runC2 hm (L := lT []) ⟨[0, 3, 8, 9, 10], [(0, 0, true), (1, 1, true)], 2, 1, [], false, []⟩ (zz 1 (xdT hy1_1) <|
zz 8 (xk22 0 U8 hy1_2) <|
yy 9 (.ld (Value.agg #[(i6 (y1_3_.1)), (i6 (y1_3_.2.1)), (i6 (y1_3_.2.2.1)), (i6 (y1_3_.2.2.2.1)), (i6 (y1_3_.2.2.2.2.1)), (i6 (y1_3_.2.2.2.2.2.1)), (nlV (y1_3_.2.2.2.2.2.2.1)), (Value.int .u64 (y1_3_.2.2.2.2.2.2.2))])) <|
ww (p := rdT (layT (rows rw_iiiiiiLu x1_0)) 8 ((x1_4).toNat * 8) = some [(i6 (y1_3_.1)), (i6 (y1_3_.2.1)), (i6 (y1_3_.2.2.1)), (i6 (y1_3_.2.2.2.1)), (i6 (y1_3_.2.2.2.2.1)), (i6 (y1_3_.2.2.2.2.2.1)), (nlV (y1_3_.2.2.2.2.2.2.1)), (Value.int .u64 (y1_3_.2.2.2.2.2.2.2))]) (rows_rdpN rwf_iiiiiiLu (0, 0, 0, 0, 0, 0, nl0, 0) (hr := hy1_3) (i := (x1_4).toNat) (j := 0) ((x1_4).toNat * 8) rfl (toNatLt hy1_2) (by decide) rfl) <|
zz 16 (xdF hy1_4) <|
zz 22 (xdF hy1_5) <|
ww (rows_flat rwf_iiiiiiLu x1_0 33) <|
ww (rows_flat rwf_iii (x1_1a :: x1_1t) 72) <|
ee) (by kernel_rfl)
theorem q_iOq2_1_14 (n : Nat) {rnd : Option Nat} (x1_0 : List R8) (x1_1a : Int × Int × Int) (x1_1t : List (Int × Int × Int)) (x1_2 : Nat) (x1_3 x1_4 : Int) (hy1_1 : ¬ (x1_4 < x1_3)) : Q_iOq2_1 rnd x1_0 x1_3 ((x1_1a :: x1_1t), x1_2, x1_4) (X_iOq2_1 x1_0 x1_3 (.inr ((x1_1a :: x1_1t), x1_2))) :=
 runC2 hm (L := lT []) ⟨[3], [(0, 0, true), (1, 1, true)], 2, 1, [], false, []⟩ (zz 1 (xdF hy1_1) <|
ww (rows_flat rwf_iiiiiiLu x1_0 33) <|
ww (rows_flat rwf_iii (x1_1a :: x1_1t) 72) <|
ee) (by kernel_rfl)
theorem m_iOq2_1_ok (n : Nat) {rnd : Option Nat} (x1_0 : List R8) (x1_3 : Int) (st : List (Int × Int × Int) × Nat × Int) (r : (Unit) ⊕ (List (Int × Int × Int) × Nat)) (h : m_iOq2_1 n x1_0 x1_3 st = some r) : CG P rnd (fnN P 34) 1 (codeOf P 34 [false, true, false, true, true]) (S_iOq2_1 x1_0 x1_3 st) (X_iOq2_1 x1_0 x1_3 r) :=
 CG.iter (b := codeOf P 34 [false, false, true, false, true, true]) (by kernel_rfl) (body := B_iOq2_1 n x1_0 x1_3) (S := S_iOq2_1 x1_0 x1_3) (X := X_iOq2_1 x1_0 x1_3)
  (fun s s' h => by
  obtain ⟨x1_1, x1_2, x1_4⟩ := s
  unfold B_iOq2_1 at h
  dsimp only at h
  cases x1_1 with
  | nil =>
   dsimp only at h
   by_cases hy1_1 : x1_4 < x1_3
   ·rw [if_pos hy1_1] at h
    by_cases hy1_2 : 0 ≤ x1_4 ∧ x1_4 < (x1_0.length : Int)
    ·rw [if_pos hy1_2] at h
     obtain ⟨y1_3_, hy1_3, h⟩ := Option.bind_eq_some_iff.1 h
     by_cases hy1_4 : x1_4 > (0 : Int)
     ·rw [if_pos hy1_4] at h
      cases h
     ·rw [if_neg hy1_4] at h
      by_cases hy1_5 : (y1_3_.2.2.2.2.2.2.1.l.length : Int) > (0 : Int)
      ·rw [if_pos hy1_5] at h
       obtain rfl := Sum.inl.inj (oI h); exact q_iOq2_1_1 n x1_0 x1_2 x1_3 x1_4 hy1_1 hy1_2 y1_3_ hy1_3 hy1_4 hy1_5
      ·rw [if_neg hy1_5] at h
       obtain rfl := Sum.inl.inj (oI h); exact q_iOq2_1_2 n x1_0 x1_2 x1_3 x1_4 hy1_1 hy1_2 y1_3_ hy1_3 hy1_4 hy1_5
    ·rw [if_neg hy1_2] at h; cases h
   ·rw [if_neg hy1_1] at h
    cases h
  | cons x1_1a x1_1t =>
   dsimp only at h
   by_cases hy1_1 : x1_4 < x1_3
   ·rw [if_pos hy1_1] at h
    by_cases hy1_2 : 0 ≤ x1_4 ∧ x1_4 < (x1_0.length : Int)
    ·rw [if_pos hy1_2] at h
     obtain ⟨y1_3_, hy1_3, h⟩ := Option.bind_eq_some_iff.1 h
     by_cases hy1_4 : x1_4 > (0 : Int)
     ·rw [if_pos hy1_4] at h
      by_cases hy1_5 : ((x1_2 : Nat) : Int) = (0 : Int)
      ·rw [if_pos hy1_5] at h
       cases h
      ·rw [if_neg hy1_5] at h
       obtain ⟨y1_6_, hy1_6, h⟩ := Option.bind_eq_some_iff.1 h
       by_cases hy1_7 : 0 ≤ y1_6_ ∧ y1_6_ < ((x1_2 : Nat) : Int)
       ·rw [if_pos hy1_7] at h
        by_cases hy1_8 : (y1_6_).toNat < ((x1_1a :: x1_1t)).length
        ·rw [if_pos hy1_8] at h
         obtain ⟨y1_9_, hy1_9, h⟩ := Option.bind_eq_some_iff.1 h
         by_cases hy1_10 : 0 ≤ (y1_9_.1) ∧ (y1_9_.1) < (x1_0.length : Int)
         ·rw [if_pos hy1_10] at h
          obtain ⟨y1_11_, hy1_11, h⟩ := Option.bind_eq_some_iff.1 h
          by_cases hy1_12 : 0 ≤ (y1_9_.2.1) ∧ (y1_9_.2.1) < (y1_11_.2.2.2.2.2.2.1.l.length : Int)
          ·rw [if_pos hy1_12] at h
           by_cases hy1_13 : ((y1_9_.2.1)).toNat < (((y1_11_.2.2.2.2.2.2.1)).l).length
           ·rw [if_pos hy1_13] at h
            obtain ⟨y1_14_, hy1_14, h⟩ := Option.bind_eq_some_iff.1 h
            by_cases hy1_15 : y1_14_ = x1_4
            ·rw [if_pos hy1_15] at h
             by_cases hy1_16 : (y1_3_.2.2.1) < (y1_9_.2.2)
             ·rw [if_pos hy1_16] at h
              cases h
             ·rw [if_neg hy1_16] at h
              by_cases hy1_17 : (y1_3_.2.2.2.2.1) > (y1_11_.2.2.2.2.1)
              ·rw [if_pos hy1_17] at h
               cases h
              ·rw [if_neg hy1_17] at h
               by_cases hy1_18 : (w64 ((y1_9_.2.1) + (1 : Int))) = (y1_11_.2.2.2.2.2.2.1.l.length : Int)
               ·rw [if_pos hy1_18] at h
                by_cases hy1_19 : 0 ≤ y1_6_ ∧ y1_6_ ≤ ((x1_2 : Nat) : Int)
                ·rw [if_pos hy1_19] at h
                 by_cases hy1_20 : (y1_3_.2.2.2.2.2.2.1.l.length : Int) > (0 : Int)
                 ·rw [if_pos hy1_20] at h
                  by_cases hy1_21 : (y1_6_).toNat ≤ ((((x1_1a :: x1_1t)).set (y1_6_).toNat ((y1_9_.1), (w64 ((y1_9_.2.1) + (1 : Int))), (y1_3_.2.2.2.2.1)))).length
                  ·rw [if_pos hy1_21] at h
                   by_cases hy1_22 : ((y1_6_).toNat + 1) * 24 ≤ 140737488355328
                   ·rw [if_pos hy1_22] at h
                    obtain rfl := Sum.inl.inj (oI h); exact q_iOq2_1_7 n x1_0 x1_1a x1_1t x1_2 x1_3 x1_4 hy1_1 hy1_2 y1_3_ hy1_3 hy1_4 hy1_5 y1_6_ hy1_6 hy1_7 hy1_8 y1_9_ hy1_9 hy1_10 y1_11_ hy1_11 hy1_12 hy1_13 y1_14_ hy1_14 hy1_15 hy1_16 hy1_17 hy1_18 hy1_19 hy1_20 hy1_21 hy1_22
                   ·rw [if_neg hy1_22] at h; cases h
                  ·rw [if_neg hy1_21] at h; cases h
                 ·rw [if_neg hy1_20] at h
                  obtain rfl := Sum.inl.inj (oI h); exact q_iOq2_1_8 n x1_0 x1_1a x1_1t x1_2 x1_3 x1_4 hy1_1 hy1_2 y1_3_ hy1_3 hy1_4 hy1_5 y1_6_ hy1_6 hy1_7 hy1_8 y1_9_ hy1_9 hy1_10 y1_11_ hy1_11 hy1_12 hy1_13 y1_14_ hy1_14 hy1_15 hy1_16 hy1_17 hy1_18 hy1_19 hy1_20
                ·rw [if_neg hy1_19] at h; cases h
               ·rw [if_neg hy1_18] at h
                by_cases hy1_19 : (y1_3_.2.2.2.2.2.2.1.l.length : Int) > (0 : Int)
                ·rw [if_pos hy1_19] at h
                 by_cases hy1_20 : x1_2 ≤ ((((x1_1a :: x1_1t)).set (y1_6_).toNat ((y1_9_.1), (w64 ((y1_9_.2.1) + (1 : Int))), (y1_3_.2.2.2.2.1)))).length
                 ·rw [if_pos hy1_20] at h
                  by_cases hy1_21 : (x1_2 + 1) * 24 ≤ 140737488355328
                  ·rw [if_pos hy1_21] at h
                   obtain rfl := Sum.inl.inj (oI h); exact q_iOq2_1_9 n x1_0 x1_1a x1_1t x1_2 x1_3 x1_4 hy1_1 hy1_2 y1_3_ hy1_3 hy1_4 hy1_5 y1_6_ hy1_6 hy1_7 hy1_8 y1_9_ hy1_9 hy1_10 y1_11_ hy1_11 hy1_12 hy1_13 y1_14_ hy1_14 hy1_15 hy1_16 hy1_17 hy1_18 hy1_19 hy1_20 hy1_21
                  ·rw [if_neg hy1_21] at h; cases h
                 ·rw [if_neg hy1_20] at h; cases h
                ·rw [if_neg hy1_19] at h
                 obtain rfl := Sum.inl.inj (oI h); exact q_iOq2_1_10 n x1_0 x1_1a x1_1t x1_2 x1_3 x1_4 hy1_1 hy1_2 y1_3_ hy1_3 hy1_4 hy1_5 y1_6_ hy1_6 hy1_7 hy1_8 y1_9_ hy1_9 hy1_10 y1_11_ hy1_11 hy1_12 hy1_13 y1_14_ hy1_14 hy1_15 hy1_16 hy1_17 hy1_18 hy1_19
            ·rw [if_neg hy1_15] at h
             cases h
           ·rw [if_neg hy1_13] at h; cases h
          ·rw [if_neg hy1_12] at h; cases h
         ·rw [if_neg hy1_10] at h; cases h
        ·rw [if_neg hy1_8] at h; cases h
       ·rw [if_neg hy1_7] at h; cases h
     ·rw [if_neg hy1_4] at h
      by_cases hy1_5 : (y1_3_.2.2.2.2.2.2.1.l.length : Int) > (0 : Int)
      ·rw [if_pos hy1_5] at h
       by_cases hy1_6 : x1_2 ≤ ((x1_1a :: x1_1t)).length
       ·rw [if_pos hy1_6] at h
        by_cases hy1_7 : (x1_2 + 1) * 24 ≤ 140737488355328
        ·rw [if_pos hy1_7] at h
         obtain rfl := Sum.inl.inj (oI h); exact q_iOq2_1_12 n x1_0 x1_1a x1_1t x1_2 x1_3 x1_4 hy1_1 hy1_2 y1_3_ hy1_3 hy1_4 hy1_5 hy1_6 hy1_7
        ·rw [if_neg hy1_7] at h; cases h
       ·rw [if_neg hy1_6] at h; cases h
      ·rw [if_neg hy1_5] at h
       obtain rfl := Sum.inl.inj (oI h); exact q_iOq2_1_13 n x1_0 x1_1a x1_1t x1_2 x1_3 x1_4 hy1_1 hy1_2 y1_3_ hy1_3 hy1_4 hy1_5
    ·rw [if_neg hy1_2] at h; cases h
   ·rw [if_neg hy1_1] at h
    cases h)
  (fun s r h => by
  obtain ⟨x1_1, x1_2, x1_4⟩ := s
  unfold B_iOq2_1 at h
  dsimp only at h
  cases x1_1 with
  | nil =>
   dsimp only at h
   by_cases hy1_1 : x1_4 < x1_3
   ·rw [if_pos hy1_1] at h
    by_cases hy1_2 : 0 ≤ x1_4 ∧ x1_4 < (x1_0.length : Int)
    ·rw [if_pos hy1_2] at h
     obtain ⟨y1_3_, hy1_3, h⟩ := Option.bind_eq_some_iff.1 h
     by_cases hy1_4 : x1_4 > (0 : Int)
     ·rw [if_pos hy1_4] at h
      obtain rfl := Sum.inr.inj (oI h); exact q_iOq2_1_0 n x1_0 x1_2 x1_3 x1_4 hy1_1 hy1_2 y1_3_ hy1_3 hy1_4
     ·rw [if_neg hy1_4] at h
      by_cases hy1_5 : (y1_3_.2.2.2.2.2.2.1.l.length : Int) > (0 : Int)
      ·rw [if_pos hy1_5] at h
       cases h
      ·rw [if_neg hy1_5] at h
       cases h
    ·rw [if_neg hy1_2] at h; cases h
   ·rw [if_neg hy1_1] at h
    obtain rfl := Sum.inr.inj (oI h); exact q_iOq2_1_3 n x1_0 x1_2 x1_3 x1_4 hy1_1
  | cons x1_1a x1_1t =>
   dsimp only at h
   by_cases hy1_1 : x1_4 < x1_3
   ·rw [if_pos hy1_1] at h
    by_cases hy1_2 : 0 ≤ x1_4 ∧ x1_4 < (x1_0.length : Int)
    ·rw [if_pos hy1_2] at h
     obtain ⟨y1_3_, hy1_3, h⟩ := Option.bind_eq_some_iff.1 h
     by_cases hy1_4 : x1_4 > (0 : Int)
     ·rw [if_pos hy1_4] at h
      by_cases hy1_5 : ((x1_2 : Nat) : Int) = (0 : Int)
      ·rw [if_pos hy1_5] at h
       obtain rfl := Sum.inr.inj (oI h); exact q_iOq2_1_4 n x1_0 x1_1a x1_1t x1_2 x1_3 x1_4 hy1_1 hy1_2 y1_3_ hy1_3 hy1_4 hy1_5
      ·rw [if_neg hy1_5] at h
       obtain ⟨y1_6_, hy1_6, h⟩ := Option.bind_eq_some_iff.1 h
       by_cases hy1_7 : 0 ≤ y1_6_ ∧ y1_6_ < ((x1_2 : Nat) : Int)
       ·rw [if_pos hy1_7] at h
        by_cases hy1_8 : (y1_6_).toNat < ((x1_1a :: x1_1t)).length
        ·rw [if_pos hy1_8] at h
         obtain ⟨y1_9_, hy1_9, h⟩ := Option.bind_eq_some_iff.1 h
         by_cases hy1_10 : 0 ≤ (y1_9_.1) ∧ (y1_9_.1) < (x1_0.length : Int)
         ·rw [if_pos hy1_10] at h
          obtain ⟨y1_11_, hy1_11, h⟩ := Option.bind_eq_some_iff.1 h
          by_cases hy1_12 : 0 ≤ (y1_9_.2.1) ∧ (y1_9_.2.1) < (y1_11_.2.2.2.2.2.2.1.l.length : Int)
          ·rw [if_pos hy1_12] at h
           by_cases hy1_13 : ((y1_9_.2.1)).toNat < (((y1_11_.2.2.2.2.2.2.1)).l).length
           ·rw [if_pos hy1_13] at h
            obtain ⟨y1_14_, hy1_14, h⟩ := Option.bind_eq_some_iff.1 h
            by_cases hy1_15 : y1_14_ = x1_4
            ·rw [if_pos hy1_15] at h
             by_cases hy1_16 : (y1_3_.2.2.1) < (y1_9_.2.2)
             ·rw [if_pos hy1_16] at h
              obtain rfl := Sum.inr.inj (oI h); exact q_iOq2_1_5 n x1_0 x1_1a x1_1t x1_2 x1_3 x1_4 hy1_1 hy1_2 y1_3_ hy1_3 hy1_4 hy1_5 y1_6_ hy1_6 hy1_7 hy1_8 y1_9_ hy1_9 hy1_10 y1_11_ hy1_11 hy1_12 hy1_13 y1_14_ hy1_14 hy1_15 hy1_16
             ·rw [if_neg hy1_16] at h
              by_cases hy1_17 : (y1_3_.2.2.2.2.1) > (y1_11_.2.2.2.2.1)
              ·rw [if_pos hy1_17] at h
               obtain rfl := Sum.inr.inj (oI h); exact q_iOq2_1_6 n x1_0 x1_1a x1_1t x1_2 x1_3 x1_4 hy1_1 hy1_2 y1_3_ hy1_3 hy1_4 hy1_5 y1_6_ hy1_6 hy1_7 hy1_8 y1_9_ hy1_9 hy1_10 y1_11_ hy1_11 hy1_12 hy1_13 y1_14_ hy1_14 hy1_15 hy1_16 hy1_17
              ·rw [if_neg hy1_17] at h
               by_cases hy1_18 : (w64 ((y1_9_.2.1) + (1 : Int))) = (y1_11_.2.2.2.2.2.2.1.l.length : Int)
               ·rw [if_pos hy1_18] at h
                by_cases hy1_19 : 0 ≤ y1_6_ ∧ y1_6_ ≤ ((x1_2 : Nat) : Int)
                ·rw [if_pos hy1_19] at h
                 by_cases hy1_20 : (y1_3_.2.2.2.2.2.2.1.l.length : Int) > (0 : Int)
                 ·rw [if_pos hy1_20] at h
                  by_cases hy1_21 : (y1_6_).toNat ≤ ((((x1_1a :: x1_1t)).set (y1_6_).toNat ((y1_9_.1), (w64 ((y1_9_.2.1) + (1 : Int))), (y1_3_.2.2.2.2.1)))).length
                  ·rw [if_pos hy1_21] at h
                   by_cases hy1_22 : ((y1_6_).toNat + 1) * 24 ≤ 140737488355328
                   ·rw [if_pos hy1_22] at h
                    cases h
                   ·rw [if_neg hy1_22] at h; cases h
                  ·rw [if_neg hy1_21] at h; cases h
                 ·rw [if_neg hy1_20] at h
                  cases h
                ·rw [if_neg hy1_19] at h; cases h
               ·rw [if_neg hy1_18] at h
                by_cases hy1_19 : (y1_3_.2.2.2.2.2.2.1.l.length : Int) > (0 : Int)
                ·rw [if_pos hy1_19] at h
                 by_cases hy1_20 : x1_2 ≤ ((((x1_1a :: x1_1t)).set (y1_6_).toNat ((y1_9_.1), (w64 ((y1_9_.2.1) + (1 : Int))), (y1_3_.2.2.2.2.1)))).length
                 ·rw [if_pos hy1_20] at h
                  by_cases hy1_21 : (x1_2 + 1) * 24 ≤ 140737488355328
                  ·rw [if_pos hy1_21] at h
                   cases h
                  ·rw [if_neg hy1_21] at h; cases h
                 ·rw [if_neg hy1_20] at h; cases h
                ·rw [if_neg hy1_19] at h
                 cases h
            ·rw [if_neg hy1_15] at h
             obtain rfl := Sum.inr.inj (oI h); exact q_iOq2_1_11 n x1_0 x1_1a x1_1t x1_2 x1_3 x1_4 hy1_1 hy1_2 y1_3_ hy1_3 hy1_4 hy1_5 y1_6_ hy1_6 hy1_7 hy1_8 y1_9_ hy1_9 hy1_10 y1_11_ hy1_11 hy1_12 hy1_13 y1_14_ hy1_14 hy1_15
           ·rw [if_neg hy1_13] at h; cases h
          ·rw [if_neg hy1_12] at h; cases h
         ·rw [if_neg hy1_10] at h; cases h
        ·rw [if_neg hy1_8] at h; cases h
       ·rw [if_neg hy1_7] at h; cases h
     ·rw [if_neg hy1_4] at h
      by_cases hy1_5 : (y1_3_.2.2.2.2.2.2.1.l.length : Int) > (0 : Int)
      ·rw [if_pos hy1_5] at h
       by_cases hy1_6 : x1_2 ≤ ((x1_1a :: x1_1t)).length
       ·rw [if_pos hy1_6] at h
        by_cases hy1_7 : (x1_2 + 1) * 24 ≤ 140737488355328
        ·rw [if_pos hy1_7] at h
         cases h
        ·rw [if_neg hy1_7] at h; cases h
       ·rw [if_neg hy1_6] at h; cases h
      ·rw [if_neg hy1_5] at h
       cases h
    ·rw [if_neg hy1_2] at h; cases h
   ·rw [if_neg hy1_1] at h
    obtain rfl := Sum.inr.inj (oI h); exact q_iOq2_1_14 n x1_0 x1_1a x1_1t x1_2 x1_3 x1_4 hy1_1)
  (fun r => by intro hx; rcases r with _ | _ <;> cases hx) h
def m_iOq2 (n : Nat) (a0 : List R8) : Option (Bool) :=
 match m_iOq2_1 n a0 (a0.length : Int) (([] : List (Int × Int × Int)), 0, 0) with
 | none => none
 | some (.inl _) =>
  some false
 | some (.inr (c1_0, c1_1)) =>
  match c1_0 with
  | [] =>
   some true
  | c1_0a :: c1_0t =>
   if ((c1_1 : Nat) : Int) = (0 : Int) then
    some true
   else
    some false
theorem m_iOq2_ok (n : Nat) (a0 : List R8) (r : Bool) (h : m_iOq2 n a0 = some r) : Gv P (.func 34) (A_iOq2 a0) (H_iOq2 a0) (V_iOq2 a0 r) (R_iOq2 a0 r) := by
 unfold m_iOq2 at h
 rcases hc1 : m_iOq2_1 n a0 (a0.length : Int) (([] : List (Int × Int × Int)), 0, 0) with _ | (⟨⟩ | ⟨c1_0, c1_1⟩)
 ·rw [hc1] at h; cases h
 ·rw [hc1] at h
  dsimp only at h
  obtain rfl := oI h; exact runF2 hm (L := lT [(10, ⟨⟨[0, 3, 8, 9, 10], [(0, 0, true)], 2, 1, [], false, []⟩, (X_iOq2_1 a0 (a0.length : Int) (.inl ())).1, (X_iOq2_1 a0 (a0.length : Int) (.inl ())).2⟩)]) ⟨[2], [], 1, 1, [], false, []⟩ (ww (p := U_iOq2_1 none a0 (a0.length : Int) (([] : List (Int × Int × Int)), 0, 0) (.inl ())) (m_iOq2_1_ok n a0 (a0.length : Int) (([] : List (Int × Int × Int)), 0, 0) (.inl ()) hc1) <|
ww (rows_flat rwf_iiiiiiLu a0 33) ee) (by kernel_rfl)
 ·rw [hc1] at h
  dsimp only at h
  cases c1_0 with
  | nil =>
   dsimp only at h
   obtain rfl := oI h; exact runF2 hm (L := lT [(10, ⟨⟨[0, 3, 8, 9, 10], [(0, 0, true)], 2, 1, [], false, []⟩, (X_iOq2_1 a0 (a0.length : Int) (.inr (([] : List (Int × Int × Int)), c1_1))).1, (X_iOq2_1 a0 (a0.length : Int) (.inr (([] : List (Int × Int × Int)), c1_1))).2⟩)]) ⟨[2], [], 1, 1, [], false, []⟩ (ww (p := U_iOq2_1 none a0 (a0.length : Int) (([] : List (Int × Int × Int)), 0, 0) (.inr (([] : List (Int × Int × Int)), c1_1))) (m_iOq2_1_ok n a0 (a0.length : Int) (([] : List (Int × Int × Int)), 0, 0) (.inr (([] : List (Int × Int × Int)), c1_1)) hc1) <|
ww (rows_flat rwf_iiiiiiLu a0 33) ee) (by kernel_rfl)
  | cons c1_0a c1_0t =>
   dsimp only at h
   by_cases hc2 : ((c1_1 : Nat) : Int) = (0 : Int)
   ·rw [if_pos hc2] at h
    obtain rfl := oI h; exact runF2 hm (L := lT [(10, ⟨⟨[0, 3, 8, 9, 10], [(0, 0, true)], 2, 1, [], false, []⟩, (X_iOq2_1 a0 (a0.length : Int) (.inr ((c1_0a :: c1_0t), c1_1))).1, (X_iOq2_1 a0 (a0.length : Int) (.inr ((c1_0a :: c1_0t), c1_1))).2⟩)]) ⟨[2], [], 1, 1, [], false, []⟩ (ww (p := U_iOq2_1 none a0 (a0.length : Int) (([] : List (Int × Int × Int)), 0, 0) (.inr ((c1_0a :: c1_0t), c1_1))) (m_iOq2_1_ok n a0 (a0.length : Int) (([] : List (Int × Int × Int)), 0, 0) (.inr ((c1_0a :: c1_0t), c1_1)) hc1) <|
ww (rows_flat rwf_iiiiiiLu a0 33) <|
zz 14 (xeT hc2) ee) (by kernel_rfl)
   ·rw [if_neg hc2] at h
    obtain rfl := oI h; exact runF2 hm (L := lT [(10, ⟨⟨[0, 3, 8, 9, 10], [(0, 0, true)], 2, 1, [], false, []⟩, (X_iOq2_1 a0 (a0.length : Int) (.inr ((c1_0a :: c1_0t), c1_1))).1, (X_iOq2_1 a0 (a0.length : Int) (.inr ((c1_0a :: c1_0t), c1_1))).2⟩)]) ⟨[2], [], 1, 1, [], false, []⟩ (ww (p := U_iOq2_1 none a0 (a0.length : Int) (([] : List (Int × Int × Int)), 0, 0) (.inr ((c1_0a :: c1_0t), c1_1))) (m_iOq2_1_ok n a0 (a0.length : Int) (([] : List (Int × Int × Int)), 0, 0) (.inr ((c1_0a :: c1_0t), c1_1)) hc1) <|
ww (rows_flat rwf_iiiiiiLu a0 33) <|
zz 14 (xeF hc2) ee) (by kernel_rfl)

def A_tCq2 (a0 : List R8) : List Value := [(sN 0 0 (a0).length (Nat.add big 8))]
def H_tCq2 (a0 : List R8) : AH := ⟨sB [(0, (some (.cells (layT (rows rw_iiiiiiLu a0)) 33)))], 1, 1⟩
def V_tCq2 (a0 : List R8) (r : Int) : Value := match r with
 | o0 => (i6 o0)
def R_tCq2 (a0 : List R8) (r : Int) : AH := match r with
 | o0 => ⟨sB [], 1, 1⟩
abbrev G_tCq2 (a0 : List R8) (r : Int) : Prop := Gv P (.func 19) (A_tCq2 a0) (H_tCq2 a0) (V_tCq2 a0 r) (R_tCq2 a0 r)
abbrev C_tCq2 (a0 : List R8) (r : Int) (ins outs : BL) : CallA := ⟨1, ins, V_tCq2 a0 r, R_tCq2 a0 r, outs⟩
def S_tCq2_1 (x1_0 : List R8) (x1_1 : Int) (st : Int) : XSt := match st with
 | x1_2 => (sT 36 [(16, (sN 0 0 (x1_0).length (Nat.add big 8))), (17, (i6 x1_1)), (18, (i6 x1_2))], [], ⟨sB [(0, (some (.cells (layT (rows rw_iiiiiiLu x1_0)) 33)))], 1, 1⟩)
def X_tCq2_1 (x1_0 : List R8) (x1_1 : Int) (r : (Unit) ⊕ (Unit)) : Ex × XSt := match r with
 | .inl _ => (.ret, (sT 36 [(2, (i6 (2 : Int)))], [], ⟨sB [(0, (some (.cells (layT (rows rw_iiiiiiLu x1_0)) 33)))], 1, 1⟩))
 | .inr _ => (.exit 0, (sT 36 [], [], ⟨sB [(0, (some (.cells (layT (rows rw_iiiiiiLu x1_0)) 33)))], 1, 1⟩))
abbrev Q_tCq2_1 (rnd : Option Nat) (x1_0 : List R8) (x1_1 : Int) (st : Int) (c : Ex × XSt) : Prop := CG P rnd (fnN P 19) 1 (codeOf P 19 [false, false, true, false, true, true, true]) (S_tCq2_1 x1_0 x1_1 st) c
abbrev U_tCq2_1 (rd : Option Nat) (x1_0 : List R8) (x1_1 : Int) (st : Int) (r : (Unit) ⊕ (Unit)) : Prop := CG P rd (fnN P 19) 1 (codeOf P 19 [false, true, false, true, true, true]) (S_tCq2_1 x1_0 x1_1 st) (X_tCq2_1 x1_0 x1_1 r)
def B_tCq2_1 (n : Nat) (x1_0 : List R8) (x1_1 : Int) (st : Int) : Option ((Int) ⊕ ((Unit) ⊕ (Unit))) := match st with
 | x1_2 =>
  if x1_2 < x1_1 then
   if 0 ≤ x1_2 ∧ x1_2 < (x1_0.length : Int) then
    ((some ((x1_0).getD (x1_2).toNat (0, 0, 0, 0, 0, 0, nl0, 0)))).bind fun y1_3_ =>
    (m_soq1 n (y1_3_.1) (y1_3_.2.1) (y1_3_.2.2.1) (y1_3_.2.2.2.1) (y1_3_.2.2.2.2.1) (y1_3_.2.2.2.2.2.1) (y1_3_.2.2.2.2.2.2.1) (y1_3_.2.2.2.2.2.2.2)).bind fun y1_4_ =>
    if y1_4_ = true then
     if (y1_3_.2.1) = (1 : Int) then
      if x1_2 > (0 : Int) then
       some (.inr (.inl ()))
      else
       some (.inl (w64 (x1_2 + (1 : Int))))
     else
      some (.inl (w64 (x1_2 + (1 : Int))))
    else
     some (.inr (.inl ()))
   else none
  else
   some (.inr (.inr ()))
def m_tCq2_1 (n : Nat) (x1_0 : List R8) (x1_1 : Int) (st : Int) : Option ((Unit) ⊕ (Unit)) := iterM (B_tCq2_1 n x1_0 x1_1) n st
theorem q_tCq2_1_0 (n : Nat) {rnd : Option Nat} (x1_0 : List R8) (x1_1 x1_2 : Int) (hy1_1 : x1_2 < x1_1) (hy1_2 : 0 ≤ x1_2 ∧ x1_2 < (x1_0.length : Int)) (y1_3_ : R8) (hy1_3 : (some ((x1_0).getD (x1_2).toNat (0, 0, 0, 0, 0, 0, nl0, 0))) = some y1_3_) (y1_4_ : Bool) (hy1_4 : m_soq1 n (y1_3_.1) (y1_3_.2.1) (y1_3_.2.2.1) (y1_3_.2.2.2.1) (y1_3_.2.2.2.2.1) (y1_3_.2.2.2.2.2.1) (y1_3_.2.2.2.2.2.2.1) (y1_3_.2.2.2.2.2.2.2) = some y1_4_) (hy1_5 : y1_4_ = true) (hy1_6 : (y1_3_.2.1) = (1 : Int)) (hy1_7 : x1_2 > (0 : Int)) : Q_tCq2_1 rnd x1_0 x1_1 x1_2 (X_tCq2_1 x1_0 x1_1 (.inl ())) :=
 runC2 hm (L := lT []) ⟨[2], [(0, 0, true)], 1, 1, [], false, []⟩ (zz 1 (xdT hy1_1) <|
zz 8 (xk22 0 U8 hy1_2) <|
yy 9 (.ld (Value.agg #[(i6 (y1_3_.1)), (i6 (y1_3_.2.1)), (i6 (y1_3_.2.2.1)), (i6 (y1_3_.2.2.2.1)), (i6 (y1_3_.2.2.2.2.1)), (i6 (y1_3_.2.2.2.2.2.1)), (nlV (y1_3_.2.2.2.2.2.2.1)), (Value.int .u64 (y1_3_.2.2.2.2.2.2.2))])) <|
ww (p := rdT (layT (rows rw_iiiiiiLu x1_0)) 8 ((x1_2).toNat * 8) = some [(i6 (y1_3_.1)), (i6 (y1_3_.2.1)), (i6 (y1_3_.2.2.1)), (i6 (y1_3_.2.2.2.1)), (i6 (y1_3_.2.2.2.2.1)), (i6 (y1_3_.2.2.2.2.2.1)), (nlV (y1_3_.2.2.2.2.2.2.1)), (Value.int .u64 (y1_3_.2.2.2.2.2.2.2))]) (rows_rdpN rwf_iiiiiiLu (0, 0, 0, 0, 0, 0, nl0, 0) (hr := hy1_3) (i := (x1_2).toNat) (j := 0) ((x1_2).toNat * 8) rfl (toNatLt hy1_2) (by decide) rfl) <|
yy 15 (.call (C_soq1 (y1_3_.1) (y1_3_.2.1) (y1_3_.2.2.1) (y1_3_.2.2.2.1) (y1_3_.2.2.2.2.1) (y1_3_.2.2.2.2.2.1) (y1_3_.2.2.2.2.2.2.1) (y1_3_.2.2.2.2.2.2.2) y1_4_ [] [])) <|
ww (m_soq1_ok n (y1_3_.1) (y1_3_.2.1) (y1_3_.2.2.1) (y1_3_.2.2.2.1) (y1_3_.2.2.2.2.1) (y1_3_.2.2.2.2.2.1) (y1_3_.2.2.2.2.2.2.1) (y1_3_.2.2.2.2.2.2.2) y1_4_ hy1_4) <|
yy 16 (vf) <|
ww (p := (Value.bool (!y1_4_)) = (Value.bool false)) (vBn hy1_5) <|
zz 20 (xeT hy1_6) <|
zz 23 (xdT hy1_7) <|
ww (rows_flat rwf_iiiiiiLu x1_0 33) <|
ee) (by kernel_rfl)
theorem q_tCq2_1_1 (n : Nat) {rnd : Option Nat} (x1_0 : List R8) (x1_1 x1_2 : Int) (hy1_1 : x1_2 < x1_1) (hy1_2 : 0 ≤ x1_2 ∧ x1_2 < (x1_0.length : Int)) (y1_3_ : R8) (hy1_3 : (some ((x1_0).getD (x1_2).toNat (0, 0, 0, 0, 0, 0, nl0, 0))) = some y1_3_) (y1_4_ : Bool) (hy1_4 : m_soq1 n (y1_3_.1) (y1_3_.2.1) (y1_3_.2.2.1) (y1_3_.2.2.2.1) (y1_3_.2.2.2.2.1) (y1_3_.2.2.2.2.2.1) (y1_3_.2.2.2.2.2.2.1) (y1_3_.2.2.2.2.2.2.2) = some y1_4_) (hy1_5 : y1_4_ = true) (hy1_6 : (y1_3_.2.1) = (1 : Int)) (hy1_7 : ¬ (x1_2 > (0 : Int))) : Q_tCq2_1 rnd x1_0 x1_1 x1_2 (.normal, S_tCq2_1 x1_0 x1_1 (w64 (x1_2 + (1 : Int)))) :=
 runC2 hm (L := lT []) ⟨[16, 17, 18], [(0, 0, true)], 1, 1, [], false, []⟩ (zz 1 (xdT hy1_1) <|
zz 8 (xk22 0 U8 hy1_2) <|
yy 9 (.ld (Value.agg #[(i6 (y1_3_.1)), (i6 (y1_3_.2.1)), (i6 (y1_3_.2.2.1)), (i6 (y1_3_.2.2.2.1)), (i6 (y1_3_.2.2.2.2.1)), (i6 (y1_3_.2.2.2.2.2.1)), (nlV (y1_3_.2.2.2.2.2.2.1)), (Value.int .u64 (y1_3_.2.2.2.2.2.2.2))])) <|
ww (p := rdT (layT (rows rw_iiiiiiLu x1_0)) 8 ((x1_2).toNat * 8) = some [(i6 (y1_3_.1)), (i6 (y1_3_.2.1)), (i6 (y1_3_.2.2.1)), (i6 (y1_3_.2.2.2.1)), (i6 (y1_3_.2.2.2.2.1)), (i6 (y1_3_.2.2.2.2.2.1)), (nlV (y1_3_.2.2.2.2.2.2.1)), (Value.int .u64 (y1_3_.2.2.2.2.2.2.2))]) (rows_rdpN rwf_iiiiiiLu (0, 0, 0, 0, 0, 0, nl0, 0) (hr := hy1_3) (i := (x1_2).toNat) (j := 0) ((x1_2).toNat * 8) rfl (toNatLt hy1_2) (by decide) rfl) <|
yy 15 (.call (C_soq1 (y1_3_.1) (y1_3_.2.1) (y1_3_.2.2.1) (y1_3_.2.2.2.1) (y1_3_.2.2.2.2.1) (y1_3_.2.2.2.2.2.1) (y1_3_.2.2.2.2.2.2.1) (y1_3_.2.2.2.2.2.2.2) y1_4_ [] [])) <|
ww (m_soq1_ok n (y1_3_.1) (y1_3_.2.1) (y1_3_.2.2.1) (y1_3_.2.2.2.1) (y1_3_.2.2.2.2.1) (y1_3_.2.2.2.2.2.1) (y1_3_.2.2.2.2.2.2.1) (y1_3_.2.2.2.2.2.2.2) y1_4_ hy1_4) <|
yy 16 (vf) <|
ww (p := (Value.bool (!y1_4_)) = (Value.bool false)) (vBn hy1_5) <|
zz 20 (xeT hy1_6) <|
zz 23 (xdF hy1_7) <|
ww (rows_flat rwf_iiiiiiLu x1_0 33) <|
ee) (by kernel_rfl)
theorem q_tCq2_1_2 (n : Nat) {rnd : Option Nat} (x1_0 : List R8) (x1_1 x1_2 : Int) (hy1_1 : x1_2 < x1_1) (hy1_2 : 0 ≤ x1_2 ∧ x1_2 < (x1_0.length : Int)) (y1_3_ : R8) (hy1_3 : (some ((x1_0).getD (x1_2).toNat (0, 0, 0, 0, 0, 0, nl0, 0))) = some y1_3_) (y1_4_ : Bool) (hy1_4 : m_soq1 n (y1_3_.1) (y1_3_.2.1) (y1_3_.2.2.1) (y1_3_.2.2.2.1) (y1_3_.2.2.2.2.1) (y1_3_.2.2.2.2.2.1) (y1_3_.2.2.2.2.2.2.1) (y1_3_.2.2.2.2.2.2.2) = some y1_4_) (hy1_5 : y1_4_ = true) (hy1_6 : ¬ ((y1_3_.2.1) = (1 : Int))) : Q_tCq2_1 rnd x1_0 x1_1 x1_2 (.normal, S_tCq2_1 x1_0 x1_1 (w64 (x1_2 + (1 : Int)))) :=
 runC2 hm (L := lT []) ⟨[16, 17, 18], [(0, 0, true)], 1, 1, [], false, []⟩ (zz 1 (xdT hy1_1) <|
zz 8 (xk22 0 U8 hy1_2) <|
yy 9 (.ld (Value.agg #[(i6 (y1_3_.1)), (i6 (y1_3_.2.1)), (i6 (y1_3_.2.2.1)), (i6 (y1_3_.2.2.2.1)), (i6 (y1_3_.2.2.2.2.1)), (i6 (y1_3_.2.2.2.2.2.1)), (nlV (y1_3_.2.2.2.2.2.2.1)), (Value.int .u64 (y1_3_.2.2.2.2.2.2.2))])) <|
ww (p := rdT (layT (rows rw_iiiiiiLu x1_0)) 8 ((x1_2).toNat * 8) = some [(i6 (y1_3_.1)), (i6 (y1_3_.2.1)), (i6 (y1_3_.2.2.1)), (i6 (y1_3_.2.2.2.1)), (i6 (y1_3_.2.2.2.2.1)), (i6 (y1_3_.2.2.2.2.2.1)), (nlV (y1_3_.2.2.2.2.2.2.1)), (Value.int .u64 (y1_3_.2.2.2.2.2.2.2))]) (rows_rdpN rwf_iiiiiiLu (0, 0, 0, 0, 0, 0, nl0, 0) (hr := hy1_3) (i := (x1_2).toNat) (j := 0) ((x1_2).toNat * 8) rfl (toNatLt hy1_2) (by decide) rfl) <|
yy 15 (.call (C_soq1 (y1_3_.1) (y1_3_.2.1) (y1_3_.2.2.1) (y1_3_.2.2.2.1) (y1_3_.2.2.2.2.1) (y1_3_.2.2.2.2.2.1) (y1_3_.2.2.2.2.2.2.1) (y1_3_.2.2.2.2.2.2.2) y1_4_ [] [])) <|
ww (m_soq1_ok n (y1_3_.1) (y1_3_.2.1) (y1_3_.2.2.1) (y1_3_.2.2.2.1) (y1_3_.2.2.2.2.1) (y1_3_.2.2.2.2.2.1) (y1_3_.2.2.2.2.2.2.1) (y1_3_.2.2.2.2.2.2.2) y1_4_ hy1_4) <|
yy 16 (vf) <|
ww (p := (Value.bool (!y1_4_)) = (Value.bool false)) (vBn hy1_5) <|
zz 20 (xeF hy1_6) <|
ww (rows_flat rwf_iiiiiiLu x1_0 33) <|
ee) (by kernel_rfl)
theorem q_tCq2_1_3 (n : Nat) {rnd : Option Nat} (x1_0 : List R8) (x1_1 x1_2 : Int) (hy1_1 : x1_2 < x1_1) (hy1_2 : 0 ≤ x1_2 ∧ x1_2 < (x1_0.length : Int)) (y1_3_ : R8) (hy1_3 : (some ((x1_0).getD (x1_2).toNat (0, 0, 0, 0, 0, 0, nl0, 0))) = some y1_3_) (y1_4_ : Bool) (hy1_4 : m_soq1 n (y1_3_.1) (y1_3_.2.1) (y1_3_.2.2.1) (y1_3_.2.2.2.1) (y1_3_.2.2.2.2.1) (y1_3_.2.2.2.2.2.1) (y1_3_.2.2.2.2.2.2.1) (y1_3_.2.2.2.2.2.2.2) = some y1_4_) (hy1_5 : ¬ (y1_4_ = true)) : Q_tCq2_1 rnd x1_0 x1_1 x1_2 (X_tCq2_1 x1_0 x1_1 (.inl ())) :=
 runC2 hm (L := lT []) ⟨[2], [(0, 0, true)], 1, 1, [], false, []⟩ (zz 1 (xdT hy1_1) <|
zz 8 (xk22 0 U8 hy1_2) <|
yy 9 (.ld (Value.agg #[(i6 (y1_3_.1)), (i6 (y1_3_.2.1)), (i6 (y1_3_.2.2.1)), (i6 (y1_3_.2.2.2.1)), (i6 (y1_3_.2.2.2.2.1)), (i6 (y1_3_.2.2.2.2.2.1)), (nlV (y1_3_.2.2.2.2.2.2.1)), (Value.int .u64 (y1_3_.2.2.2.2.2.2.2))])) <|
ww (p := rdT (layT (rows rw_iiiiiiLu x1_0)) 8 ((x1_2).toNat * 8) = some [(i6 (y1_3_.1)), (i6 (y1_3_.2.1)), (i6 (y1_3_.2.2.1)), (i6 (y1_3_.2.2.2.1)), (i6 (y1_3_.2.2.2.2.1)), (i6 (y1_3_.2.2.2.2.2.1)), (nlV (y1_3_.2.2.2.2.2.2.1)), (Value.int .u64 (y1_3_.2.2.2.2.2.2.2))]) (rows_rdpN rwf_iiiiiiLu (0, 0, 0, 0, 0, 0, nl0, 0) (hr := hy1_3) (i := (x1_2).toNat) (j := 0) ((x1_2).toNat * 8) rfl (toNatLt hy1_2) (by decide) rfl) <|
yy 15 (.call (C_soq1 (y1_3_.1) (y1_3_.2.1) (y1_3_.2.2.1) (y1_3_.2.2.2.1) (y1_3_.2.2.2.2.1) (y1_3_.2.2.2.2.2.1) (y1_3_.2.2.2.2.2.2.1) (y1_3_.2.2.2.2.2.2.2) y1_4_ [] [])) <|
ww (m_soq1_ok n (y1_3_.1) (y1_3_.2.1) (y1_3_.2.2.1) (y1_3_.2.2.2.1) (y1_3_.2.2.2.2.1) (y1_3_.2.2.2.2.2.1) (y1_3_.2.2.2.2.2.2.1) (y1_3_.2.2.2.2.2.2.2) y1_4_ hy1_4) <|
yy 16 (vt) <|
ww (p := (Value.bool (!y1_4_)) = (Value.bool true)) (vBn (Bool.eq_false_iff.2 hy1_5)) <|
ww (rows_flat rwf_iiiiiiLu x1_0 33) <|
ee) (by kernel_rfl)
theorem q_tCq2_1_4 (n : Nat) {rnd : Option Nat} (x1_0 : List R8) (x1_1 x1_2 : Int) (hy1_1 : ¬ (x1_2 < x1_1)) : Q_tCq2_1 rnd x1_0 x1_1 x1_2 (X_tCq2_1 x1_0 x1_1 (.inr ())) :=
 runC2 hm (L := lT []) ⟨[], [(0, 0, true)], 1, 1, [], false, []⟩ (zz 1 (xdF hy1_1) <|
ww (rows_flat rwf_iiiiiiLu x1_0 33) <|
ee) (by kernel_rfl)
theorem m_tCq2_1_ok (n : Nat) {rnd : Option Nat} (x1_0 : List R8) (x1_1 : Int) (st : Int) (r : (Unit) ⊕ (Unit)) (h : m_tCq2_1 n x1_0 x1_1 st = some r) : CG P rnd (fnN P 19) 1 (codeOf P 19 [false, true, false, true, true, true]) (S_tCq2_1 x1_0 x1_1 st) (X_tCq2_1 x1_0 x1_1 r) :=
 CG.iter (b := codeOf P 19 [false, false, true, false, true, true, true]) (by kernel_rfl) (body := B_tCq2_1 n x1_0 x1_1) (S := S_tCq2_1 x1_0 x1_1) (X := X_tCq2_1 x1_0 x1_1)
  (fun x1_2 s' h => by
  unfold B_tCq2_1 at h
  dsimp only at h
  by_cases hy1_1 : x1_2 < x1_1
  ·rw [if_pos hy1_1] at h
   by_cases hy1_2 : 0 ≤ x1_2 ∧ x1_2 < (x1_0.length : Int)
   ·rw [if_pos hy1_2] at h
    obtain ⟨y1_3_, hy1_3, h⟩ := Option.bind_eq_some_iff.1 h
    obtain ⟨y1_4_, hy1_4, h⟩ := Option.bind_eq_some_iff.1 h
    by_cases hy1_5 : y1_4_ = true
    ·rw [if_pos hy1_5] at h
     by_cases hy1_6 : (y1_3_.2.1) = (1 : Int)
     ·rw [if_pos hy1_6] at h
      by_cases hy1_7 : x1_2 > (0 : Int)
      ·rw [if_pos hy1_7] at h
       cases h
      ·rw [if_neg hy1_7] at h
       obtain rfl := Sum.inl.inj (oI h); exact q_tCq2_1_1 n x1_0 x1_1 x1_2 hy1_1 hy1_2 y1_3_ hy1_3 y1_4_ hy1_4 hy1_5 hy1_6 hy1_7
     ·rw [if_neg hy1_6] at h
      obtain rfl := Sum.inl.inj (oI h); exact q_tCq2_1_2 n x1_0 x1_1 x1_2 hy1_1 hy1_2 y1_3_ hy1_3 y1_4_ hy1_4 hy1_5 hy1_6
    ·rw [if_neg hy1_5] at h
     cases h
   ·rw [if_neg hy1_2] at h; cases h
  ·rw [if_neg hy1_1] at h
   cases h)
  (fun x1_2 r h => by
  unfold B_tCq2_1 at h
  dsimp only at h
  by_cases hy1_1 : x1_2 < x1_1
  ·rw [if_pos hy1_1] at h
   by_cases hy1_2 : 0 ≤ x1_2 ∧ x1_2 < (x1_0.length : Int)
   ·rw [if_pos hy1_2] at h
    obtain ⟨y1_3_, hy1_3, h⟩ := Option.bind_eq_some_iff.1 h
    obtain ⟨y1_4_, hy1_4, h⟩ := Option.bind_eq_some_iff.1 h
    by_cases hy1_5 : y1_4_ = true
    ·rw [if_pos hy1_5] at h
     by_cases hy1_6 : (y1_3_.2.1) = (1 : Int)
     ·rw [if_pos hy1_6] at h
      by_cases hy1_7 : x1_2 > (0 : Int)
      ·rw [if_pos hy1_7] at h
       obtain rfl := Sum.inr.inj (oI h); exact q_tCq2_1_0 n x1_0 x1_1 x1_2 hy1_1 hy1_2 y1_3_ hy1_3 y1_4_ hy1_4 hy1_5 hy1_6 hy1_7
      ·rw [if_neg hy1_7] at h
       cases h
     ·rw [if_neg hy1_6] at h
      cases h
    ·rw [if_neg hy1_5] at h
     obtain rfl := Sum.inr.inj (oI h); exact q_tCq2_1_3 n x1_0 x1_1 x1_2 hy1_1 hy1_2 y1_3_ hy1_3 y1_4_ hy1_4 hy1_5
   ·rw [if_neg hy1_2] at h; cases h
  ·rw [if_neg hy1_1] at h
   obtain rfl := Sum.inr.inj (oI h); exact q_tCq2_1_4 n x1_0 x1_1 x1_2 hy1_1)
  (fun r => by intro hx; rcases r with _ | _ <;> cases hx) h
def m_tCq2 (n : Nat) (a0 : List R8) : Option (Int) :=
 if (a0.length : Int) > (524288 : Int) then
  some 3
 else
  if (a0.length : Int) = (0 : Int) then
   some 2
  else
   (m_iOq2 n a0).bind fun c3_ =>
   if c3_ = true then
    match m_tCq2_1 n a0 (a0.length : Int) 0 with
    | none => none
    | some (.inl _) =>
     some 2
    | some (.inr _) =>
     some 0
   else
    some 2
theorem m_tCq2_ok (n : Nat) (a0 : List R8) (r : Int) (h : m_tCq2 n a0 = some r) : Gv P (.func 19) (A_tCq2 a0) (H_tCq2 a0) (V_tCq2 a0 r) (R_tCq2 a0 r) := by
 unfold m_tCq2 at h
 by_cases hc1 : (a0.length : Int) > (524288 : Int)
 ·rw [if_pos hc1] at h
  obtain rfl := oI h; exact runF2 hm (L := lT []) ⟨[2], [], 1, 1, [], false, []⟩ (zz 6 (xdT hc1) ee) (by kernel_rfl)
 ·rw [if_neg hc1] at h
  by_cases hc2 : (a0.length : Int) = (0 : Int)
  ·rw [if_pos hc2] at h
   obtain rfl := oI h; exact runF2 hm (L := lT []) ⟨[2], [], 1, 1, [], false, []⟩ (zz 6 (xdF hc1) <|
zz 12 (xeT hc2) ee) (by kernel_rfl)
  ·rw [if_neg hc2] at h
   obtain ⟨c3_, hc3, h⟩ := Option.bind_eq_some_iff.1 h
   by_cases hc4 : c3_ = true
   ·rw [if_pos hc4] at h
    rcases hc5 : m_tCq2_1 n a0 (a0.length : Int) 0 with _ | (⟨⟩ | ⟨⟩)
    ·rw [hc5] at h; cases h
    ·rw [hc5] at h
     dsimp only at h
     obtain rfl := oI h; exact runF2 hm (L := lT [(25, ⟨⟨[16, 17, 18], [(0, 0, true)], 1, 1, [], false, []⟩, (X_tCq2_1 a0 (a0.length : Int) (.inl ())).1, (X_tCq2_1 a0 (a0.length : Int) (.inl ())).2⟩)]) ⟨[2], [], 1, 1, [], false, []⟩ (zz 6 (xdF hc1) <|
zz 12 (xeF hc2) <|
yy 15 (.call (C_iOq2 a0 c3_ [(0, 0, true)] [])) <|
ww (m_iOq2_ok n a0 c3_ hc3) <|
ww (rows_flat rwf_iiiiiiLu a0 33) <|
yy 16 (vf) <|
ww (p := (Value.bool (!c3_)) = (Value.bool false)) (vBn hc4) <|
ww (p := U_tCq2_1 none a0 (a0.length : Int) 0 (.inl ())) (m_tCq2_1_ok n a0 (a0.length : Int) 0 (.inl ()) hc5) <|
ww (rows_flat rwf_iiiiiiLu a0 33) ee) (by kernel_rfl)
    ·rw [hc5] at h
     dsimp only at h
     obtain rfl := oI h; exact runF2 hm (L := lT [(25, ⟨⟨[16, 17, 18], [(0, 0, true)], 1, 1, [], false, []⟩, (X_tCq2_1 a0 (a0.length : Int) (.inr ())).1, (X_tCq2_1 a0 (a0.length : Int) (.inr ())).2⟩)]) ⟨[2], [], 1, 1, [], false, []⟩ (zz 6 (xdF hc1) <|
zz 12 (xeF hc2) <|
yy 15 (.call (C_iOq2 a0 c3_ [(0, 0, true)] [])) <|
ww (m_iOq2_ok n a0 c3_ hc3) <|
ww (rows_flat rwf_iiiiiiLu a0 33) <|
yy 16 (vf) <|
ww (p := (Value.bool (!c3_)) = (Value.bool false)) (vBn hc4) <|
ww (p := U_tCq2_1 none a0 (a0.length : Int) 0 (.inr ())) (m_tCq2_1_ok n a0 (a0.length : Int) 0 (.inr ()) hc5) <|
ww (rows_flat rwf_iiiiiiLu a0 33) ee) (by kernel_rfl)
   ·rw [if_neg hc4] at h
    obtain rfl := oI h; exact runF2 hm (L := lT []) ⟨[2], [], 1, 1, [], false, []⟩ (zz 6 (xdF hc1) <|
zz 12 (xeF hc2) <|
yy 15 (.call (C_iOq2 a0 c3_ [(0, 0, true)] [])) <|
ww (m_iOq2_ok n a0 c3_ hc3) <|
ww (rows_flat rwf_iiiiiiLu a0 33) <|
yy 16 (vt) <|
ww (p := (Value.bool (!c3_)) = (Value.bool true)) (vBn (Bool.eq_false_iff.2 hc4)) ee) (by kernel_rfl)

def A_vLq1 (a0 : List R8) : List Value := [(sN 0 0 (a0).length (Nat.add big 8))]
def H_vLq1 (a0 : List R8) : AH := ⟨sB [(0, (some (.cells (layT (rows rw_iiiiiiLu a0)) 33)))], 1, 1⟩
def V_vLq1 (a0 : List R8) (r : Unit) : Value := match r with
 | _ => (Value.func (.func 36) #[] #[(pN 1 0)])
def R_vLq1 (a0 : List R8) (r : Unit) : AH := match r with
 | _ => ⟨sB [(0, (some (.cells (layT (rows rw_iiiiiiLu a0)) 33))), (1, (some (.cells (layT [(sN 0 0 (a0).length (Nat.add big 8))]) 22)))], 2, 1⟩
abbrev G_vLq1 (a0 : List R8) (r : Unit) : Prop := Gv P (.func 21) (A_vLq1 a0) (H_vLq1 a0) (V_vLq1 a0 r) (R_vLq1 a0 r)
abbrev C_vLq1 (a0 : List R8) (r : Unit) (ins outs : BL) : CallA := ⟨1, ins, V_vLq1 a0 r, R_vLq1 a0 r, outs⟩
def m_vLq1 (n : Nat) (a0 : List R8) : Option (Unit) :=
 some ()
theorem m_vLq1_ok (n : Nat) (a0 : List R8) (r : Unit) (h : m_vLq1 n a0 = some r) : Gv P (.func 21) (A_vLq1 a0) (H_vLq1 a0) (V_vLq1 a0 r) (R_vLq1 a0 r) := by
 unfold m_vLq1 at h
 obtain rfl := oI h; exact runF2 hm (L := lT []) ⟨[2], [(0, 0, true), (1, 1, false)], 2, 1, [], false, []⟩ (ww (rows_flat rwf_iiiiiiLu a0 33) ee) (by kernel_rfl)

def A_reuseLook1q1 (a0 : Int) (a1 : Int) (a2 : Int) (a3 : Int) (a4 : Int) (a5 : Int) (a6 : Int) (a7 : NL) (a8 : Int) : List Value := [(i6 a0), (Value.agg #[(i6 a1), (i6 a2), (i6 a3), (i6 a4), (i6 a5), (i6 a6), (nlV a7), (Value.int .u64 a8)])]
def H_reuseLook1q1 (a0 : Int) (a1 : Int) (a2 : Int) (a3 : Int) (a4 : Int) (a5 : Int) (a6 : Int) (a7 : NL) (a8 : Int) : AH := ⟨sB [], 0, 0⟩
def V_reuseLook1q1 (a0 : Int) (a1 : Int) (a2 : Int) (a3 : Int) (a4 : Int) (a5 : Int) (a6 : Int) (a7 : NL) (a8 : Int) (r : Unit) : Value := match r with
 | _ => (i6 (maxB a0 a6))
def R_reuseLook1q1 (a0 : Int) (a1 : Int) (a2 : Int) (a3 : Int) (a4 : Int) (a5 : Int) (a6 : Int) (a7 : NL) (a8 : Int) (r : Unit) : AH := match r with
 | _ => ⟨sB [], 0, 0⟩
abbrev G_reuseLook1q1 (a0 : Int) (a1 : Int) (a2 : Int) (a3 : Int) (a4 : Int) (a5 : Int) (a6 : Int) (a7 : NL) (a8 : Int) (r : Unit) : Prop := Gv P (.func 22) (A_reuseLook1q1 a0 a1 a2 a3 a4 a5 a6 a7 a8) (H_reuseLook1q1 a0 a1 a2 a3 a4 a5 a6 a7 a8) (V_reuseLook1q1 a0 a1 a2 a3 a4 a5 a6 a7 a8 r) (R_reuseLook1q1 a0 a1 a2 a3 a4 a5 a6 a7 a8 r)
abbrev C_reuseLook1q1 (a0 : Int) (a1 : Int) (a2 : Int) (a3 : Int) (a4 : Int) (a5 : Int) (a6 : Int) (a7 : NL) (a8 : Int) (r : Unit) (ins outs : BL) : CallA := ⟨0, ins, V_reuseLook1q1 a0 a1 a2 a3 a4 a5 a6 a7 a8 r, R_reuseLook1q1 a0 a1 a2 a3 a4 a5 a6 a7 a8 r, outs⟩
def m_reuseLook1q1 (n : Nat) (a0 : Int) (a1 : Int) (a2 : Int) (a3 : Int) (a4 : Int) (a5 : Int) (a6 : Int) (a7 : NL) (a8 : Int) : Option (Unit) :=
 some ()
theorem m_reuseLook1q1_ok (n : Nat) (a0 : Int) (a1 : Int) (a2 : Int) (a3 : Int) (a4 : Int) (a5 : Int) (a6 : Int) (a7 : NL) (a8 : Int) (r : Unit) (h : m_reuseLook1q1 n a0 a1 a2 a3 a4 a5 a6 a7 a8 = some r) : Gv P (.func 22) (A_reuseLook1q1 a0 a1 a2 a3 a4 a5 a6 a7 a8) (H_reuseLook1q1 a0 a1 a2 a3 a4 a5 a6 a7 a8) (V_reuseLook1q1 a0 a1 a2 a3 a4 a5 a6 a7 a8 r) (R_reuseLook1q1 a0 a1 a2 a3 a4 a5 a6 a7 a8 r) := by
 unfold m_reuseLook1q1 at h
 obtain rfl := oI h; exact runF2 hm (L := lT []) ⟨[4], [], 0, 0, [], false, []⟩ (ee) (by kernel_rfl)

def A_fO_1010y1 (a0 : Int) (a1 : List R8) (a2 : Int) (a3 : Int) (a4 : Int) (a5 : Int) (a6 : Int) (a7 : Int) (a8 : NL) (a9 : Int) : List Value := [(Value.agg #[(i6 a2), (i6 a3), (i6 a4), (i6 a5), (i6 a6), (i6 a7), (nlV a8), (Value.int .u64 a9)])]
def H_fO_1010y1 (a0 : Int) (a1 : List R8) (a2 : Int) (a3 : Int) (a4 : Int) (a5 : Int) (a6 : Int) (a7 : Int) (a8 : NL) (a9 : Int) : AH := ⟨sB [(0, (some (rblk P 20 [false, true, false, true] .ready none [(4, (pN 2 0)), (5, (pN 3 0)), (8, (Value.func (.func 36) #[] #[(pN 4 0)]))] 1))), (1, (some (.marks true))), (2, (some (.cells (layT [(i6 a0)]) 3))), (3, (some (.cells (layT [(Value.func (.func 22) #[] #[])]) 50))), (4, (some (.cells (layT [(sN 5 0 (a1).length (Nat.add big 8))]) 22))), (5, (some (.cells (layT (rows rw_iiiiiiLu a1)) 33)))], 6, 6⟩
def V_fO_1010y1 (a0 : Int) (a1 : List R8) (a2 : Int) (a3 : Int) (a4 : Int) (a5 : Int) (a6 : Int) (a7 : Int) (a8 : NL) (a9 : Int) (r : Unit) : Value := match r with
 | _ => (bO true)
def R_fO_1010y1 (a0 : Int) (a1 : List R8) (a2 : Int) (a3 : Int) (a4 : Int) (a5 : Int) (a6 : Int) (a7 : Int) (a8 : NL) (a9 : Int) (r : Unit) : AH := match r with
 | _ => ⟨sB [(0, (some (rblk P 20 [false, true, false, true] .ready none [(4, (pN 2 0)), (5, (pN 3 0)), (8, (Value.func (.func 36) #[] #[(pN 4 0)]))] 1))), (1, (some (.marks true))), (2, (some (.cells (layT [(i6 (maxB a0 a7))]) 3))), (3, (some (.cells (layT [(Value.func (.func 22) #[] #[])]) 50))), (4, (some (.cells (layT [(sN 5 0 (a1).length (Nat.add big 8))]) 22))), (5, (some (.cells (layT (rows rw_iiiiiiLu a1)) 33)))], 6, 0⟩
abbrev G_fO_1010y1 (a0 : Int) (a1 : List R8) (a2 : Int) (a3 : Int) (a4 : Int) (a5 : Int) (a6 : Int) (a7 : Int) (a8 : NL) (a9 : Int) (r : Unit) : Prop := Gv P (.yield 0) (A_fO_1010y1 a0 a1 a2 a3 a4 a5 a6 a7 a8 a9) (H_fO_1010y1 a0 a1 a2 a3 a4 a5 a6 a7 a8 a9) (V_fO_1010y1 a0 a1 a2 a3 a4 a5 a6 a7 a8 a9 r) (R_fO_1010y1 a0 a1 a2 a3 a4 a5 a6 a7 a8 a9 r)
abbrev C_fO_1010y1 (a0 : Int) (a1 : List R8) (a2 : Int) (a3 : Int) (a4 : Int) (a5 : Int) (a6 : Int) (a7 : Int) (a8 : NL) (a9 : Int) (r : Unit) (ins outs : BL) : CallA := ⟨6, ins, V_fO_1010y1 a0 a1 a2 a3 a4 a5 a6 a7 a8 a9 r, R_fO_1010y1 a0 a1 a2 a3 a4 a5 a6 a7 a8 a9 r, outs⟩
def m_fO_1010y1 (n : Nat) (a0 : Int) (a1 : List R8) (a2 : Int) (a3 : Int) (a4 : Int) (a5 : Int) (a6 : Int) (a7 : Int) (a8 : NL) (a9 : Int) : Option (Unit) :=
 (m_reuseLook1q1 n a0 a2 a3 a4 a5 a6 a7 a8 a9).bind fun _ =>
 some ()
theorem m_fO_1010y1_ok (n : Nat) (a0 : Int) (a1 : List R8) (a2 : Int) (a3 : Int) (a4 : Int) (a5 : Int) (a6 : Int) (a7 : Int) (a8 : NL) (a9 : Int) (r : Unit) (h : m_fO_1010y1 n a0 a1 a2 a3 a4 a5 a6 a7 a8 a9 = some r) : Gv P (.yield 0) (A_fO_1010y1 a0 a1 a2 a3 a4 a5 a6 a7 a8 a9) (H_fO_1010y1 a0 a1 a2 a3 a4 a5 a6 a7 a8 a9) (V_fO_1010y1 a0 a1 a2 a3 a4 a5 a6 a7 a8 a9 r) (R_fO_1010y1 a0 a1 a2 a3 a4 a5 a6 a7 a8 a9 r) := by
 unfold m_fO_1010y1 at h
 obtain ⟨_, hc1, h⟩ := Option.bind_eq_some_iff.1 h
 obtain rfl := oI h; exact runY_ok hm (A1 := aT []) (L1 := lT []) (A2 := aT [(4, .call (C_reuseLook1q1 a0 a2 a3 a4 a5 a6 a7 a8 a9 () [] []))]) (L2 := lT []) (wk := ⟨[], [(0, 0, false), (1, 1, false), (2, 2, false), (3, 3, false), (4, 4, false), (5, 5, true)], 6, 0, [], false, []⟩) (ps := [G_reuseLook1q1 a0 a2 a3 a4 a5 a6 a7 a8 a9 (), FlatB (.cells (layT (rows rw_iiiiiiLu a1)) 33)]) (by kernel_rfl) ⟨(m_reuseLook1q1_ok n a0 a2 a3 a4 a5 a6 a7 a8 a9 () hc1), (rows_flat rwf_iiiiiiLu a1 33), trivial⟩

def A_vL1q1 (a0 : Int) (a1 : List R8) : List Value := [(Value.func (.yield 0) #[] #[]), (pN 4 0)]
def H_vL1q1 (a0 : Int) (a1 : List R8) : AH := ⟨sB [(0, (some (rblk P 20 [false, true, false, true] .ready none [(4, (pN 2 0)), (5, (pN 3 0)), (8, (Value.func (.func 36) #[] #[(pN 4 0)]))] 1))), (1, (some (.marks true))), (2, (some (.cells (layT [(i6 a0)]) 3))), (3, (some (.cells (layT [(Value.func (.func 22) #[] #[])]) 50))), (4, (some (.cells (layT [(sN 5 0 (a1).length (Nat.add big 8))]) 22))), (5, (some (.cells (layT (rows rw_iiiiiiLu a1)) 33)))], 6, 6⟩
def V_vL1q1 (a0 : Int) (a1 : List R8) (r : Int) : Value := match r with
 | o0 => (Value.tuple #[])
def R_vL1q1 (a0 : Int) (a1 : List R8) (r : Int) : AH := match r with
 | o0 => ⟨sB [(0, (some (rblk P 20 [false, true, false, true] .ready none [(4, (pN 2 0)), (5, (pN 3 0)), (8, (Value.func (.func 36) #[] #[(pN 4 0)]))] 1))), (1, (some (.marks true))), (2, (some (.cells (layT [(i6 o0)]) 3))), (3, (some (.cells (layT [(Value.func (.func 22) #[] #[])]) 50))), (4, (some (.cells (layT [(sN 5 0 (a1).length (Nat.add big 8))]) 22))), (5, (some (.cells (layT (rows rw_iiiiiiLu a1)) 33)))], 6, 0⟩
abbrev G_vL1q1 (a0 : Int) (a1 : List R8) (r : Int) : Prop := Gv P (.func 36) (A_vL1q1 a0 a1) (H_vL1q1 a0 a1) (V_vL1q1 a0 a1 r) (R_vL1q1 a0 a1 r)
abbrev C_vL1q1 (a0 : Int) (a1 : List R8) (r : Int) (ins outs : BL) : CallA := ⟨6, ins, V_vL1q1 a0 a1 r, R_vL1q1 a0 a1 r, outs⟩
def S_vL1q1_1 (x1_1 : List R8) (x1_2 : Int) (st : Int × Int) : XSt := match st with
 | (x1_0, x1_3) => (sT 16 [(0, (Value.func (.yield 0) #[] #[])), (5, (sN 5 0 (x1_1).length (Nat.add big 8))), (6, (i6 x1_2)), (7, (i6 x1_3))], [], ⟨sB [(0, (some (rblk P 20 [false, true, false, true] .ready none [(4, (pN 2 0)), (5, (pN 3 0)), (8, (Value.func (.func 36) #[] #[(pN 4 0)]))] 1))), (1, (some (.marks true))), (2, (some (.cells (layT [(i6 x1_0)]) 3))), (3, (some (.cells (layT [(Value.func (.func 22) #[] #[])]) 50))), (4, (some (.cells (layT [(sN 5 0 (x1_1).length (Nat.add big 8))]) 22))), (5, (some (.cells (layT (rows rw_iiiiiiLu x1_1)) 33)))], 6, 0⟩)
def X_vL1q1_1 (x1_1 : List R8) (x1_2 : Int) (r : Int) : Ex × XSt := match r with
 | z1_0 => (.exit 0, (sT 16 [], [], ⟨sB [(0, (some (rblk P 20 [false, true, false, true] .ready none [(4, (pN 2 0)), (5, (pN 3 0)), (8, (Value.func (.func 36) #[] #[(pN 4 0)]))] 1))), (1, (some (.marks true))), (2, (some (.cells (layT [(i6 z1_0)]) 3))), (3, (some (.cells (layT [(Value.func (.func 22) #[] #[])]) 50))), (4, (some (.cells (layT [(sN 5 0 (x1_1).length (Nat.add big 8))]) 22))), (5, (some (.cells (layT (rows rw_iiiiiiLu x1_1)) 33)))], 6, 0⟩))
abbrev Q_vL1q1_1 (rnd : Option Nat) (x1_1 : List R8) (x1_2 : Int) (st : Int × Int) (c : Ex × XSt) : Prop := CG P rnd (fnN P 36) 6 (codeOf P 36 [false, false, true]) (S_vL1q1_1 x1_1 x1_2 st) c
abbrev U_vL1q1_1 (rd : Option Nat) (x1_1 : List R8) (x1_2 : Int) (st : Int × Int) (r : Int) : Prop := CG P rd (fnN P 36) 6 (codeOf P 36 [false, true]) (S_vL1q1_1 x1_1 x1_2 st) (X_vL1q1_1 x1_1 x1_2 r)
def B_vL1q1_1 (n : Nat) (x1_1 : List R8) (x1_2 : Int) (st : Int × Int) : Option ((Int × Int) ⊕ (Int)) := match st with
 | (x1_0, x1_3) =>
  if x1_3 < x1_2 then
   if 0 ≤ x1_3 ∧ x1_3 < (x1_1.length : Int) then
    ((some ((x1_1).getD (x1_3).toNat (0, 0, 0, 0, 0, 0, nl0, 0)))).bind fun y1_3_ =>
    (m_fO_1010y1 n x1_0 x1_1 (y1_3_.1) (y1_3_.2.1) (y1_3_.2.2.1) (y1_3_.2.2.2.1) (y1_3_.2.2.2.2.1) (y1_3_.2.2.2.2.2.1) (y1_3_.2.2.2.2.2.2.1) (y1_3_.2.2.2.2.2.2.2)).bind fun _ =>
    some (.inl ((maxB x1_0 (y1_3_.2.2.2.2.2.1)), (w64 (x1_3 + (1 : Int)))))
   else none
  else
   some (.inr x1_0)
def m_vL1q1_1 (n : Nat) (x1_1 : List R8) (x1_2 : Int) (st : Int × Int) : Option (Int) := iterM (B_vL1q1_1 n x1_1 x1_2) n st
theorem q_vL1q1_1_0 (n : Nat) {rnd : Option Nat} (x1_0 : Int) (x1_1 : List R8) (x1_2 x1_3 : Int) (hy1_1 : x1_3 < x1_2) (hy1_2 : 0 ≤ x1_3 ∧ x1_3 < (x1_1.length : Int)) (y1_3_ : R8) (hy1_3 : (some ((x1_1).getD (x1_3).toNat (0, 0, 0, 0, 0, 0, nl0, 0))) = some y1_3_) (hy1_4 : m_fO_1010y1 n x1_0 x1_1 (y1_3_.1) (y1_3_.2.1) (y1_3_.2.2.1) (y1_3_.2.2.2.1) (y1_3_.2.2.2.2.1) (y1_3_.2.2.2.2.2.1) (y1_3_.2.2.2.2.2.2.1) (y1_3_.2.2.2.2.2.2.2) = some ()) : Q_vL1q1_1 rnd x1_1 x1_2 (x1_0, x1_3) (.normal, S_vL1q1_1 x1_1 x1_2 ((maxB x1_0 (y1_3_.2.2.2.2.2.1)), (w64 (x1_3 + (1 : Int))))) :=
 runC2 hm (L := lT []) ⟨[0, 5, 6, 7], [(0, 0, false), (1, 1, false), (2, 2, false), (3, 3, false), (4, 4, false), (5, 5, true)], 6, 0, [], false, []⟩ (zz 1 (xdT hy1_1) <|
zz 7 (xk22 5 U8 hy1_2) <|
yy 8 (.ld (Value.agg #[(i6 (y1_3_.1)), (i6 (y1_3_.2.1)), (i6 (y1_3_.2.2.1)), (i6 (y1_3_.2.2.2.1)), (i6 (y1_3_.2.2.2.2.1)), (i6 (y1_3_.2.2.2.2.2.1)), (nlV (y1_3_.2.2.2.2.2.2.1)), (Value.int .u64 (y1_3_.2.2.2.2.2.2.2))])) <|
ww (p := rdT (layT (rows rw_iiiiiiLu x1_1)) 8 ((x1_3).toNat * 8) = some [(i6 (y1_3_.1)), (i6 (y1_3_.2.1)), (i6 (y1_3_.2.2.1)), (i6 (y1_3_.2.2.2.1)), (i6 (y1_3_.2.2.2.2.1)), (i6 (y1_3_.2.2.2.2.2.1)), (nlV (y1_3_.2.2.2.2.2.2.1)), (Value.int .u64 (y1_3_.2.2.2.2.2.2.2))]) (rows_rdpN rwf_iiiiiiLu (0, 0, 0, 0, 0, 0, nl0, 0) (hr := hy1_3) (i := (x1_3).toNat) (j := 0) ((x1_3).toNat * 8) rfl (toNatLt hy1_2) (by decide) rfl) <|
yy 14 (.call (C_fO_1010y1 x1_0 x1_1 (y1_3_.1) (y1_3_.2.1) (y1_3_.2.2.1) (y1_3_.2.2.2.1) (y1_3_.2.2.2.2.1) (y1_3_.2.2.2.2.2.1) (y1_3_.2.2.2.2.2.2.1) (y1_3_.2.2.2.2.2.2.2) () [(0, 0, false), (1, 1, false), (2, 2, false), (3, 3, false), (4, 4, false), (5, 5, true)] [(0, 0, false), (1, 1, false), (2, 2, false), (3, 3, false), (4, 4, false), (5, 5, true)])) <|
ww (m_fO_1010y1_ok n x1_0 x1_1 (y1_3_.1) (y1_3_.2.1) (y1_3_.2.2.1) (y1_3_.2.2.2.1) (y1_3_.2.2.2.2.1) (y1_3_.2.2.2.2.2.1) (y1_3_.2.2.2.2.2.2.1) (y1_3_.2.2.2.2.2.2.2) () hy1_4) <|
ww (rows_flat rwf_iiiiiiLu x1_1 33) <|
ww (rows_flat rwf_iiiiiiLu x1_1 33) <|
ww (rows_flat rwf_iiiiiiLu x1_1 33) <|
ee) (by kernel_rfl)
theorem q_vL1q1_1_1 (n : Nat) {rnd : Option Nat} (x1_0 : Int) (x1_1 : List R8) (x1_2 x1_3 : Int) (hy1_1 : ¬ (x1_3 < x1_2)) : Q_vL1q1_1 rnd x1_1 x1_2 (x1_0, x1_3) (X_vL1q1_1 x1_1 x1_2 x1_0) :=
 runC2 hm (L := lT []) ⟨[], [(0, 0, false), (1, 1, false), (2, 2, false), (3, 3, false), (4, 4, false), (5, 5, true)], 6, 0, [], false, []⟩ (zz 1 (xdF hy1_1) <|
ww (rows_flat rwf_iiiiiiLu x1_1 33) <|
ee) (by kernel_rfl)
theorem m_vL1q1_1_ok (n : Nat) {rnd : Option Nat} (x1_1 : List R8) (x1_2 : Int) (st : Int × Int) (r : Int) (h : m_vL1q1_1 n x1_1 x1_2 st = some r) : CG P rnd (fnN P 36) 6 (codeOf P 36 [false, true]) (S_vL1q1_1 x1_1 x1_2 st) (X_vL1q1_1 x1_1 x1_2 r) :=
 CG.iter (b := codeOf P 36 [false, false, true]) (by kernel_rfl) (body := B_vL1q1_1 n x1_1 x1_2) (S := S_vL1q1_1 x1_1 x1_2) (X := X_vL1q1_1 x1_1 x1_2)
  (fun s s' h => by
  obtain ⟨x1_0, x1_3⟩ := s
  unfold B_vL1q1_1 at h
  dsimp only at h
  by_cases hy1_1 : x1_3 < x1_2
  ·rw [if_pos hy1_1] at h
   by_cases hy1_2 : 0 ≤ x1_3 ∧ x1_3 < (x1_1.length : Int)
   ·rw [if_pos hy1_2] at h
    obtain ⟨y1_3_, hy1_3, h⟩ := Option.bind_eq_some_iff.1 h
    obtain ⟨_, hy1_4, h⟩ := Option.bind_eq_some_iff.1 h
    obtain rfl := Sum.inl.inj (oI h); exact q_vL1q1_1_0 n x1_0 x1_1 x1_2 x1_3 hy1_1 hy1_2 y1_3_ hy1_3 hy1_4
   ·rw [if_neg hy1_2] at h; cases h
  ·rw [if_neg hy1_1] at h
   cases h)
  (fun s r h => by
  obtain ⟨x1_0, x1_3⟩ := s
  unfold B_vL1q1_1 at h
  dsimp only at h
  by_cases hy1_1 : x1_3 < x1_2
  ·rw [if_pos hy1_1] at h
   by_cases hy1_2 : 0 ≤ x1_3 ∧ x1_3 < (x1_1.length : Int)
   ·rw [if_pos hy1_2] at h
    obtain ⟨y1_3_, hy1_3, h⟩ := Option.bind_eq_some_iff.1 h
    obtain ⟨_, hy1_4, h⟩ := Option.bind_eq_some_iff.1 h
    cases h
   ·rw [if_neg hy1_2] at h; cases h
  ·rw [if_neg hy1_1] at h
   obtain rfl := Sum.inr.inj (oI h); exact q_vL1q1_1_1 n x1_0 x1_1 x1_2 x1_3 hy1_1)
  (fun r => by intro hx; cases hx) h
def m_vL1q1 (n : Nat) (a0 : Int) (a1 : List R8) : Option (Int) :=
 (m_vL1q1_1 n a1 (a1.length : Int) (a0, 0)).bind fun c1_ =>
 some c1_
theorem m_vL1q1_ok (n : Nat) (a0 : Int) (a1 : List R8) (r : Int) (h : m_vL1q1 n a0 a1 = some r) : Gv P (.func 36) (A_vL1q1 a0 a1) (H_vL1q1 a0 a1) (V_vL1q1 a0 a1 r) (R_vL1q1 a0 a1 r) := by
 unfold m_vL1q1 at h
 obtain ⟨c1_, hc1, h⟩ := Option.bind_eq_some_iff.1 h
 obtain rfl := oI h; exact runF2 hm (L := lT [(5, ⟨⟨[0, 5, 6, 7], [(0, 0, false), (1, 1, false), (2, 2, false), (3, 3, false), (4, 4, false), (5, 5, true)], 6, 0, [], false, []⟩, (X_vL1q1_1 a1 (a1.length : Int) c1_).1, (X_vL1q1_1 a1 (a1.length : Int) c1_).2⟩)]) ⟨[], [(0, 0, false), (1, 1, false), (2, 2, false), (3, 3, false), (4, 4, false), (5, 5, true)], 6, 0, [], false, []⟩ (ww (p := U_vL1q1_1 none a1 (a1.length : Int) (a0, 0) c1_) (m_vL1q1_1_ok n a1 (a1.length : Int) (a0, 0) c1_ hc1) <|
ww (rows_flat rwf_iiiiiiLu a1 33) <|
ww (rows_flat rwf_iiiiiiLu a1 33) ee) (by kernel_rfl)

def A_fOq1 (a0 : List R8) (a1 : Int) : List Value := [(Value.func (.func 36) #[] #[(pN 0 0)]), (i6 a1), (Value.func (.func 22) #[] #[])]
def H_fOq1 (a0 : List R8) (a1 : Int) : AH := ⟨sB [(0, (some (.cells (layT [(sN 1 0 (a0).length (Nat.add big 8))]) 22))), (1, (some (.cells (layT (rows rw_iiiiiiLu a0)) 33)))], 2, 2⟩
def V_fOq1 (a0 : List R8) (a1 : Int) (r : Int) : Value := match r with
 | o0 => (i6 o0)
def R_fOq1 (a0 : List R8) (a1 : Int) (r : Int) : AH := match r with
 | o0 => ⟨sB [(0, (some (.cells (layT [(sN 1 0 (a0).length (Nat.add big 8))]) 22))), (1, (some (.cells (layT (rows rw_iiiiiiLu a0)) 33))), (2, (some (.marks false)))], 3, 0⟩
abbrev G_fOq1 (a0 : List R8) (a1 : Int) (r : Int) : Prop := Gv P (.func 20) (A_fOq1 a0 a1) (H_fOq1 a0 a1) (V_fOq1 a0 a1 r) (R_fOq1 a0 a1 r)
abbrev C_fOq1 (a0 : List R8) (a1 : Int) (r : Int) (ins outs : BL) : CallA := ⟨2, ins, V_fOq1 a0 a1 r, R_fOq1 a0 a1 r, outs⟩
def m_fOq1 (n : Nat) (a0 : List R8) (a1 : Int) : Option (Int) :=
 (m_vL1q1 n a1 a0).bind fun c1_ =>
 some c1_
theorem m_fOq1_ok (n : Nat) (a0 : List R8) (a1 : Int) (r : Int) (h : m_fOq1 n a0 a1 = some r) : Gv P (.func 20) (A_fOq1 a0 a1) (H_fOq1 a0 a1) (V_fOq1 a0 a1 r) (R_fOq1 a0 a1 r) := by
 unfold m_fOq1 at h
 obtain ⟨c1_, hc1, h⟩ := Option.bind_eq_some_iff.1 h
 obtain rfl := oI h; exact runF2 hm (L := lT []) ⟨[6], [(0, 0, false), (1, 1, true), (2, 4, false)], 3, 0, [], false, []⟩ (yy 8 (.rng (C_vL1q1 a1 a0 c1_ [(0, 5, false), (1, 4, false), (2, 2, false), (3, 3, false), (4, 0, false), (5, 1, true)] [(5, 0, false), (4, 1, false), (2, 2, false), (3, 3, false), (0, 4, false), (1, 5, true)]) [4, 5, 8]) <|
ww (m_vL1q1_ok n a1 a0 c1_ hc1) <|
ww (rows_flat rwf_iiiiiiLu a0 33) <|
ww (rows_flat rwf_iiiiiiLu a0 33) <|
ww (rows_flat rwf_iiiiiiLu a0 33) ee) (by kernel_rfl)

def A_reuseLookq1 (a0 : List R8) : List Value := [(sN 0 0 (a0).length (Nat.add big 8))]
def H_reuseLookq1 (a0 : List R8) : AH := ⟨sB [(0, (some (.cells (layT (rows rw_iiiiiiLu a0)) 33)))], 1, 1⟩
def V_reuseLookq1 (a0 : List R8) (r : Int) : Value := match r with
 | o0 => (i6 o0)
def R_reuseLookq1 (a0 : List R8) (r : Int) : AH := match r with
 | o0 => ⟨sB [(0, (some (.cells (layT (rows rw_iiiiiiLu a0)) 33)))], 1, 0⟩
abbrev G_reuseLookq1 (a0 : List R8) (r : Int) : Prop := Gv P (.func 9) (A_reuseLookq1 a0) (H_reuseLookq1 a0) (V_reuseLookq1 a0 r) (R_reuseLookq1 a0 r)
abbrev C_reuseLookq1 (a0 : List R8) (r : Int) (ins outs : BL) : CallA := ⟨1, ins, V_reuseLookq1 a0 r, R_reuseLookq1 a0 r, outs⟩
def m_reuseLookq1 (n : Nat) (a0 : List R8) : Option (Int) :=
 (m_tCq2 n a0).bind fun c1_ =>
 if c1_ = (0 : Int) then
  (m_vLq1 n a0).bind fun _ =>
  (m_fOq1 n a0 0).bind fun c4_ =>
  some c4_
 else
  some 0
theorem m_reuseLookq1_ok (n : Nat) (a0 : List R8) (r : Int) (h : m_reuseLookq1 n a0 = some r) : Gv P (.func 9) (A_reuseLookq1 a0) (H_reuseLookq1 a0) (V_reuseLookq1 a0 r) (R_reuseLookq1 a0 r) := by
 unfold m_reuseLookq1 at h
 obtain ⟨c1_, hc1, h⟩ := Option.bind_eq_some_iff.1 h
 by_cases hc2 : c1_ = (0 : Int)
 ·rw [if_pos hc2] at h
  obtain ⟨_, hc3, h⟩ := Option.bind_eq_some_iff.1 h
  obtain ⟨c4_, hc4, h⟩ := Option.bind_eq_some_iff.1 h
  obtain rfl := oI h; exact runF2 hm (L := lT []) ⟨[2], [(0, 0, true)], 1, 0, [], false, []⟩ (yy 5 (.call (C_tCq2 a0 c1_ [(0, 0, true)] [])) <|
ww (m_tCq2_ok n a0 c1_ hc1) <|
ww (rows_flat rwf_iiiiiiLu a0 33) <|
zz 6 (xnF hc2) <|
yy 10 (.call (C_vLq1 a0 () [(0, 0, true)] [(0, 0, true), (1, 1, false)])) <|
ww (m_vLq1_ok n a0 () hc3) <|
ww (rows_flat rwf_iiiiiiLu a0 33) <|
ww (rows_flat rwf_iiiiiiLu a0 33) <|
yy 11 (.call (C_fOq1 a0 0 c4_ [(0, 1, false), (1, 0, true)] [(1, 0, false), (0, 1, true)])) <|
ww (m_fOq1_ok n a0 0 c4_ hc4) <|
ww (rows_flat rwf_iiiiiiLu a0 33) <|
ww (rows_flat rwf_iiiiiiLu a0 33) <|
ww (rows_flat rwf_iiiiiiLu a0 33) ee) (by kernel_rfl)
 ·rw [if_neg hc2] at h
  obtain rfl := oI h; exact runF2 hm (L := lT []) ⟨[2], [(0, 0, true)], 1, 0, [], false, []⟩ (yy 5 (.call (C_tCq2 a0 c1_ [(0, 0, true)] [])) <|
ww (m_tCq2_ok n a0 c1_ hc1) <|
ww (rows_flat rwf_iiiiiiLu a0 33) <|
zz 6 (xnT hc2) <|
ww (rows_flat rwf_iiiiiiLu a0 33) ee) (by kernel_rfl)

def A_VReuseTakes (g1 : Int) : List Value := [(sW 0 0 (Args.A).length Args.cA), (i6 g1)]
def H_VReuseTakes (g1 : Int) : AH := ⟨sB [], 0, 0⟩
def V_VReuseTakes (g1 : Int) (r : Unit) : Value := match r with
 | _ => (bO true)
def R_VReuseTakes (g1 : Int) (r : Unit) : AH := match r with
 | _ => ⟨sB [], 0, 0⟩
abbrev G_VReuseTakes (g1 : Int) (r : Unit) : Prop := Gv P (.func 3) (A_VReuseTakes g1) (H_VReuseTakes g1) (V_VReuseTakes g1 r) (R_VReuseTakes g1 r)
abbrev C_VReuseTakes (g1 : Int) (r : Unit) (ins outs : BL) : CallA := ⟨0, ins, V_VReuseTakes g1 r, R_VReuseTakes g1 r, outs⟩
def S_VReuseTakes_1 (x1_0 : List R8) (st : Int × Int) : XSt := match st with
 | (x1_1, x1_2) => (sT 100 [(5, (sN 0 0 (x1_0).length (Nat.add big 8))), (7, (i6 x1_1)), (8, (i6 x1_2))], [], ⟨sB [(0, (some (.cells (layT (rows rw_iiiiiiLu x1_0)) 33)))], 1, 0⟩)
def X_VReuseTakes_1 (x1_0 : List R8) (r : Int) : Ex × XSt := match r with
 | z1_0 => (.exit 0, (sT 100 [(5, (sN 0 0 (x1_0).length (Nat.add big 8))), (7, (i6 z1_0))], [], ⟨sB [(0, (some (.cells (layT (rows rw_iiiiiiLu x1_0)) 33)))], 1, 0⟩))
abbrev Q_VReuseTakes_1 (rnd : Option Nat) (x1_0 : List R8) (st : Int × Int) (c : Ex × XSt) : Prop := CG P rnd (fnN P 3) 0 (codeOf P 3 [false, false, true, false, true, true, true, true, true, true, true, true]) (S_VReuseTakes_1 x1_0 st) c
abbrev U_VReuseTakes_1 (rd : Option Nat) (x1_0 : List R8) (st : Int × Int) (r : Int) : Prop := CG P rd (fnN P 3) 0 (codeOf P 3 [false, true, false, true, true, true, true, true, true, true, true]) (S_VReuseTakes_1 x1_0 st) (X_VReuseTakes_1 x1_0 r)
def B_VReuseTakes_1 (n : Nat) (x1_0 : List R8) (st : Int × Int) : Option ((Int × Int) ⊕ (Int)) := match st with
 | (x1_1, x1_2) =>
  if x1_2 < (x1_0.length : Int) then
   if 0 ≤ x1_2 ∧ x1_2 < (x1_0.length : Int) then
    ((some ((x1_0).getD (x1_2).toNat (0, 0, 0, 0, 0, 0, nl0, 0)))).bind fun y1_3_ =>
    if (y1_3_.2.2.2.2.2.2.2) = (0 : Int) then
     some (.inl ((maxB x1_1 (y1_3_.2.2.2.2.2.1)), (w64 (x1_2 + (1 : Int)))))
    else
     none
   else none
  else
   some (.inr x1_1)
def m_VReuseTakes_1 (n : Nat) (x1_0 : List R8) (st : Int × Int) : Option (Int) := iterM (B_VReuseTakes_1 n x1_0) n st
theorem q_VReuseTakes_1_0 (n : Nat) {rnd : Option Nat} (x1_0 : List R8) (x1_1 x1_2 : Int) (hy1_1 : x1_2 < (x1_0.length : Int)) (hy1_2 : 0 ≤ x1_2 ∧ x1_2 < (x1_0.length : Int)) (y1_3_ : R8) (hy1_3 : (some ((x1_0).getD (x1_2).toNat (0, 0, 0, 0, 0, 0, nl0, 0))) = some y1_3_) (hy1_4 : (y1_3_.2.2.2.2.2.2.2) = (0 : Int)) : Q_VReuseTakes_1 rnd x1_0 (x1_1, x1_2) (.normal, S_VReuseTakes_1 x1_0 ((maxB x1_1 (y1_3_.2.2.2.2.2.1)), (w64 (x1_2 + (1 : Int))))) :=
 runC2 hm (L := lT []) ⟨[5, 7, 8], [(0, 0, true)], 1, 0, [], false, []⟩ (zz 5 (xdT hy1_1) <|
zz 13 (xk22 0 U8 hy1_2) <|
zz 15 (ok28 hy1_3 (toNatLt hy1_2)) <|
zz 16 (xnF hy1_4) <|
zz 21 (xk22 0 U8 hy1_2) <|
zz 23 (ok29 hy1_3 (toNatLt hy1_2)) <|
ww (rows_flat rwf_iiiiiiLu x1_0 33) <|
ee) (by kernel_rfl)
theorem q_VReuseTakes_1_1 (n : Nat) {rnd : Option Nat} (x1_0 : List R8) (x1_1 x1_2 : Int) (hy1_1 : ¬ (x1_2 < (x1_0.length : Int))) : Q_VReuseTakes_1 rnd x1_0 (x1_1, x1_2) (X_VReuseTakes_1 x1_0 x1_1) :=
 runC2 hm (L := lT []) ⟨[5, 7], [(0, 0, true)], 1, 0, [], false, []⟩ (zz 5 (xdF hy1_1) <|
ww (rows_flat rwf_iiiiiiLu x1_0 33) <|
ee) (by kernel_rfl)
theorem m_VReuseTakes_1_ok (n : Nat) {rnd : Option Nat} (x1_0 : List R8) (st : Int × Int) (r : Int) (h : m_VReuseTakes_1 n x1_0 st = some r) : CG P rnd (fnN P 3) 0 (codeOf P 3 [false, true, false, true, true, true, true, true, true, true, true]) (S_VReuseTakes_1 x1_0 st) (X_VReuseTakes_1 x1_0 r) :=
 CG.iter (b := codeOf P 3 [false, false, true, false, true, true, true, true, true, true, true, true]) (by kernel_rfl) (body := B_VReuseTakes_1 n x1_0) (S := S_VReuseTakes_1 x1_0) (X := X_VReuseTakes_1 x1_0)
  (fun s s' h => by
  obtain ⟨x1_1, x1_2⟩ := s
  unfold B_VReuseTakes_1 at h
  dsimp only at h
  by_cases hy1_1 : x1_2 < (x1_0.length : Int)
  ·rw [if_pos hy1_1] at h
   by_cases hy1_2 : 0 ≤ x1_2 ∧ x1_2 < (x1_0.length : Int)
   ·rw [if_pos hy1_2] at h
    obtain ⟨y1_3_, hy1_3, h⟩ := Option.bind_eq_some_iff.1 h
    by_cases hy1_4 : (y1_3_.2.2.2.2.2.2.2) = (0 : Int)
    ·rw [if_pos hy1_4] at h
     obtain rfl := Sum.inl.inj (oI h); exact q_VReuseTakes_1_0 n x1_0 x1_1 x1_2 hy1_1 hy1_2 y1_3_ hy1_3 hy1_4
    ·rw [if_neg hy1_4] at h
     cases h
   ·rw [if_neg hy1_2] at h; cases h
  ·rw [if_neg hy1_1] at h
   cases h)
  (fun s r h => by
  obtain ⟨x1_1, x1_2⟩ := s
  unfold B_VReuseTakes_1 at h
  dsimp only at h
  by_cases hy1_1 : x1_2 < (x1_0.length : Int)
  ·rw [if_pos hy1_1] at h
   by_cases hy1_2 : 0 ≤ x1_2 ∧ x1_2 < (x1_0.length : Int)
   ·rw [if_pos hy1_2] at h
    obtain ⟨y1_3_, hy1_3, h⟩ := Option.bind_eq_some_iff.1 h
    by_cases hy1_4 : (y1_3_.2.2.2.2.2.2.2) = (0 : Int)
    ·rw [if_pos hy1_4] at h
     cases h
    ·rw [if_neg hy1_4] at h
     cases h
   ·rw [if_neg hy1_2] at h; cases h
  ·rw [if_neg hy1_1] at h
   obtain rfl := Sum.inr.inj (oI h); exact q_VReuseTakes_1_1 n x1_0 x1_1 x1_2 hy1_1)
  (fun r => by intro hx; cases hx) h
def m_VReuseTakes (n : Nat) (g1 : Int) : Option (Unit) :=
 (m_Vlives n).bind fun _ =>
 (m_LPq1 n 120).bind fun c2_ =>
 if c2_ = true then
  (m_RCheckq1 n).bind fun c4_ =>
  if c4_ = (0 : Int) then
   (m_pKq1 n g1 (Args.A.length : Int)).bind fun c6_ =>
   if 0 ≤ c6_ ∧ c6_ < (Args.A.length : Int) then
    ((some ((Args.A).getD (c6_).toNat (0, 0, 0, 0, 0, 0, nl0, 0)))).bind fun c8_ =>
    match m_reuseTakeq1 n (c8_.1) (c8_.2.2.1) with
    | none => none
    | some (.inl c9_) =>
     (m_RCheckq2 n c9_).bind fun c10_ =>
     if c10_ = (0 : Int) then
      if 0 ≤ (0 : Int) ∧ (0 : Int) < (c9_.length : Int) then
       ((some ((c9_).getD ((0 : Int)).toNat (0, 0, 0, 0, 0, 0, nl0, 0)))).bind fun c13_ =>
       if (c13_.1) = (c8_.1) then
        if (c13_.2.2.1) = (c8_.2.2.1) then
         if (c13_.2.1) = (2 : Int) then
          (m_VReuseTakes_1 n c9_ (0, 0)).bind fun c17_ =>
          (m_reuseLookq1 n c9_).bind fun c18_ =>
          if c18_ = c17_ then
           some ()
          else
           none
         else
          none
        else
         none
       else
        none
      else none
     else
      none
    | some (.inr _) =>
     some ()
   else none
  else
   some ()
 else
  some ()
theorem m_VReuseTakes_ok (n : Nat) (g1 : Int) (r : Unit) (h : m_VReuseTakes n g1 = some r) : Gv P (.func 3) (A_VReuseTakes g1) (H_VReuseTakes g1) (V_VReuseTakes g1 r) (R_VReuseTakes g1 r) := by
 unfold m_VReuseTakes at h
 obtain ⟨_, hc1, h⟩ := Option.bind_eq_some_iff.1 h
 obtain ⟨c2_, hc2, h⟩ := Option.bind_eq_some_iff.1 h
 by_cases hc3 : c2_ = true
 ·rw [if_pos hc3] at h
  obtain ⟨c4_, hc4, h⟩ := Option.bind_eq_some_iff.1 h
  by_cases hc5 : c4_ = (0 : Int)
  ·rw [if_pos hc5] at h
   obtain ⟨c6_, hc6, h⟩ := Option.bind_eq_some_iff.1 h
   by_cases hc7 : 0 ≤ c6_ ∧ c6_ < (Args.A.length : Int)
   ·rw [if_pos hc7] at h
    obtain ⟨c8_, hc8, h⟩ := Option.bind_eq_some_iff.1 h
    rcases hc9 : m_reuseTakeq1 n (c8_.1) (c8_.2.2.1) with _ | (c9_ | ⟨⟩)
    ·rw [hc9] at h; cases h
    ·rw [hc9] at h
     dsimp only at h
     obtain ⟨c10_, hc10, h⟩ := Option.bind_eq_some_iff.1 h
     by_cases hc11 : c10_ = (0 : Int)
     ·rw [if_pos hc11] at h
      by_cases hc12 : 0 ≤ (0 : Int) ∧ (0 : Int) < (c9_.length : Int)
      ·rw [if_pos hc12] at h
       obtain ⟨c13_, hc13, h⟩ := Option.bind_eq_some_iff.1 h
       by_cases hc14 : (c13_.1) = (c8_.1)
       ·rw [if_pos hc14] at h
        by_cases hc15 : (c13_.2.2.1) = (c8_.2.2.1)
        ·rw [if_pos hc15] at h
         by_cases hc16 : (c13_.2.1) = (2 : Int)
         ·rw [if_pos hc16] at h
          obtain ⟨c17_, hc17, h⟩ := Option.bind_eq_some_iff.1 h
          obtain ⟨c18_, hc18, h⟩ := Option.bind_eq_some_iff.1 h
          by_cases hc19 : c18_ = c17_
          ·rw [if_pos hc19] at h
           obtain rfl := oI h; exact runF2 hm (L := lT [(90, ⟨⟨[5, 7, 8], [(0, 0, true)], 1, 0, [], false, []⟩, (X_VReuseTakes_1 c9_ c17_).1, (X_VReuseTakes_1 c9_ c17_).2⟩)]) ⟨[4], [], 0, 0, [], false, []⟩ (yy 4 (.call ⟨0, [], (Value.bool true), Ax.h0, []⟩) <|
ww (m_Vlives_ok n  () hc1) <|
yy 10 (.call (C_LPq1 120 c2_ [] [])) <|
ww (m_LPq1_ok n 120 c2_ hc2) <|
yy 11 (vf) <|
ww (p := (Value.bool (!c2_)) = (Value.bool false)) (vBn hc3) <|
yy 14 (.call (C_RCheckq1  c4_ [] [])) <|
ww (m_RCheckq1_ok n  c4_ hc4) <|
zz 15 (xnF hc5) <|
yy 22 (.call (C_pKq1 g1 (Args.A.length : Int) c6_ [] [])) <|
ww (m_pKq1_ok n g1 (Args.A.length : Int) c6_ hc6) <|
zz 28 (xk1 0 Args.cA hc7) <|
zz 29 (fk13 ((c6_).toNat * 8)) <|
zz 30 (lk14 hc8 (toNatLt hc7)) <|
zz 33 (xk1 0 Args.cA hc7) <|
zz 34 (fk5 ((c6_).toNat * 8)) <|
zz 35 (lk6 hc8 (toNatLt hc7)) <|
yy 36 (.call (C_reuseTakeq1 (c8_.1) (c8_.2.2.1) (.inl c9_) [] [(0, 0, true)])) <|
ww (m_reuseTakeq1_ok n (c8_.1) (c8_.2.2.1) (.inl c9_) hc9) <|
ww (rows_flat rwf_iiiiiiLu c9_ 33) <|
yy 50 (.call (C_RCheckq2 c9_ c10_ [(0, 0, true)] [])) <|
ww (m_RCheckq2_ok n c9_ c10_ hc10) <|
ww (rows_flat rwf_iiiiiiLu c9_ 33) <|
zz 51 (xnF hc11) <|
zz 54 (xk22 0 U8 hc12) <|
zz 56 (ok27 hc13 (toNatLt hc12)) <|
zz 59 (xk1 0 Args.cA hc7) <|
zz 60 (fk13 ((c6_).toNat * 8)) <|
zz 61 (lk14 hc8 (toNatLt hc7)) <|
zz 62 (xnF hc14) <|
zz 66 (xk22 0 U8 hc12) <|
zz 68 (ok24 hc13 (toNatLt hc12)) <|
zz 71 (xk1 0 Args.cA hc7) <|
zz 72 (fk5 ((c6_).toNat * 8)) <|
zz 73 (lk6 hc8 (toNatLt hc7)) <|
zz 74 (xnF hc15) <|
zz 78 (xk22 0 U8 hc12) <|
zz 80 (ok23 hc13 (toNatLt hc12)) <|
zz 81 (xnF hc16) <|
ww (p := U_VReuseTakes_1 none c9_ (0, 0) c17_) (m_VReuseTakes_1_ok n c9_ (0, 0) c17_ hc17) <|
ww (rows_flat rwf_iiiiiiLu c9_ 33) <|
yy 93 (.call (C_reuseLookq1 c9_ c18_ [(0, 0, true)] [(0, 0, true)])) <|
ww (m_reuseLookq1_ok n c9_ c18_ hc18) <|
ww (rows_flat rwf_iiiiiiLu c9_ 33) <|
ww (rows_flat rwf_iiiiiiLu c9_ 33) <|
zz 95 (xeT hc19) ee) (by kernel_rfl)
          ·rw [if_neg hc19] at h
           cases h
         ·rw [if_neg hc16] at h
          cases h
        ·rw [if_neg hc15] at h
         cases h
       ·rw [if_neg hc14] at h
        cases h
      ·rw [if_neg hc12] at h; cases h
     ·rw [if_neg hc11] at h
      cases h
    ·rw [hc9] at h
     dsimp only at h
     obtain rfl := oI h; exact runF2 hm (L := lT []) ⟨[4], [], 0, 0, [], false, []⟩ (yy 4 (.call ⟨0, [], (Value.bool true), Ax.h0, []⟩) <|
ww (m_Vlives_ok n  () hc1) <|
yy 10 (.call (C_LPq1 120 c2_ [] [])) <|
ww (m_LPq1_ok n 120 c2_ hc2) <|
yy 11 (vf) <|
ww (p := (Value.bool (!c2_)) = (Value.bool false)) (vBn hc3) <|
yy 14 (.call (C_RCheckq1  c4_ [] [])) <|
ww (m_RCheckq1_ok n  c4_ hc4) <|
zz 15 (xnF hc5) <|
yy 22 (.call (C_pKq1 g1 (Args.A.length : Int) c6_ [] [])) <|
ww (m_pKq1_ok n g1 (Args.A.length : Int) c6_ hc6) <|
zz 28 (xk1 0 Args.cA hc7) <|
zz 29 (fk13 ((c6_).toNat * 8)) <|
zz 30 (lk14 hc8 (toNatLt hc7)) <|
zz 33 (xk1 0 Args.cA hc7) <|
zz 34 (fk5 ((c6_).toNat * 8)) <|
zz 35 (lk6 hc8 (toNatLt hc7)) <|
yy 36 (.call (C_reuseTakeq1 (c8_.1) (c8_.2.2.1) (.inr ()) [] [])) <|
ww (m_reuseTakeq1_ok n (c8_.1) (c8_.2.2.1) (.inr ()) hc9) ee) (by kernel_rfl)
   ·rw [if_neg hc7] at h; cases h
  ·rw [if_neg hc5] at h
   obtain rfl := oI h; exact runF2 hm (L := lT []) ⟨[4], [], 0, 0, [], false, []⟩ (yy 4 (.call ⟨0, [], (Value.bool true), Ax.h0, []⟩) <|
ww (m_Vlives_ok n  () hc1) <|
yy 10 (.call (C_LPq1 120 c2_ [] [])) <|
ww (m_LPq1_ok n 120 c2_ hc2) <|
yy 11 (vf) <|
ww (p := (Value.bool (!c2_)) = (Value.bool false)) (vBn hc3) <|
yy 14 (.call (C_RCheckq1  c4_ [] [])) <|
ww (m_RCheckq1_ok n  c4_ hc4) <|
zz 15 (xnT hc5) ee) (by kernel_rfl)
 ·rw [if_neg hc3] at h
  obtain rfl := oI h; exact runF2 hm (L := lT []) ⟨[4], [], 0, 0, [], false, []⟩ (yy 4 (.call ⟨0, [], (Value.bool true), Ax.h0, []⟩) <|
ww (m_Vlives_ok n  () hc1) <|
yy 10 (.call (C_LPq1 120 c2_ [] [])) <|
ww (m_LPq1_ok n 120 c2_ hc2) <|
yy 11 (vt) <|
ww (p := (Value.bool (!c2_)) = (Value.bool true)) (vBn (Bool.eq_false_iff.2 hc3)) ee) (by kernel_rfl)

end Go.Proofs.Yteefneejedljmaa.rtk
