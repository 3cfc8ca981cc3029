/-
  What functions do, told by pure functions. No condition.
-/
import Derived.Test.YtoebdapeikdmjaaTclBTold
set_option linter.unusedSimpArgs false
set_option linter.unusedVariables false
set_option linter.unusedSectionVars false
set_option linter.unnecessarySimpa false
set_option maxRecDepth 100000
noncomputable section
namespace Go.Proofs.Ytoebdapeikdmjaa.tcl16
open Go Go.Proofs.Ytoebdapeikdmjaa Ax
variable [Args]
def A_treeStale1q1 (a0 : Int) (a1 : List (Bool)) (a2 : Nat) (a3 : Nat) : List Value := [(i6 a0), (pN 0 0)]
def H_treeStale1q1 (a0 : Int) (a1 : List (Bool)) (a2 : Nat) (a3 : Nat) : AH := ⟨sB [(0, (some (.cells (layT [(sN 1 0 a2 a3)]) 31))), (1, (some (.cells (layT (rows rw_b a1)) 4)))], 2, 2⟩
def V_treeStale1q1 (a0 : Int) (a1 : List (Bool)) (a2 : Nat) (a3 : Nat) (r : Bool) : Value := match r with
 | o0 => (bO o0)
def R_treeStale1q1 (a0 : Int) (a1 : List (Bool)) (a2 : Nat) (a3 : Nat) (r : Bool) : AH := match r with
 | o0 => ⟨sB [], 2, 2⟩
abbrev G_treeStale1q1 (a0 : Int) (a1 : List (Bool)) (a2 : Nat) (a3 : Nat) (r : Bool) : Prop := Gv P (.func 22) (A_treeStale1q1 a0 a1 a2 a3) (H_treeStale1q1 a0 a1 a2 a3) (V_treeStale1q1 a0 a1 a2 a3 r) (R_treeStale1q1 a0 a1 a2 a3 r)
abbrev C_treeStale1q1 (a0 : Int) (a1 : List (Bool)) (a2 : Nat) (a3 : Nat) (r : Bool) (ins outs : BL) : CallA := ⟨2, ins, V_treeStale1q1 a0 a1 a2 a3 r, R_treeStale1q1 a0 a1 a2 a3 r, outs⟩
def m_treeStale1q1 (n : Nat) (a0 : Int) (a1 : List (Bool)) (a2 : Nat) (a3 : Nat) : Option (Bool) :=
 if 0 ≤ a0 ∧ a0 < ((a2 : Nat) : Int) then
  if (a0).toNat < (a1).length then
   ((some ((a1).getD (a0).toNat (false)))).bind fun c3_ =>
   some c3_
  else none
 else none
theorem m_treeStale1q1_ok (n : Nat) (a0 : Int) (a1 : List (Bool)) (a2 : Nat) (a3 : Nat) (r : Bool) (h : m_treeStale1q1 n a0 a1 a2 a3 = some r) : Gv P (.func 22) (A_treeStale1q1 a0 a1 a2 a3) (H_treeStale1q1 a0 a1 a2 a3) (V_treeStale1q1 a0 a1 a2 a3 r) (R_treeStale1q1 a0 a1 a2 a3 r) := by
 unfold m_treeStale1q1 at h
 by_cases hc1 : 0 ≤ a0 ∧ a0 < ((a2 : Nat) : Int)
 ·rw [if_pos hc1] at h
  by_cases hc2 : (a0).toNat < (a1).length
  ·rw [if_pos hc2] at h
   obtain ⟨c3_, hc3, h⟩ := Option.bind_eq_some_iff.1 h
   obtain rfl := oI h; exact (runF2 hm (L := lT []) ⟨[3], [], 2, 2, [], false, []⟩ (zz 5 (xk12 1 a3 hc1) <|
zz 6 (ok13 hc3 (hc2)) ee) (by kernel_rfl))
  ·rw [if_neg hc2] at h; cases h
 ·rw [if_neg hc1] at h; cases h

def A_xFq1 (a0 : NL) (a1 : List (Bool)) (a2 : Nat) (a3 : Nat) : List Value := [(nlV a0), (Value.func (.func 22) #[] #[(pN 0 0)])]
def H_xFq1 (a0 : NL) (a1 : List (Bool)) (a2 : Nat) (a3 : Nat) : AH := ⟨sB [(0, (some (.cells (layT [(sN 1 0 a2 a3)]) 31))), (1, (some (.cells (layT (rows rw_b a1)) 4)))], 2, 2⟩
def V_xFq1 (a0 : NL) (a1 : List (Bool)) (a2 : Nat) (a3 : Nat) (r : Int) : Value := match r with
 | o0 => (i6 o0)
def R_xFq1 (a0 : NL) (a1 : List (Bool)) (a2 : Nat) (a3 : Nat) (r : Int) : AH := match r with
 | o0 => ⟨sB [], 2, 2⟩
abbrev G_xFq1 (a0 : NL) (a1 : List (Bool)) (a2 : Nat) (a3 : Nat) (r : Int) : Prop := Gv P (.func 36) (A_xFq1 a0 a1 a2 a3) (H_xFq1 a0 a1 a2 a3) (V_xFq1 a0 a1 a2 a3 r) (R_xFq1 a0 a1 a2 a3 r)
abbrev C_xFq1 (a0 : NL) (a1 : List (Bool)) (a2 : Nat) (a3 : Nat) (r : Int) (ins outs : BL) : CallA := ⟨2, ins, V_xFq1 a0 a1 a2 a3 r, R_xFq1 a0 a1 a2 a3 r, outs⟩
def S_xFq1_1 (x1_0 : List (Bool)) (x1_1 : Nat) (x1_2 : Nat) (x1_3 : NL) (x1_4 : Int) (st : Int) : XSt := match st with
 | x1_5 => (sT 19 [(0, (nlV x1_3)), (1, (Value.func (.func 22) #[] #[(pN 0 0)])), (7, (i6 x1_4)), (8, (i6 x1_5))], [], ⟨sB [(0, (some (.cells (layT [(sN 1 0 x1_1 x1_2)]) 31))), (1, (some (.cells (layT (rows rw_b x1_0)) 4)))], 2, 2⟩)
def X_xFq1_1 (x1_0 : List (Bool)) (x1_1 : Nat) (x1_2 : Nat) (x1_3 : NL) (x1_4 : Int) (r : (Int) ⊕ (Unit)) : Ex × XSt := match r with
 | .inl z1_0 => (.ret, (sT 19 [(4, (i6 z1_0))], [], ⟨sB [(0, (some (.cells (layT [(sN 1 0 x1_1 x1_2)]) 31))), (1, (some (.cells (layT (rows rw_b x1_0)) 4)))], 2, 2⟩))
 | .inr _ => (.exit 0, (sT 19 [], [], ⟨sB [(0, (some (.cells (layT [(sN 1 0 x1_1 x1_2)]) 31))), (1, (some (.cells (layT (rows rw_b x1_0)) 4)))], 2, 2⟩))
abbrev Q_xFq1_1 (rnd : Option Nat) (x1_0 : List (Bool)) (x1_1 : Nat) (x1_2 : Nat) (x1_3 : NL) (x1_4 : Int) (st : Int) (c : Ex × XSt) : Prop := CG P rnd (fnN P 36) 2 (codeOf P 36 [false, false, true, false, true]) (S_xFq1_1 x1_0 x1_1 x1_2 x1_3 x1_4 st) c
abbrev U_xFq1_1 (rd : Option Nat) (x1_0 : List (Bool)) (x1_1 : Nat) (x1_2 : Nat) (x1_3 : NL) (x1_4 : Int) (st : Int) (r : (Int) ⊕ (Unit)) : Prop := CG P rd (fnN P 36) 2 (codeOf P 36 [false, true, false, true]) (S_xFq1_1 x1_0 x1_1 x1_2 x1_3 x1_4 st) (X_xFq1_1 x1_0 x1_1 x1_2 x1_3 x1_4 r)
def B_xFq1_1 (n : Nat) (x1_0 : List (Bool)) (x1_1 : Nat) (x1_2 : Nat) (x1_3 : NL) (x1_4 : Int) (st : Int) : Option ((Int) ⊕ ((Int) ⊕ (Unit))) := match st with
 | x1_5 =>
  if x1_5 < x1_4 then
   if 0 ≤ x1_5 ∧ x1_5 < (x1_3.l.length : Int) then
    if (x1_5).toNat < ((x1_3).l).length then
     ((some (((x1_3).l).getD (x1_5).toNat 0))).bind fun y1_4_ =>
     (m_treeStale1q1 n y1_4_ x1_0 x1_1 x1_2).bind fun y1_5_ =>
     if y1_5_ = true then
      some (.inr (.inl x1_5))
     else
      some (.inl (w64 (x1_5 + (1 : Int))))
    else none
   else none
  else
   some (.inr (.inr ()))
def m_xFq1_1 (n : Nat) (x1_0 : List (Bool)) (x1_1 : Nat) (x1_2 : Nat) (x1_3 : NL) (x1_4 : Int) (st : Int) : Option ((Int) ⊕ (Unit)) := iterM (B_xFq1_1 n x1_0 x1_1 x1_2 x1_3 x1_4) n st
theorem q_xFq1_1_0 (n : Nat) {rnd : Option Nat} (x1_0 : List (Bool)) (x1_1 x1_2 : Nat) (x1_3 : NL) (x1_4 x1_5 : Int) (hy1_1 : x1_5 < x1_4) (hy1_2 : 0 ≤ x1_5 ∧ x1_5 < (x1_3.l.length : Int)) (hy1_3 : (x1_5).toNat < ((x1_3).l).length) (y1_4_ : Int) (hy1_4 : (some (((x1_3).l).getD (x1_5).toNat 0)) = some y1_4_) (y1_5_ : Bool) (hy1_5 : m_treeStale1q1 n y1_4_ x1_0 x1_1 x1_2 = some y1_5_) (hy1_6 : y1_5_ = true) : Q_xFq1_1 rnd x1_0 x1_1 x1_2 x1_3 x1_4 x1_5 (X_xFq1_1 x1_0 x1_1 x1_2 x1_3 x1_4 (.inl x1_5)) :=
 runC2 hm (L := lT []) ⟨[4], [(0, 0, false), (1, 1, true)], 2, 2, [], false, []⟩ (zz 1 (xdT hy1_1) <|
zz 13 (xk6 (Nat.add (x1_3).num 64) (x1_3).cap hy1_2) <|
zz 14 (nk7 hy1_4 hy1_3) <|
yy 15 (.call (C_treeStale1q1 y1_4_ x1_0 x1_1 x1_2 y1_5_ [(0, 0, false), (1, 1, true)] [])) <|
ww (m_treeStale1q1_ok n y1_4_ x1_0 x1_1 x1_2 y1_5_ hy1_5) <|
ww (rows_flat rwf_b x1_0 4) <|
zz 16 (xbT hy1_6) <|
ww (rows_flat rwf_b x1_0 4) <|
ee) (by kernel_rfl)
theorem q_xFq1_1_1 (n : Nat) {rnd : Option Nat} (x1_0 : List (Bool)) (x1_1 x1_2 : Nat) (x1_3 : NL) (x1_4 x1_5 : Int) (hy1_1 : x1_5 < x1_4) (hy1_2 : 0 ≤ x1_5 ∧ x1_5 < (x1_3.l.length : Int)) (hy1_3 : (x1_5).toNat < ((x1_3).l).length) (y1_4_ : Int) (hy1_4 : (some (((x1_3).l).getD (x1_5).toNat 0)) = some y1_4_) (y1_5_ : Bool) (hy1_5 : m_treeStale1q1 n y1_4_ x1_0 x1_1 x1_2 = some y1_5_) (hy1_6 : ¬ (y1_5_ = true)) : Q_xFq1_1 rnd x1_0 x1_1 x1_2 x1_3 x1_4 x1_5 (.normal, S_xFq1_1 x1_0 x1_1 x1_2 x1_3 x1_4 (w64 (x1_5 + (1 : Int)))) :=
 runC2 hm (L := lT []) ⟨[0, 1, 7, 8], [(0, 0, false), (1, 1, true)], 2, 2, [], false, []⟩ (zz 1 (xdT hy1_1) <|
zz 13 (xk6 (Nat.add (x1_3).num 64) (x1_3).cap hy1_2) <|
zz 14 (nk7 hy1_4 hy1_3) <|
yy 15 (.call (C_treeStale1q1 y1_4_ x1_0 x1_1 x1_2 y1_5_ [(0, 0, false), (1, 1, true)] [])) <|
ww (m_treeStale1q1_ok n y1_4_ x1_0 x1_1 x1_2 y1_5_ hy1_5) <|
ww (rows_flat rwf_b x1_0 4) <|
zz 16 (xbF hy1_6) <|
ww (rows_flat rwf_b x1_0 4) <|
ee) (by kernel_rfl)
theorem q_xFq1_1_2 (n : Nat) {rnd : Option Nat} (x1_0 : List (Bool)) (x1_1 x1_2 : Nat) (x1_3 : NL) (x1_4 x1_5 : Int) (hy1_1 : ¬ (x1_5 < x1_4)) : Q_xFq1_1 rnd x1_0 x1_1 x1_2 x1_3 x1_4 x1_5 (X_xFq1_1 x1_0 x1_1 x1_2 x1_3 x1_4 (.inr ())) :=
 runC2 hm (L := lT []) ⟨[], [(0, 0, false), (1, 1, true)], 2, 2, [], false, []⟩ (zz 1 (xdF hy1_1) <|
ww (rows_flat rwf_b x1_0 4) <|
ee) (by kernel_rfl)
theorem m_xFq1_1_ok (n : Nat) {rnd : Option Nat} (x1_0 : List (Bool)) (x1_1 : Nat) (x1_2 : Nat) (x1_3 : NL) (x1_4 : Int) (st : Int) (r : (Int) ⊕ (Unit)) (h : m_xFq1_1 n x1_0 x1_1 x1_2 x1_3 x1_4 st = some r) : CG P rnd (fnN P 36) 2 (codeOf P 36 [false, true, false, true]) (S_xFq1_1 x1_0 x1_1 x1_2 x1_3 x1_4 st) (X_xFq1_1 x1_0 x1_1 x1_2 x1_3 x1_4 r) :=
 CG.iter (b := codeOf P 36 [false, false, true, false, true]) (by kernel_rfl) (body := B_xFq1_1 n x1_0 x1_1 x1_2 x1_3 x1_4) (S := S_xFq1_1 x1_0 x1_1 x1_2 x1_3 x1_4) (X := X_xFq1_1 x1_0 x1_1 x1_2 x1_3 x1_4)
  (fun x1_5 s' h => by
  unfold B_xFq1_1 at h
  dsimp only at h
  by_cases hy1_1 : x1_5 < x1_4
  ·rw [if_pos hy1_1] at h
   by_cases hy1_2 : 0 ≤ x1_5 ∧ x1_5 < (x1_3.l.length : Int)
   ·rw [if_pos hy1_2] at h
    by_cases hy1_3 : (x1_5).toNat < ((x1_3).l).length
    ·rw [if_pos hy1_3] at h
     obtain ⟨y1_4_, hy1_4, h⟩ := Option.bind_eq_some_iff.1 h
     obtain ⟨y1_5_, hy1_5, h⟩ := Option.bind_eq_some_iff.1 h
     by_cases hy1_6 : y1_5_ = true
     ·rw [if_pos hy1_6] at h
      cases h
     ·rw [if_neg hy1_6] at h
      obtain rfl := Sum.inl.inj (oI h); exact q_xFq1_1_1 n x1_0 x1_1 x1_2 x1_3 x1_4 x1_5 hy1_1 hy1_2 hy1_3 y1_4_ hy1_4 y1_5_ hy1_5 hy1_6
    ·rw [if_neg hy1_3] at h; cases h
   ·rw [if_neg hy1_2] at h; cases h
  ·rw [if_neg hy1_1] at h
   cases h)
  (fun x1_5 r h => by
  unfold B_xFq1_1 at h
  dsimp only at h
  by_cases hy1_1 : x1_5 < x1_4
  ·rw [if_pos hy1_1] at h
   by_cases hy1_2 : 0 ≤ x1_5 ∧ x1_5 < (x1_3.l.length : Int)
   ·rw [if_pos hy1_2] at h
    by_cases hy1_3 : (x1_5).toNat < ((x1_3).l).length
    ·rw [if_pos hy1_3] at h
     obtain ⟨y1_4_, hy1_4, h⟩ := Option.bind_eq_some_iff.1 h
     obtain ⟨y1_5_, hy1_5, h⟩ := Option.bind_eq_some_iff.1 h
     by_cases hy1_6 : y1_5_ = true
     ·rw [if_pos hy1_6] at h
      obtain rfl := Sum.inr.inj (oI h); exact q_xFq1_1_0 n x1_0 x1_1 x1_2 x1_3 x1_4 x1_5 hy1_1 hy1_2 hy1_3 y1_4_ hy1_4 y1_5_ hy1_5 hy1_6
     ·rw [if_neg hy1_6] at h
      cases h
    ·rw [if_neg hy1_3] at h; cases h
   ·rw [if_neg hy1_2] at h; cases h
  ·rw [if_neg hy1_1] at h
   obtain rfl := Sum.inr.inj (oI h); exact q_xFq1_1_2 n x1_0 x1_1 x1_2 x1_3 x1_4 x1_5 hy1_1)
  (fun r => by intro hx; rcases r with _ | _ <;> cases hx) h
def m_xFq1 (n : Nat) (a0 : NL) (a1 : List (Bool)) (a2 : Nat) (a3 : Nat) : Option (Int) :=
 match m_xFq1_1 n a1 a2 a3 a0 (a0.l.length : Int) 0 with
 | none => none
 | some (.inl c1_) =>
  some c1_
 | some (.inr _) =>
  some (-1)
theorem m_xFq1_ok (n : Nat) (a0 : NL) (a1 : List (Bool)) (a2 : Nat) (a3 : Nat) (r : Int) (h : m_xFq1 n a0 a1 a2 a3 = some r) : Gv P (.func 36) (A_xFq1 a0 a1 a2 a3) (H_xFq1 a0 a1 a2 a3) (V_xFq1 a0 a1 a2 a3 r) (R_xFq1 a0 a1 a2 a3 r) := by
 unfold m_xFq1 at h
 rcases hc1 : m_xFq1_1 n a1 a2 a3 a0 (a0.l.length : Int) 0 with _ | (c1_ | ⟨⟩)
 ·rw [hc1] at h; cases h
 ·rw [hc1] at h
  dsimp only at h
  obtain rfl := oI h; exact (runF2 hm (L := lT [(8, ⟨⟨[0, 1, 7, 8], [(0, 0, false), (1, 1, true)], 2, 2, [], false, []⟩, (X_xFq1_1 a1 a2 a3 a0 (a0.l.length : Int) (.inl c1_)).1, (X_xFq1_1 a1 a2 a3 a0 (a0.l.length : Int) (.inl c1_)).2⟩)]) ⟨[4], [], 2, 2, [], false, []⟩ (ww (p := U_xFq1_1 none a1 a2 a3 a0 (a0.l.length : Int) 0 (.inl c1_)) (m_xFq1_1_ok n a1 a2 a3 a0 (a0.l.length : Int) 0 (.inl c1_) hc1) <|
ww (rows_flat rwf_b a1 4) ee) (by kernel_rfl))
 ·rw [hc1] at h
  dsimp only at h
  obtain rfl := oI h; exact (runF2 hm (L := lT [(8, ⟨⟨[0, 1, 7, 8], [(0, 0, false), (1, 1, true)], 2, 2, [], false, []⟩, (X_xFq1_1 a1 a2 a3 a0 (a0.l.length : Int) (.inr ())).1, (X_xFq1_1 a1 a2 a3 a0 (a0.l.length : Int) (.inr ())).2⟩)]) ⟨[4], [], 2, 2, [], false, []⟩ (ww (p := U_xFq1_1 none a1 a2 a3 a0 (a0.l.length : Int) 0 (.inr ())) (m_xFq1_1_ok n a1 a2 a3 a0 (a0.l.length : Int) 0 (.inr ()) hc1) <|
ww (rows_flat rwf_b a1 4) ee) (by kernel_rfl))

def A_cFq1 (a0 : NL) (a1 : List (Bool)) (a2 : Nat) (a3 : Nat) : List Value := [(nlV a0), (Value.func (.func 22) #[] #[(pN 0 0)])]
def H_cFq1 (a0 : NL) (a1 : List (Bool)) (a2 : Nat) (a3 : Nat) : AH := ⟨sB [(0, (some (.cells (layT [(sN 1 0 a2 a3)]) 31))), (1, (some (.cells (layT (rows rw_b a1)) 4)))], 2, 2⟩
def V_cFq1 (a0 : NL) (a1 : List (Bool)) (a2 : Nat) (a3 : Nat) (r : Bool) : Value := match r with
 | o0 => (bO o0)
def R_cFq1 (a0 : NL) (a1 : List (Bool)) (a2 : Nat) (a3 : Nat) (r : Bool) : AH := match r with
 | o0 => ⟨sB [], 2, 2⟩
abbrev G_cFq1 (a0 : NL) (a1 : List (Bool)) (a2 : Nat) (a3 : Nat) (r : Bool) : Prop := Gv P (.func 21) (A_cFq1 a0 a1 a2 a3) (H_cFq1 a0 a1 a2 a3) (V_cFq1 a0 a1 a2 a3 r) (R_cFq1 a0 a1 a2 a3 r)
abbrev C_cFq1 (a0 : NL) (a1 : List (Bool)) (a2 : Nat) (a3 : Nat) (r : Bool) (ins outs : BL) : CallA := ⟨2, ins, V_cFq1 a0 a1 a2 a3 r, R_cFq1 a0 a1 a2 a3 r, outs⟩
def m_cFq1 (n : Nat) (a0 : NL) (a1 : List (Bool)) (a2 : Nat) (a3 : Nat) : Option (Bool) :=
 (m_xFq1 n a0 a1 a2 a3).bind fun c1_ =>
 if c1_ ≥ (0 : Int) then
  some true
 else
  some false
theorem m_cFq1_ok (n : Nat) (a0 : NL) (a1 : List (Bool)) (a2 : Nat) (a3 : Nat) (r : Bool) (h : m_cFq1 n a0 a1 a2 a3 = some r) : Gv P (.func 21) (A_cFq1 a0 a1 a2 a3) (H_cFq1 a0 a1 a2 a3) (V_cFq1 a0 a1 a2 a3 r) (R_cFq1 a0 a1 a2 a3 r) := by
 unfold m_cFq1 at h
 obtain ⟨c1_, hc1, h⟩ := Option.bind_eq_some_iff.1 h
 by_cases hc2 : c1_ ≥ (0 : Int)
 ·rw [if_pos hc2] at h
  obtain rfl := oI h; exact (runF2 hm (L := lT []) ⟨[4], [], 2, 2, [], false, []⟩ (yy 5 (.call (C_xFq1 a0 a1 a2 a3 c1_ [(0, 0, false), (1, 1, true)] [])) <|
ww (m_xFq1_ok n a0 a1 a2 a3 c1_ hc1) <|
ww (rows_flat rwf_b a1 4) <|
zz 6 (xdT hc2) ee) (by kernel_rfl))
 ·rw [if_neg hc2] at h
  obtain rfl := oI h; exact (runF2 hm (L := lT []) ⟨[4], [], 2, 2, [], false, []⟩ (yy 5 (.call (C_xFq1 a0 a1 a2 a3 c1_ [(0, 0, false), (1, 1, true)] [])) <|
ww (m_xFq1_ok n a0 a1 a2 a3 c1_ hc1) <|
ww (rows_flat rwf_b a1 4) <|
zz 6 (xdF hc2) ee) (by kernel_rfl))

def A_treeStale_111010y1 (a0 : List (Bool)) (a1 : Nat) (a2 : Nat) (a3 : List R8) (a4 : Nat) (a5 : Nat) (a6 : Int) (a7 : Int) (a8 : Int) (a9 : Int) (a10 : Int) (a11 : Int) (a12 : Int) (a13 : NL) (a14 : Int) : List Value := [(i6 a6), (Value.agg #[(i6 a7), (i6 a8), (i6 a9), (i6 a10), (i6 a11), (i6 a12), (nlV a13), (Value.int .u64 a14)])]
def H_treeStale_111010y1 (a0 : List (Bool)) (a1 : Nat) (a2 : Nat) (a3 : List R8) (a4 : Nat) (a5 : Nat) (a6 : Int) (a7 : Int) (a8 : Int) (a9 : Int) (a10 : Int) (a11 : Int) (a12 : Int) (a13 : NL) (a14 : Int) : AH := ⟨sB [(0, (some (rblk P 8 [false, true, false, true, true, true] .ready none [(3, (pN 2 0)), (13, (Value.func (.func 30) #[] #[(pN 4 0)]))] 1))), (1, (some (.marks true))), (2, (some (.cells (layT [(sN 3 0 a1 a2)]) 31))), (3, (some (.cells (layT (rows rw_b a0)) 4))), (4, (some (.cells (layT [(sN 5 0 a4 a5)]) 22))), (5, (some (.cells (layT (rows rw_iiiiiiLu a3)) 37)))], 6, 6⟩
def V_treeStale_111010y1 (a0 : List (Bool)) (a1 : Nat) (a2 : Nat) (a3 : List R8) (a4 : Nat) (a5 : Nat) (a6 : Int) (a7 : Int) (a8 : Int) (a9 : Int) (a10 : Int) (a11 : Int) (a12 : Int) (a13 : NL) (a14 : Int) (r : List (Bool)) : Value := match r with
 | o0 => (bO true)
def R_treeStale_111010y1 (a0 : List (Bool)) (a1 : Nat) (a2 : Nat) (a3 : List R8) (a4 : Nat) (a5 : Nat) (a6 : Int) (a7 : Int) (a8 : Int) (a9 : Int) (a10 : Int) (a11 : Int) (a12 : Int) (a13 : NL) (a14 : Int) (r : List (Bool)) : AH := match r with
 | o0 => ⟨sB [(0, (some (rblk P 8 [false, true, false, true, true, true] .ready none [(3, (pN 2 0)), (13, (Value.func (.func 30) #[] #[(pN 4 0)]))] 1))), (1, (some (.marks true))), (2, (some (.cells (layT [(sN 3 0 a1 a2)]) 31))), (3, (some (.cells (layT (rows rw_b o0)) 4))), (4, (some (.cells (layT [(sN 5 0 a4 a5)]) 22))), (5, (some (.cells (layT (rows rw_iiiiiiLu a3)) 37)))], 6, 0⟩
abbrev G_treeStale_111010y1 (a0 : List (Bool)) (a1 : Nat) (a2 : Nat) (a3 : List R8) (a4 : Nat) (a5 : Nat) (a6 : Int) (a7 : Int) (a8 : Int) (a9 : Int) (a10 : Int) (a11 : Int) (a12 : Int) (a13 : NL) (a14 : Int) (r : List (Bool)) : Prop := Gv P (.yield 0) (A_treeStale_111010y1 a0 a1 a2 a3 a4 a5 a6 a7 a8 a9 a10 a11 a12 a13 a14) (H_treeStale_111010y1 a0 a1 a2 a3 a4 a5 a6 a7 a8 a9 a10 a11 a12 a13 a14) (V_treeStale_111010y1 a0 a1 a2 a3 a4 a5 a6 a7 a8 a9 a10 a11 a12 a13 a14 r) (R_treeStale_111010y1 a0 a1 a2 a3 a4 a5 a6 a7 a8 a9 a10 a11 a12 a13 a14 r)
abbrev C_treeStale_111010y1 (a0 : List (Bool)) (a1 : Nat) (a2 : Nat) (a3 : List R8) (a4 : Nat) (a5 : Nat) (a6 : Int) (a7 : Int) (a8 : Int) (a9 : Int) (a10 : Int) (a11 : Int) (a12 : Int) (a13 : NL) (a14 : Int) (r : List (Bool)) (ins outs : BL) : CallA := ⟨6, ins, V_treeStale_111010y1 a0 a1 a2 a3 a4 a5 a6 a7 a8 a9 a10 a11 a12 a13 a14 r, R_treeStale_111010y1 a0 a1 a2 a3 a4 a5 a6 a7 a8 a9 a10 a11 a12 a13 a14 r, outs⟩
def m_treeStale_111010y1 (n : Nat) (a0 : List (Bool)) (a1 : Nat) (a2 : Nat) (a3 : List R8) (a4 : Nat) (a5 : Nat) (a6 : Int) (a7 : Int) (a8 : Int) (a9 : Int) (a10 : Int) (a11 : Int) (a12 : Int) (a13 : NL) (a14 : Int) : Option (List (Bool)) :=
 if a14 = (0 : Int) then
  (m_cFq1 n a13 a0 a1 a2).bind fun c2_ =>
  if 0 ≤ a6 ∧ a6 < ((a1 : Nat) : Int) then
   if (a6).toNat < (a0).length then
    some ((a0).set (a6).toNat c2_)
   else none
  else none
 else
  if 0 ≤ a6 ∧ a6 < ((a1 : Nat) : Int) then
   if (a6).toNat < (a0).length then
    some ((a0).set (a6).toNat true)
   else none
  else none
theorem m_treeStale_111010y1_ok (n : Nat) (a0 : List (Bool)) (a1 : Nat) (a2 : Nat) (a3 : List R8) (a4 : Nat) (a5 : Nat) (a6 : Int) (a7 : Int) (a8 : Int) (a9 : Int) (a10 : Int) (a11 : Int) (a12 : Int) (a13 : NL) (a14 : Int) (r : List (Bool)) (h : m_treeStale_111010y1 n a0 a1 a2 a3 a4 a5 a6 a7 a8 a9 a10 a11 a12 a13 a14 = some r) : Gv P (.yield 0) (A_treeStale_111010y1 a0 a1 a2 a3 a4 a5 a6 a7 a8 a9 a10 a11 a12 a13 a14) (H_treeStale_111010y1 a0 a1 a2 a3 a4 a5 a6 a7 a8 a9 a10 a11 a12 a13 a14) (V_treeStale_111010y1 a0 a1 a2 a3 a4 a5 a6 a7 a8 a9 a10 a11 a12 a13 a14 r) (R_treeStale_111010y1 a0 a1 a2 a3 a4 a5 a6 a7 a8 a9 a10 a11 a12 a13 a14 r) := by
 unfold m_treeStale_111010y1 at h
 by_cases hc1 : a14 = (0 : Int)
 ·rw [if_pos hc1] at h
  obtain ⟨c2_, hc2, h⟩ := Option.bind_eq_some_iff.1 h
  by_cases hc3 : 0 ≤ a6 ∧ a6 < ((a1 : Nat) : Int)
  ·rw [if_pos hc3] at h
   by_cases hc4 : (a6).toNat < (a0).length
   ·rw [if_pos hc4] at h
    obtain rfl := oI h; exact (runY_ok hm (A1 := aT []) (L1 := lT []) (A2 := aT [(5, vf), (10, .call (C_cFq1 a13 a0 a1 a2 c2_ [(0, 2, false), (1, 3, true)] [])), (12, .pur (pN 3 ((a6).toNat * 1))), (13, .sto (layT (rows rw_b ((a0).set (a6).toNat c2_))))]) (L2 := lT []) (wk := ⟨[], [(0, 0, false), (1, 1, false), (2, 2, false), (3, 3, true), (4, 4, false), (5, 5, true)], 6, 0, [], false, []⟩) (ps := [nF a14 0, G_cFq1 a13 a0 a1 a2 c2_, FlatB (.cells (layT (rows rw_b a0)) 4), xp12 3 a1 a2 a6, ∃ old, rdT (layT (rows rw_b a0)) 1 ((a6).toNat * 1) = some old, layL [(bO c2_)] ((a6).toNat * 1) (layT (rows rw_b a0)) = layT (rows rw_b ((a0).set (a6).toNat c2_)), FlatB (.cells (layT (rows rw_b ((a0).set (a6).toNat c2_))) 4), FlatB (.cells (layT (rows rw_iiiiiiLu a3)) 37)]) (by kernel_rfl) ⟨((xnF hc1).p), (m_cFq1_ok n a13 a0 a1 a2 c2_ hc2), (rows_flat rwf_b a0 4), ((xk12 3 a2 hc3).p), (Exists.elim (rows_st rwf_b (false) (i := (a6).toNat) (j := 0) (l := [(bO c2_)]) c2_ ((a6).toNat * 1) rfl (hc4) (Nat.le_of_ble_eq_true rfl) rfl) fun o h => ⟨o, h.1⟩), (Exists.elim (rows_st rwf_b (false) (i := (a6).toNat) (j := 0) (l := [(bO c2_)]) c2_ ((a6).toNat * 1) rfl (hc4) (Nat.le_of_ble_eq_true rfl) rfl) fun o h => h.2), (rows_flat rwf_b ((a0).set (a6).toNat c2_) 4), (rows_flat rwf_iiiiiiLu a3 37), trivial⟩)
   ·rw [if_neg hc4] at h; cases h
  ·rw [if_neg hc3] at h; cases h
 ·rw [if_neg hc1] at h
  by_cases hc2 : 0 ≤ a6 ∧ a6 < ((a1 : Nat) : Int)
  ·rw [if_pos hc2] at h
   by_cases hc3 : (a6).toNat < (a0).length
   ·rw [if_pos hc3] at h
    obtain rfl := oI h; exact (runY_ok hm (A1 := aT []) (L1 := lT []) (A2 := aT [(5, vt), (12, .pur (pN 3 ((a6).toNat * 1))), (13, .sto (layT (rows rw_b ((a0).set (a6).toNat true))))]) (L2 := lT []) (wk := ⟨[], [(0, 0, false), (1, 1, false), (2, 2, false), (3, 3, true), (4, 4, false), (5, 5, true)], 6, 0, [], false, []⟩) (ps := [nT a14 0, xp12 3 a1 a2 a6, ∃ old, rdT (layT (rows rw_b a0)) 1 ((a6).toNat * 1) = some old, layL [(bO true)] ((a6).toNat * 1) (layT (rows rw_b a0)) = layT (rows rw_b ((a0).set (a6).toNat true)), FlatB (.cells (layT (rows rw_b ((a0).set (a6).toNat true))) 4), FlatB (.cells (layT (rows rw_iiiiiiLu a3)) 37)]) (by kernel_rfl) ⟨((xnT hc1).p), ((xk12 3 a2 hc2).p), (Exists.elim (rows_st rwf_b (false) (i := (a6).toNat) (j := 0) (l := [(bO true)]) true ((a6).toNat * 1) rfl (hc3) (Nat.le_of_ble_eq_true rfl) rfl) fun o h => ⟨o, h.1⟩), (Exists.elim (rows_st rwf_b (false) (i := (a6).toNat) (j := 0) (l := [(bO true)]) true ((a6).toNat * 1) rfl (hc3) (Nat.le_of_ble_eq_true rfl) rfl) fun o h => h.2), (rows_flat rwf_b ((a0).set (a6).toNat true) 4), (rows_flat rwf_iiiiiiLu a3 37), trivial⟩)
   ·rw [if_neg hc3] at h; cases h
  ·rw [if_neg hc2] at h; cases h

def A_bK1q2 (a0 : List (Bool)) (a1 : Nat) (a2 : Nat) (a3 : List R8) (a4 : Nat) (a5 : Nat) : List Value := [(Value.func (.yield 0) #[] #[]), (pN 4 0)]
def H_bK1q2 (a0 : List (Bool)) (a1 : Nat) (a2 : Nat) (a3 : List R8) (a4 : Nat) (a5 : Nat) : AH := ⟨sB [(0, (some (rblk P 8 [false, true, false, true, true, true] .ready none [(3, (pN 2 0)), (13, (Value.func (.func 30) #[] #[(pN 4 0)]))] 1))), (1, (some (.marks true))), (2, (some (.cells (layT [(sN 3 0 a1 a2)]) 31))), (3, (some (.cells (layT (rows rw_b a0)) 4))), (4, (some (.cells (layT [(sN 5 0 a4 a5)]) 22))), (5, (some (.cells (layT (rows rw_iiiiiiLu a3)) 37)))], 6, 6⟩
def V_bK1q2 (a0 : List (Bool)) (a1 : Nat) (a2 : Nat) (a3 : List R8) (a4 : Nat) (a5 : Nat) (r : List (Bool)) : Value := match r with
 | o0 => (Value.tuple #[])
def R_bK1q2 (a0 : List (Bool)) (a1 : Nat) (a2 : Nat) (a3 : List R8) (a4 : Nat) (a5 : Nat) (r : List (Bool)) : AH := match r with
 | o0 => ⟨sB [(0, (some (rblk P 8 [false, true, false, true, true, true] .ready none [(3, (pN 2 0)), (13, (Value.func (.func 30) #[] #[(pN 4 0)]))] 1))), (1, (some (.marks true))), (2, (some (.cells (layT [(sN 3 0 a1 a2)]) 31))), (3, (some (.cells (layT (rows rw_b o0)) 4))), (4, (some (.cells (layT [(sN 5 0 a4 a5)]) 22))), (5, (some (.cells (layT (rows rw_iiiiiiLu a3)) 37)))], 6, 0⟩
abbrev G_bK1q2 (a0 : List (Bool)) (a1 : Nat) (a2 : Nat) (a3 : List R8) (a4 : Nat) (a5 : Nat) (r : List (Bool)) : Prop := Gv P (.func 30) (A_bK1q2 a0 a1 a2 a3 a4 a5) (H_bK1q2 a0 a1 a2 a3 a4 a5) (V_bK1q2 a0 a1 a2 a3 a4 a5 r) (R_bK1q2 a0 a1 a2 a3 a4 a5 r)
abbrev C_bK1q2 (a0 : List (Bool)) (a1 : Nat) (a2 : Nat) (a3 : List R8) (a4 : Nat) (a5 : Nat) (r : List (Bool)) (ins outs : BL) : CallA := ⟨6, ins, V_bK1q2 a0 a1 a2 a3 a4 a5 r, R_bK1q2 a0 a1 a2 a3 a4 a5 r, outs⟩
def S_bK1q2_1 (x1_1 : Nat) (x1_2 : Nat) (x1_3 : List R8) (x1_4 : Nat) (x1_5 : Nat) (st : List (Bool) × Int) : XSt := match st with
 | (x1_0, x1_6) => (sT 19 [(0, (Value.func (.yield 0) #[] #[])), (1, (pN 4 0)), (3, (i6 x1_6))], [], ⟨sB [(0, (some (rblk P 8 [false, true, false, true, true, true] .ready none [(3, (pN 2 0)), (13, (Value.func (.func 30) #[] #[(pN 4 0)]))] 1))), (1, (some (.marks true))), (2, (some (.cells (layT [(sN 3 0 x1_1 x1_2)]) 31))), (3, (some (.cells (layT (rows rw_b x1_0)) 4))), (4, (some (.cells (layT [(sN 5 0 x1_4 x1_5)]) 22))), (5, (some (.cells (layT (rows rw_iiiiiiLu x1_3)) 37)))], 6, 0⟩)
def X_bK1q2_1 (x1_1 : Nat) (x1_2 : Nat) (x1_3 : List R8) (x1_4 : Nat) (x1_5 : Nat) (r : List (Bool)) : Ex × XSt := match r with
 | z1_0 => (.exit 0, (sT 19 [], [], ⟨sB [(0, (some (rblk P 8 [false, true, false, true, true, true] .ready none [(3, (pN 2 0)), (13, (Value.func (.func 30) #[] #[(pN 4 0)]))] 1))), (1, (some (.marks true))), (2, (some (.cells (layT [(sN 3 0 x1_1 x1_2)]) 31))), (3, (some (.cells (layT (rows rw_b z1_0)) 4))), (4, (some (.cells (layT [(sN 5 0 x1_4 x1_5)]) 22))), (5, (some (.cells (layT (rows rw_iiiiiiLu x1_3)) 37)))], 6, 0⟩))
abbrev Q_bK1q2_1 (rnd : Option Nat) (x1_1 : Nat) (x1_2 : Nat) (x1_3 : List R8) (x1_4 : Nat) (x1_5 : Nat) (st : List (Bool) × Int) (c : Ex × XSt) : Prop := CG P rnd (fnN P 30) 6 (codeOf P 30 [false, false, true]) (S_bK1q2_1 x1_1 x1_2 x1_3 x1_4 x1_5 st) c
abbrev U_bK1q2_1 (rd : Option Nat) (x1_1 : Nat) (x1_2 : Nat) (x1_3 : List R8) (x1_4 : Nat) (x1_5 : Nat) (st : List (Bool) × Int) (r : List (Bool)) : Prop := CG P rd (fnN P 30) 6 (codeOf P 30 [false, true]) (S_bK1q2_1 x1_1 x1_2 x1_3 x1_4 x1_5 st) (X_bK1q2_1 x1_1 x1_2 x1_3 x1_4 x1_5 r)
def B_bK1q2_1 (n : Nat) (x1_1 : Nat) (x1_2 : Nat) (x1_3 : List R8) (x1_4 : Nat) (x1_5 : Nat) (st : List (Bool) × Int) : Option ((List (Bool) × Int) ⊕ (List (Bool))) := match st with
 | (x1_0, x1_6) =>
  if x1_6 ≥ (0 : Int) then
   if 0 ≤ x1_6 ∧ x1_6 < ((x1_4 : Nat) : Int) then
    if (x1_6).toNat < (x1_3).length then
     ((some ((x1_3).getD (x1_6).toNat (0, 0, 0, 0, 0, 0, nl0, 0)))).bind fun y1_4_ =>
     (m_treeStale_111010y1 n x1_0 x1_1 x1_2 x1_3 x1_4 x1_5 x1_6 (y1_4_.1) (y1_4_.2.1) (y1_4_.2.2.1) (y1_4_.2.2.2.1) (y1_4_.2.2.2.2.1) (y1_4_.2.2.2.2.2.1) (y1_4_.2.2.2.2.2.2.1) (y1_4_.2.2.2.2.2.2.2)).bind fun y1_5_ =>
     some (.inl (y1_5_, (w64 (x1_6 - (1 : Int)))))
    else none
   else none
  else
   some (.inr x1_0)
def m_bK1q2_1 (n : Nat) (x1_1 : Nat) (x1_2 : Nat) (x1_3 : List R8) (x1_4 : Nat) (x1_5 : Nat) (st : List (Bool) × Int) : Option (List (Bool)) := iterM (B_bK1q2_1 n x1_1 x1_2 x1_3 x1_4 x1_5) n st
theorem q_bK1q2_1_0 (n : Nat) {rnd : Option Nat} (x1_0 : List (Bool)) (x1_1 x1_2 : Nat) (x1_3 : List R8) (x1_4 x1_5 : Nat) (x1_6 : Int) (hy1_1 : x1_6 ≥ (0 : Int)) (hy1_2 : 0 ≤ x1_6 ∧ x1_6 < ((x1_4 : Nat) : Int)) (hy1_3 : (x1_6).toNat < (x1_3).length) (y1_4_ : R8) (hy1_4 : (some ((x1_3).getD (x1_6).toNat (0, 0, 0, 0, 0, 0, nl0, 0))) = some y1_4_) (y1_5_ : List (Bool)) (hy1_5 : m_treeStale_111010y1 n x1_0 x1_1 x1_2 x1_3 x1_4 x1_5 x1_6 (y1_4_.1) (y1_4_.2.1) (y1_4_.2.2.1) (y1_4_.2.2.2.1) (y1_4_.2.2.2.2.1) (y1_4_.2.2.2.2.2.1) (y1_4_.2.2.2.2.2.2.1) (y1_4_.2.2.2.2.2.2.2) = some y1_5_) : Q_bK1q2_1 rnd x1_1 x1_2 x1_3 x1_4 x1_5 (x1_0, x1_6) (.normal, S_bK1q2_1 x1_1 x1_2 x1_3 x1_4 x1_5 (y1_5_, (w64 (x1_6 - (1 : Int))))) :=
 runC2 hm (L := lT []) ⟨[0, 1, 3], [(0, 0, false), (1, 1, false), (2, 2, false), (3, 3, true), (4, 4, false), (5, 5, true)], 6, 0, [], false, []⟩ (zz 3 (xdT hy1_1) <|
zz 12 (xk10 5 x1_5 hy1_2) <|
yy 13 (.ld (Value.agg #[(i6 (y1_4_.1)), (i6 (y1_4_.2.1)), (i6 (y1_4_.2.2.1)), (i6 (y1_4_.2.2.2.1)), (i6 (y1_4_.2.2.2.2.1)), (i6 (y1_4_.2.2.2.2.2.1)), (nlV (y1_4_.2.2.2.2.2.2.1)), (Value.int .u64 (y1_4_.2.2.2.2.2.2.2))])) <|
ww (p := rdT (layT (rows rw_iiiiiiLu x1_3)) 8 ((x1_6).toNat * 8) = some [(i6 (y1_4_.1)), (i6 (y1_4_.2.1)), (i6 (y1_4_.2.2.1)), (i6 (y1_4_.2.2.2.1)), (i6 (y1_4_.2.2.2.2.1)), (i6 (y1_4_.2.2.2.2.2.1)), (nlV (y1_4_.2.2.2.2.2.2.1)), (Value.int .u64 (y1_4_.2.2.2.2.2.2.2))]) (rows_rdpN rwf_iiiiiiLu (0, 0, 0, 0, 0, 0, nl0, 0) (hr := hy1_4) (i := (x1_6).toNat) (j := 0) ((x1_6).toNat * 8) rfl (hy1_3) (by decide) rfl) <|
yy 14 (.call (C_treeStale_111010y1 x1_0 x1_1 x1_2 x1_3 x1_4 x1_5 x1_6 (y1_4_.1) (y1_4_.2.1) (y1_4_.2.2.1) (y1_4_.2.2.2.1) (y1_4_.2.2.2.2.1) (y1_4_.2.2.2.2.2.1) (y1_4_.2.2.2.2.2.2.1) (y1_4_.2.2.2.2.2.2.2) y1_5_ [(0, 0, false), (1, 1, false), (2, 2, false), (3, 3, true), (4, 4, false), (5, 5, true)] [(0, 0, false), (1, 1, false), (2, 2, false), (3, 3, true), (4, 4, false), (5, 5, true)])) <|
ww (m_treeStale_111010y1_ok n x1_0 x1_1 x1_2 x1_3 x1_4 x1_5 x1_6 (y1_4_.1) (y1_4_.2.1) (y1_4_.2.2.1) (y1_4_.2.2.2.1) (y1_4_.2.2.2.2.1) (y1_4_.2.2.2.2.2.1) (y1_4_.2.2.2.2.2.2.1) (y1_4_.2.2.2.2.2.2.2) y1_5_ hy1_5) <|
ww (rows_flat rwf_b x1_0 4) <|
ww (rows_flat rwf_iiiiiiLu x1_3 37) <|
ww (rows_flat rwf_b y1_5_ 4) <|
ww (rows_flat rwf_iiiiiiLu x1_3 37) <|
ww (rows_flat rwf_b y1_5_ 4) <|
ww (rows_flat rwf_iiiiiiLu x1_3 37) <|
ee) (by kernel_rfl)
theorem q_bK1q2_1_1 (n : Nat) {rnd : Option Nat} (x1_0 : List (Bool)) (x1_1 x1_2 : Nat) (x1_3 : List R8) (x1_4 x1_5 : Nat) (x1_6 : Int) (hy1_1 : ¬ (x1_6 ≥ (0 : Int))) : Q_bK1q2_1 rnd x1_1 x1_2 x1_3 x1_4 x1_5 (x1_0, x1_6) (X_bK1q2_1 x1_1 x1_2 x1_3 x1_4 x1_5 x1_0) :=
 runC2 hm (L := lT []) ⟨[], [(0, 0, false), (1, 1, false), (2, 2, false), (3, 3, true), (4, 4, false), (5, 5, true)], 6, 0, [], false, []⟩ (zz 3 (xdF hy1_1) <|
ww (rows_flat rwf_b x1_0 4) <|
ww (rows_flat rwf_iiiiiiLu x1_3 37) <|
ee) (by kernel_rfl)
theorem m_bK1q2_1_ok (n : Nat) {rnd : Option Nat} (x1_1 : Nat) (x1_2 : Nat) (x1_3 : List R8) (x1_4 : Nat) (x1_5 : Nat) (st : List (Bool) × Int) (r : List (Bool)) (h : m_bK1q2_1 n x1_1 x1_2 x1_3 x1_4 x1_5 st = some r) : CG P rnd (fnN P 30) 6 (codeOf P 30 [false, true]) (S_bK1q2_1 x1_1 x1_2 x1_3 x1_4 x1_5 st) (X_bK1q2_1 x1_1 x1_2 x1_3 x1_4 x1_5 r) :=
 CG.iter (b := codeOf P 30 [false, false, true]) (by kernel_rfl) (body := B_bK1q2_1 n x1_1 x1_2 x1_3 x1_4 x1_5) (S := S_bK1q2_1 x1_1 x1_2 x1_3 x1_4 x1_5) (X := X_bK1q2_1 x1_1 x1_2 x1_3 x1_4 x1_5)
  (fun s s' h => by
  obtain ⟨x1_0, x1_6⟩ := s
  unfold B_bK1q2_1 at h
  dsimp only at h
  by_cases hy1_1 : x1_6 ≥ (0 : Int)
  ·rw [if_pos hy1_1] at h
   by_cases hy1_2 : 0 ≤ x1_6 ∧ x1_6 < ((x1_4 : Nat) : Int)
   ·rw [if_pos hy1_2] at h
    by_cases hy1_3 : (x1_6).toNat < (x1_3).length
    ·rw [if_pos hy1_3] at h
     obtain ⟨y1_4_, hy1_4, h⟩ := Option.bind_eq_some_iff.1 h
     obtain ⟨y1_5_, hy1_5, h⟩ := Option.bind_eq_some_iff.1 h
     obtain rfl := Sum.inl.inj (oI h); exact q_bK1q2_1_0 n x1_0 x1_1 x1_2 x1_3 x1_4 x1_5 x1_6 hy1_1 hy1_2 hy1_3 y1_4_ hy1_4 y1_5_ hy1_5
    ·rw [if_neg hy1_3] at h; cases h
   ·rw [if_neg hy1_2] at h; cases h
  ·rw [if_neg hy1_1] at h
   cases h)
  (fun s r h => by
  obtain ⟨x1_0, x1_6⟩ := s
  unfold B_bK1q2_1 at h
  dsimp only at h
  by_cases hy1_1 : x1_6 ≥ (0 : Int)
  ·rw [if_pos hy1_1] at h
   by_cases hy1_2 : 0 ≤ x1_6 ∧ x1_6 < ((x1_4 : Nat) : Int)
   ·rw [if_pos hy1_2] at h
    by_cases hy1_3 : (x1_6).toNat < (x1_3).length
    ·rw [if_pos hy1_3] at h
     obtain ⟨y1_4_, hy1_4, h⟩ := Option.bind_eq_some_iff.1 h
     obtain ⟨y1_5_, hy1_5, h⟩ := Option.bind_eq_some_iff.1 h
     cases h
    ·rw [if_neg hy1_3] at h; cases h
   ·rw [if_neg hy1_2] at h; cases h
  ·rw [if_neg hy1_1] at h
   obtain rfl := Sum.inr.inj (oI h); exact q_bK1q2_1_1 n x1_0 x1_1 x1_2 x1_3 x1_4 x1_5 x1_6 hy1_1)
  (fun r => by intro hx; cases hx) h
def m_bK1q2 (n : Nat) (a0 : List (Bool)) (a1 : Nat) (a2 : Nat) (a3 : List R8) (a4 : Nat) (a5 : Nat) : Option (List (Bool)) :=
 (m_bK1q2_1 n a1 a2 a3 a4 a5 (a0, (w64 (((a4 : Nat) : Int) - (1 : Int))))).bind fun c1_ =>
 some c1_
theorem m_bK1q2_ok (n : Nat) (a0 : List (Bool)) (a1 : Nat) (a2 : Nat) (a3 : List R8) (a4 : Nat) (a5 : Nat) (r : List (Bool)) (h : m_bK1q2 n a0 a1 a2 a3 a4 a5 = some r) : Gv P (.func 30) (A_bK1q2 a0 a1 a2 a3 a4 a5) (H_bK1q2 a0 a1 a2 a3 a4 a5) (V_bK1q2 a0 a1 a2 a3 a4 a5 r) (R_bK1q2 a0 a1 a2 a3 a4 a5 r) := by
 unfold m_bK1q2 at h
 obtain ⟨c1_, hc1, h⟩ := Option.bind_eq_some_iff.1 h
 obtain rfl := oI h; exact (runF2 hm (L := lT [(6, ⟨⟨[0, 1, 3], [(0, 0, false), (1, 1, false), (2, 2, false), (3, 3, true), (4, 4, false), (5, 5, true)], 6, 0, [], false, []⟩, (X_bK1q2_1 a1 a2 a3 a4 a5 c1_).1, (X_bK1q2_1 a1 a2 a3 a4 a5 c1_).2⟩)]) ⟨[], [(0, 0, false), (1, 1, false), (2, 2, false), (3, 3, true), (4, 4, false), (5, 5, true)], 6, 0, [], false, []⟩ (ww (p := U_bK1q2_1 none a1 a2 a3 a4 a5 (a0, (w64 (((a4 : Nat) : Int) - (1 : Int)))) c1_) (m_bK1q2_1_ok n a1 a2 a3 a4 a5 (a0, (w64 (((a4 : Nat) : Int) - (1 : Int)))) c1_ hc1) <|
ww (rows_flat rwf_b a0 4) <|
ww (rows_flat rwf_iiiiiiLu a3 37) <|
ww (rows_flat rwf_b c1_ 4) <|
ww (rows_flat rwf_iiiiiiLu a3 37) ee) (by kernel_rfl))

def A_treeStaleq1 (a0 : List R8) (a1 : Nat) (a2 : Nat) : List Value := [(sN 0 0 a1 a2)]
def H_treeStaleq1 (a0 : List R8) (a1 : Nat) (a2 : Nat) : AH := ⟨sB [(0, (some (.cells (layT (rows rw_iiiiiiLu a0)) 37)))], 1, 1⟩
def V_treeStaleq1 (a0 : List R8) (a1 : Nat) (a2 : Nat) (r : List (Bool)) : Value := match r with
 | o0 => (sN 2 0 ((((a1 : Nat) : Int)).toNat) ((((a1 : Nat) : Int)).toNat))
def R_treeStaleq1 (a0 : List R8) (a1 : Nat) (a2 : Nat) (r : List (Bool)) : AH := match r with
 | o0 => ⟨sB [(0, (some (.cells (layT (rows rw_iiiiiiLu a0)) 37))), (1, (some (.marks false))), (2, (some (.cells (layT (rows rw_b o0)) 4)))], 3, 0⟩
abbrev G_treeStaleq1 (a0 : List R8) (a1 : Nat) (a2 : Nat) (r : List (Bool)) : Prop := Gv P (.func 8) (A_treeStaleq1 a0 a1 a2) (H_treeStaleq1 a0 a1 a2) (V_treeStaleq1 a0 a1 a2 r) (R_treeStaleq1 a0 a1 a2 r)
abbrev C_treeStaleq1 (a0 : List R8) (a1 : Nat) (a2 : Nat) (r : List (Bool)) (ins outs : BL) : CallA := ⟨1, ins, V_treeStaleq1 a0 a1 a2 r, R_treeStaleq1 a0 a1 a2 r, outs⟩
def m_treeStaleq1 (n : Nat) (a0 : List R8) (a1 : Nat) (a2 : Nat) : Option (List (Bool)) :=
 (m_tCq2 n a0 a1 a2).bind fun c1_ =>
 if c1_ = (0 : Int) then
  if 0 ≤ ((a1 : Nat) : Int) then
   if (((a1 : Nat) : Int)).toNat * 1 ≤ 140737488355328 then
    (m_bKq2 n a0 a1 a2).bind fun _ =>
    (m_bK1q2 n (List.replicate (((a1 : Nat) : Int)).toNat (false)) ((((a1 : Nat) : Int)).toNat) ((((a1 : Nat) : Int)).toNat) a0 a1 a2).bind fun c6_ =>
    some c6_
   else none
  else none
 else
  none
theorem m_treeStaleq1_ok (n : Nat) (a0 : List R8) (a1 : Nat) (a2 : Nat) (r : List (Bool)) (h : m_treeStaleq1 n a0 a1 a2 = some r) : Gv P (.func 8) (A_treeStaleq1 a0 a1 a2) (H_treeStaleq1 a0 a1 a2) (V_treeStaleq1 a0 a1 a2 r) (R_treeStaleq1 a0 a1 a2 r) := by
 unfold m_treeStaleq1 at h
 obtain ⟨c1_, hc1, h⟩ := Option.bind_eq_some_iff.1 h
 by_cases hc2 : c1_ = (0 : Int)
 ·rw [if_pos hc2] at h
  by_cases hc3 : 0 ≤ ((a1 : Nat) : Int)
  ·rw [if_pos hc3] at h
   by_cases hc4 : (((a1 : Nat) : Int)).toNat * 1 ≤ 140737488355328
   ·rw [if_pos hc4] at h
    obtain ⟨_, hc5, h⟩ := Option.bind_eq_some_iff.1 h
    obtain ⟨c6_, hc6, h⟩ := Option.bind_eq_some_iff.1 h
    obtain rfl := oI h; exact (runF2 hm (L := lT []) ⟨[2], [(0, 0, true), (1, 4, false), (2, 1, true)], 3, 0, [], false, []⟩ (yy 5 (.call (C_tCq2 a0 a1 a2 c1_ [(0, 0, true)] [])) <|
ww (m_tCq2_ok n a0 a1 a2 c1_ hc1) <|
ww (rows_flat rwf_iiiiiiLu a0 37) <|
zz 6 (xnF hc2) <|
yy 11 (.mk (((a1 : Nat) : Int)).toNat (rows rw_b (List.replicate (((a1 : Nat) : Int)).toNat (false)))) <|
ww (p := natOf (i6 ((a1 : Nat) : Int)) = some (((a1 : Nat) : Int)).toNat) (natOf_toNat hc3) <|
ww (p := natOf (i6 ((a1 : Nat) : Int)) = some (((a1 : Nat) : Int)).toNat) (natOf_toNat hc3) <|
ww (p := fits (((a1 : Nat) : Int)).toNat 1 = true) (fits_ok hc4 (by omega)) <|
ww (p := isZ8 [(bO false)] = false) (rfl) <|
ww (p := reps [(bO false)] (((a1 : Nat) : Int)).toNat = (rows rw_b (List.replicate (((a1 : Nat) : Int)).toNat (false)))) (reps_rows rw_b (false) _ rfl _) <|
yy 17 (.call (C_bKq2 a0 a1 a2 () [(0, 0, true)] [(0, 0, true), (3, 1, false)])) <|
ww (m_bKq2_ok n a0 a1 a2 () hc5) <|
ww (rows_flat rwf_iiiiiiLu a0 37) <|
ww (rows_flat rwf_iiiiiiLu a0 37) <|
yy 19 (.rng (C_bK1q2 (List.replicate (((a1 : Nat) : Int)).toNat (false)) ((((a1 : Nat) : Int)).toNat) ((((a1 : Nat) : Int)).toNat) a0 a1 a2 c6_ [(0, 5, false), (1, 4, false), (2, 2, false), (3, 1, true), (4, 3, false), (5, 0, true)] [(5, 0, false), (4, 1, false), (2, 2, false), (1, 3, true), (3, 4, false), (0, 5, true)]) [3, 13]) <|
ww (m_bK1q2_ok n (List.replicate (((a1 : Nat) : Int)).toNat (false)) ((((a1 : Nat) : Int)).toNat) ((((a1 : Nat) : Int)).toNat) a0 a1 a2 c6_ hc6) <|
ww (rows_flat rwf_b (List.replicate (((a1 : Nat) : Int)).toNat (false)) 4) <|
ww (rows_flat rwf_iiiiiiLu a0 37) <|
ww (rows_flat rwf_b c6_ 4) <|
ww (rows_flat rwf_iiiiiiLu a0 37) <|
ww (rows_flat rwf_iiiiiiLu a0 37) <|
ww (rows_flat rwf_b c6_ 4) ee) (by kernel_rfl))
   ·rw [if_neg hc4] at h; cases h
  ·rw [if_neg hc3] at h; cases h
 ·rw [if_neg hc2] at h
  cases h

def A_ePq2 (a0 : List R8) (a1 : Nat) (a2 : Nat) : List Value := [(sN 0 0 a1 a2), (Value.func (.func 27) #[] #[])]
def H_ePq2 (a0 : List R8) (a1 : Nat) (a2 : Nat) : AH := ⟨sB [(0, (some (.cells (layT (rows rw_iiiiiiLu a0)) 37)))], 1, 1⟩
def V_ePq2 (a0 : List R8) (a1 : Nat) (a2 : Nat) (r : (Unit) ⊕ (List R8)) : Value := match r with
 | .inl _ => (Value.slice none 0 0)
 | .inr o0 => (sN 1 0 ((((a1 : Nat) : Int)).toNat) ((((a1 : Nat) : Int)).toNat))
def R_ePq2 (a0 : List R8) (a1 : Nat) (a2 : Nat) (r : (Unit) ⊕ (List R8)) : AH := match r with
 | .inl _ => ⟨sB [], 1, 1⟩
 | .inr o0 => ⟨sB [(1, (some (.cells (layT (rows rw_iiiiiiLu o0)) 37)))], 2, 1⟩
abbrev G_ePq2 (a0 : List R8) (a1 : Nat) (a2 : Nat) (r : (Unit) ⊕ (List R8)) : Prop := Gv P (.func 26) (A_ePq2 a0 a1 a2) (H_ePq2 a0 a1 a2) (V_ePq2 a0 a1 a2 r) (R_ePq2 a0 a1 a2 r)
abbrev C_ePq2 (a0 : List R8) (a1 : Nat) (a2 : Nat) (r : (Unit) ⊕ (List R8)) (ins outs : BL) : CallA := ⟨1, ins, V_ePq2 a0 a1 a2 r, R_ePq2 a0 a1 a2 r, outs⟩
def S_ePq2_1 (x1_0 : List R8) (x1_2 : Nat) (x1_3 : Nat) (x1_4 : Nat) (x1_5 : Int) (st : List R8 × Int) : XSt := match st with
 | (x1_1, x1_6) => (sT 29 [(1, (Value.func (.func 27) #[] #[])), (5, (sN 1 0 x1_2 x1_2)), (14, (sN 0 0 x1_3 x1_4)), (15, (i6 x1_5)), (16, (i6 x1_6))], [], ⟨sB [(0, (some (.cells (layT (rows rw_iiiiiiLu x1_0)) 37))), (1, (some (.cells (layT (rows rw_iiiiiiLu x1_1)) 37)))], 2, 1⟩)
def X_ePq2_1 (x1_0 : List R8) (x1_2 : Nat) (x1_3 : Nat) (x1_4 : Nat) (x1_5 : Int) (r : List R8) : Ex × XSt := match r with
 | z1_0 => (.exit 0, (sT 29 [(5, (sN 1 0 x1_2 x1_2))], [], ⟨sB [(0, (some (.cells (layT (rows rw_iiiiiiLu x1_0)) 37))), (1, (some (.cells (layT (rows rw_iiiiiiLu z1_0)) 37)))], 2, 1⟩))
abbrev Q_ePq2_1 (rnd : Option Nat) (x1_0 : List R8) (x1_2 : Nat) (x1_3 : Nat) (x1_4 : Nat) (x1_5 : Int) (st : List R8 × Int) (c : Ex × XSt) : Prop := CG P rnd (fnN P 26) 1 (codeOf P 26 [false, false, true, false, true, true, true]) (S_ePq2_1 x1_0 x1_2 x1_3 x1_4 x1_5 st) c
abbrev U_ePq2_1 (rd : Option Nat) (x1_0 : List R8) (x1_2 : Nat) (x1_3 : Nat) (x1_4 : Nat) (x1_5 : Int) (st : List R8 × Int) (r : List R8) : Prop := CG P rd (fnN P 26) 1 (codeOf P 26 [false, true, false, true, true, true]) (S_ePq2_1 x1_0 x1_2 x1_3 x1_4 x1_5 st) (X_ePq2_1 x1_0 x1_2 x1_3 x1_4 x1_5 r)
def B_ePq2_1 (n : Nat) (x1_0 : List R8) (x1_2 : Nat) (x1_3 : Nat) (x1_4 : Nat) (x1_5 : Int) (st : List R8 × Int) : Option ((List R8 × Int) ⊕ (List R8)) := match st with
 | (x1_1, x1_6) =>
  if x1_6 < x1_5 then
   if 0 ≤ x1_6 ∧ x1_6 < ((x1_3 : Nat) : Int) then
    if (x1_6).toNat < (x1_0).length then
     ((some ((x1_0).getD (x1_6).toNat (0, 0, 0, 0, 0, 0, nl0, 0)))).bind fun y1_4_ =>
     (m_treeCopy1q1 n (y1_4_.1) (y1_4_.2.1) (y1_4_.2.2.1) (y1_4_.2.2.2.1) (y1_4_.2.2.2.2.1) (y1_4_.2.2.2.2.2.1) (y1_4_.2.2.2.2.2.2.1) (y1_4_.2.2.2.2.2.2.2)).bind fun y1_5_ =>
     if 0 ≤ x1_6 ∧ x1_6 < ((x1_2 : Nat) : Int) then
      if (x1_6).toNat < (x1_1).length then
       some (.inl (((x1_1).set (x1_6).toNat ((y1_4_.1), (y1_4_.2.1), (y1_4_.2.2.1), (y1_4_.2.2.2.1), (y1_4_.2.2.2.2.1), (y1_4_.2.2.2.2.2.1), y1_5_, (y1_4_.2.2.2.2.2.2.2))), (w64 (x1_6 + (1 : Int)))))
      else none
     else none
    else none
   else none
  else
   some (.inr x1_1)
def m_ePq2_1 (n : Nat) (x1_0 : List R8) (x1_2 : Nat) (x1_3 : Nat) (x1_4 : Nat) (x1_5 : Int) (st : List R8 × Int) : Option (List R8) := iterM (B_ePq2_1 n x1_0 x1_2 x1_3 x1_4 x1_5) n st
theorem q_ePq2_1_0 (n : Nat) {rnd : Option Nat} (x1_0 x1_1 : List R8) (x1_2 x1_3 x1_4 : Nat) (x1_5 x1_6 : Int) (hy1_1 : x1_6 < x1_5) (hy1_2 : 0 ≤ x1_6 ∧ x1_6 < ((x1_3 : Nat) : Int)) (hy1_3 : (x1_6).toNat < (x1_0).length) (y1_4_ : R8) (hy1_4 : (some ((x1_0).getD (x1_6).toNat (0, 0, 0, 0, 0, 0, nl0, 0))) = some y1_4_) (y1_5_ : NL) (hy1_5 : m_treeCopy1q1 n (y1_4_.1) (y1_4_.2.1) (y1_4_.2.2.1) (y1_4_.2.2.2.1) (y1_4_.2.2.2.2.1) (y1_4_.2.2.2.2.2.1) (y1_4_.2.2.2.2.2.2.1) (y1_4_.2.2.2.2.2.2.2) = some y1_5_) (hy1_6 : 0 ≤ x1_6 ∧ x1_6 < ((x1_2 : Nat) : Int)) (hy1_7 : (x1_6).toNat < (x1_1).length) : Q_ePq2_1 rnd x1_0 x1_2 x1_3 x1_4 x1_5 (x1_1, x1_6) (.normal, S_ePq2_1 x1_0 x1_2 x1_3 x1_4 x1_5 (((x1_1).set (x1_6).toNat ((y1_4_.1), (y1_4_.2.1), (y1_4_.2.2.1), (y1_4_.2.2.2.1), (y1_4_.2.2.2.2.1), (y1_4_.2.2.2.2.2.1), y1_5_, (y1_4_.2.2.2.2.2.2.2))), (w64 (x1_6 + (1 : Int))))) :=
 runC2 hm (L := lT []) ⟨[1, 5, 14, 15, 16], [(0, 0, true), (1, 1, true)], 2, 1, [], false, []⟩ (zz 1 (xdT hy1_1) <|
zz 8 (xk10 0 x1_4 hy1_2) <|
yy 9 (.ld (Value.agg #[(i6 (y1_4_.1)), (i6 (y1_4_.2.1)), (i6 (y1_4_.2.2.1)), (i6 (y1_4_.2.2.2.1)), (i6 (y1_4_.2.2.2.2.1)), (i6 (y1_4_.2.2.2.2.2.1)), (nlV (y1_4_.2.2.2.2.2.2.1)), (Value.int .u64 (y1_4_.2.2.2.2.2.2.2))])) <|
ww (p := rdT (layT (rows rw_iiiiiiLu x1_0)) 8 ((x1_6).toNat * 8) = some [(i6 (y1_4_.1)), (i6 (y1_4_.2.1)), (i6 (y1_4_.2.2.1)), (i6 (y1_4_.2.2.2.1)), (i6 (y1_4_.2.2.2.2.1)), (i6 (y1_4_.2.2.2.2.2.1)), (nlV (y1_4_.2.2.2.2.2.2.1)), (Value.int .u64 (y1_4_.2.2.2.2.2.2.2))]) (rows_rdpN rwf_iiiiiiLu (0, 0, 0, 0, 0, 0, nl0, 0) (hr := hy1_4) (i := (x1_6).toNat) (j := 0) ((x1_6).toNat * 8) rfl (hy1_3) (by decide) rfl) <|
yy 17 (.call (C_treeCopy1q1 (y1_4_.1) (y1_4_.2.1) (y1_4_.2.2.1) (y1_4_.2.2.2.1) (y1_4_.2.2.2.2.1) (y1_4_.2.2.2.2.2.1) (y1_4_.2.2.2.2.2.2.1) (y1_4_.2.2.2.2.2.2.2) y1_5_ [] [(3, 0, false)])) <|
ww (m_treeCopy1q1_ok n (y1_4_.1) (y1_4_.2.1) (y1_4_.2.2.1) (y1_4_.2.2.2.1) (y1_4_.2.2.2.2.1) (y1_4_.2.2.2.2.2.1) (y1_4_.2.2.2.2.2.2.1) (y1_4_.2.2.2.2.2.2.2) y1_5_ hy1_5) <|
zz 18 (xk10 1 x1_2 hy1_6) <|
yy 19 (.sto (layT (rows rw_iiiiiiLu ((x1_1).set (x1_6).toNat ((y1_4_.1), (y1_4_.2.1), (y1_4_.2.2.1), (y1_4_.2.2.2.1), (y1_4_.2.2.2.2.1), (y1_4_.2.2.2.2.2.1), y1_5_, (y1_4_.2.2.2.2.2.2.2)))))) <|
ww (p := ∃ old, rdT (layT (rows rw_iiiiiiLu x1_1)) 8 ((x1_6).toNat * 8) = some old) (Exists.elim (rows_st rwf_iiiiiiLu (0, 0, 0, 0, 0, 0, nl0, 0) (i := (x1_6).toNat) (j := 0) (l := [(i6 (y1_4_.1)), (i6 (y1_4_.2.1)), (i6 (y1_4_.2.2.1)), (i6 (y1_4_.2.2.2.1)), (i6 (y1_4_.2.2.2.2.1)), (i6 (y1_4_.2.2.2.2.2.1)), (nlV y1_5_), (Value.int .u64 (y1_4_.2.2.2.2.2.2.2))]) ((y1_4_.1), (y1_4_.2.1), (y1_4_.2.2.1), (y1_4_.2.2.2.1), (y1_4_.2.2.2.2.1), (y1_4_.2.2.2.2.2.1), y1_5_, (y1_4_.2.2.2.2.2.2.2)) ((x1_6).toNat * 8) rfl (hy1_7) (Nat.le_of_ble_eq_true rfl) rfl) fun o h => ⟨o, h.1⟩) <|
ww (p := layL [(i6 (y1_4_.1)), (i6 (y1_4_.2.1)), (i6 (y1_4_.2.2.1)), (i6 (y1_4_.2.2.2.1)), (i6 (y1_4_.2.2.2.2.1)), (i6 (y1_4_.2.2.2.2.2.1)), (nlV y1_5_), (Value.int .u64 (y1_4_.2.2.2.2.2.2.2))] ((x1_6).toNat * 8) (layT (rows rw_iiiiiiLu x1_1)) = layT (rows rw_iiiiiiLu ((x1_1).set (x1_6).toNat ((y1_4_.1), (y1_4_.2.1), (y1_4_.2.2.1), (y1_4_.2.2.2.1), (y1_4_.2.2.2.2.1), (y1_4_.2.2.2.2.2.1), y1_5_, (y1_4_.2.2.2.2.2.2.2))))) (Exists.elim (rows_st rwf_iiiiiiLu (0, 0, 0, 0, 0, 0, nl0, 0) (i := (x1_6).toNat) (j := 0) (l := [(i6 (y1_4_.1)), (i6 (y1_4_.2.1)), (i6 (y1_4_.2.2.1)), (i6 (y1_4_.2.2.2.1)), (i6 (y1_4_.2.2.2.2.1)), (i6 (y1_4_.2.2.2.2.2.1)), (nlV y1_5_), (Value.int .u64 (y1_4_.2.2.2.2.2.2.2))]) ((y1_4_.1), (y1_4_.2.1), (y1_4_.2.2.1), (y1_4_.2.2.2.1), (y1_4_.2.2.2.2.1), (y1_4_.2.2.2.2.2.1), y1_5_, (y1_4_.2.2.2.2.2.2.2)) ((x1_6).toNat * 8) rfl (hy1_7) (Nat.le_of_ble_eq_true rfl) rfl) fun o h => h.2) <|
ww (rows_flat rwf_iiiiiiLu x1_0 37) <|
ww (rows_flat rwf_iiiiiiLu ((x1_1).set (x1_6).toNat ((y1_4_.1), (y1_4_.2.1), (y1_4_.2.2.1), (y1_4_.2.2.2.1), (y1_4_.2.2.2.2.1), (y1_4_.2.2.2.2.2.1), y1_5_, (y1_4_.2.2.2.2.2.2.2))) 37) <|
ee) (by kernel_rfl)
theorem q_ePq2_1_1 (n : Nat) {rnd : Option Nat} (x1_0 x1_1 : List R8) (x1_2 x1_3 x1_4 : Nat) (x1_5 x1_6 : Int) (hy1_1 : ¬ (x1_6 < x1_5)) : Q_ePq2_1 rnd x1_0 x1_2 x1_3 x1_4 x1_5 (x1_1, x1_6) (X_ePq2_1 x1_0 x1_2 x1_3 x1_4 x1_5 x1_1) :=
 runC2 hm (L := lT []) ⟨[5], [(0, 0, true), (1, 1, true)], 2, 1, [], false, []⟩ (zz 1 (xdF hy1_1) <|
ww (rows_flat rwf_iiiiiiLu x1_0 37) <|
ww (rows_flat rwf_iiiiiiLu x1_1 37) <|
ee) (by kernel_rfl)
theorem m_ePq2_1_ok (n : Nat) {rnd : Option Nat} (x1_0 : List R8) (x1_2 : Nat) (x1_3 : Nat) (x1_4 : Nat) (x1_5 : Int) (st : List R8 × Int) (r : List R8) (h : m_ePq2_1 n x1_0 x1_2 x1_3 x1_4 x1_5 st = some r) : CG P rnd (fnN P 26) 1 (codeOf P 26 [false, true, false, true, true, true]) (S_ePq2_1 x1_0 x1_2 x1_3 x1_4 x1_5 st) (X_ePq2_1 x1_0 x1_2 x1_3 x1_4 x1_5 r) :=
 CG.iter (b := codeOf P 26 [false, false, true, false, true, true, true]) (by kernel_rfl) (body := B_ePq2_1 n x1_0 x1_2 x1_3 x1_4 x1_5) (S := S_ePq2_1 x1_0 x1_2 x1_3 x1_4 x1_5) (X := X_ePq2_1 x1_0 x1_2 x1_3 x1_4 x1_5)
  (fun s s' h => by
  obtain ⟨x1_1, x1_6⟩ := s
  unfold B_ePq2_1 at h
  dsimp only at h
  by_cases hy1_1 : x1_6 < x1_5
  ·rw [if_pos hy1_1] at h
   by_cases hy1_2 : 0 ≤ x1_6 ∧ x1_6 < ((x1_3 : Nat) : Int)
   ·rw [if_pos hy1_2] at h
    by_cases hy1_3 : (x1_6).toNat < (x1_0).length
    ·rw [if_pos hy1_3] at h
     obtain ⟨y1_4_, hy1_4, h⟩ := Option.bind_eq_some_iff.1 h
     obtain ⟨y1_5_, hy1_5, h⟩ := Option.bind_eq_some_iff.1 h
     by_cases hy1_6 : 0 ≤ x1_6 ∧ x1_6 < ((x1_2 : Nat) : Int)
     ·rw [if_pos hy1_6] at h
      by_cases hy1_7 : (x1_6).toNat < (x1_1).length
      ·rw [if_pos hy1_7] at h
       obtain rfl := Sum.inl.inj (oI h); exact q_ePq2_1_0 n x1_0 x1_1 x1_2 x1_3 x1_4 x1_5 x1_6 hy1_1 hy1_2 hy1_3 y1_4_ hy1_4 y1_5_ hy1_5 hy1_6 hy1_7
      ·rw [if_neg hy1_7] at h; cases h
     ·rw [if_neg hy1_6] at h; cases h
    ·rw [if_neg hy1_3] at h; cases h
   ·rw [if_neg hy1_2] at h; cases h
  ·rw [if_neg hy1_1] at h
   cases h)
  (fun s r h => by
  obtain ⟨x1_1, x1_6⟩ := s
  unfold B_ePq2_1 at h
  dsimp only at h
  by_cases hy1_1 : x1_6 < x1_5
  ·rw [if_pos hy1_1] at h
   by_cases hy1_2 : 0 ≤ x1_6 ∧ x1_6 < ((x1_3 : Nat) : Int)
   ·rw [if_pos hy1_2] at h
    by_cases hy1_3 : (x1_6).toNat < (x1_0).length
    ·rw [if_pos hy1_3] at h
     obtain ⟨y1_4_, hy1_4, h⟩ := Option.bind_eq_some_iff.1 h
     obtain ⟨y1_5_, hy1_5, h⟩ := Option.bind_eq_some_iff.1 h
     by_cases hy1_6 : 0 ≤ x1_6 ∧ x1_6 < ((x1_2 : Nat) : Int)
     ·rw [if_pos hy1_6] at h
      by_cases hy1_7 : (x1_6).toNat < (x1_1).length
      ·rw [if_pos hy1_7] at h
       cases h
      ·rw [if_neg hy1_7] at h; cases h
     ·rw [if_neg hy1_6] at h; cases h
    ·rw [if_neg hy1_3] at h; cases h
   ·rw [if_neg hy1_2] at h; cases h
  ·rw [if_neg hy1_1] at h
   obtain rfl := Sum.inr.inj (oI h); exact q_ePq2_1_1 n x1_0 x1_1 x1_2 x1_3 x1_4 x1_5 x1_6 hy1_1)
  (fun r => by intro hx; cases hx) h
def m_ePq2 (n : Nat) (a0 : List R8) (a1 : Nat) (a2 : Nat) : Option ((Unit) ⊕ (List R8)) :=
 if ((a1 : Nat) : Int) = (0 : Int) then
  some (.inl ())
 else
  if 0 ≤ ((a1 : Nat) : Int) then
   if (((a1 : Nat) : Int)).toNat * 80 ≤ 140737488355328 then
    (m_ePq2_1 n a0 ((((a1 : Nat) : Int)).toNat) a1 a2 ((a1 : Nat) : Int) ((List.replicate (((a1 : Nat) : Int)).toNat (0, 0, 0, 0, 0, 0, nl0, 0)), 0)).bind fun c4_ =>
    some (.inr c4_)
   else none
  else none
theorem m_ePq2_ok (n : Nat) (a0 : List R8) (a1 : Nat) (a2 : Nat) (r : (Unit) ⊕ (List R8)) (h : m_ePq2 n a0 a1 a2 = some r) : Gv P (.func 26) (A_ePq2 a0 a1 a2) (H_ePq2 a0 a1 a2) (V_ePq2 a0 a1 a2 r) (R_ePq2 a0 a1 a2 r) := by
 unfold m_ePq2 at h
 by_cases hc1 : ((a1 : Nat) : Int) = (0 : Int)
 ·rw [if_pos hc1] at h
  obtain rfl := oI h; exact (runF2 hm (L := lT []) ⟨[4], [], 1, 1, [], false, []⟩ (zz 6 (xeT hc1) ee) (by kernel_rfl))
 ·rw [if_neg hc1] at h
  by_cases hc2 : 0 ≤ ((a1 : Nat) : Int)
  ·rw [if_pos hc2] at h
   by_cases hc3 : (((a1 : Nat) : Int)).toNat * 80 ≤ 140737488355328
   ·rw [if_pos hc3] at h
    obtain ⟨c4_, hc4, h⟩ := Option.bind_eq_some_iff.1 h
    obtain rfl := oI h; exact (runF2 hm (L := lT [(19, ⟨⟨[1, 5, 14, 15, 16], [(0, 0, true), (1, 1, true)], 2, 1, [], false, []⟩, (X_ePq2_1 a0 ((((a1 : Nat) : Int)).toNat) a1 a2 ((a1 : Nat) : Int) c4_).1, (X_ePq2_1 a0 ((((a1 : Nat) : Int)).toNat) a1 a2 ((a1 : Nat) : Int) c4_).2⟩)]) ⟨[4], [(1, 1, true)], 2, 1, [], false, []⟩ (zz 6 (xeF hc1) <|
yy 11 (.mk (((a1 : Nat) : Int)).toNat (rows rw_iiiiiiLu (List.replicate (((a1 : Nat) : Int)).toNat (0, 0, 0, 0, 0, 0, nl0, 0)))) <|
ww (p := natOf (i6 ((a1 : Nat) : Int)) = some (((a1 : Nat) : Int)).toNat) (natOf_toNat hc2) <|
ww (p := natOf (i6 ((a1 : Nat) : Int)) = some (((a1 : Nat) : Int)).toNat) (natOf_toNat hc2) <|
ww (p := fits (((a1 : Nat) : Int)).toNat 80 = true) (fits_ok hc3 (by omega)) <|
ww (p := isZ8 [(i6 (0 : Int)), (i6 (0 : Int)), (i6 (0 : Int)), (i6 (0 : Int)), (i6 (0 : Int)), (i6 (0 : Int)), (nlV nl0), (Value.int .u64 (0 : Int))] = false) (rfl) <|
ww (p := reps [(i6 (0 : Int)), (i6 (0 : Int)), (i6 (0 : Int)), (i6 (0 : Int)), (i6 (0 : Int)), (i6 (0 : Int)), (nlV nl0), (Value.int .u64 (0 : Int))] (((a1 : Nat) : Int)).toNat = (rows rw_iiiiiiLu (List.replicate (((a1 : Nat) : Int)).toNat (0, 0, 0, 0, 0, 0, nl0, 0)))) (reps_rows rw_iiiiiiLu (0, 0, 0, 0, 0, 0, nl0, 0) _ rfl _) <|
ww (p := U_ePq2_1 none a0 ((((a1 : Nat) : Int)).toNat) a1 a2 ((a1 : Nat) : Int) ((List.replicate (((a1 : Nat) : Int)).toNat (0, 0, 0, 0, 0, 0, nl0, 0)), 0) c4_) (m_ePq2_1_ok n a0 ((((a1 : Nat) : Int)).toNat) a1 a2 ((a1 : Nat) : Int) ((List.replicate (((a1 : Nat) : Int)).toNat (0, 0, 0, 0, 0, 0, nl0, 0)), 0) c4_ hc4) <|
ww (rows_flat rwf_iiiiiiLu a0 37) <|
ww (rows_flat rwf_iiiiiiLu (List.replicate (((a1 : Nat) : Int)).toNat (0, 0, 0, 0, 0, 0, nl0, 0)) 37) <|
ww (rows_flat rwf_iiiiiiLu c4_ 37) ee) (by kernel_rfl))
   ·rw [if_neg hc3] at h; cases h
  ·rw [if_neg hc2] at h; cases h

def A_treeCopyq2 (a0 : List R8) (a1 : Nat) (a2 : Nat) : List Value := [(sN 0 0 a1 a2)]
def H_treeCopyq2 (a0 : List R8) (a1 : Nat) (a2 : Nat) : AH := ⟨sB [(0, (some (.cells (layT (rows rw_iiiiiiLu a0)) 37)))], 1, 1⟩
def V_treeCopyq2 (a0 : List R8) (a1 : Nat) (a2 : Nat) (r : List R8) : Value := match r with
 | o0 => (sN 1 0 ((((a1 : Nat) : Int)).toNat) ((((a1 : Nat) : Int)).toNat))
def R_treeCopyq2 (a0 : List R8) (a1 : Nat) (a2 : Nat) (r : List R8) : AH := match r with
 | o0 => ⟨sB [(1, (some (.cells (layT (rows rw_iiiiiiLu o0)) 37)))], 2, 1⟩
abbrev G_treeCopyq2 (a0 : List R8) (a1 : Nat) (a2 : Nat) (r : List R8) : Prop := Gv P (.func 18) (A_treeCopyq2 a0 a1 a2) (H_treeCopyq2 a0 a1 a2) (V_treeCopyq2 a0 a1 a2 r) (R_treeCopyq2 a0 a1 a2 r)
abbrev C_treeCopyq2 (a0 : List R8) (a1 : Nat) (a2 : Nat) (r : List R8) (ins outs : BL) : CallA := ⟨1, ins, V_treeCopyq2 a0 a1 a2 r, R_treeCopyq2 a0 a1 a2 r, outs⟩
def m_treeCopyq2 (n : Nat) (a0 : List R8) (a1 : Nat) (a2 : Nat) : Option (List R8) :=
 match m_ePq2 n a0 a1 a2 with
 | none => none
 | some (.inl _) =>
  none
 | some (.inr c1_) =>
  some c1_
theorem m_treeCopyq2_ok (n : Nat) (a0 : List R8) (a1 : Nat) (a2 : Nat) (r : List R8) (h : m_treeCopyq2 n a0 a1 a2 = some r) : Gv P (.func 18) (A_treeCopyq2 a0 a1 a2) (H_treeCopyq2 a0 a1 a2) (V_treeCopyq2 a0 a1 a2 r) (R_treeCopyq2 a0 a1 a2 r) := by
 unfold m_treeCopyq2 at h
 rcases hc1 : m_ePq2 n a0 a1 a2 with _ | (⟨⟩ | c1_)
 ·rw [hc1] at h; cases h
 ·rw [hc1] at h
  dsimp only at h
  cases h
 ·rw [hc1] at h
  dsimp only at h
  obtain rfl := oI h; exact (runF2 hm (L := lT []) ⟨[2], [(1, 1, true)], 2, 1, [], false, []⟩ (yy 4 (.call (C_ePq2 a0 a1 a2 (.inr c1_) [(0, 0, true)] [(1, 1, true)])) <|
ww (m_ePq2_ok n a0 a1 a2 (.inr c1_) hc1) <|
ww (rows_flat rwf_iiiiiiLu a0 37) <|
ww (rows_flat rwf_iiiiiiLu c1_ 37) <|
ww (rows_flat rwf_iiiiiiLu c1_ 37) ee) (by kernel_rfl))

def A_treeBareq2 (a0 : List R8) (a1 : Nat) (a2 : Nat) : List Value := [(sN 0 0 a1 a2)]
def H_treeBareq2 (a0 : List R8) (a1 : Nat) (a2 : Nat) : AH := ⟨sB [(0, (some (.cells (layT (rows rw_iiiiiiLu a0)) 37)))], 1, 1⟩
def V_treeBareq2 (a0 : List R8) (a1 : Nat) (a2 : Nat) (r : (List R8) ⊕ (Unit)) : Value := match r with
 | .inl o0 => (sN 1 0 ((((a1 : Nat) : Int)).toNat) ((((a1 : Nat) : Int)).toNat))
 | .inr _ => (Value.slice none 0 0)
def R_treeBareq2 (a0 : List R8) (a1 : Nat) (a2 : Nat) (r : (List R8) ⊕ (Unit)) : AH := match r with
 | .inl o0 => ⟨sB [(1, (some (.cells (layT (rows rw_iiiiiiLu o0)) 37)))], 2, 1⟩
 | .inr _ => ⟨sB [], 1, 1⟩
abbrev G_treeBareq2 (a0 : List R8) (a1 : Nat) (a2 : Nat) (r : (List R8) ⊕ (Unit)) : Prop := Gv P (.func 9) (A_treeBareq2 a0 a1 a2) (H_treeBareq2 a0 a1 a2) (V_treeBareq2 a0 a1 a2 r) (R_treeBareq2 a0 a1 a2 r)
abbrev C_treeBareq2 (a0 : List R8) (a1 : Nat) (a2 : Nat) (r : (List R8) ⊕ (Unit)) (ins outs : BL) : CallA := ⟨1, ins, V_treeBareq2 a0 a1 a2 r, R_treeBareq2 a0 a1 a2 r, outs⟩
def S_treeBareq2_1 (x1_0 : List R8) (x1_2 : Nat) (x1_3 : Int) (st : List R8 × Int) : XSt := match st with
 | (x1_1, x1_4) => (sT 21 [(3, (sN 1 0 x1_2 x1_2)), (11, (i6 x1_3)), (12, (i6 x1_4))], [], ⟨sB [(0, (some (.cells (layT (rows rw_iiiiiiLu x1_0)) 37))), (1, (some (.cells (layT (rows rw_iiiiiiLu x1_1)) 37)))], 2, 1⟩)
def X_treeBareq2_1 (x1_0 : List R8) (x1_2 : Nat) (x1_3 : Int) (r : List R8) : Ex × XSt := match r with
 | z1_0 => (.exit 0, (sT 21 [(3, (sN 1 0 x1_2 x1_2))], [], ⟨sB [(0, (some (.cells (layT (rows rw_iiiiiiLu x1_0)) 37))), (1, (some (.cells (layT (rows rw_iiiiiiLu z1_0)) 37)))], 2, 1⟩))
abbrev Q_treeBareq2_1 (rnd : Option Nat) (x1_0 : List R8) (x1_2 : Nat) (x1_3 : Int) (st : List R8 × Int) (c : Ex × XSt) : Prop := CG P rnd (fnN P 9) 1 (codeOf P 9 [false, false, true, false, true, true, true]) (S_treeBareq2_1 x1_0 x1_2 x1_3 st) c
abbrev U_treeBareq2_1 (rd : Option Nat) (x1_0 : List R8) (x1_2 : Nat) (x1_3 : Int) (st : List R8 × Int) (r : List R8) : Prop := CG P rd (fnN P 9) 1 (codeOf P 9 [false, true, false, true, true, true]) (S_treeBareq2_1 x1_0 x1_2 x1_3 st) (X_treeBareq2_1 x1_0 x1_2 x1_3 r)
def B_treeBareq2_1 (n : Nat) (x1_0 : List R8) (x1_2 : Nat) (x1_3 : Int) (st : List R8 × Int) : Option ((List R8 × Int) ⊕ (List R8)) := match st with
 | (x1_1, x1_4) =>
  if x1_4 < x1_3 then
   if 0 ≤ x1_4 ∧ x1_4 < ((x1_2 : Nat) : Int) then
    if (x1_4).toNat < (x1_1).length then
     ((some ((x1_1).getD (x1_4).toNat (0, 0, 0, 0, 0, 0, nl0, 0)))).bind fun y1_4_ =>
     some (.inl (((x1_1).set (x1_4).toNat ((y1_4_.1), (y1_4_.2.1), (y1_4_.2.2.1), (y1_4_.2.2.2.1), (y1_4_.2.2.2.2.1), (y1_4_.2.2.2.2.2.1), (y1_4_.2.2.2.2.2.2.1), (0 : Int))), (w64 (x1_4 + (1 : Int)))))
    else none
   else none
  else
   some (.inr x1_1)
def m_treeBareq2_1 (n : Nat) (x1_0 : List R8) (x1_2 : Nat) (x1_3 : Int) (st : List R8 × Int) : Option (List R8) := iterM (B_treeBareq2_1 n x1_0 x1_2 x1_3) n st
theorem q_treeBareq2_1_0 (n : Nat) {rnd : Option Nat} (x1_0 x1_1 : List R8) (x1_2 : Nat) (x1_3 x1_4 : Int) (hy1_1 : x1_4 < x1_3) (hy1_2 : 0 ≤ x1_4 ∧ x1_4 < ((x1_2 : Nat) : Int)) (hy1_3 : (x1_4).toNat < (x1_1).length) (y1_4_ : R8) (hy1_4 : (some ((x1_1).getD (x1_4).toNat (0, 0, 0, 0, 0, 0, nl0, 0))) = some y1_4_) : Q_treeBareq2_1 rnd x1_0 x1_2 x1_3 (x1_1, x1_4) (.normal, S_treeBareq2_1 x1_0 x1_2 x1_3 (((x1_1).set (x1_4).toNat ((y1_4_.1), (y1_4_.2.1), (y1_4_.2.2.1), (y1_4_.2.2.2.1), (y1_4_.2.2.2.2.1), (y1_4_.2.2.2.2.2.1), (y1_4_.2.2.2.2.2.2.1), (0 : Int))), (w64 (x1_4 + (1 : Int))))) :=
 runC2 hm (L := lT []) ⟨[3, 11, 12], [(0, 0, true), (1, 1, true)], 2, 1, [], false, []⟩ (zz 1 (xdT hy1_1) <|
zz 11 (xk10 1 x1_2 hy1_2) <|
yy 13 (.sto (layT (rows rw_iiiiiiLu ((x1_1).set (x1_4).toNat ((y1_4_.1), (y1_4_.2.1), (y1_4_.2.2.1), (y1_4_.2.2.2.1), (y1_4_.2.2.2.2.1), (y1_4_.2.2.2.2.2.1), (y1_4_.2.2.2.2.2.2.1), (0 : Int)))))) <|
ww (p := ∃ old, rdT (layT (rows rw_iiiiiiLu x1_1)) 1 (Nat.add ((x1_4).toNat * 8) 7) = some old) (Exists.elim (rows_stN rwf_iiiiiiLu (0, 0, 0, 0, 0, 0, nl0, 0) (hr := hy1_4) (i := (x1_4).toNat) (j := 7) (l := [(Value.int .u64 (0 : Int))]) ((y1_4_.1), (y1_4_.2.1), (y1_4_.2.2.1), (y1_4_.2.2.2.1), (y1_4_.2.2.2.2.1), (y1_4_.2.2.2.2.2.1), (y1_4_.2.2.2.2.2.2.1), (0 : Int)) (Nat.add ((x1_4).toNat * 8) 7) rfl (hy1_3) (Nat.le_of_ble_eq_true rfl) rfl) fun o h => ⟨o, h.1⟩) <|
ww (p := layL [(Value.int .u64 (0 : Int))] (Nat.add ((x1_4).toNat * 8) 7) (layT (rows rw_iiiiiiLu x1_1)) = layT (rows rw_iiiiiiLu ((x1_1).set (x1_4).toNat ((y1_4_.1), (y1_4_.2.1), (y1_4_.2.2.1), (y1_4_.2.2.2.1), (y1_4_.2.2.2.2.1), (y1_4_.2.2.2.2.2.1), (y1_4_.2.2.2.2.2.2.1), (0 : Int))))) (Exists.elim (rows_stN rwf_iiiiiiLu (0, 0, 0, 0, 0, 0, nl0, 0) (hr := hy1_4) (i := (x1_4).toNat) (j := 7) (l := [(Value.int .u64 (0 : Int))]) ((y1_4_.1), (y1_4_.2.1), (y1_4_.2.2.1), (y1_4_.2.2.2.1), (y1_4_.2.2.2.2.1), (y1_4_.2.2.2.2.2.1), (y1_4_.2.2.2.2.2.2.1), (0 : Int)) (Nat.add ((x1_4).toNat * 8) 7) rfl (hy1_3) (Nat.le_of_ble_eq_true rfl) rfl) fun o h => h.2) <|
ww (rows_flat rwf_iiiiiiLu x1_0 37) <|
ww (rows_flat rwf_iiiiiiLu ((x1_1).set (x1_4).toNat ((y1_4_.1), (y1_4_.2.1), (y1_4_.2.2.1), (y1_4_.2.2.2.1), (y1_4_.2.2.2.2.1), (y1_4_.2.2.2.2.2.1), (y1_4_.2.2.2.2.2.2.1), (0 : Int))) 37) <|
ee) (by kernel_rfl)
theorem q_treeBareq2_1_1 (n : Nat) {rnd : Option Nat} (x1_0 x1_1 : List R8) (x1_2 : Nat) (x1_3 x1_4 : Int) (hy1_1 : ¬ (x1_4 < x1_3)) : Q_treeBareq2_1 rnd x1_0 x1_2 x1_3 (x1_1, x1_4) (X_treeBareq2_1 x1_0 x1_2 x1_3 x1_1) :=
 runC2 hm (L := lT []) ⟨[3], [(0, 0, true), (1, 1, true)], 2, 1, [], false, []⟩ (zz 1 (xdF hy1_1) <|
ww (rows_flat rwf_iiiiiiLu x1_0 37) <|
ww (rows_flat rwf_iiiiiiLu x1_1 37) <|
ee) (by kernel_rfl)
theorem m_treeBareq2_1_ok (n : Nat) {rnd : Option Nat} (x1_0 : List R8) (x1_2 : Nat) (x1_3 : Int) (st : List R8 × Int) (r : List R8) (h : m_treeBareq2_1 n x1_0 x1_2 x1_3 st = some r) : CG P rnd (fnN P 9) 1 (codeOf P 9 [false, true, false, true, true, true]) (S_treeBareq2_1 x1_0 x1_2 x1_3 st) (X_treeBareq2_1 x1_0 x1_2 x1_3 r) :=
 CG.iter (b := codeOf P 9 [false, false, true, false, true, true, true]) (by kernel_rfl) (body := B_treeBareq2_1 n x1_0 x1_2 x1_3) (S := S_treeBareq2_1 x1_0 x1_2 x1_3) (X := X_treeBareq2_1 x1_0 x1_2 x1_3)
  (fun s s' h => by
  obtain ⟨x1_1, x1_4⟩ := s
  unfold B_treeBareq2_1 at h
  dsimp only at h
  by_cases hy1_1 : x1_4 < x1_3
  ·rw [if_pos hy1_1] at h
   by_cases hy1_2 : 0 ≤ x1_4 ∧ x1_4 < ((x1_2 : Nat) : Int)
   ·rw [if_pos hy1_2] at h
    by_cases hy1_3 : (x1_4).toNat < (x1_1).length
    ·rw [if_pos hy1_3] at h
     obtain ⟨y1_4_, hy1_4, h⟩ := Option.bind_eq_some_iff.1 h
     obtain rfl := Sum.inl.inj (oI h); exact q_treeBareq2_1_0 n x1_0 x1_1 x1_2 x1_3 x1_4 hy1_1 hy1_2 hy1_3 y1_4_ hy1_4
    ·rw [if_neg hy1_3] at h; cases h
   ·rw [if_neg hy1_2] at h; cases h
  ·rw [if_neg hy1_1] at h
   cases h)
  (fun s r h => by
  obtain ⟨x1_1, x1_4⟩ := s
  unfold B_treeBareq2_1 at h
  dsimp only at h
  by_cases hy1_1 : x1_4 < x1_3
  ·rw [if_pos hy1_1] at h
   by_cases hy1_2 : 0 ≤ x1_4 ∧ x1_4 < ((x1_2 : Nat) : Int)
   ·rw [if_pos hy1_2] at h
    by_cases hy1_3 : (x1_4).toNat < (x1_1).length
    ·rw [if_pos hy1_3] at h
     obtain ⟨y1_4_, hy1_4, h⟩ := Option.bind_eq_some_iff.1 h
     cases h
    ·rw [if_neg hy1_3] at h; cases h
   ·rw [if_neg hy1_2] at h; cases h
  ·rw [if_neg hy1_1] at h
   obtain rfl := Sum.inr.inj (oI h); exact q_treeBareq2_1_1 n x1_0 x1_1 x1_2 x1_3 x1_4 hy1_1)
  (fun r => by intro hx; cases hx) h
def m_treeBareq2 (n : Nat) (a0 : List R8) (a1 : Nat) (a2 : Nat) : Option ((List R8) ⊕ (Unit)) :=
 (m_tCq2 n a0 a1 a2).bind fun c1_ =>
 if c1_ = (0 : Int) then
  (m_treeCopyq2 n a0 a1 a2).bind fun c3_ =>
  (m_treeBareq2_1 n a0 ((((a1 : Nat) : Int)).toNat) ((((((a1 : Nat) : Int)).toNat) : Nat) : Int) (c3_, 0)).bind fun c4_ =>
  some (.inl c4_)
 else
  some (.inr ())
theorem m_treeBareq2_ok (n : Nat) (a0 : List R8) (a1 : Nat) (a2 : Nat) (r : (List R8) ⊕ (Unit)) (h : m_treeBareq2 n a0 a1 a2 = some r) : Gv P (.func 9) (A_treeBareq2 a0 a1 a2) (H_treeBareq2 a0 a1 a2) (V_treeBareq2 a0 a1 a2 r) (R_treeBareq2 a0 a1 a2 r) := by
 unfold m_treeBareq2 at h
 obtain ⟨c1_, hc1, h⟩ := Option.bind_eq_some_iff.1 h
 by_cases hc2 : c1_ = (0 : Int)
 ·rw [if_pos hc2] at h
  obtain ⟨c3_, hc3, h⟩ := Option.bind_eq_some_iff.1 h
  obtain ⟨c4_, hc4, h⟩ := Option.bind_eq_some_iff.1 h
  obtain rfl := oI h; exact (runF2 hm (L := lT [(18, ⟨⟨[3, 11, 12], [(0, 0, true), (1, 1, true)], 2, 1, [], false, []⟩, (X_treeBareq2_1 a0 ((((a1 : Nat) : Int)).toNat) ((((((a1 : Nat) : Int)).toNat) : Nat) : Int) c4_).1, (X_treeBareq2_1 a0 ((((a1 : Nat) : Int)).toNat) ((((((a1 : Nat) : Int)).toNat) : Nat) : Int) c4_).2⟩)]) ⟨[2], [(1, 1, true)], 2, 1, [], false, []⟩ (yy 5 (.call (C_tCq2 a0 a1 a2 c1_ [(0, 0, true)] [])) <|
ww (m_tCq2_ok n a0 a1 a2 c1_ hc1) <|
ww (rows_flat rwf_iiiiiiLu a0 37) <|
zz 6 (xnF hc2) <|
yy 10 (.call (C_treeCopyq2 a0 a1 a2 c3_ [(0, 0, true)] [(1, 1, true)])) <|
ww (m_treeCopyq2_ok n a0 a1 a2 c3_ hc3) <|
ww (rows_flat rwf_iiiiiiLu a0 37) <|
ww (rows_flat rwf_iiiiiiLu c3_ 37) <|
ww (p := U_treeBareq2_1 none a0 ((((a1 : Nat) : Int)).toNat) ((((((a1 : Nat) : Int)).toNat) : Nat) : Int) (c3_, 0) c4_) (m_treeBareq2_1_ok n a0 ((((a1 : Nat) : Int)).toNat) ((((((a1 : Nat) : Int)).toNat) : Nat) : Int) (c3_, 0) c4_ hc4) <|
ww (rows_flat rwf_iiiiiiLu a0 37) <|
ww (rows_flat rwf_iiiiiiLu c3_ 37) <|
ww (rows_flat rwf_iiiiiiLu c4_ 37) ee) (by kernel_rfl))
 ·rw [if_neg hc2] at h
  obtain rfl := oI h; exact (runF2 hm (L := lT []) ⟨[2], [], 1, 1, [], false, []⟩ (yy 5 (.call (C_tCq2 a0 a1 a2 c1_ [(0, 0, true)] [])) <|
ww (m_tCq2_ok n a0 a1 a2 c1_ hc1) <|
ww (rows_flat rwf_iiiiiiLu a0 37) <|
zz 6 (xnT hc2) ee) (by kernel_rfl))

def A_partsFitsq1 (a0 : Int) (a1 : Int) (a2 : Int) (a3 : Int) (a4 : Int) (a5 : Int) (a6 : NL) (a7 : Int) (a8 : Int) (a9 : Int) (a10 : Int) (a11 : Int) (a12 : Int) (a13 : Int) (a14 : NL) (a15 : Int) : List Value := [(Value.agg #[(i6 a0), (i6 a1), (i6 a2), (i6 a3), (i6 a4), (i6 a5), (nlV a6), (Value.int .u64 a7)]), (Value.agg #[(i6 a8), (i6 a9), (i6 a10), (i6 a11), (i6 a12), (i6 a13), (nlV a14), (Value.int .u64 a15)])]
def H_partsFitsq1 (a0 : Int) (a1 : Int) (a2 : Int) (a3 : Int) (a4 : Int) (a5 : Int) (a6 : NL) (a7 : Int) (a8 : Int) (a9 : Int) (a10 : Int) (a11 : Int) (a12 : Int) (a13 : Int) (a14 : NL) (a15 : Int) : AH := ⟨sB [], 0, 0⟩
def V_partsFitsq1 (a0 : Int) (a1 : Int) (a2 : Int) (a3 : Int) (a4 : Int) (a5 : Int) (a6 : NL) (a7 : Int) (a8 : Int) (a9 : Int) (a10 : Int) (a11 : Int) (a12 : Int) (a13 : Int) (a14 : NL) (a15 : Int) (r : Bool) : Value := match r with
 | o0 => (bO o0)
def R_partsFitsq1 (a0 : Int) (a1 : Int) (a2 : Int) (a3 : Int) (a4 : Int) (a5 : Int) (a6 : NL) (a7 : Int) (a8 : Int) (a9 : Int) (a10 : Int) (a11 : Int) (a12 : Int) (a13 : Int) (a14 : NL) (a15 : Int) (r : Bool) : AH := match r with
 | o0 => ⟨sB [], 0, 0⟩
abbrev G_partsFitsq1 (a0 : Int) (a1 : Int) (a2 : Int) (a3 : Int) (a4 : Int) (a5 : Int) (a6 : NL) (a7 : Int) (a8 : Int) (a9 : Int) (a10 : Int) (a11 : Int) (a12 : Int) (a13 : Int) (a14 : NL) (a15 : Int) (r : Bool) : Prop := Gv P (.func 39) (A_partsFitsq1 a0 a1 a2 a3 a4 a5 a6 a7 a8 a9 a10 a11 a12 a13 a14 a15) (H_partsFitsq1 a0 a1 a2 a3 a4 a5 a6 a7 a8 a9 a10 a11 a12 a13 a14 a15) (V_partsFitsq1 a0 a1 a2 a3 a4 a5 a6 a7 a8 a9 a10 a11 a12 a13 a14 a15 r) (R_partsFitsq1 a0 a1 a2 a3 a4 a5 a6 a7 a8 a9 a10 a11 a12 a13 a14 a15 r)
abbrev C_partsFitsq1 (a0 : Int) (a1 : Int) (a2 : Int) (a3 : Int) (a4 : Int) (a5 : Int) (a6 : NL) (a7 : Int) (a8 : Int) (a9 : Int) (a10 : Int) (a11 : Int) (a12 : Int) (a13 : Int) (a14 : NL) (a15 : Int) (r : Bool) (ins outs : BL) : CallA := ⟨0, ins, V_partsFitsq1 a0 a1 a2 a3 a4 a5 a6 a7 a8 a9 a10 a11 a12 a13 a14 a15 r, R_partsFitsq1 a0 a1 a2 a3 a4 a5 a6 a7 a8 a9 a10 a11 a12 a13 a14 a15 r, outs⟩
def m_partsFitsq1 (n : Nat) (a0 : Int) (a1 : Int) (a2 : Int) (a3 : Int) (a4 : Int) (a5 : Int) (a6 : NL) (a7 : Int) (a8 : Int) (a9 : Int) (a10 : Int) (a11 : Int) (a12 : Int) (a13 : Int) (a14 : NL) (a15 : Int) : Option (Bool) :=
 if a0 = a8 then
  if a1 = a9 then
   if a2 = a10 then
    if a4 = a12 then
     some true
    else
     some false
   else
    some false
  else
   some false
 else
  some false
theorem m_partsFitsq1_ok (n : Nat) (a0 : Int) (a1 : Int) (a2 : Int) (a3 : Int) (a4 : Int) (a5 : Int) (a6 : NL) (a7 : Int) (a8 : Int) (a9 : Int) (a10 : Int) (a11 : Int) (a12 : Int) (a13 : Int) (a14 : NL) (a15 : Int) (r : Bool) (h : m_partsFitsq1 n a0 a1 a2 a3 a4 a5 a6 a7 a8 a9 a10 a11 a12 a13 a14 a15 = some r) : Gv P (.func 39) (A_partsFitsq1 a0 a1 a2 a3 a4 a5 a6 a7 a8 a9 a10 a11 a12 a13 a14 a15) (H_partsFitsq1 a0 a1 a2 a3 a4 a5 a6 a7 a8 a9 a10 a11 a12 a13 a14 a15) (V_partsFitsq1 a0 a1 a2 a3 a4 a5 a6 a7 a8 a9 a10 a11 a12 a13 a14 a15 r) (R_partsFitsq1 a0 a1 a2 a3 a4 a5 a6 a7 a8 a9 a10 a11 a12 a13 a14 a15 r) := by
 unfold m_partsFitsq1 at h
 by_cases hc1 : a0 = a8
 ·rw [if_pos hc1] at h
  by_cases hc2 : a1 = a9
  ·rw [if_pos hc2] at h
   by_cases hc3 : a2 = a10
   ·rw [if_pos hc3] at h
    by_cases hc4 : a4 = a12
    ·rw [if_pos hc4] at h
     obtain rfl := oI h; exact (runF2 hm (L := lT []) ⟨[4], [], 0, 0, [], false, []⟩ (zz 9 (xeT hc1) <|
zz 15 (xeT hc2) <|
zz 22 (xeT hc3) <|
zz 29 (xeT hc4) ee) (by kernel_rfl))
    ·rw [if_neg hc4] at h
     obtain rfl := oI h; exact (runF2 hm (L := lT []) ⟨[4], [], 0, 0, [], false, []⟩ (zz 9 (xeT hc1) <|
zz 15 (xeT hc2) <|
zz 22 (xeT hc3) <|
zz 29 (xeF hc4) ee) (by kernel_rfl))
   ·rw [if_neg hc3] at h
    obtain rfl := oI h; exact (runF2 hm (L := lT []) ⟨[4], [], 0, 0, [], false, []⟩ (zz 9 (xeT hc1) <|
zz 15 (xeT hc2) <|
zz 22 (xeF hc3) ee) (by kernel_rfl))
  ·rw [if_neg hc2] at h
   obtain rfl := oI h; exact (runF2 hm (L := lT []) ⟨[4], [], 0, 0, [], false, []⟩ (zz 9 (xeT hc1) <|
zz 15 (xeF hc2) ee) (by kernel_rfl))
 ·rw [if_neg hc1] at h
  obtain rfl := oI h; exact (runF2 hm (L := lT []) ⟨[4], [], 0, 0, [], false, []⟩ (zz 9 (xeF hc1) ee) (by kernel_rfl))

def A_qIq1 (a0 : NL) (a1 : NL) : List Value := [(nlV a0), (nlV a1)]
def H_qIq1 (a0 : NL) (a1 : NL) : AH := ⟨sB [], 0, 0⟩
def V_qIq1 (a0 : NL) (a1 : NL) (r : Bool) : Value := match r with
 | o0 => (bO o0)
def R_qIq1 (a0 : NL) (a1 : NL) (r : Bool) : AH := match r with
 | o0 => ⟨sB [], 0, 0⟩
abbrev G_qIq1 (a0 : NL) (a1 : NL) (r : Bool) : Prop := Gv P (.func 40) (A_qIq1 a0 a1) (H_qIq1 a0 a1) (V_qIq1 a0 a1 r) (R_qIq1 a0 a1 r)
abbrev C_qIq1 (a0 : NL) (a1 : NL) (r : Bool) (ins outs : BL) : CallA := ⟨0, ins, V_qIq1 a0 a1 r, R_qIq1 a0 a1 r, outs⟩
def S_qIq1_1 (x1_0 : NL) (x1_1 : NL) (x1_2 : Int) (st : Int) : XSt := match st with
 | x1_3 => (sT 26 [(0, (nlV x1_0)), (1, (nlV x1_1)), (12, (i6 x1_2)), (13, (i6 x1_3))], [], ⟨sB [], 0, 0⟩)
def X_qIq1_1 (x1_0 : NL) (x1_1 : NL) (x1_2 : Int) (r : (Unit) ⊕ (Unit)) : Ex × XSt := match r with
 | .inl _ => (.ret, (sT 26 [(4, (bO false))], [], ⟨sB [], 0, 0⟩))
 | .inr _ => (.exit 0, (sT 26 [], [], ⟨sB [], 0, 0⟩))
abbrev Q_qIq1_1 (rnd : Option Nat) (x1_0 : NL) (x1_1 : NL) (x1_2 : Int) (st : Int) (c : Ex × XSt) : Prop := CG P rnd (fnN P 40) 0 (codeOf P 40 [false, false, true, false, true, true]) (S_qIq1_1 x1_0 x1_1 x1_2 st) c
abbrev U_qIq1_1 (rd : Option Nat) (x1_0 : NL) (x1_1 : NL) (x1_2 : Int) (st : Int) (r : (Unit) ⊕ (Unit)) : Prop := CG P rd (fnN P 40) 0 (codeOf P 40 [false, true, false, true, true]) (S_qIq1_1 x1_0 x1_1 x1_2 st) (X_qIq1_1 x1_0 x1_1 x1_2 r)
def B_qIq1_1 (n : Nat) (x1_0 : NL) (x1_1 : NL) (x1_2 : Int) (st : Int) : Option ((Int) ⊕ ((Unit) ⊕ (Unit))) := match st with
 | x1_3 =>
  if x1_3 < x1_2 then
   if 0 ≤ x1_3 ∧ x1_3 < (x1_0.l.length : Int) then
    if (x1_3).toNat < ((x1_0).l).length then
     ((some (((x1_0).l).getD (x1_3).toNat 0))).bind fun y1_4_ =>
     if 0 ≤ x1_3 ∧ x1_3 < (x1_1.l.length : Int) then
      if (x1_3).toNat < ((x1_1).l).length then
       ((some (((x1_1).l).getD (x1_3).toNat 0))).bind fun y1_7_ =>
       if y1_4_ = y1_7_ then
        some (.inl (w64 (x1_3 + (1 : Int))))
       else
        some (.inr (.inl ()))
      else none
     else none
    else none
   else none
  else
   some (.inr (.inr ()))
def m_qIq1_1 (n : Nat) (x1_0 : NL) (x1_1 : NL) (x1_2 : Int) (st : Int) : Option ((Unit) ⊕ (Unit)) := iterM (B_qIq1_1 n x1_0 x1_1 x1_2) n st
theorem q_qIq1_1_0 (n : Nat) {rnd : Option Nat} (x1_0 x1_1 : NL) (x1_2 x1_3 : Int) (hy1_1 : x1_3 < x1_2) (hy1_2 : 0 ≤ x1_3 ∧ x1_3 < (x1_0.l.length : Int)) (hy1_3 : (x1_3).toNat < ((x1_0).l).length) (y1_4_ : Int) (hy1_4 : (some (((x1_0).l).getD (x1_3).toNat 0)) = some y1_4_) (hy1_5 : 0 ≤ x1_3 ∧ x1_3 < (x1_1.l.length : Int)) (hy1_6 : (x1_3).toNat < ((x1_1).l).length) (y1_7_ : Int) (hy1_7 : (some (((x1_1).l).getD (x1_3).toNat 0)) = some y1_7_) (hy1_8 : y1_4_ = y1_7_) : Q_qIq1_1 rnd x1_0 x1_1 x1_2 x1_3 (.normal, S_qIq1_1 x1_0 x1_1 x1_2 (w64 (x1_3 + (1 : Int)))) :=
 runC2 hm (L := lT []) ⟨[0, 1, 12, 13], [], 0, 0, [], false, []⟩ (zz 1 (xdT hy1_1) <|
zz 12 (xk6 (Nat.add (x1_0).num 64) (x1_0).cap hy1_2) <|
zz 13 (nk7 hy1_4 hy1_3) <|
zz 16 (xk6 (Nat.add (x1_1).num 64) (x1_1).cap hy1_5) <|
zz 17 (nk7 hy1_7 hy1_6) <|
zz 18 (xnF hy1_8) <|
ee) (by kernel_rfl)
theorem q_qIq1_1_1 (n : Nat) {rnd : Option Nat} (x1_0 x1_1 : NL) (x1_2 x1_3 : Int) (hy1_1 : x1_3 < x1_2) (hy1_2 : 0 ≤ x1_3 ∧ x1_3 < (x1_0.l.length : Int)) (hy1_3 : (x1_3).toNat < ((x1_0).l).length) (y1_4_ : Int) (hy1_4 : (some (((x1_0).l).getD (x1_3).toNat 0)) = some y1_4_) (hy1_5 : 0 ≤ x1_3 ∧ x1_3 < (x1_1.l.length : Int)) (hy1_6 : (x1_3).toNat < ((x1_1).l).length) (y1_7_ : Int) (hy1_7 : (some (((x1_1).l).getD (x1_3).toNat 0)) = some y1_7_) (hy1_8 : ¬ (y1_4_ = y1_7_)) : Q_qIq1_1 rnd x1_0 x1_1 x1_2 x1_3 (X_qIq1_1 x1_0 x1_1 x1_2 (.inl ())) :=
 runC2 hm (L := lT []) ⟨[4], [], 0, 0, [], false, []⟩ (zz 1 (xdT hy1_1) <|
zz 12 (xk6 (Nat.add (x1_0).num 64) (x1_0).cap hy1_2) <|
zz 13 (nk7 hy1_4 hy1_3) <|
zz 16 (xk6 (Nat.add (x1_1).num 64) (x1_1).cap hy1_5) <|
zz 17 (nk7 hy1_7 hy1_6) <|
zz 18 (xnT hy1_8) <|
ee) (by kernel_rfl)
theorem q_qIq1_1_2 (n : Nat) {rnd : Option Nat} (x1_0 x1_1 : NL) (x1_2 x1_3 : Int) (hy1_1 : ¬ (x1_3 < x1_2)) : Q_qIq1_1 rnd x1_0 x1_1 x1_2 x1_3 (X_qIq1_1 x1_0 x1_1 x1_2 (.inr ())) :=
 runC2 hm (L := lT []) ⟨[], [], 0, 0, [], false, []⟩ (zz 1 (xdF hy1_1) <|
ee) (by kernel_rfl)
theorem m_qIq1_1_ok (n : Nat) {rnd : Option Nat} (x1_0 : NL) (x1_1 : NL) (x1_2 : Int) (st : Int) (r : (Unit) ⊕ (Unit)) (h : m_qIq1_1 n x1_0 x1_1 x1_2 st = some r) : CG P rnd (fnN P 40) 0 (codeOf P 40 [false, true, false, true, true]) (S_qIq1_1 x1_0 x1_1 x1_2 st) (X_qIq1_1 x1_0 x1_1 x1_2 r) :=
 CG.iter (b := codeOf P 40 [false, false, true, false, true, true]) (by kernel_rfl) (body := B_qIq1_1 n x1_0 x1_1 x1_2) (S := S_qIq1_1 x1_0 x1_1 x1_2) (X := X_qIq1_1 x1_0 x1_1 x1_2)
  (fun x1_3 s' h => by
  unfold B_qIq1_1 at h
  dsimp only at h
  by_cases hy1_1 : x1_3 < x1_2
  ·rw [if_pos hy1_1] at h
   by_cases hy1_2 : 0 ≤ x1_3 ∧ x1_3 < (x1_0.l.length : Int)
   ·rw [if_pos hy1_2] at h
    by_cases hy1_3 : (x1_3).toNat < ((x1_0).l).length
    ·rw [if_pos hy1_3] at h
     obtain ⟨y1_4_, hy1_4, h⟩ := Option.bind_eq_some_iff.1 h
     by_cases hy1_5 : 0 ≤ x1_3 ∧ x1_3 < (x1_1.l.length : Int)
     ·rw [if_pos hy1_5] at h
      by_cases hy1_6 : (x1_3).toNat < ((x1_1).l).length
      ·rw [if_pos hy1_6] at h
       obtain ⟨y1_7_, hy1_7, h⟩ := Option.bind_eq_some_iff.1 h
       by_cases hy1_8 : y1_4_ = y1_7_
       ·rw [if_pos hy1_8] at h
        obtain rfl := Sum.inl.inj (oI h); exact q_qIq1_1_0 n x1_0 x1_1 x1_2 x1_3 hy1_1 hy1_2 hy1_3 y1_4_ hy1_4 hy1_5 hy1_6 y1_7_ hy1_7 hy1_8
       ·rw [if_neg hy1_8] at h
        cases h
      ·rw [if_neg hy1_6] at h; cases h
     ·rw [if_neg hy1_5] at h; cases h
    ·rw [if_neg hy1_3] at h; cases h
   ·rw [if_neg hy1_2] at h; cases h
  ·rw [if_neg hy1_1] at h
   cases h)
  (fun x1_3 r h => by
  unfold B_qIq1_1 at h
  dsimp only at h
  by_cases hy1_1 : x1_3 < x1_2
  ·rw [if_pos hy1_1] at h
   by_cases hy1_2 : 0 ≤ x1_3 ∧ x1_3 < (x1_0.l.length : Int)
   ·rw [if_pos hy1_2] at h
    by_cases hy1_3 : (x1_3).toNat < ((x1_0).l).length
    ·rw [if_pos hy1_3] at h
     obtain ⟨y1_4_, hy1_4, h⟩ := Option.bind_eq_some_iff.1 h
     by_cases hy1_5 : 0 ≤ x1_3 ∧ x1_3 < (x1_1.l.length : Int)
     ·rw [if_pos hy1_5] at h
      by_cases hy1_6 : (x1_3).toNat < ((x1_1).l).length
      ·rw [if_pos hy1_6] at h
       obtain ⟨y1_7_, hy1_7, h⟩ := Option.bind_eq_some_iff.1 h
       by_cases hy1_8 : y1_4_ = y1_7_
       ·rw [if_pos hy1_8] at h
        cases h
       ·rw [if_neg hy1_8] at h
        obtain rfl := Sum.inr.inj (oI h); exact q_qIq1_1_1 n x1_0 x1_1 x1_2 x1_3 hy1_1 hy1_2 hy1_3 y1_4_ hy1_4 hy1_5 hy1_6 y1_7_ hy1_7 hy1_8
      ·rw [if_neg hy1_6] at h; cases h
     ·rw [if_neg hy1_5] at h; cases h
    ·rw [if_neg hy1_3] at h; cases h
   ·rw [if_neg hy1_2] at h; cases h
  ·rw [if_neg hy1_1] at h
   obtain rfl := Sum.inr.inj (oI h); exact q_qIq1_1_2 n x1_0 x1_1 x1_2 x1_3 hy1_1)
  (fun r => by intro hx; rcases r with _ | _ <;> cases hx) h
def m_qIq1 (n : Nat) (a0 : NL) (a1 : NL) : Option (Bool) :=
 if (a0.l.length : Int) = (a1.l.length : Int) then
  match m_qIq1_1 n a0 a1 (a0.l.length : Int) 0 with
  | none => none
  | some (.inl _) =>
   some false
  | some (.inr _) =>
   some true
 else
  some false
theorem m_qIq1_ok (n : Nat) (a0 : NL) (a1 : NL) (r : Bool) (h : m_qIq1 n a0 a1 = some r) : Gv P (.func 40) (A_qIq1 a0 a1) (H_qIq1 a0 a1) (V_qIq1 a0 a1 r) (R_qIq1 a0 a1 r) := by
 unfold m_qIq1 at h
 by_cases hc1 : (a0.l.length : Int) = (a1.l.length : Int)
 ·rw [if_pos hc1] at h
  rcases hc2 : m_qIq1_1 n a0 a1 (a0.l.length : Int) 0 with _ | (⟨⟩ | ⟨⟩)
  ·rw [hc2] at h; cases h
  ·rw [hc2] at h
   dsimp only at h
   obtain rfl := oI h; exact (runF2 hm (L := lT [(16, ⟨⟨[0, 1, 12, 13], [], 0, 0, [], false, []⟩, (X_qIq1_1 a0 a1 (a0.l.length : Int) (.inl ())).1, (X_qIq1_1 a0 a1 (a0.l.length : Int) (.inl ())).2⟩)]) ⟨[4], [], 0, 0, [], false, []⟩ (zz 8 (xnF hc1) <|
ww (p := U_qIq1_1 none a0 a1 (a0.l.length : Int) 0 (.inl ())) (m_qIq1_1_ok n a0 a1 (a0.l.length : Int) 0 (.inl ()) hc2) ee) (by kernel_rfl))
  ·rw [hc2] at h
   dsimp only at h
   obtain rfl := oI h; exact (runF2 hm (L := lT [(16, ⟨⟨[0, 1, 12, 13], [], 0, 0, [], false, []⟩, (X_qIq1_1 a0 a1 (a0.l.length : Int) (.inr ())).1, (X_qIq1_1 a0 a1 (a0.l.length : Int) (.inr ())).2⟩)]) ⟨[4], [], 0, 0, [], false, []⟩ (zz 8 (xnF hc1) <|
ww (p := U_qIq1_1 none a0 a1 (a0.l.length : Int) 0 (.inr ())) (m_qIq1_1_ok n a0 a1 (a0.l.length : Int) 0 (.inr ()) hc2) ee) (by kernel_rfl))
 ·rw [if_neg hc1] at h
  obtain rfl := oI h; exact (runF2 hm (L := lT []) ⟨[4], [], 0, 0, [], false, []⟩ (zz 8 (xnT hc1) ee) (by kernel_rfl))

def A_pS1q1 (a0 : Int) (a1 : Int) (a2 : Int) (a3 : Int) (a4 : Int) (a5 : Int) (a6 : NL) (a7 : Int) (a8 : Int) (a9 : Int) (a10 : Int) (a11 : Int) (a12 : Int) (a13 : Int) (a14 : NL) (a15 : Int) : List Value := [(Value.agg #[(i6 a0), (i6 a1), (i6 a2), (i6 a3), (i6 a4), (i6 a5), (nlV a6), (Value.int .u64 a7)]), (Value.agg #[(i6 a8), (i6 a9), (i6 a10), (i6 a11), (i6 a12), (i6 a13), (nlV a14), (Value.int .u64 a15)])]
def H_pS1q1 (a0 : Int) (a1 : Int) (a2 : Int) (a3 : Int) (a4 : Int) (a5 : Int) (a6 : NL) (a7 : Int) (a8 : Int) (a9 : Int) (a10 : Int) (a11 : Int) (a12 : Int) (a13 : Int) (a14 : NL) (a15 : Int) : AH := ⟨sB [], 0, 0⟩
def V_pS1q1 (a0 : Int) (a1 : Int) (a2 : Int) (a3 : Int) (a4 : Int) (a5 : Int) (a6 : NL) (a7 : Int) (a8 : Int) (a9 : Int) (a10 : Int) (a11 : Int) (a12 : Int) (a13 : Int) (a14 : NL) (a15 : Int) (r : Bool) : Value := match r with
 | o0 => (bO o0)
def R_pS1q1 (a0 : Int) (a1 : Int) (a2 : Int) (a3 : Int) (a4 : Int) (a5 : Int) (a6 : NL) (a7 : Int) (a8 : Int) (a9 : Int) (a10 : Int) (a11 : Int) (a12 : Int) (a13 : Int) (a14 : NL) (a15 : Int) (r : Bool) : AH := match r with
 | o0 => ⟨sB [], 0, 0⟩
abbrev G_pS1q1 (a0 : Int) (a1 : Int) (a2 : Int) (a3 : Int) (a4 : Int) (a5 : Int) (a6 : NL) (a7 : Int) (a8 : Int) (a9 : Int) (a10 : Int) (a11 : Int) (a12 : Int) (a13 : Int) (a14 : NL) (a15 : Int) (r : Bool) : Prop := Gv P (.func 38) (A_pS1q1 a0 a1 a2 a3 a4 a5 a6 a7 a8 a9 a10 a11 a12 a13 a14 a15) (H_pS1q1 a0 a1 a2 a3 a4 a5 a6 a7 a8 a9 a10 a11 a12 a13 a14 a15) (V_pS1q1 a0 a1 a2 a3 a4 a5 a6 a7 a8 a9 a10 a11 a12 a13 a14 a15 r) (R_pS1q1 a0 a1 a2 a3 a4 a5 a6 a7 a8 a9 a10 a11 a12 a13 a14 a15 r)
abbrev C_pS1q1 (a0 : Int) (a1 : Int) (a2 : Int) (a3 : Int) (a4 : Int) (a5 : Int) (a6 : NL) (a7 : Int) (a8 : Int) (a9 : Int) (a10 : Int) (a11 : Int) (a12 : Int) (a13 : Int) (a14 : NL) (a15 : Int) (r : Bool) (ins outs : BL) : CallA := ⟨0, ins, V_pS1q1 a0 a1 a2 a3 a4 a5 a6 a7 a8 a9 a10 a11 a12 a13 a14 a15 r, R_pS1q1 a0 a1 a2 a3 a4 a5 a6 a7 a8 a9 a10 a11 a12 a13 a14 a15 r, outs⟩
def m_pS1q1 (n : Nat) (a0 : Int) (a1 : Int) (a2 : Int) (a3 : Int) (a4 : Int) (a5 : Int) (a6 : NL) (a7 : Int) (a8 : Int) (a9 : Int) (a10 : Int) (a11 : Int) (a12 : Int) (a13 : Int) (a14 : NL) (a15 : Int) : Option (Bool) :=
 (m_partsFitsq1 n a0 a1 a2 a3 a4 a5 a6 a7 a8 a9 a10 a11 a12 a13 a14 a15).bind fun c1_ =>
 if c1_ = true then
  if a3 = a11 then
   if a5 = a13 then
    if a7 = a15 then
     (m_qIq1 n a6 a14).bind fun c6_ =>
     some c6_
    else
     some false
   else
    some false
  else
   some false
 else
  some false
theorem m_pS1q1_ok (n : Nat) (a0 : Int) (a1 : Int) (a2 : Int) (a3 : Int) (a4 : Int) (a5 : Int) (a6 : NL) (a7 : Int) (a8 : Int) (a9 : Int) (a10 : Int) (a11 : Int) (a12 : Int) (a13 : Int) (a14 : NL) (a15 : Int) (r : Bool) (h : m_pS1q1 n a0 a1 a2 a3 a4 a5 a6 a7 a8 a9 a10 a11 a12 a13 a14 a15 = some r) : Gv P (.func 38) (A_pS1q1 a0 a1 a2 a3 a4 a5 a6 a7 a8 a9 a10 a11 a12 a13 a14 a15) (H_pS1q1 a0 a1 a2 a3 a4 a5 a6 a7 a8 a9 a10 a11 a12 a13 a14 a15) (V_pS1q1 a0 a1 a2 a3 a4 a5 a6 a7 a8 a9 a10 a11 a12 a13 a14 a15 r) (R_pS1q1 a0 a1 a2 a3 a4 a5 a6 a7 a8 a9 a10 a11 a12 a13 a14 a15 r) := by
 unfold m_pS1q1 at h
 obtain ⟨c1_, hc1, h⟩ := Option.bind_eq_some_iff.1 h
 by_cases hc2 : c1_ = true
 ·rw [if_pos hc2] at h
  by_cases hc3 : a3 = a11
  ·rw [if_pos hc3] at h
   by_cases hc4 : a5 = a13
   ·rw [if_pos hc4] at h
    by_cases hc5 : a7 = a15
    ·rw [if_pos hc5] at h
     obtain ⟨c6_, hc6, h⟩ := Option.bind_eq_some_iff.1 h
     obtain rfl := oI h; exact (runF2 hm (L := lT []) ⟨[4], [], 0, 0, [], false, []⟩ (yy 7 (.call (C_partsFitsq1 a0 a1 a2 a3 a4 a5 a6 a7 a8 a9 a10 a11 a12 a13 a14 a15 c1_ [] [])) <|
ww (m_partsFitsq1_ok n a0 a1 a2 a3 a4 a5 a6 a7 a8 a9 a10 a11 a12 a13 a14 a15 c1_ hc1) <|
zz 8 (xbT hc2) <|
zz 13 (xeT hc3) <|
zz 20 (xeT hc4) <|
zz 27 (xeT hc5) <|
yy 34 (.call (C_qIq1 a6 a14 c6_ [] [])) <|
ww (m_qIq1_ok n a6 a14 c6_ hc6) ee) (by kernel_rfl))
    ·rw [if_neg hc5] at h
     obtain rfl := oI h; exact (runF2 hm (L := lT []) ⟨[4], [], 0, 0, [], false, []⟩ (yy 7 (.call (C_partsFitsq1 a0 a1 a2 a3 a4 a5 a6 a7 a8 a9 a10 a11 a12 a13 a14 a15 c1_ [] [])) <|
ww (m_partsFitsq1_ok n a0 a1 a2 a3 a4 a5 a6 a7 a8 a9 a10 a11 a12 a13 a14 a15 c1_ hc1) <|
zz 8 (xbT hc2) <|
zz 13 (xeT hc3) <|
zz 20 (xeT hc4) <|
zz 27 (xeF hc5) ee) (by kernel_rfl))
   ·rw [if_neg hc4] at h
    obtain rfl := oI h; exact (runF2 hm (L := lT []) ⟨[4], [], 0, 0, [], false, []⟩ (yy 7 (.call (C_partsFitsq1 a0 a1 a2 a3 a4 a5 a6 a7 a8 a9 a10 a11 a12 a13 a14 a15 c1_ [] [])) <|
ww (m_partsFitsq1_ok n a0 a1 a2 a3 a4 a5 a6 a7 a8 a9 a10 a11 a12 a13 a14 a15 c1_ hc1) <|
zz 8 (xbT hc2) <|
zz 13 (xeT hc3) <|
zz 20 (xeF hc4) ee) (by kernel_rfl))
  ·rw [if_neg hc3] at h
   obtain rfl := oI h; exact (runF2 hm (L := lT []) ⟨[4], [], 0, 0, [], false, []⟩ (yy 7 (.call (C_partsFitsq1 a0 a1 a2 a3 a4 a5 a6 a7 a8 a9 a10 a11 a12 a13 a14 a15 c1_ [] [])) <|
ww (m_partsFitsq1_ok n a0 a1 a2 a3 a4 a5 a6 a7 a8 a9 a10 a11 a12 a13 a14 a15 c1_ hc1) <|
zz 8 (xbT hc2) <|
zz 13 (xeF hc3) ee) (by kernel_rfl))
 ·rw [if_neg hc2] at h
  obtain rfl := oI h; exact (runF2 hm (L := lT []) ⟨[4], [], 0, 0, [], false, []⟩ (yy 7 (.call (C_partsFitsq1 a0 a1 a2 a3 a4 a5 a6 a7 a8 a9 a10 a11 a12 a13 a14 a15 c1_ [] [])) <|
ww (m_partsFitsq1_ok n a0 a1 a2 a3 a4 a5 a6 a7 a8 a9 a10 a11 a12 a13 a14 a15 c1_ hc1) <|
zz 8 (xbF hc2) ee) (by kernel_rfl))

def A_qFq1 (a0 : List R8) (a1 : Nat) (a2 : Nat) (a3 : List R8) (a4 : Nat) (a5 : Nat) : List Value := [(sN 0 0 a1 a2), (sN 1 0 a4 a5), (Value.func (.func 38) #[] #[])]
def H_qFq1 (a0 : List R8) (a1 : Nat) (a2 : Nat) (a3 : List R8) (a4 : Nat) (a5 : Nat) : AH := ⟨sB [(0, (some (.cells (layT (rows rw_iiiiiiLu a0)) 37))), (1, (some (.cells (layT (rows rw_iiiiiiLu a3)) 37)))], 2, 2⟩
def V_qFq1 (a0 : List R8) (a1 : Nat) (a2 : Nat) (a3 : List R8) (a4 : Nat) (a5 : Nat) (r : Bool) : Value := match r with
 | o0 => (bO o0)
def R_qFq1 (a0 : List R8) (a1 : Nat) (a2 : Nat) (a3 : List R8) (a4 : Nat) (a5 : Nat) (r : Bool) : AH := match r with
 | o0 => ⟨sB [], 2, 2⟩
abbrev G_qFq1 (a0 : List R8) (a1 : Nat) (a2 : Nat) (a3 : List R8) (a4 : Nat) (a5 : Nat) (r : Bool) : Prop := Gv P (.func 37) (A_qFq1 a0 a1 a2 a3 a4 a5) (H_qFq1 a0 a1 a2 a3 a4 a5) (V_qFq1 a0 a1 a2 a3 a4 a5 r) (R_qFq1 a0 a1 a2 a3 a4 a5 r)
abbrev C_qFq1 (a0 : List R8) (a1 : Nat) (a2 : Nat) (a3 : List R8) (a4 : Nat) (a5 : Nat) (r : Bool) (ins outs : BL) : CallA := ⟨2, ins, V_qFq1 a0 a1 a2 a3 a4 a5 r, R_qFq1 a0 a1 a2 a3 a4 a5 r, outs⟩
def S_qFq1_1 (x1_0 : List R8) (x1_1 : List R8) (x1_2 : Nat) (x1_3 : Nat) (x1_4 : Nat) (x1_5 : Nat) (x1_6 : Int) (st : Int) : XSt := match st with
 | x1_7 => (sT 32 [(1, (sN 1 0 x1_2 x1_3)), (2, (Value.func (.func 38) #[] #[])), (15, (sN 0 0 x1_4 x1_5)), (16, (i6 x1_6)), (17, (i6 x1_7))], [], ⟨sB [(0, (some (.cells (layT (rows rw_iiiiiiLu x1_0)) 37))), (1, (some (.cells (layT (rows rw_iiiiiiLu x1_1)) 37)))], 2, 2⟩)
def X_qFq1_1 (x1_0 : List R8) (x1_1 : List R8) (x1_2 : Nat) (x1_3 : Nat) (x1_4 : Nat) (x1_5 : Nat) (x1_6 : Int) (r : (Unit) ⊕ (Unit)) : Ex × XSt := match r with
 | .inl _ => (.ret, (sT 32 [(6, (bO false))], [], ⟨sB [(0, (some (.cells (layT (rows rw_iiiiiiLu x1_0)) 37))), (1, (some (.cells (layT (rows rw_iiiiiiLu x1_1)) 37)))], 2, 2⟩))
 | .inr _ => (.exit 0, (sT 32 [], [], ⟨sB [(0, (some (.cells (layT (rows rw_iiiiiiLu x1_0)) 37))), (1, (some (.cells (layT (rows rw_iiiiiiLu x1_1)) 37)))], 2, 2⟩))
abbrev Q_qFq1_1 (rnd : Option Nat) (x1_0 : List R8) (x1_1 : List R8) (x1_2 : Nat) (x1_3 : Nat) (x1_4 : Nat) (x1_5 : Nat) (x1_6 : Int) (st : Int) (c : Ex × XSt) : Prop := CG P rnd (fnN P 37) 2 (codeOf P 37 [false, false, true, false, true, true]) (S_qFq1_1 x1_0 x1_1 x1_2 x1_3 x1_4 x1_5 x1_6 st) c
abbrev U_qFq1_1 (rd : Option Nat) (x1_0 : List R8) (x1_1 : List R8) (x1_2 : Nat) (x1_3 : Nat) (x1_4 : Nat) (x1_5 : Nat) (x1_6 : Int) (st : Int) (r : (Unit) ⊕ (Unit)) : Prop := CG P rd (fnN P 37) 2 (codeOf P 37 [false, true, false, true, true]) (S_qFq1_1 x1_0 x1_1 x1_2 x1_3 x1_4 x1_5 x1_6 st) (X_qFq1_1 x1_0 x1_1 x1_2 x1_3 x1_4 x1_5 x1_6 r)
def B_qFq1_1 (n : Nat) (x1_0 : List R8) (x1_1 : List R8) (x1_2 : Nat) (x1_3 : Nat) (x1_4 : Nat) (x1_5 : Nat) (x1_6 : Int) (st : Int) : Option ((Int) ⊕ ((Unit) ⊕ (Unit))) := match st with
 | x1_7 =>
  if x1_7 < x1_6 then
   if 0 ≤ x1_7 ∧ x1_7 < ((x1_4 : Nat) : Int) then
    if (x1_7).toNat < (x1_0).length then
     ((some ((x1_0).getD (x1_7).toNat (0, 0, 0, 0, 0, 0, nl0, 0)))).bind fun y1_4_ =>
     if 0 ≤ x1_7 ∧ x1_7 < ((x1_2 : Nat) : Int) then
      if (x1_7).toNat < (x1_1).length then
       ((some ((x1_1).getD (x1_7).toNat (0, 0, 0, 0, 0, 0, nl0, 0)))).bind fun y1_7_ =>
       (m_pS1q1 n (y1_4_.1) (y1_4_.2.1) (y1_4_.2.2.1) (y1_4_.2.2.2.1) (y1_4_.2.2.2.2.1) (y1_4_.2.2.2.2.2.1) (y1_4_.2.2.2.2.2.2.1) (y1_4_.2.2.2.2.2.2.2) (y1_7_.1) (y1_7_.2.1) (y1_7_.2.2.1) (y1_7_.2.2.2.1) (y1_7_.2.2.2.2.1) (y1_7_.2.2.2.2.2.1) (y1_7_.2.2.2.2.2.2.1) (y1_7_.2.2.2.2.2.2.2)).bind fun y1_8_ =>
       if y1_8_ = true then
        some (.inl (w64 (x1_7 + (1 : Int))))
       else
        some (.inr (.inl ()))
      else none
     else none
    else none
   else none
  else
   some (.inr (.inr ()))
def m_qFq1_1 (n : Nat) (x1_0 : List R8) (x1_1 : List R8) (x1_2 : Nat) (x1_3 : Nat) (x1_4 : Nat) (x1_5 : Nat) (x1_6 : Int) (st : Int) : Option ((Unit) ⊕ (Unit)) := iterM (B_qFq1_1 n x1_0 x1_1 x1_2 x1_3 x1_4 x1_5 x1_6) n st
theorem q_qFq1_1_0 (n : Nat) {rnd : Option Nat} (x1_0 x1_1 : List R8) (x1_2 x1_3 x1_4 x1_5 : Nat) (x1_6 x1_7 : Int) (hy1_1 : x1_7 < x1_6) (hy1_2 : 0 ≤ x1_7 ∧ x1_7 < ((x1_4 : Nat) : Int)) (hy1_3 : (x1_7).toNat < (x1_0).length) (y1_4_ : R8) (hy1_4 : (some ((x1_0).getD (x1_7).toNat (0, 0, 0, 0, 0, 0, nl0, 0))) = some y1_4_) (hy1_5 : 0 ≤ x1_7 ∧ x1_7 < ((x1_2 : Nat) : Int)) (hy1_6 : (x1_7).toNat < (x1_1).length) (y1_7_ : R8) (hy1_7 : (some ((x1_1).getD (x1_7).toNat (0, 0, 0, 0, 0, 0, nl0, 0))) = some y1_7_) (y1_8_ : Bool) (hy1_8 : m_pS1q1 n (y1_4_.1) (y1_4_.2.1) (y1_4_.2.2.1) (y1_4_.2.2.2.1) (y1_4_.2.2.2.2.1) (y1_4_.2.2.2.2.2.1) (y1_4_.2.2.2.2.2.2.1) (y1_4_.2.2.2.2.2.2.2) (y1_7_.1) (y1_7_.2.1) (y1_7_.2.2.1) (y1_7_.2.2.2.1) (y1_7_.2.2.2.2.1) (y1_7_.2.2.2.2.2.1) (y1_7_.2.2.2.2.2.2.1) (y1_7_.2.2.2.2.2.2.2) = some y1_8_) (hy1_9 : y1_8_ = true) : Q_qFq1_1 rnd x1_0 x1_1 x1_2 x1_3 x1_4 x1_5 x1_6 x1_7 (.normal, S_qFq1_1 x1_0 x1_1 x1_2 x1_3 x1_4 x1_5 x1_6 (w64 (x1_7 + (1 : Int)))) :=
 runC2 hm (L := lT []) ⟨[1, 2, 15, 16, 17], [(0, 0, true), (1, 1, true)], 2, 2, [], false, []⟩ (zz 1 (xdT hy1_1) <|
zz 8 (xk10 0 x1_5 hy1_2) <|
yy 9 (.ld (Value.agg #[(i6 (y1_4_.1)), (i6 (y1_4_.2.1)), (i6 (y1_4_.2.2.1)), (i6 (y1_4_.2.2.2.1)), (i6 (y1_4_.2.2.2.2.1)), (i6 (y1_4_.2.2.2.2.2.1)), (nlV (y1_4_.2.2.2.2.2.2.1)), (Value.int .u64 (y1_4_.2.2.2.2.2.2.2))])) <|
ww (p := rdT (layT (rows rw_iiiiiiLu x1_0)) 8 ((x1_7).toNat * 8) = some [(i6 (y1_4_.1)), (i6 (y1_4_.2.1)), (i6 (y1_4_.2.2.1)), (i6 (y1_4_.2.2.2.1)), (i6 (y1_4_.2.2.2.2.1)), (i6 (y1_4_.2.2.2.2.2.1)), (nlV (y1_4_.2.2.2.2.2.2.1)), (Value.int .u64 (y1_4_.2.2.2.2.2.2.2))]) (rows_rdpN rwf_iiiiiiLu (0, 0, 0, 0, 0, 0, nl0, 0) (hr := hy1_4) (i := (x1_7).toNat) (j := 0) ((x1_7).toNat * 8) rfl (hy1_3) (by decide) rfl) <|
zz 16 (xk10 1 x1_3 hy1_5) <|
yy 17 (.ld (Value.agg #[(i6 (y1_7_.1)), (i6 (y1_7_.2.1)), (i6 (y1_7_.2.2.1)), (i6 (y1_7_.2.2.2.1)), (i6 (y1_7_.2.2.2.2.1)), (i6 (y1_7_.2.2.2.2.2.1)), (nlV (y1_7_.2.2.2.2.2.2.1)), (Value.int .u64 (y1_7_.2.2.2.2.2.2.2))])) <|
ww (p := rdT (layT (rows rw_iiiiiiLu x1_1)) 8 ((x1_7).toNat * 8) = some [(i6 (y1_7_.1)), (i6 (y1_7_.2.1)), (i6 (y1_7_.2.2.1)), (i6 (y1_7_.2.2.2.1)), (i6 (y1_7_.2.2.2.2.1)), (i6 (y1_7_.2.2.2.2.2.1)), (nlV (y1_7_.2.2.2.2.2.2.1)), (Value.int .u64 (y1_7_.2.2.2.2.2.2.2))]) (rows_rdpN rwf_iiiiiiLu (0, 0, 0, 0, 0, 0, nl0, 0) (hr := hy1_7) (i := (x1_7).toNat) (j := 0) ((x1_7).toNat * 8) rfl (hy1_6) (by decide) rfl) <|
yy 24 (.call (C_pS1q1 (y1_4_.1) (y1_4_.2.1) (y1_4_.2.2.1) (y1_4_.2.2.2.1) (y1_4_.2.2.2.2.1) (y1_4_.2.2.2.2.2.1) (y1_4_.2.2.2.2.2.2.1) (y1_4_.2.2.2.2.2.2.2) (y1_7_.1) (y1_7_.2.1) (y1_7_.2.2.1) (y1_7_.2.2.2.1) (y1_7_.2.2.2.2.1) (y1_7_.2.2.2.2.2.1) (y1_7_.2.2.2.2.2.2.1) (y1_7_.2.2.2.2.2.2.2) y1_8_ [] [])) <|
ww (m_pS1q1_ok n (y1_4_.1) (y1_4_.2.1) (y1_4_.2.2.1) (y1_4_.2.2.2.1) (y1_4_.2.2.2.2.1) (y1_4_.2.2.2.2.2.1) (y1_4_.2.2.2.2.2.2.1) (y1_4_.2.2.2.2.2.2.2) (y1_7_.1) (y1_7_.2.1) (y1_7_.2.2.1) (y1_7_.2.2.2.1) (y1_7_.2.2.2.2.1) (y1_7_.2.2.2.2.2.1) (y1_7_.2.2.2.2.2.2.1) (y1_7_.2.2.2.2.2.2.2) y1_8_ hy1_8) <|
yy 25 (vf) <|
ww (p := (Value.bool (!y1_8_)) = (Value.bool false)) (vBn hy1_9) <|
ww (rows_flat rwf_iiiiiiLu x1_0 37) <|
ww (rows_flat rwf_iiiiiiLu x1_1 37) <|
ee) (by kernel_rfl)
theorem q_qFq1_1_1 (n : Nat) {rnd : Option Nat} (x1_0 x1_1 : List R8) (x1_2 x1_3 x1_4 x1_5 : Nat) (x1_6 x1_7 : Int) (hy1_1 : x1_7 < x1_6) (hy1_2 : 0 ≤ x1_7 ∧ x1_7 < ((x1_4 : Nat) : Int)) (hy1_3 : (x1_7).toNat < (x1_0).length) (y1_4_ : R8) (hy1_4 : (some ((x1_0).getD (x1_7).toNat (0, 0, 0, 0, 0, 0, nl0, 0))) = some y1_4_) (hy1_5 : 0 ≤ x1_7 ∧ x1_7 < ((x1_2 : Nat) : Int)) (hy1_6 : (x1_7).toNat < (x1_1).length) (y1_7_ : R8) (hy1_7 : (some ((x1_1).getD (x1_7).toNat (0, 0, 0, 0, 0, 0, nl0, 0))) = some y1_7_) (y1_8_ : Bool) (hy1_8 : m_pS1q1 n (y1_4_.1) (y1_4_.2.1) (y1_4_.2.2.1) (y1_4_.2.2.2.1) (y1_4_.2.2.2.2.1) (y1_4_.2.2.2.2.2.1) (y1_4_.2.2.2.2.2.2.1) (y1_4_.2.2.2.2.2.2.2) (y1_7_.1) (y1_7_.2.1) (y1_7_.2.2.1) (y1_7_.2.2.2.1) (y1_7_.2.2.2.2.1) (y1_7_.2.2.2.2.2.1) (y1_7_.2.2.2.2.2.2.1) (y1_7_.2.2.2.2.2.2.2) = some y1_8_) (hy1_9 : ¬ (y1_8_ = true)) : Q_qFq1_1 rnd x1_0 x1_1 x1_2 x1_3 x1_4 x1_5 x1_6 x1_7 (X_qFq1_1 x1_0 x1_1 x1_2 x1_3 x1_4 x1_5 x1_6 (.inl ())) :=
 runC2 hm (L := lT []) ⟨[6], [(0, 0, true), (1, 1, true)], 2, 2, [], false, []⟩ (zz 1 (xdT hy1_1) <|
zz 8 (xk10 0 x1_5 hy1_2) <|
yy 9 (.ld (Value.agg #[(i6 (y1_4_.1)), (i6 (y1_4_.2.1)), (i6 (y1_4_.2.2.1)), (i6 (y1_4_.2.2.2.1)), (i6 (y1_4_.2.2.2.2.1)), (i6 (y1_4_.2.2.2.2.2.1)), (nlV (y1_4_.2.2.2.2.2.2.1)), (Value.int .u64 (y1_4_.2.2.2.2.2.2.2))])) <|
ww (p := rdT (layT (rows rw_iiiiiiLu x1_0)) 8 ((x1_7).toNat * 8) = some [(i6 (y1_4_.1)), (i6 (y1_4_.2.1)), (i6 (y1_4_.2.2.1)), (i6 (y1_4_.2.2.2.1)), (i6 (y1_4_.2.2.2.2.1)), (i6 (y1_4_.2.2.2.2.2.1)), (nlV (y1_4_.2.2.2.2.2.2.1)), (Value.int .u64 (y1_4_.2.2.2.2.2.2.2))]) (rows_rdpN rwf_iiiiiiLu (0, 0, 0, 0, 0, 0, nl0, 0) (hr := hy1_4) (i := (x1_7).toNat) (j := 0) ((x1_7).toNat * 8) rfl (hy1_3) (by decide) rfl) <|
zz 16 (xk10 1 x1_3 hy1_5) <|
yy 17 (.ld (Value.agg #[(i6 (y1_7_.1)), (i6 (y1_7_.2.1)), (i6 (y1_7_.2.2.1)), (i6 (y1_7_.2.2.2.1)), (i6 (y1_7_.2.2.2.2.1)), (i6 (y1_7_.2.2.2.2.2.1)), (nlV (y1_7_.2.2.2.2.2.2.1)), (Value.int .u64 (y1_7_.2.2.2.2.2.2.2))])) <|
ww (p := rdT (layT (rows rw_iiiiiiLu x1_1)) 8 ((x1_7).toNat * 8) = some [(i6 (y1_7_.1)), (i6 (y1_7_.2.1)), (i6 (y1_7_.2.2.1)), (i6 (y1_7_.2.2.2.1)), (i6 (y1_7_.2.2.2.2.1)), (i6 (y1_7_.2.2.2.2.2.1)), (nlV (y1_7_.2.2.2.2.2.2.1)), (Value.int .u64 (y1_7_.2.2.2.2.2.2.2))]) (rows_rdpN rwf_iiiiiiLu (0, 0, 0, 0, 0, 0, nl0, 0) (hr := hy1_7) (i := (x1_7).toNat) (j := 0) ((x1_7).toNat * 8) rfl (hy1_6) (by decide) rfl) <|
yy 24 (.call (C_pS1q1 (y1_4_.1) (y1_4_.2.1) (y1_4_.2.2.1) (y1_4_.2.2.2.1) (y1_4_.2.2.2.2.1) (y1_4_.2.2.2.2.2.1) (y1_4_.2.2.2.2.2.2.1) (y1_4_.2.2.2.2.2.2.2) (y1_7_.1) (y1_7_.2.1) (y1_7_.2.2.1) (y1_7_.2.2.2.1) (y1_7_.2.2.2.2.1) (y1_7_.2.2.2.2.2.1) (y1_7_.2.2.2.2.2.2.1) (y1_7_.2.2.2.2.2.2.2) y1_8_ [] [])) <|
ww (m_pS1q1_ok n (y1_4_.1) (y1_4_.2.1) (y1_4_.2.2.1) (y1_4_.2.2.2.1) (y1_4_.2.2.2.2.1) (y1_4_.2.2.2.2.2.1) (y1_4_.2.2.2.2.2.2.1) (y1_4_.2.2.2.2.2.2.2) (y1_7_.1) (y1_7_.2.1) (y1_7_.2.2.1) (y1_7_.2.2.2.1) (y1_7_.2.2.2.2.1) (y1_7_.2.2.2.2.2.1) (y1_7_.2.2.2.2.2.2.1) (y1_7_.2.2.2.2.2.2.2) y1_8_ hy1_8) <|
yy 25 (vt) <|
ww (p := (Value.bool (!y1_8_)) = (Value.bool true)) (vBn (Bool.eq_false_iff.2 hy1_9)) <|
ww (rows_flat rwf_iiiiiiLu x1_0 37) <|
ww (rows_flat rwf_iiiiiiLu x1_1 37) <|
ee) (by kernel_rfl)
theorem q_qFq1_1_2 (n : Nat) {rnd : Option Nat} (x1_0 x1_1 : List R8) (x1_2 x1_3 x1_4 x1_5 : Nat) (x1_6 x1_7 : Int) (hy1_1 : ¬ (x1_7 < x1_6)) : Q_qFq1_1 rnd x1_0 x1_1 x1_2 x1_3 x1_4 x1_5 x1_6 x1_7 (X_qFq1_1 x1_0 x1_1 x1_2 x1_3 x1_4 x1_5 x1_6 (.inr ())) :=
 runC2 hm (L := lT []) ⟨[], [(0, 0, true), (1, 1, true)], 2, 2, [], false, []⟩ (zz 1 (xdF hy1_1) <|
ww (rows_flat rwf_iiiiiiLu x1_0 37) <|
ww (rows_flat rwf_iiiiiiLu x1_1 37) <|
ee) (by kernel_rfl)
theorem m_qFq1_1_ok (n : Nat) {rnd : Option Nat} (x1_0 : List R8) (x1_1 : List R8) (x1_2 : Nat) (x1_3 : Nat) (x1_4 : Nat) (x1_5 : Nat) (x1_6 : Int) (st : Int) (r : (Unit) ⊕ (Unit)) (h : m_qFq1_1 n x1_0 x1_1 x1_2 x1_3 x1_4 x1_5 x1_6 st = some r) : CG P rnd (fnN P 37) 2 (codeOf P 37 [false, true, false, true, true]) (S_qFq1_1 x1_0 x1_1 x1_2 x1_3 x1_4 x1_5 x1_6 st) (X_qFq1_1 x1_0 x1_1 x1_2 x1_3 x1_4 x1_5 x1_6 r) :=
 CG.iter (b := codeOf P 37 [false, false, true, false, true, true]) (by kernel_rfl) (body := B_qFq1_1 n x1_0 x1_1 x1_2 x1_3 x1_4 x1_5 x1_6) (S := S_qFq1_1 x1_0 x1_1 x1_2 x1_3 x1_4 x1_5 x1_6) (X := X_qFq1_1 x1_0 x1_1 x1_2 x1_3 x1_4 x1_5 x1_6)
  (fun x1_7 s' h => by
  unfold B_qFq1_1 at h
  dsimp only at h
  by_cases hy1_1 : x1_7 < x1_6
  ·rw [if_pos hy1_1] at h
   by_cases hy1_2 : 0 ≤ x1_7 ∧ x1_7 < ((x1_4 : Nat) : Int)
   ·rw [if_pos hy1_2] at h
    by_cases hy1_3 : (x1_7).toNat < (x1_0).length
    ·rw [if_pos hy1_3] at h
     obtain ⟨y1_4_, hy1_4, h⟩ := Option.bind_eq_some_iff.1 h
     by_cases hy1_5 : 0 ≤ x1_7 ∧ x1_7 < ((x1_2 : Nat) : Int)
     ·rw [if_pos hy1_5] at h
      by_cases hy1_6 : (x1_7).toNat < (x1_1).length
      ·rw [if_pos hy1_6] at h
       obtain ⟨y1_7_, hy1_7, h⟩ := Option.bind_eq_some_iff.1 h
       obtain ⟨y1_8_, hy1_8, h⟩ := Option.bind_eq_some_iff.1 h
       by_cases hy1_9 : y1_8_ = true
       ·rw [if_pos hy1_9] at h
        obtain rfl := Sum.inl.inj (oI h); exact q_qFq1_1_0 n x1_0 x1_1 x1_2 x1_3 x1_4 x1_5 x1_6 x1_7 hy1_1 hy1_2 hy1_3 y1_4_ hy1_4 hy1_5 hy1_6 y1_7_ hy1_7 y1_8_ hy1_8 hy1_9
       ·rw [if_neg hy1_9] at h
        cases h
      ·rw [if_neg hy1_6] at h; cases h
     ·rw [if_neg hy1_5] at h; cases h
    ·rw [if_neg hy1_3] at h; cases h
   ·rw [if_neg hy1_2] at h; cases h
  ·rw [if_neg hy1_1] at h
   cases h)
  (fun x1_7 r h => by
  unfold B_qFq1_1 at h
  dsimp only at h
  by_cases hy1_1 : x1_7 < x1_6
  ·rw [if_pos hy1_1] at h
   by_cases hy1_2 : 0 ≤ x1_7 ∧ x1_7 < ((x1_4 : Nat) : Int)
   ·rw [if_pos hy1_2] at h
    by_cases hy1_3 : (x1_7).toNat < (x1_0).length
    ·rw [if_pos hy1_3] at h
     obtain ⟨y1_4_, hy1_4, h⟩ := Option.bind_eq_some_iff.1 h
     by_cases hy1_5 : 0 ≤ x1_7 ∧ x1_7 < ((x1_2 : Nat) : Int)
     ·rw [if_pos hy1_5] at h
      by_cases hy1_6 : (x1_7).toNat < (x1_1).length
      ·rw [if_pos hy1_6] at h
       obtain ⟨y1_7_, hy1_7, h⟩ := Option.bind_eq_some_iff.1 h
       obtain ⟨y1_8_, hy1_8, h⟩ := Option.bind_eq_some_iff.1 h
       by_cases hy1_9 : y1_8_ = true
       ·rw [if_pos hy1_9] at h
        cases h
       ·rw [if_neg hy1_9] at h
        obtain rfl := Sum.inr.inj (oI h); exact q_qFq1_1_1 n x1_0 x1_1 x1_2 x1_3 x1_4 x1_5 x1_6 x1_7 hy1_1 hy1_2 hy1_3 y1_4_ hy1_4 hy1_5 hy1_6 y1_7_ hy1_7 y1_8_ hy1_8 hy1_9
      ·rw [if_neg hy1_6] at h; cases h
     ·rw [if_neg hy1_5] at h; cases h
    ·rw [if_neg hy1_3] at h; cases h
   ·rw [if_neg hy1_2] at h; cases h
  ·rw [if_neg hy1_1] at h
   obtain rfl := Sum.inr.inj (oI h); exact q_qFq1_1_2 n x1_0 x1_1 x1_2 x1_3 x1_4 x1_5 x1_6 x1_7 hy1_1)
  (fun r => by intro hx; rcases r with _ | _ <;> cases hx) h
def m_qFq1 (n : Nat) (a0 : List R8) (a1 : Nat) (a2 : Nat) (a3 : List R8) (a4 : Nat) (a5 : Nat) : Option (Bool) :=
 if ((a1 : Nat) : Int) = ((a4 : Nat) : Int) then
  match m_qFq1_1 n a0 a3 a4 a5 a1 a2 ((a1 : Nat) : Int) 0 with
  | none => none
  | some (.inl _) =>
   some false
  | some (.inr _) =>
   some true
 else
  some false
theorem m_qFq1_ok (n : Nat) (a0 : List R8) (a1 : Nat) (a2 : Nat) (a3 : List R8) (a4 : Nat) (a5 : Nat) (r : Bool) (h : m_qFq1 n a0 a1 a2 a3 a4 a5 = some r) : Gv P (.func 37) (A_qFq1 a0 a1 a2 a3 a4 a5) (H_qFq1 a0 a1 a2 a3 a4 a5) (V_qFq1 a0 a1 a2 a3 a4 a5 r) (R_qFq1 a0 a1 a2 a3 a4 a5 r) := by
 unfold m_qFq1 at h
 by_cases hc1 : ((a1 : Nat) : Int) = ((a4 : Nat) : Int)
 ·rw [if_pos hc1] at h
  rcases hc2 : m_qFq1_1 n a0 a3 a4 a5 a1 a2 ((a1 : Nat) : Int) 0 with _ | (⟨⟩ | ⟨⟩)
  ·rw [hc2] at h; cases h
  ·rw [hc2] at h
   dsimp only at h
   obtain rfl := oI h; exact (runF2 hm (L := lT [(16, ⟨⟨[1, 2, 15, 16, 17], [(0, 0, true), (1, 1, true)], 2, 2, [], false, []⟩, (X_qFq1_1 a0 a3 a4 a5 a1 a2 ((a1 : Nat) : Int) (.inl ())).1, (X_qFq1_1 a0 a3 a4 a5 a1 a2 ((a1 : Nat) : Int) (.inl ())).2⟩)]) ⟨[6], [], 2, 2, [], false, []⟩ (zz 8 (xnF hc1) <|
ww (p := U_qFq1_1 none a0 a3 a4 a5 a1 a2 ((a1 : Nat) : Int) 0 (.inl ())) (m_qFq1_1_ok n a0 a3 a4 a5 a1 a2 ((a1 : Nat) : Int) 0 (.inl ()) hc2) <|
ww (rows_flat rwf_iiiiiiLu a0 37) <|
ww (rows_flat rwf_iiiiiiLu a3 37) ee) (by kernel_rfl))
  ·rw [hc2] at h
   dsimp only at h
   obtain rfl := oI h; exact (runF2 hm (L := lT [(16, ⟨⟨[1, 2, 15, 16, 17], [(0, 0, true), (1, 1, true)], 2, 2, [], false, []⟩, (X_qFq1_1 a0 a3 a4 a5 a1 a2 ((a1 : Nat) : Int) (.inr ())).1, (X_qFq1_1 a0 a3 a4 a5 a1 a2 ((a1 : Nat) : Int) (.inr ())).2⟩)]) ⟨[6], [], 2, 2, [], false, []⟩ (zz 8 (xnF hc1) <|
ww (p := U_qFq1_1 none a0 a3 a4 a5 a1 a2 ((a1 : Nat) : Int) 0 (.inr ())) (m_qFq1_1_ok n a0 a3 a4 a5 a1 a2 ((a1 : Nat) : Int) 0 (.inr ()) hc2) <|
ww (rows_flat rwf_iiiiiiLu a0 37) <|
ww (rows_flat rwf_iiiiiiLu a3 37) ee) (by kernel_rfl))
 ·rw [if_neg hc1] at h
  obtain rfl := oI h; exact (runF2 hm (L := lT []) ⟨[6], [], 2, 2, [], false, []⟩ (zz 8 (xnT hc1) ee) (by kernel_rfl))

def A_pSq1 (a0 : List R8) (a1 : Nat) (a2 : Nat) (a3 : List R8) (a4 : Nat) (a5 : Nat) : List Value := [(sN 0 0 a1 a2), (sN 1 0 a4 a5)]
def H_pSq1 (a0 : List R8) (a1 : Nat) (a2 : Nat) (a3 : List R8) (a4 : Nat) (a5 : Nat) : AH := ⟨sB [(0, (some (.cells (layT (rows rw_iiiiiiLu a0)) 37))), (1, (some (.cells (layT (rows rw_iiiiiiLu a3)) 37)))], 2, 2⟩
def V_pSq1 (a0 : List R8) (a1 : Nat) (a2 : Nat) (a3 : List R8) (a4 : Nat) (a5 : Nat) (r : Bool) : Value := match r with
 | o0 => (bO o0)
def R_pSq1 (a0 : List R8) (a1 : Nat) (a2 : Nat) (a3 : List R8) (a4 : Nat) (a5 : Nat) (r : Bool) : AH := match r with
 | o0 => ⟨sB [], 2, 2⟩
abbrev G_pSq1 (a0 : List R8) (a1 : Nat) (a2 : Nat) (a3 : List R8) (a4 : Nat) (a5 : Nat) (r : Bool) : Prop := Gv P (.func 23) (A_pSq1 a0 a1 a2 a3 a4 a5) (H_pSq1 a0 a1 a2 a3 a4 a5) (V_pSq1 a0 a1 a2 a3 a4 a5 r) (R_pSq1 a0 a1 a2 a3 a4 a5 r)
abbrev C_pSq1 (a0 : List R8) (a1 : Nat) (a2 : Nat) (a3 : List R8) (a4 : Nat) (a5 : Nat) (r : Bool) (ins outs : BL) : CallA := ⟨2, ins, V_pSq1 a0 a1 a2 a3 a4 a5 r, R_pSq1 a0 a1 a2 a3 a4 a5 r, outs⟩
def m_pSq1 (n : Nat) (a0 : List R8) (a1 : Nat) (a2 : Nat) (a3 : List R8) (a4 : Nat) (a5 : Nat) : Option (Bool) :=
 (m_qFq1 n a0 a1 a2 a3 a4 a5).bind fun c1_ =>
 some c1_
theorem m_pSq1_ok (n : Nat) (a0 : List R8) (a1 : Nat) (a2 : Nat) (a3 : List R8) (a4 : Nat) (a5 : Nat) (r : Bool) (h : m_pSq1 n a0 a1 a2 a3 a4 a5 = some r) : Gv P (.func 23) (A_pSq1 a0 a1 a2 a3 a4 a5) (H_pSq1 a0 a1 a2 a3 a4 a5) (V_pSq1 a0 a1 a2 a3 a4 a5 r) (R_pSq1 a0 a1 a2 a3 a4 a5 r) := by
 unfold m_pSq1 at h
 obtain ⟨c1_, hc1, h⟩ := Option.bind_eq_some_iff.1 h
 obtain rfl := oI h; exact (runF2 hm (L := lT []) ⟨[4], [], 2, 2, [], false, []⟩ (yy 5 (.call (C_qFq1 a0 a1 a2 a3 a4 a5 c1_ [(0, 0, true), (1, 1, true)] [])) <|
ww (m_qFq1_ok n a0 a1 a2 a3 a4 a5 c1_ hc1) <|
ww (rows_flat rwf_iiiiiiLu a0 37) <|
ww (rows_flat rwf_iiiiiiLu a3 37) ee) (by kernel_rfl))

def A_tSq1 (a0 : List R8) (a1 : Nat) (a2 : Nat) (a3 : List R8) (a4 : Nat) (a5 : Nat) : List Value := [(sN 0 0 a1 a2), (sN 1 0 a4 a5)]
def H_tSq1 (a0 : List R8) (a1 : Nat) (a2 : Nat) (a3 : List R8) (a4 : Nat) (a5 : Nat) : AH := ⟨sB [(0, (some (.cells (layT (rows rw_iiiiiiLu a0)) 37))), (1, (some (.cells (layT (rows rw_iiiiiiLu a3)) 37)))], 2, 2⟩
def V_tSq1 (a0 : List R8) (a1 : Nat) (a2 : Nat) (a3 : List R8) (a4 : Nat) (a5 : Nat) (r : Bool) : Value := match r with
 | o0 => (bO o0)
def R_tSq1 (a0 : List R8) (a1 : Nat) (a2 : Nat) (a3 : List R8) (a4 : Nat) (a5 : Nat) (r : Bool) : AH := match r with
 | o0 => ⟨sB [], 2, 2⟩
abbrev G_tSq1 (a0 : List R8) (a1 : Nat) (a2 : Nat) (a3 : List R8) (a4 : Nat) (a5 : Nat) (r : Bool) : Prop := Gv P (.func 10) (A_tSq1 a0 a1 a2 a3 a4 a5) (H_tSq1 a0 a1 a2 a3 a4 a5) (V_tSq1 a0 a1 a2 a3 a4 a5 r) (R_tSq1 a0 a1 a2 a3 a4 a5 r)
abbrev C_tSq1 (a0 : List R8) (a1 : Nat) (a2 : Nat) (a3 : List R8) (a4 : Nat) (a5 : Nat) (r : Bool) (ins outs : BL) : CallA := ⟨2, ins, V_tSq1 a0 a1 a2 a3 a4 a5 r, R_tSq1 a0 a1 a2 a3 a4 a5 r, outs⟩
def m_tSq1 (n : Nat) (a0 : List R8) (a1 : Nat) (a2 : Nat) (a3 : List R8) (a4 : Nat) (a5 : Nat) : Option (Bool) :=
 (m_pSq1 n a0 a1 a2 a3 a4 a5).bind fun c1_ =>
 some c1_
theorem m_tSq1_ok (n : Nat) (a0 : List R8) (a1 : Nat) (a2 : Nat) (a3 : List R8) (a4 : Nat) (a5 : Nat) (r : Bool) (h : m_tSq1 n a0 a1 a2 a3 a4 a5 = some r) : Gv P (.func 10) (A_tSq1 a0 a1 a2 a3 a4 a5) (H_tSq1 a0 a1 a2 a3 a4 a5) (V_tSq1 a0 a1 a2 a3 a4 a5 r) (R_tSq1 a0 a1 a2 a3 a4 a5 r) := by
 unfold m_tSq1 at h
 obtain ⟨c1_, hc1, h⟩ := Option.bind_eq_some_iff.1 h
 obtain rfl := oI h; exact (runF2 hm (L := lT []) ⟨[4], [], 2, 2, [], false, []⟩ (yy 5 (.call (C_pSq1 a0 a1 a2 a3 a4 a5 c1_ [(0, 0, true), (1, 1, true)] [])) <|
ww (m_pSq1_ok n a0 a1 a2 a3 a4 a5 c1_ hc1) <|
ww (rows_flat rwf_iiiiiiLu a0 37) <|
ww (rows_flat rwf_iiiiiiLu a3 37) ee) (by kernel_rfl))

def A_qFq2 (a0 : List R8) (a1 : Nat) (a2 : Nat) : List Value := [(sN 0 0 a1 a2), (Value.slice none 0 0), (Value.func (.func 38) #[] #[])]
def H_qFq2 (a0 : List R8) (a1 : Nat) (a2 : Nat) : AH := ⟨sB [(0, (some (.cells (layT (rows rw_iiiiiiLu a0)) 37)))], 1, 1⟩
def V_qFq2 (a0 : List R8) (a1 : Nat) (a2 : Nat) (r : Bool) : Value := match r with
 | o0 => (bO o0)
def R_qFq2 (a0 : List R8) (a1 : Nat) (a2 : Nat) (r : Bool) : AH := match r with
 | o0 => ⟨sB [], 1, 1⟩
abbrev G_qFq2 (a0 : List R8) (a1 : Nat) (a2 : Nat) (r : Bool) : Prop := Gv P (.func 37) (A_qFq2 a0 a1 a2) (H_qFq2 a0 a1 a2) (V_qFq2 a0 a1 a2 r) (R_qFq2 a0 a1 a2 r)
abbrev C_qFq2 (a0 : List R8) (a1 : Nat) (a2 : Nat) (r : Bool) (ins outs : BL) : CallA := ⟨1, ins, V_qFq2 a0 a1 a2 r, R_qFq2 a0 a1 a2 r, outs⟩
def S_qFq2_1 (x1_0 : List R8) (x1_1 : Nat) (x1_2 : Nat) (x1_3 : Int) (st : Unit) : XSt := match st with
 | _ => (sT 32 [(1, (Value.slice none 0 0)), (2, (Value.func (.func 38) #[] #[])), (15, (sN 0 0 x1_1 x1_2)), (16, (i6 x1_3)), (17, (i6 (0 : Int)))], [], ⟨sB [(0, (some (.cells (layT (rows rw_iiiiiiLu x1_0)) 37)))], 1, 1⟩)
def X_qFq2_1 (x1_0 : List R8) (x1_1 : Nat) (x1_2 : Nat) (x1_3 : Int) (r : Unit) : Ex × XSt := match r with
 | _ => (.exit 0, (sT 32 [], [], ⟨sB [(0, (some (.cells (layT (rows rw_iiiiiiLu x1_0)) 37)))], 1, 1⟩))
abbrev Q_qFq2_1 (rnd : Option Nat) (x1_0 : List R8) (x1_1 : Nat) (x1_2 : Nat) (x1_3 : Int) (st : Unit) (c : Ex × XSt) : Prop := CG P rnd (fnN P 37) 1 (codeOf P 37 [false, false, true, false, true, true]) (S_qFq2_1 x1_0 x1_1 x1_2 x1_3 st) c
abbrev U_qFq2_1 (rd : Option Nat) (x1_0 : List R8) (x1_1 : Nat) (x1_2 : Nat) (x1_3 : Int) (st : Unit) (r : Unit) : Prop := CG P rd (fnN P 37) 1 (codeOf P 37 [false, true, false, true, true]) (S_qFq2_1 x1_0 x1_1 x1_2 x1_3 st) (X_qFq2_1 x1_0 x1_1 x1_2 x1_3 r)
def B_qFq2_1 (n : Nat) (x1_0 : List R8) (x1_1 : Nat) (x1_2 : Nat) (x1_3 : Int) (st : Unit) : Option ((Unit) ⊕ (Unit)) := match st with
 | _ =>
  if (0 : Int) < x1_3 then
   none
  else
   some (.inr ())
def m_qFq2_1 (n : Nat) (x1_0 : List R8) (x1_1 : Nat) (x1_2 : Nat) (x1_3 : Int) (st : Unit) : Option (Unit) := iterM (B_qFq2_1 n x1_0 x1_1 x1_2 x1_3) n st
theorem q_qFq2_1_0 (n : Nat) {rnd : Option Nat} (x1_0 : List R8) (x1_1 x1_2 : Nat) (x1_3 : Int) (hy1_1 : ¬ ((0 : Int) < x1_3)) : Q_qFq2_1 rnd x1_0 x1_1 x1_2 x1_3 () (X_qFq2_1 x1_0 x1_1 x1_2 x1_3 ()) :=
 runC2 hm (L := lT []) ⟨[], [(0, 0, true)], 1, 1, [], false, []⟩ (zz 1 (xdF hy1_1) <|
ww (rows_flat rwf_iiiiiiLu x1_0 37) <|
ee) (by kernel_rfl)
theorem m_qFq2_1_ok (n : Nat) {rnd : Option Nat} (x1_0 : List R8) (x1_1 : Nat) (x1_2 : Nat) (x1_3 : Int) (st : Unit) (r : Unit) (h : m_qFq2_1 n x1_0 x1_1 x1_2 x1_3 st = some r) : CG P rnd (fnN P 37) 1 (codeOf P 37 [false, true, false, true, true]) (S_qFq2_1 x1_0 x1_1 x1_2 x1_3 st) (X_qFq2_1 x1_0 x1_1 x1_2 x1_3 r) :=
 CG.iter (b := codeOf P 37 [false, false, true, false, true, true]) (by kernel_rfl) (body := B_qFq2_1 n x1_0 x1_1 x1_2 x1_3) (S := S_qFq2_1 x1_0 x1_1 x1_2 x1_3) (X := X_qFq2_1 x1_0 x1_1 x1_2 x1_3)
  (fun s s' h => by
  unfold B_qFq2_1 at h
  dsimp only at h
  by_cases hy1_1 : (0 : Int) < x1_3
  ·rw [if_pos hy1_1] at h
   cases h
  ·rw [if_neg hy1_1] at h
   cases h)
  (fun s r h => by
  unfold B_qFq2_1 at h
  dsimp only at h
  by_cases hy1_1 : (0 : Int) < x1_3
  ·rw [if_pos hy1_1] at h
   cases h
  ·rw [if_neg hy1_1] at h
   obtain rfl := Sum.inr.inj (oI h); exact q_qFq2_1_0 n x1_0 x1_1 x1_2 x1_3 hy1_1)
  (fun r => by intro hx; cases hx) h
def m_qFq2 (n : Nat) (a0 : List R8) (a1 : Nat) (a2 : Nat) : Option (Bool) :=
 if ((a1 : Nat) : Int) = (0 : Int) then
  (m_qFq2_1 n a0 a1 a2 ((a1 : Nat) : Int) ()).bind fun _ =>
  some true
 else
  some false
theorem m_qFq2_ok (n : Nat) (a0 : List R8) (a1 : Nat) (a2 : Nat) (r : Bool) (h : m_qFq2 n a0 a1 a2 = some r) : Gv P (.func 37) (A_qFq2 a0 a1 a2) (H_qFq2 a0 a1 a2) (V_qFq2 a0 a1 a2 r) (R_qFq2 a0 a1 a2 r) := by
 unfold m_qFq2 at h
 by_cases hc1 : ((a1 : Nat) : Int) = (0 : Int)
 ·rw [if_pos hc1] at h
  obtain ⟨_, hc2, h⟩ := Option.bind_eq_some_iff.1 h
  obtain rfl := oI h; exact (runF2 hm (L := lT [(16, ⟨⟨[1, 2, 15, 16, 17], [(0, 0, true)], 1, 1, [], false, []⟩, (X_qFq2_1 a0 a1 a2 ((a1 : Nat) : Int) ()).1, (X_qFq2_1 a0 a1 a2 ((a1 : Nat) : Int) ()).2⟩)]) ⟨[6], [], 1, 1, [], false, []⟩ (zz 8 (xnF hc1) <|
ww (p := U_qFq2_1 none a0 a1 a2 ((a1 : Nat) : Int) () ()) (m_qFq2_1_ok n a0 a1 a2 ((a1 : Nat) : Int) () () hc2) <|
ww (rows_flat rwf_iiiiiiLu a0 37) ee) (by kernel_rfl))
 ·rw [if_neg hc1] at h
  obtain rfl := oI h; exact (runF2 hm (L := lT []) ⟨[6], [], 1, 1, [], false, []⟩ (zz 8 (xnT hc1) ee) (by kernel_rfl))

def A_pSq2 (a0 : List R8) (a1 : Nat) (a2 : Nat) : List Value := [(sN 0 0 a1 a2), (Value.slice none 0 0)]
def H_pSq2 (a0 : List R8) (a1 : Nat) (a2 : Nat) : AH := ⟨sB [(0, (some (.cells (layT (rows rw_iiiiiiLu a0)) 37)))], 1, 1⟩
def V_pSq2 (a0 : List R8) (a1 : Nat) (a2 : Nat) (r : Bool) : Value := match r with
 | o0 => (bO o0)
def R_pSq2 (a0 : List R8) (a1 : Nat) (a2 : Nat) (r : Bool) : AH := match r with
 | o0 => ⟨sB [], 1, 1⟩
abbrev G_pSq2 (a0 : List R8) (a1 : Nat) (a2 : Nat) (r : Bool) : Prop := Gv P (.func 23) (A_pSq2 a0 a1 a2) (H_pSq2 a0 a1 a2) (V_pSq2 a0 a1 a2 r) (R_pSq2 a0 a1 a2 r)
abbrev C_pSq2 (a0 : List R8) (a1 : Nat) (a2 : Nat) (r : Bool) (ins outs : BL) : CallA := ⟨1, ins, V_pSq2 a0 a1 a2 r, R_pSq2 a0 a1 a2 r, outs⟩
def m_pSq2 (n : Nat) (a0 : List R8) (a1 : Nat) (a2 : Nat) : Option (Bool) :=
 (m_qFq2 n a0 a1 a2).bind fun c1_ =>
 some c1_
theorem m_pSq2_ok (n : Nat) (a0 : List R8) (a1 : Nat) (a2 : Nat) (r : Bool) (h : m_pSq2 n a0 a1 a2 = some r) : Gv P (.func 23) (A_pSq2 a0 a1 a2) (H_pSq2 a0 a1 a2) (V_pSq2 a0 a1 a2 r) (R_pSq2 a0 a1 a2 r) := by
 unfold m_pSq2 at h
 obtain ⟨c1_, hc1, h⟩ := Option.bind_eq_some_iff.1 h
 obtain rfl := oI h; exact (runF2 hm (L := lT []) ⟨[4], [], 1, 1, [], false, []⟩ (yy 5 (.call (C_qFq2 a0 a1 a2 c1_ [(0, 0, true)] [])) <|
ww (m_qFq2_ok n a0 a1 a2 c1_ hc1) <|
ww (rows_flat rwf_iiiiiiLu a0 37) ee) (by kernel_rfl))

def A_tSq2 (a0 : List R8) (a1 : Nat) (a2 : Nat) : List Value := [(sN 0 0 a1 a2), (Value.slice none 0 0)]
def H_tSq2 (a0 : List R8) (a1 : Nat) (a2 : Nat) : AH := ⟨sB [(0, (some (.cells (layT (rows rw_iiiiiiLu a0)) 37)))], 1, 1⟩
def V_tSq2 (a0 : List R8) (a1 : Nat) (a2 : Nat) (r : Bool) : Value := match r with
 | o0 => (bO o0)
def R_tSq2 (a0 : List R8) (a1 : Nat) (a2 : Nat) (r : Bool) : AH := match r with
 | o0 => ⟨sB [], 1, 1⟩
abbrev G_tSq2 (a0 : List R8) (a1 : Nat) (a2 : Nat) (r : Bool) : Prop := Gv P (.func 10) (A_tSq2 a0 a1 a2) (H_tSq2 a0 a1 a2) (V_tSq2 a0 a1 a2 r) (R_tSq2 a0 a1 a2 r)
abbrev C_tSq2 (a0 : List R8) (a1 : Nat) (a2 : Nat) (r : Bool) (ins outs : BL) : CallA := ⟨1, ins, V_tSq2 a0 a1 a2 r, R_tSq2 a0 a1 a2 r, outs⟩
def m_tSq2 (n : Nat) (a0 : List R8) (a1 : Nat) (a2 : Nat) : Option (Bool) :=
 (m_pSq2 n a0 a1 a2).bind fun c1_ =>
 some c1_
theorem m_tSq2_ok (n : Nat) (a0 : List R8) (a1 : Nat) (a2 : Nat) (r : Bool) (h : m_tSq2 n a0 a1 a2 = some r) : Gv P (.func 10) (A_tSq2 a0 a1 a2) (H_tSq2 a0 a1 a2) (V_tSq2 a0 a1 a2 r) (R_tSq2 a0 a1 a2 r) := by
 unfold m_tSq2 at h
 obtain ⟨c1_, hc1, h⟩ := Option.bind_eq_some_iff.1 h
 obtain rfl := oI h; exact (runF2 hm (L := lT []) ⟨[4], [], 1, 1, [], false, []⟩ (yy 5 (.call (C_pSq2 a0 a1 a2 c1_ [(0, 0, true)] [])) <|
ww (m_pSq2_ok n a0 a1 a2 c1_ hc1) <|
ww (rows_flat rwf_iiiiiiLu a0 37) ee) (by kernel_rfl))

def A_qFq3 (a0 : List R8) (a1 : Nat) (a2 : Nat) : List Value := [(Value.slice none 0 0), (sN 0 0 a1 a2), (Value.func (.func 38) #[] #[])]
def H_qFq3 (a0 : List R8) (a1 : Nat) (a2 : Nat) : AH := ⟨sB [(0, (some (.cells (layT (rows rw_iiiiiiLu a0)) 37)))], 1, 1⟩
def V_qFq3 (a0 : List R8) (a1 : Nat) (a2 : Nat) (r : Bool) : Value := match r with
 | o0 => (bO o0)
def R_qFq3 (a0 : List R8) (a1 : Nat) (a2 : Nat) (r : Bool) : AH := match r with
 | o0 => ⟨sB [], 1, 1⟩
abbrev G_qFq3 (a0 : List R8) (a1 : Nat) (a2 : Nat) (r : Bool) : Prop := Gv P (.func 37) (A_qFq3 a0 a1 a2) (H_qFq3 a0 a1 a2) (V_qFq3 a0 a1 a2 r) (R_qFq3 a0 a1 a2 r)
abbrev C_qFq3 (a0 : List R8) (a1 : Nat) (a2 : Nat) (r : Bool) (ins outs : BL) : CallA := ⟨1, ins, V_qFq3 a0 a1 a2 r, R_qFq3 a0 a1 a2 r, outs⟩
def S_qFq3_1 (x1_0 : List R8) (x1_1 : Nat) (x1_2 : Nat) (st : Unit) : XSt := match st with
 | _ => (sT 32 [(1, (sN 0 0 x1_1 x1_2)), (2, (Value.func (.func 38) #[] #[])), (15, (Value.slice none 0 0)), (16, (i6 (0 : Int))), (17, (i6 (0 : Int)))], [], ⟨sB [(0, (some (.cells (layT (rows rw_iiiiiiLu x1_0)) 37)))], 1, 1⟩)
def X_qFq3_1 (x1_0 : List R8) (x1_1 : Nat) (x1_2 : Nat) (r : Unit) : Ex × XSt := match r with
 | _ => (.exit 0, (sT 32 [], [], ⟨sB [(0, (some (.cells (layT (rows rw_iiiiiiLu x1_0)) 37)))], 1, 1⟩))
abbrev Q_qFq3_1 (rnd : Option Nat) (x1_0 : List R8) (x1_1 : Nat) (x1_2 : Nat) (st : Unit) (c : Ex × XSt) : Prop := CG P rnd (fnN P 37) 1 (codeOf P 37 [false, false, true, false, true, true]) (S_qFq3_1 x1_0 x1_1 x1_2 st) c
abbrev U_qFq3_1 (rd : Option Nat) (x1_0 : List R8) (x1_1 : Nat) (x1_2 : Nat) (st : Unit) (r : Unit) : Prop := CG P rd (fnN P 37) 1 (codeOf P 37 [false, true, false, true, true]) (S_qFq3_1 x1_0 x1_1 x1_2 st) (X_qFq3_1 x1_0 x1_1 x1_2 r)
def B_qFq3_1 (n : Nat) (x1_0 : List R8) (x1_1 : Nat) (x1_2 : Nat) (st : Unit) : Option ((Unit) ⊕ (Unit)) := match st with
 | _ =>
  some (.inr ())
def m_qFq3_1 (n : Nat) (x1_0 : List R8) (x1_1 : Nat) (x1_2 : Nat) (st : Unit) : Option (Unit) := iterM (B_qFq3_1 n x1_0 x1_1 x1_2) n st
theorem q_qFq3_1_0 (n : Nat) {rnd : Option Nat} (x1_0 : List R8) (x1_1 x1_2 : Nat) : Q_qFq3_1 rnd x1_0 x1_1 x1_2 () (X_qFq3_1 x1_0 x1_1 x1_2 ()) :=
 runC2 hm (L := lT []) ⟨[], [(0, 0, true)], 1, 1, [], false, []⟩ (ww (rows_flat rwf_iiiiiiLu x1_0 37) <|
ee) (by kernel_rfl)
theorem m_qFq3_1_ok (n : Nat) {rnd : Option Nat} (x1_0 : List R8) (x1_1 : Nat) (x1_2 : Nat) (st : Unit) (r : Unit) (h : m_qFq3_1 n x1_0 x1_1 x1_2 st = some r) : CG P rnd (fnN P 37) 1 (codeOf P 37 [false, true, false, true, true]) (S_qFq3_1 x1_0 x1_1 x1_2 st) (X_qFq3_1 x1_0 x1_1 x1_2 r) :=
 CG.iter (b := codeOf P 37 [false, false, true, false, true, true]) (by kernel_rfl) (body := B_qFq3_1 n x1_0 x1_1 x1_2) (S := S_qFq3_1 x1_0 x1_1 x1_2) (X := X_qFq3_1 x1_0 x1_1 x1_2)
  (fun s s' h => by
  unfold B_qFq3_1 at h
  dsimp only at h
  cases h)
  (fun s r h => by
  unfold B_qFq3_1 at h
  dsimp only at h
  obtain rfl := Sum.inr.inj (oI h); exact q_qFq3_1_0 n x1_0 x1_1 x1_2)
  (fun r => by intro hx; cases hx) h
def m_qFq3 (n : Nat) (a0 : List R8) (a1 : Nat) (a2 : Nat) : Option (Bool) :=
 if (0 : Int) = ((a1 : Nat) : Int) then
  (m_qFq3_1 n a0 a1 a2 ()).bind fun _ =>
  some true
 else
  some false
theorem m_qFq3_ok (n : Nat) (a0 : List R8) (a1 : Nat) (a2 : Nat) (r : Bool) (h : m_qFq3 n a0 a1 a2 = some r) : Gv P (.func 37) (A_qFq3 a0 a1 a2) (H_qFq3 a0 a1 a2) (V_qFq3 a0 a1 a2 r) (R_qFq3 a0 a1 a2 r) := by
 unfold m_qFq3 at h
 by_cases hc1 : (0 : Int) = ((a1 : Nat) : Int)
 ·rw [if_pos hc1] at h
  obtain ⟨_, hc2, h⟩ := Option.bind_eq_some_iff.1 h
  obtain rfl := oI h; exact (runF2 hm (L := lT [(16, ⟨⟨[1, 2, 15, 16, 17], [(0, 0, true)], 1, 1, [], false, []⟩, (X_qFq3_1 a0 a1 a2 ()).1, (X_qFq3_1 a0 a1 a2 ()).2⟩)]) ⟨[6], [], 1, 1, [], false, []⟩ (zz 8 (xnF hc1) <|
ww (p := U_qFq3_1 none a0 a1 a2 () ()) (m_qFq3_1_ok n a0 a1 a2 () () hc2) <|
ww (rows_flat rwf_iiiiiiLu a0 37) ee) (by kernel_rfl))
 ·rw [if_neg hc1] at h
  obtain rfl := oI h; exact (runF2 hm (L := lT []) ⟨[6], [], 1, 1, [], false, []⟩ (zz 8 (xnT hc1) ee) (by kernel_rfl))

def A_pSq3 (a0 : List R8) (a1 : Nat) (a2 : Nat) : List Value := [(Value.slice none 0 0), (sN 0 0 a1 a2)]
def H_pSq3 (a0 : List R8) (a1 : Nat) (a2 : Nat) : AH := ⟨sB [(0, (some (.cells (layT (rows rw_iiiiiiLu a0)) 37)))], 1, 1⟩
def V_pSq3 (a0 : List R8) (a1 : Nat) (a2 : Nat) (r : Bool) : Value := match r with
 | o0 => (bO o0)
def R_pSq3 (a0 : List R8) (a1 : Nat) (a2 : Nat) (r : Bool) : AH := match r with
 | o0 => ⟨sB [], 1, 1⟩
abbrev G_pSq3 (a0 : List R8) (a1 : Nat) (a2 : Nat) (r : Bool) : Prop := Gv P (.func 23) (A_pSq3 a0 a1 a2) (H_pSq3 a0 a1 a2) (V_pSq3 a0 a1 a2 r) (R_pSq3 a0 a1 a2 r)
abbrev C_pSq3 (a0 : List R8) (a1 : Nat) (a2 : Nat) (r : Bool) (ins outs : BL) : CallA := ⟨1, ins, V_pSq3 a0 a1 a2 r, R_pSq3 a0 a1 a2 r, outs⟩
def m_pSq3 (n : Nat) (a0 : List R8) (a1 : Nat) (a2 : Nat) : Option (Bool) :=
 (m_qFq3 n a0 a1 a2).bind fun c1_ =>
 some c1_
theorem m_pSq3_ok (n : Nat) (a0 : List R8) (a1 : Nat) (a2 : Nat) (r : Bool) (h : m_pSq3 n a0 a1 a2 = some r) : Gv P (.func 23) (A_pSq3 a0 a1 a2) (H_pSq3 a0 a1 a2) (V_pSq3 a0 a1 a2 r) (R_pSq3 a0 a1 a2 r) := by
 unfold m_pSq3 at h
 obtain ⟨c1_, hc1, h⟩ := Option.bind_eq_some_iff.1 h
 obtain rfl := oI h; exact (runF2 hm (L := lT []) ⟨[4], [], 1, 1, [], false, []⟩ (yy 5 (.call (C_qFq3 a0 a1 a2 c1_ [(0, 0, true)] [])) <|
ww (m_qFq3_ok n a0 a1 a2 c1_ hc1) <|
ww (rows_flat rwf_iiiiiiLu a0 37) ee) (by kernel_rfl))

def A_tSq3 (a0 : List R8) (a1 : Nat) (a2 : Nat) : List Value := [(Value.slice none 0 0), (sN 0 0 a1 a2)]
def H_tSq3 (a0 : List R8) (a1 : Nat) (a2 : Nat) : AH := ⟨sB [(0, (some (.cells (layT (rows rw_iiiiiiLu a0)) 37)))], 1, 1⟩
def V_tSq3 (a0 : List R8) (a1 : Nat) (a2 : Nat) (r : Bool) : Value := match r with
 | o0 => (bO o0)
def R_tSq3 (a0 : List R8) (a1 : Nat) (a2 : Nat) (r : Bool) : AH := match r with
 | o0 => ⟨sB [], 1, 1⟩
abbrev G_tSq3 (a0 : List R8) (a1 : Nat) (a2 : Nat) (r : Bool) : Prop := Gv P (.func 10) (A_tSq3 a0 a1 a2) (H_tSq3 a0 a1 a2) (V_tSq3 a0 a1 a2 r) (R_tSq3 a0 a1 a2 r)
abbrev C_tSq3 (a0 : List R8) (a1 : Nat) (a2 : Nat) (r : Bool) (ins outs : BL) : CallA := ⟨1, ins, V_tSq3 a0 a1 a2 r, R_tSq3 a0 a1 a2 r, outs⟩
def m_tSq3 (n : Nat) (a0 : List R8) (a1 : Nat) (a2 : Nat) : Option (Bool) :=
 (m_pSq3 n a0 a1 a2).bind fun c1_ =>
 some c1_
theorem m_tSq3_ok (n : Nat) (a0 : List R8) (a1 : Nat) (a2 : Nat) (r : Bool) (h : m_tSq3 n a0 a1 a2 = some r) : Gv P (.func 10) (A_tSq3 a0 a1 a2) (H_tSq3 a0 a1 a2) (V_tSq3 a0 a1 a2 r) (R_tSq3 a0 a1 a2 r) := by
 unfold m_tSq3 at h
 obtain ⟨c1_, hc1, h⟩ := Option.bind_eq_some_iff.1 h
 obtain rfl := oI h; exact (runF2 hm (L := lT []) ⟨[4], [], 1, 1, [], false, []⟩ (yy 5 (.call (C_pSq3 a0 a1 a2 c1_ [(0, 0, true)] [])) <|
ww (m_pSq3_ok n a0 a1 a2 c1_ hc1) <|
ww (rows_flat rwf_iiiiiiLu a0 37) ee) (by kernel_rfl))

def A_qFq4 : List Value := [(Value.slice none 0 0), (Value.slice none 0 0), (Value.func (.func 38) #[] #[])]
def H_qFq4 : AH := ⟨sB [], 0, 0⟩
def V_qFq4 (r : Unit) : Value := match r with
 | _ => (bO true)
def R_qFq4 (r : Unit) : AH := match r with
 | _ => ⟨sB [], 0, 0⟩
abbrev G_qFq4 (r : Unit) : Prop := Gv P (.func 37) A_qFq4 H_qFq4 (V_qFq4  r) (R_qFq4  r)
abbrev C_qFq4 (r : Unit) (ins outs : BL) : CallA := ⟨0, ins, V_qFq4  r, R_qFq4  r, outs⟩
def S_qFq4_1 (st : Unit) : XSt := match st with
 | _ => (sT 32 [(1, (Value.slice none 0 0)), (2, (Value.func (.func 38) #[] #[])), (15, (Value.slice none 0 0)), (16, (i6 (0 : Int))), (17, (i6 (0 : Int)))], [], ⟨sB [], 0, 0⟩)
def X_qFq4_1 (r : Unit) : Ex × XSt := match r with
 | _ => (.exit 0, (sT 32 [], [], ⟨sB [], 0, 0⟩))
abbrev Q_qFq4_1 (rnd : Option Nat) (st : Unit) (c : Ex × XSt) : Prop := CG P rnd (fnN P 37) 0 (codeOf P 37 [false, false, true, false, true, true]) (S_qFq4_1 st) c
abbrev U_qFq4_1 (rd : Option Nat) (st : Unit) (r : Unit) : Prop := CG P rd (fnN P 37) 0 (codeOf P 37 [false, true, false, true, true]) (S_qFq4_1 st) (X_qFq4_1 r)
def B_qFq4_1 (n : Nat) (st : Unit) : Option ((Unit) ⊕ (Unit)) := match st with
 | _ =>
  some (.inr ())
def m_qFq4_1 (n : Nat) (st : Unit) : Option (Unit) := iterM (B_qFq4_1 n) n st
theorem q_qFq4_1_0 (n : Nat) {rnd : Option Nat}  : Q_qFq4_1 rnd () (X_qFq4_1 ()) :=
 runC2 hm (L := lT []) ⟨[], [], 0, 0, [], false, []⟩ (ee) (by kernel_rfl)
theorem m_qFq4_1_ok (n : Nat) {rnd : Option Nat} (st : Unit) (r : Unit) (h : m_qFq4_1 n st = some r) : CG P rnd (fnN P 37) 0 (codeOf P 37 [false, true, false, true, true]) (S_qFq4_1 st) (X_qFq4_1 r) :=
 CG.iter (b := codeOf P 37 [false, false, true, false, true, true]) (by kernel_rfl) (body := B_qFq4_1 n) (S := S_qFq4_1) (X := X_qFq4_1)
  (fun s s' h => by
  unfold B_qFq4_1 at h
  dsimp only at h
  cases h)
  (fun s r h => by
  unfold B_qFq4_1 at h
  dsimp only at h
  obtain rfl := Sum.inr.inj (oI h); exact q_qFq4_1_0 n)
  (fun r => by intro hx; cases hx) h
def m_qFq4 (n : Nat) : Option (Unit) :=
 (m_qFq4_1 n ()).bind fun _ =>
 some ()
theorem m_qFq4_ok (n : Nat) (r : Unit) (h : m_qFq4 n = some r) : Gv P (.func 37) A_qFq4 H_qFq4 (V_qFq4  r) (R_qFq4  r) := by
 unfold m_qFq4 at h
 obtain ⟨_, hc1, h⟩ := Option.bind_eq_some_iff.1 h
 obtain rfl := oI h; exact (runF2 hm (L := lT [(16, ⟨⟨[1, 2, 15, 16, 17], [], 0, 0, [], false, []⟩, (X_qFq4_1 ()).1, (X_qFq4_1 ()).2⟩)]) ⟨[6], [], 0, 0, [], false, []⟩ (ww (p := U_qFq4_1 none () ()) (m_qFq4_1_ok n () () hc1) ee) (by kernel_rfl))

def A_pSq4 : List Value := [(Value.slice none 0 0), (Value.slice none 0 0)]
def H_pSq4 : AH := ⟨sB [], 0, 0⟩
def V_pSq4 (r : Unit) : Value := match r with
 | _ => (bO true)
def R_pSq4 (r : Unit) : AH := match r with
 | _ => ⟨sB [], 0, 0⟩
abbrev G_pSq4 (r : Unit) : Prop := Gv P (.func 23) A_pSq4 H_pSq4 (V_pSq4  r) (R_pSq4  r)
abbrev C_pSq4 (r : Unit) (ins outs : BL) : CallA := ⟨0, ins, V_pSq4  r, R_pSq4  r, outs⟩
def m_pSq4 (n : Nat) : Option (Unit) :=
 (m_qFq4 n).bind fun _ =>
 some ()
theorem m_pSq4_ok (n : Nat) (r : Unit) (h : m_pSq4 n = some r) : Gv P (.func 23) A_pSq4 H_pSq4 (V_pSq4  r) (R_pSq4  r) := by
 unfold m_pSq4 at h
 obtain ⟨_, hc1, h⟩ := Option.bind_eq_some_iff.1 h
 obtain rfl := oI h; exact (runF2 hm (L := lT []) ⟨[4], [], 0, 0, [], false, []⟩ (yy 5 (.call (C_qFq4  () [] [])) <|
ww (m_qFq4_ok n  () hc1) ee) (by kernel_rfl))

def A_tSq4 : List Value := [(Value.slice none 0 0), (Value.slice none 0 0)]
def H_tSq4 : AH := ⟨sB [], 0, 0⟩
def V_tSq4 (r : Unit) : Value := match r with
 | _ => (bO true)
def R_tSq4 (r : Unit) : AH := match r with
 | _ => ⟨sB [], 0, 0⟩
abbrev G_tSq4 (r : Unit) : Prop := Gv P (.func 10) A_tSq4 H_tSq4 (V_tSq4  r) (R_tSq4  r)
abbrev C_tSq4 (r : Unit) (ins outs : BL) : CallA := ⟨0, ins, V_tSq4  r, R_tSq4  r, outs⟩
def m_tSq4 (n : Nat) : Option (Unit) :=
 (m_pSq4 n).bind fun _ =>
 some ()
theorem m_tSq4_ok (n : Nat) (r : Unit) (h : m_tSq4 n = some r) : Gv P (.func 10) A_tSq4 H_tSq4 (V_tSq4  r) (R_tSq4  r) := by
 unfold m_tSq4 at h
 obtain ⟨_, hc1, h⟩ := Option.bind_eq_some_iff.1 h
 obtain rfl := oI h; exact (runF2 hm (L := lT []) ⟨[4], [], 0, 0, [], false, []⟩ (yy 5 (.call (C_pSq4  () [] [])) <|
ww (m_pSq4_ok n  () hc1) ee) (by kernel_rfl))

def A_tCq3 : List Value := [(Value.slice none 0 0)]
def H_tCq3 : AH := ⟨sB [], 0, 0⟩
def V_tCq3 (r : Unit) : Value := match r with
 | _ => (i6 (2 : Int))
def R_tCq3 (r : Unit) : AH := match r with
 | _ => ⟨sB [], 0, 0⟩
abbrev G_tCq3 (r : Unit) : Prop := Gv P (.func 6) A_tCq3 H_tCq3 (V_tCq3  r) (R_tCq3  r)
abbrev C_tCq3 (r : Unit) (ins outs : BL) : CallA := ⟨0, ins, V_tCq3  r, R_tCq3  r, outs⟩
def m_tCq3 (n : Nat) : Option (Unit) :=
 some ()
theorem m_tCq3_ok (n : Nat) (r : Unit) (h : m_tCq3 n = some r) : Gv P (.func 6) A_tCq3 H_tCq3 (V_tCq3  r) (R_tCq3  r) := by
 unfold m_tCq3 at h
 obtain rfl := oI h; exact (runF2 hm (L := lT []) ⟨[2], [], 0, 0, [], false, []⟩ (ee) (by kernel_rfl))

def A_V (g10 : Int) (g11 : Int) (g12 : Int) (g2 : Int) : List Value := [(sW 0 0 (Args.A).length Args.cA), (Value.agg #[(i6 g10), (i6 g11), (i6 g12)]), (Value.int .u64 g2)]
def H_V (g10 : Int) (g11 : Int) (g12 : Int) (g2 : Int) : AH := ⟨sB [], 0, 0⟩
def V_V (g10 : Int) (g11 : Int) (g12 : Int) (g2 : Int) (r : Unit) : Value := match r with
 | _ => (bO true)
def R_V (g10 : Int) (g11 : Int) (g12 : Int) (g2 : Int) (r : Unit) : AH := match r with
 | _ => ⟨sB [], 0, 0⟩
abbrev G_V (g10 : Int) (g11 : Int) (g12 : Int) (g2 : Int) (r : Unit) : Prop := Gv P (.func 3) (A_V g10 g11 g12 g2) (H_V g10 g11 g12 g2) (V_V g10 g11 g12 g2 r) (R_V g10 g11 g12 g2 r)
abbrev C_V (g10 : Int) (g11 : Int) (g12 : Int) (g2 : Int) (r : Unit) (ins outs : BL) : CallA := ⟨0, ins, V_V g10 g11 g12 g2 r, R_V g10 g11 g12 g2 r, outs⟩
def S_V_1 (x1_0 : Int) (x1_1 : List R8) (x1_2 : Nat) (x1_3 : List R8) (x1_4 : Nat) (x1_5 : List (Bool)) (x1_6 : Nat) (st : Int) : XSt := match st with
 | x1_7 => (sT 125 [(0, (sW 0 0 (Args.A).length Args.cA)), (2, (Value.int .u64 x1_0)), (7, (sN 0 0 x1_2 x1_2)), (8, (sN 1 0 x1_4 x1_4)), (9, (sN 2 0 x1_6 x1_6)), (10, (i6 x1_7))], [], ⟨sB [(0, (some (.cells (layT (rows rw_iiiiiiLu x1_1)) 37))), (1, (some (.cells (layT (rows rw_iiiiiiLu x1_3)) 37))), (2, (some (.cells (layT (rows rw_b x1_5)) 4)))], 3, 0⟩)
def X_V_1 (x1_0 : Int) (x1_1 : List R8) (x1_2 : Nat) (x1_3 : List R8) (x1_4 : Nat) (x1_5 : List (Bool)) (x1_6 : Nat) (r : Unit) : Ex × XSt := match r with
 | _ => (.exit 0, (sT 125 [], [], ⟨sB [], 0, 0⟩))
abbrev Q_V_1 (rnd : Option Nat) (x1_0 : Int) (x1_1 : List R8) (x1_2 : Nat) (x1_3 : List R8) (x1_4 : Nat) (x1_5 : List (Bool)) (x1_6 : Nat) (st : Int) (c : Ex × XSt) : Prop := CG P rnd (fnN P 3) 0 (codeOf P 3 [false, false, true, false, true, true, true, true, true, true]) (S_V_1 x1_0 x1_1 x1_2 x1_3 x1_4 x1_5 x1_6 st) c
abbrev U_V_1 (rd : Option Nat) (x1_0 : Int) (x1_1 : List R8) (x1_2 : Nat) (x1_3 : List R8) (x1_4 : Nat) (x1_5 : List (Bool)) (x1_6 : Nat) (st : Int) (r : Unit) : Prop := CG P rd (fnN P 3) 0 (codeOf P 3 [false, true, false, true, true, true, true, true, true]) (S_V_1 x1_0 x1_1 x1_2 x1_3 x1_4 x1_5 x1_6 st) (X_V_1 x1_0 x1_1 x1_2 x1_3 x1_4 x1_5 x1_6 r)
def B_V_1 (n : Nat) (x1_0 : Int) (x1_1 : List R8) (x1_2 : Nat) (x1_3 : List R8) (x1_4 : Nat) (x1_5 : List (Bool)) (x1_6 : Nat) (st : Int) : Option ((Int) ⊕ (Unit)) := match st with
 | x1_7 =>
  if x1_7 < (Args.A.length : Int) then
   if 0 ≤ x1_7 ∧ x1_7 < ((x1_6 : Nat) : Int) then
    if (x1_7).toNat < (x1_5).length then
     ((some ((x1_5).getD (x1_7).toNat (false)))).bind fun y1_4_ =>
     if y1_4_ = true then
      none
     else
      if 0 ≤ x1_7 ∧ x1_7 < ((x1_2 : Nat) : Int) then
       if (x1_7).toNat < (x1_1).length then
        ((some ((x1_1).getD (x1_7).toNat (0, 0, 0, 0, 0, 0, nl0, 0)))).bind fun y1_8_ =>
        if 0 ≤ x1_7 ∧ x1_7 < (Args.A.length : Int) then
         ((some ((Args.A).getD (x1_7).toNat (0, 0, 0, 0, 0, 0, nl0, 0)))).bind fun y1_10_ =>
         if (y1_8_.2.2.2.2.2.2.2) = (y1_10_.2.2.2.2.2.2.2) then
          if 0 ≤ x1_7 ∧ x1_7 < ((x1_4 : Nat) : Int) then
           if (x1_7).toNat < (x1_3).length then
            ((some ((x1_3).getD (x1_7).toNat (0, 0, 0, 0, 0, 0, nl0, 0)))).bind fun y1_14_ =>
            if (y1_14_.2.2.2.2.2.2.2) = (y1_10_.2.2.2.2.2.2.2) then
             some (.inl (w64 (x1_7 + (1 : Int))))
            else
             if (y1_14_.2.2.2.2.2.2.2) = (bOr .u64 (y1_10_.2.2.2.2.2.2.2) x1_0) then
              some (.inl (w64 (x1_7 + (1 : Int))))
             else
              none
           else none
          else none
         else
          none
        else none
       else none
      else none
    else none
   else none
  else
   some (.inr ())
def m_V_1 (n : Nat) (x1_0 : Int) (x1_1 : List R8) (x1_2 : Nat) (x1_3 : List R8) (x1_4 : Nat) (x1_5 : List (Bool)) (x1_6 : Nat) (st : Int) : Option (Unit) := iterM (B_V_1 n x1_0 x1_1 x1_2 x1_3 x1_4 x1_5 x1_6) n st
theorem q_V_1_0 (n : Nat) {rnd : Option Nat} (x1_0 : Int) (x1_1 : List R8) (x1_2 : Nat) (x1_3 : List R8) (x1_4 : Nat) (x1_5 : List (Bool)) (x1_6 : Nat) (x1_7 : Int) (hy1_1 : x1_7 < (Args.A.length : Int)) (hy1_2 : 0 ≤ x1_7 ∧ x1_7 < ((x1_6 : Nat) : Int)) (hy1_3 : (x1_7).toNat < (x1_5).length) (y1_4_ : Bool) (hy1_4 : (some ((x1_5).getD (x1_7).toNat (false))) = some y1_4_) (hy1_5 : ¬ (y1_4_ = true)) (hy1_6 : 0 ≤ x1_7 ∧ x1_7 < ((x1_2 : Nat) : Int)) (hy1_7 : (x1_7).toNat < (x1_1).length) (y1_8_ : R8) (hy1_8 : (some ((x1_1).getD (x1_7).toNat (0, 0, 0, 0, 0, 0, nl0, 0))) = some y1_8_) (hy1_9 : 0 ≤ x1_7 ∧ x1_7 < (Args.A.length : Int)) (y1_10_ : R8) (hy1_10 : (some ((Args.A).getD (x1_7).toNat (0, 0, 0, 0, 0, 0, nl0, 0))) = some y1_10_) (hy1_11 : (y1_8_.2.2.2.2.2.2.2) = (y1_10_.2.2.2.2.2.2.2)) (hy1_12 : 0 ≤ x1_7 ∧ x1_7 < ((x1_4 : Nat) : Int)) (hy1_13 : (x1_7).toNat < (x1_3).length) (y1_14_ : R8) (hy1_14 : (some ((x1_3).getD (x1_7).toNat (0, 0, 0, 0, 0, 0, nl0, 0))) = some y1_14_) (hy1_15 : (y1_14_.2.2.2.2.2.2.2) = (y1_10_.2.2.2.2.2.2.2)) : Q_V_1 rnd x1_0 x1_1 x1_2 x1_3 x1_4 x1_5 x1_6 x1_7 (.normal, S_V_1 x1_0 x1_1 x1_2 x1_3 x1_4 x1_5 x1_6 (w64 (x1_7 + (1 : Int)))) :=
 runC2 hm (L := lT []) ⟨[0, 2, 7, 8, 9, 10], [(0, 0, true), (1, 1, true), (2, 2, true)], 3, 0, [], false, []⟩ (zz 5 (xdT hy1_1) <|
zz 12 (xk12 2 x1_6 hy1_2) <|
zz 13 (ok13 hy1_4 (hy1_3)) <|
zz 14 (xbF hy1_5) <|
zz 17 (xk10 0 x1_2 hy1_6) <|
zz 19 (ok14 hy1_8 (hy1_7)) <|
zz 22 (xk1 0 Args.cA hy1_9) <|
zz 23 (fk15 ((x1_7).toNat * 8)) <|
zz 24 (lk16 hy1_10 (toNatLt hy1_9)) <|
zz 25 (xnF hy1_11) <|
zz 30 (xk10 1 x1_4 hy1_12) <|
zz 32 (ok14 hy1_14 (hy1_13)) <|
zz 35 (xk1 0 Args.cA hy1_9) <|
zz 36 (fk15 ((x1_7).toNat * 8)) <|
zz 37 (lk16 hy1_10 (toNatLt hy1_9)) <|
zz 38 (xnF hy1_15) <|
ww (rows_flat rwf_iiiiiiLu x1_1 37) <|
ww (rows_flat rwf_iiiiiiLu x1_3 37) <|
ww (rows_flat rwf_b x1_5 4) <|
ee) (by kernel_rfl)
theorem q_V_1_1 (n : Nat) {rnd : Option Nat} (x1_0 : Int) (x1_1 : List R8) (x1_2 : Nat) (x1_3 : List R8) (x1_4 : Nat) (x1_5 : List (Bool)) (x1_6 : Nat) (x1_7 : Int) (hy1_1 : x1_7 < (Args.A.length : Int)) (hy1_2 : 0 ≤ x1_7 ∧ x1_7 < ((x1_6 : Nat) : Int)) (hy1_3 : (x1_7).toNat < (x1_5).length) (y1_4_ : Bool) (hy1_4 : (some ((x1_5).getD (x1_7).toNat (false))) = some y1_4_) (hy1_5 : ¬ (y1_4_ = true)) (hy1_6 : 0 ≤ x1_7 ∧ x1_7 < ((x1_2 : Nat) : Int)) (hy1_7 : (x1_7).toNat < (x1_1).length) (y1_8_ : R8) (hy1_8 : (some ((x1_1).getD (x1_7).toNat (0, 0, 0, 0, 0, 0, nl0, 0))) = some y1_8_) (hy1_9 : 0 ≤ x1_7 ∧ x1_7 < (Args.A.length : Int)) (y1_10_ : R8) (hy1_10 : (some ((Args.A).getD (x1_7).toNat (0, 0, 0, 0, 0, 0, nl0, 0))) = some y1_10_) (hy1_11 : (y1_8_.2.2.2.2.2.2.2) = (y1_10_.2.2.2.2.2.2.2)) (hy1_12 : 0 ≤ x1_7 ∧ x1_7 < ((x1_4 : Nat) : Int)) (hy1_13 : (x1_7).toNat < (x1_3).length) (y1_14_ : R8) (hy1_14 : (some ((x1_3).getD (x1_7).toNat (0, 0, 0, 0, 0, 0, nl0, 0))) = some y1_14_) (hy1_15 : ¬ ((y1_14_.2.2.2.2.2.2.2) = (y1_10_.2.2.2.2.2.2.2))) (hy1_16 : (y1_14_.2.2.2.2.2.2.2) = (bOr .u64 (y1_10_.2.2.2.2.2.2.2) x1_0)) : Q_V_1 rnd x1_0 x1_1 x1_2 x1_3 x1_4 x1_5 x1_6 x1_7 (.normal, S_V_1 x1_0 x1_1 x1_2 x1_3 x1_4 x1_5 x1_6 (w64 (x1_7 + (1 : Int)))) :=
 runC2 hm (L := lT []) ⟨[0, 2, 7, 8, 9, 10], [(0, 0, true), (1, 1, true), (2, 2, true)], 3, 0, [], false, []⟩ (zz 5 (xdT hy1_1) <|
zz 12 (xk12 2 x1_6 hy1_2) <|
zz 13 (ok13 hy1_4 (hy1_3)) <|
zz 14 (xbF hy1_5) <|
zz 17 (xk10 0 x1_2 hy1_6) <|
zz 19 (ok14 hy1_8 (hy1_7)) <|
zz 22 (xk1 0 Args.cA hy1_9) <|
zz 23 (fk15 ((x1_7).toNat * 8)) <|
zz 24 (lk16 hy1_10 (toNatLt hy1_9)) <|
zz 25 (xnF hy1_11) <|
zz 30 (xk10 1 x1_4 hy1_12) <|
zz 32 (ok14 hy1_14 (hy1_13)) <|
zz 35 (xk1 0 Args.cA hy1_9) <|
zz 36 (fk15 ((x1_7).toNat * 8)) <|
zz 37 (lk16 hy1_10 (toNatLt hy1_9)) <|
zz 38 (xnT hy1_15) <|
zz 42 (xk10 1 x1_4 hy1_12) <|
zz 44 (ok14 hy1_14 (hy1_13)) <|
zz 47 (xk1 0 Args.cA hy1_9) <|
zz 48 (fk15 ((x1_7).toNat * 8)) <|
zz 49 (lk16 hy1_10 (toNatLt hy1_9)) <|
zz 52 (xnF hy1_16) <|
ww (rows_flat rwf_iiiiiiLu x1_1 37) <|
ww (rows_flat rwf_iiiiiiLu x1_3 37) <|
ww (rows_flat rwf_b x1_5 4) <|
ee) (by kernel_rfl)
theorem q_V_1_2 (n : Nat) {rnd : Option Nat} (x1_0 : Int) (x1_1 : List R8) (x1_2 : Nat) (x1_3 : List R8) (x1_4 : Nat) (x1_5 : List (Bool)) (x1_6 : Nat) (x1_7 : Int) (hy1_1 : ¬ (x1_7 < (Args.A.length : Int))) : Q_V_1 rnd x1_0 x1_1 x1_2 x1_3 x1_4 x1_5 x1_6 x1_7 (X_V_1 x1_0 x1_1 x1_2 x1_3 x1_4 x1_5 x1_6 ()) :=
 runC2 hm (L := lT []) ⟨[], [], 0, 0, [], false, []⟩ (zz 5 (xdF hy1_1) <|
ee) (by kernel_rfl)
theorem m_V_1_ok (n : Nat) {rnd : Option Nat} (x1_0 : Int) (x1_1 : List R8) (x1_2 : Nat) (x1_3 : List R8) (x1_4 : Nat) (x1_5 : List (Bool)) (x1_6 : Nat) (st : Int) (r : Unit) (h : m_V_1 n x1_0 x1_1 x1_2 x1_3 x1_4 x1_5 x1_6 st = some r) : CG P rnd (fnN P 3) 0 (codeOf P 3 [false, true, false, true, true, true, true, true, true]) (S_V_1 x1_0 x1_1 x1_2 x1_3 x1_4 x1_5 x1_6 st) (X_V_1 x1_0 x1_1 x1_2 x1_3 x1_4 x1_5 x1_6 r) :=
 CG.iter (b := codeOf P 3 [false, false, true, false, true, true, true, true, true, true]) (by kernel_rfl) (body := B_V_1 n x1_0 x1_1 x1_2 x1_3 x1_4 x1_5 x1_6) (S := S_V_1 x1_0 x1_1 x1_2 x1_3 x1_4 x1_5 x1_6) (X := X_V_1 x1_0 x1_1 x1_2 x1_3 x1_4 x1_5 x1_6)
  (fun x1_7 s' h => by
  unfold B_V_1 at h
  dsimp only at h
  by_cases hy1_1 : x1_7 < (Args.A.length : Int)
  ·rw [if_pos hy1_1] at h
   by_cases hy1_2 : 0 ≤ x1_7 ∧ x1_7 < ((x1_6 : Nat) : Int)
   ·rw [if_pos hy1_2] at h
    by_cases hy1_3 : (x1_7).toNat < (x1_5).length
    ·rw [if_pos hy1_3] at h
     obtain ⟨y1_4_, hy1_4, h⟩ := Option.bind_eq_some_iff.1 h
     by_cases hy1_5 : y1_4_ = true
     ·rw [if_pos hy1_5] at h
      cases h
     ·rw [if_neg hy1_5] at h
      by_cases hy1_6 : 0 ≤ x1_7 ∧ x1_7 < ((x1_2 : Nat) : Int)
      ·rw [if_pos hy1_6] at h
       by_cases hy1_7 : (x1_7).toNat < (x1_1).length
       ·rw [if_pos hy1_7] at h
        obtain ⟨y1_8_, hy1_8, h⟩ := Option.bind_eq_some_iff.1 h
        by_cases hy1_9 : 0 ≤ x1_7 ∧ x1_7 < (Args.A.length : Int)
        ·rw [if_pos hy1_9] at h
         obtain ⟨y1_10_, hy1_10, h⟩ := Option.bind_eq_some_iff.1 h
         by_cases hy1_11 : (y1_8_.2.2.2.2.2.2.2) = (y1_10_.2.2.2.2.2.2.2)
         ·rw [if_pos hy1_11] at h
          by_cases hy1_12 : 0 ≤ x1_7 ∧ x1_7 < ((x1_4 : Nat) : Int)
          ·rw [if_pos hy1_12] at h
           by_cases hy1_13 : (x1_7).toNat < (x1_3).length
           ·rw [if_pos hy1_13] at h
            obtain ⟨y1_14_, hy1_14, h⟩ := Option.bind_eq_some_iff.1 h
            by_cases hy1_15 : (y1_14_.2.2.2.2.2.2.2) = (y1_10_.2.2.2.2.2.2.2)
            ·rw [if_pos hy1_15] at h
             obtain rfl := Sum.inl.inj (oI h); exact q_V_1_0 n x1_0 x1_1 x1_2 x1_3 x1_4 x1_5 x1_6 x1_7 hy1_1 hy1_2 hy1_3 y1_4_ hy1_4 hy1_5 hy1_6 hy1_7 y1_8_ hy1_8 hy1_9 y1_10_ hy1_10 hy1_11 hy1_12 hy1_13 y1_14_ hy1_14 hy1_15
            ·rw [if_neg hy1_15] at h
             by_cases hy1_16 : (y1_14_.2.2.2.2.2.2.2) = (bOr .u64 (y1_10_.2.2.2.2.2.2.2) x1_0)
             ·rw [if_pos hy1_16] at h
              obtain rfl := Sum.inl.inj (oI h); exact q_V_1_1 n x1_0 x1_1 x1_2 x1_3 x1_4 x1_5 x1_6 x1_7 hy1_1 hy1_2 hy1_3 y1_4_ hy1_4 hy1_5 hy1_6 hy1_7 y1_8_ hy1_8 hy1_9 y1_10_ hy1_10 hy1_11 hy1_12 hy1_13 y1_14_ hy1_14 hy1_15 hy1_16
             ·rw [if_neg hy1_16] at h
              cases h
           ·rw [if_neg hy1_13] at h; cases h
          ·rw [if_neg hy1_12] at h; cases h
         ·rw [if_neg hy1_11] at h
          cases h
        ·rw [if_neg hy1_9] at h; cases h
       ·rw [if_neg hy1_7] at h; cases h
      ·rw [if_neg hy1_6] at h; cases h
    ·rw [if_neg hy1_3] at h; cases h
   ·rw [if_neg hy1_2] at h; cases h
  ·rw [if_neg hy1_1] at h
   cases h)
  (fun x1_7 r h => by
  unfold B_V_1 at h
  dsimp only at h
  by_cases hy1_1 : x1_7 < (Args.A.length : Int)
  ·rw [if_pos hy1_1] at h
   by_cases hy1_2 : 0 ≤ x1_7 ∧ x1_7 < ((x1_6 : Nat) : Int)
   ·rw [if_pos hy1_2] at h
    by_cases hy1_3 : (x1_7).toNat < (x1_5).length
    ·rw [if_pos hy1_3] at h
     obtain ⟨y1_4_, hy1_4, h⟩ := Option.bind_eq_some_iff.1 h
     by_cases hy1_5 : y1_4_ = true
     ·rw [if_pos hy1_5] at h
      cases h
     ·rw [if_neg hy1_5] at h
      by_cases hy1_6 : 0 ≤ x1_7 ∧ x1_7 < ((x1_2 : Nat) : Int)
      ·rw [if_pos hy1_6] at h
       by_cases hy1_7 : (x1_7).toNat < (x1_1).length
       ·rw [if_pos hy1_7] at h
        obtain ⟨y1_8_, hy1_8, h⟩ := Option.bind_eq_some_iff.1 h
        by_cases hy1_9 : 0 ≤ x1_7 ∧ x1_7 < (Args.A.length : Int)
        ·rw [if_pos hy1_9] at h
         obtain ⟨y1_10_, hy1_10, h⟩ := Option.bind_eq_some_iff.1 h
         by_cases hy1_11 : (y1_8_.2.2.2.2.2.2.2) = (y1_10_.2.2.2.2.2.2.2)
         ·rw [if_pos hy1_11] at h
          by_cases hy1_12 : 0 ≤ x1_7 ∧ x1_7 < ((x1_4 : Nat) : Int)
          ·rw [if_pos hy1_12] at h
           by_cases hy1_13 : (x1_7).toNat < (x1_3).length
           ·rw [if_pos hy1_13] at h
            obtain ⟨y1_14_, hy1_14, h⟩ := Option.bind_eq_some_iff.1 h
            by_cases hy1_15 : (y1_14_.2.2.2.2.2.2.2) = (y1_10_.2.2.2.2.2.2.2)
            ·rw [if_pos hy1_15] at h
             cases h
            ·rw [if_neg hy1_15] at h
             by_cases hy1_16 : (y1_14_.2.2.2.2.2.2.2) = (bOr .u64 (y1_10_.2.2.2.2.2.2.2) x1_0)
             ·rw [if_pos hy1_16] at h
              cases h
             ·rw [if_neg hy1_16] at h
              cases h
           ·rw [if_neg hy1_13] at h; cases h
          ·rw [if_neg hy1_12] at h; cases h
         ·rw [if_neg hy1_11] at h
          cases h
        ·rw [if_neg hy1_9] at h; cases h
       ·rw [if_neg hy1_7] at h; cases h
      ·rw [if_neg hy1_6] at h; cases h
    ·rw [if_neg hy1_3] at h; cases h
   ·rw [if_neg hy1_2] at h; cases h
  ·rw [if_neg hy1_1] at h
   obtain rfl := Sum.inr.inj (oI h); exact q_V_1_2 n x1_0 x1_1 x1_2 x1_3 x1_4 x1_5 x1_6 x1_7 hy1_1)
  (fun r => by intro hx; cases hx) h
def m_V (n : Nat) (g10 : Int) (g11 : Int) (g12 : Int) (g2 : Int) : Option (Unit) :=
 (m_viewportlaw16lives n).bind fun _ =>
 (m_liq1 n g10 g11 g12).bind fun c2_ =>
 if c2_ = true then
  (m_tCq1 n).bind fun c4_ =>
  if c4_ = (0 : Int) then
   if g10 < (0 : Int) then
    some ()
   else
    if g11 < (0 : Int) then
     some ()
    else
     if g12 < (0 : Int) then
      some ()
     else
      (m_treeEditq1 n g10 g11 g12 0).bind fun t => match t with
      | (c9_0, c9_1) =>
       (m_treeEditq1 n g10 g11 g12 g2).bind fun t => match t with
       | (c10_0, c10_1) =>
        match m_treeBareq1 n with
        | none => none
        | some (.inl (c11_0, c11_1)) =>
         (m_treeStaleq1 n c11_0 c11_1 c11_1).bind fun c12_ =>
         if ((c9_1 : Nat) : Int) = (Args.A.length : Int) then
          if ((c10_1 : Nat) : Int) = (Args.A.length : Int) then
           if ((((((c11_1 : Nat) : Int)).toNat) : Nat) : Int) = (Args.A.length : Int) then
            match m_treeBareq2 n c9_0 c9_1 c9_1 with
            | none => none
            | some (.inl c16_) =>
             match m_treeBareq2 n c10_0 c10_1 c10_1 with
             | none => none
             | some (.inl c17_) =>
              (m_tSq1 n c16_ ((((c9_1 : Nat) : Int)).toNat) ((((c9_1 : Nat) : Int)).toNat) c17_ ((((c10_1 : Nat) : Int)).toNat) ((((c10_1 : Nat) : Int)).toNat)).bind fun c18_ =>
              if c18_ = true then
               (m_V_1 n g2 c9_0 c9_1 c10_0 c10_1 c12_ ((((c11_1 : Nat) : Int)).toNat) 0).bind fun _ =>
               some ()
              else
               none
             | some (.inr _) =>
              (m_tSq2 n c16_ ((((c9_1 : Nat) : Int)).toNat) ((((c9_1 : Nat) : Int)).toNat)).bind fun c18_ =>
              if c18_ = true then
               (m_V_1 n g2 c9_0 c9_1 c10_0 c10_1 c12_ ((((c11_1 : Nat) : Int)).toNat) 0).bind fun _ =>
               some ()
              else
               none
            | some (.inr _) =>
             match m_treeBareq2 n c10_0 c10_1 c10_1 with
             | none => none
             | some (.inl c17_) =>
              (m_tSq3 n c17_ ((((c10_1 : Nat) : Int)).toNat) ((((c10_1 : Nat) : Int)).toNat)).bind fun c18_ =>
              if c18_ = true then
               (m_V_1 n g2 c9_0 c9_1 c10_0 c10_1 c12_ ((((c11_1 : Nat) : Int)).toNat) 0).bind fun _ =>
               some ()
              else
               none
             | some (.inr _) =>
              (m_tSq4 n).bind fun _ =>
              (m_V_1 n g2 c9_0 c9_1 c10_0 c10_1 c12_ ((((c11_1 : Nat) : Int)).toNat) 0).bind fun _ =>
              some ()
           else
            none
          else
           none
         else
          none
        | some (.inr _) =>
         none
  else
   some ()
 else
  some ()
theorem m_V_ok (n : Nat) (g10 : Int) (g11 : Int) (g12 : Int) (g2 : Int) (r : Unit) (h : m_V n g10 g11 g12 g2 = some r) : Gv P (.func 3) (A_V g10 g11 g12 g2) (H_V g10 g11 g12 g2) (V_V g10 g11 g12 g2 r) (R_V g10 g11 g12 g2 r) := by
 unfold m_V at h
 obtain ⟨_, hc1, h⟩ := Option.bind_eq_some_iff.1 h
 obtain ⟨c2_, hc2, h⟩ := Option.bind_eq_some_iff.1 h
 by_cases hc3 : c2_ = true
 ·rw [if_pos hc3] at h
  obtain ⟨c4_, hc4, h⟩ := Option.bind_eq_some_iff.1 h
  by_cases hc5 : c4_ = (0 : Int)
  ·rw [if_pos hc5] at h
   by_cases hc6 : g10 < (0 : Int)
   ·rw [if_pos hc6] at h
    obtain rfl := oI h; exact (runF2 hm (L := lT []) ⟨[6], [], 0, 0, [], false, []⟩ (yy 5 (.call ⟨0, [], (Value.bool true), Ax.h0, []⟩) <|
ww (m_viewportlaw16lives_ok n  () hc1) <|
yy 12 (.call (C_liq1 g10 g11 g12 c2_ [] [])) <|
ww (m_liq1_ok n g10 g11 g12 c2_ hc2) <|
yy 13 (vf) <|
ww (p := (Value.bool (!c2_)) = (Value.bool false)) (vBn hc3) <|
yy 16 (.call (C_tCq1  c4_ [] [])) <|
ww (m_tCq1_ok n  c4_ hc4) <|
zz 17 (xnF hc5) <|
zz 22 (xdT hc6) ee) (by kernel_rfl))
   ·rw [if_neg hc6] at h
    by_cases hc7 : g11 < (0 : Int)
    ·rw [if_pos hc7] at h
     obtain rfl := oI h; exact (runF2 hm (L := lT []) ⟨[6], [], 0, 0, [], false, []⟩ (yy 5 (.call ⟨0, [], (Value.bool true), Ax.h0, []⟩) <|
ww (m_viewportlaw16lives_ok n  () hc1) <|
yy 12 (.call (C_liq1 g10 g11 g12 c2_ [] [])) <|
ww (m_liq1_ok n g10 g11 g12 c2_ hc2) <|
yy 13 (vf) <|
ww (p := (Value.bool (!c2_)) = (Value.bool false)) (vBn hc3) <|
yy 16 (.call (C_tCq1  c4_ [] [])) <|
ww (m_tCq1_ok n  c4_ hc4) <|
zz 17 (xnF hc5) <|
zz 22 (xdF hc6) <|
zz 27 (xdT hc7) ee) (by kernel_rfl))
    ·rw [if_neg hc7] at h
     by_cases hc8 : g12 < (0 : Int)
     ·rw [if_pos hc8] at h
      obtain rfl := oI h; exact (runF2 hm (L := lT []) ⟨[6], [], 0, 0, [], false, []⟩ (yy 5 (.call ⟨0, [], (Value.bool true), Ax.h0, []⟩) <|
ww (m_viewportlaw16lives_ok n  () hc1) <|
yy 12 (.call (C_liq1 g10 g11 g12 c2_ [] [])) <|
ww (m_liq1_ok n g10 g11 g12 c2_ hc2) <|
yy 13 (vf) <|
ww (p := (Value.bool (!c2_)) = (Value.bool false)) (vBn hc3) <|
yy 16 (.call (C_tCq1  c4_ [] [])) <|
ww (m_tCq1_ok n  c4_ hc4) <|
zz 17 (xnF hc5) <|
zz 22 (xdF hc6) <|
zz 27 (xdF hc7) <|
zz 32 (xdT hc8) ee) (by kernel_rfl))
     ·rw [if_neg hc8] at h
      obtain ⟨⟨c9_0, c9_1⟩, hc9, h⟩ := Option.bind_eq_some_iff.1 h
      dsimp only at h
      obtain ⟨⟨c10_0, c10_1⟩, hc10, h⟩ := Option.bind_eq_some_iff.1 h
      dsimp only at h
      rcases hc11 : m_treeBareq1 n with _ | (⟨c11_0, c11_1⟩ | ⟨⟩)
      ·rw [hc11] at h; cases h
      ·rw [hc11] at h
       dsimp only at h
       obtain ⟨c12_, hc12, h⟩ := Option.bind_eq_some_iff.1 h
       by_cases hc13 : ((c9_1 : Nat) : Int) = (Args.A.length : Int)
       ·rw [if_pos hc13] at h
        by_cases hc14 : ((c10_1 : Nat) : Int) = (Args.A.length : Int)
        ·rw [if_pos hc14] at h
         by_cases hc15 : ((((((c11_1 : Nat) : Int)).toNat) : Nat) : Int) = (Args.A.length : Int)
         ·rw [if_pos hc15] at h
          rcases hc16 : m_treeBareq2 n c9_0 c9_1 c9_1 with _ | (c16_ | ⟨⟩)
          ·rw [hc16] at h; cases h
          ·rw [hc16] at h
           dsimp only at h
           rcases hc17 : m_treeBareq2 n c10_0 c10_1 c10_1 with _ | (c17_ | ⟨⟩)
           ·rw [hc17] at h; cases h
           ·rw [hc17] at h
            dsimp only at h
            obtain ⟨c18_, hc18, h⟩ := Option.bind_eq_some_iff.1 h
            by_cases hc19 : c18_ = true
            ·rw [if_pos hc19] at h
             obtain ⟨_, hc20, h⟩ := Option.bind_eq_some_iff.1 h
             obtain rfl := oI h; exact (runF2 hm (L := lT [(84, ⟨⟨[0, 2, 7, 8, 9, 10], [(0, 2, true), (1, 4, true), (2, 7, true)], 3, 0, [], false, []⟩, (X_V_1 g2 c9_0 c9_1 c10_0 c10_1 c12_ ((((c11_1 : Nat) : Int)).toNat) ()).1, (X_V_1 g2 c9_0 c9_1 c10_0 c10_1 c12_ ((((c11_1 : Nat) : Int)).toNat) ()).2⟩)]) ⟨[6], [], 0, 0, [], false, []⟩ (yy 5 (.call ⟨0, [], (Value.bool true), Ax.h0, []⟩) <|
ww (m_viewportlaw16lives_ok n  () hc1) <|
yy 12 (.call (C_liq1 g10 g11 g12 c2_ [] [])) <|
ww (m_liq1_ok n g10 g11 g12 c2_ hc2) <|
yy 13 (vf) <|
ww (p := (Value.bool (!c2_)) = (Value.bool false)) (vBn hc3) <|
yy 16 (.call (C_tCq1  c4_ [] [])) <|
ww (m_tCq1_ok n  c4_ hc4) <|
zz 17 (xnF hc5) <|
zz 22 (xdF hc6) <|
zz 27 (xdF hc7) <|
zz 32 (xdF hc8) <|
yy 38 (.call (C_treeEditq1 g10 g11 g12 0 (c9_0, c9_1) [] [(2, 1, true)])) <|
ww (m_treeEditq1_ok n g10 g11 g12 0 (c9_0, c9_1) hc9) <|
ww (rows_flat rwf_iiiiiiLu c9_0 37) <|
yy 42 (.call (C_treeEditq1 g10 g11 g12 g2 (c10_0, c10_1) [] [(4, 1, true)])) <|
ww (m_treeEditq1_ok n g10 g11 g12 g2 (c10_0, c10_1) hc10) <|
ww (rows_flat rwf_iiiiiiLu c10_0 37) <|
yy 47 (.call (C_treeBareq1  (.inl (c11_0, c11_1)) [] [(5, 0, true)])) <|
ww (m_treeBareq1_ok n  (.inl (c11_0, c11_1)) hc11) <|
ww (rows_flat rwf_iiiiiiLu c11_0 37) <|
yy 48 (.call (C_treeStaleq1 c11_0 c11_1 c11_1 c12_ [(0, 5, true)] [(5, 0, true), (7, 2, true)])) <|
ww (m_treeStaleq1_ok n c11_0 c11_1 c11_1 c12_ hc12) <|
ww (rows_flat rwf_iiiiiiLu c11_0 37) <|
ww (rows_flat rwf_iiiiiiLu c11_0 37) <|
ww (rows_flat rwf_b c12_ 4) <|
zz 56 (xnF hc13) <|
zz 62 (xnF hc14) <|
zz 69 (xnF hc15) <|
yy 73 (.call (C_treeBareq2 c9_0 c9_1 c9_1 (.inl c16_) [(0, 2, true)] [(8, 1, true)])) <|
ww (m_treeBareq2_ok n c9_0 c9_1 c9_1 (.inl c16_) hc16) <|
ww (rows_flat rwf_iiiiiiLu c9_0 37) <|
ww (rows_flat rwf_iiiiiiLu c16_ 37) <|
yy 75 (.call (C_treeBareq2 c10_0 c10_1 c10_1 (.inl c17_) [(0, 4, true)] [(9, 1, true)])) <|
ww (m_treeBareq2_ok n c10_0 c10_1 c10_1 (.inl c17_) hc17) <|
ww (rows_flat rwf_iiiiiiLu c10_0 37) <|
ww (rows_flat rwf_iiiiiiLu c17_ 37) <|
yy 76 (.call (C_tSq1 c16_ ((((c9_1 : Nat) : Int)).toNat) ((((c9_1 : Nat) : Int)).toNat) c17_ ((((c10_1 : Nat) : Int)).toNat) ((((c10_1 : Nat) : Int)).toNat) c18_ [(0, 8, true), (1, 9, true)] [])) <|
ww (m_tSq1_ok n c16_ ((((c9_1 : Nat) : Int)).toNat) ((((c9_1 : Nat) : Int)).toNat) c17_ ((((c10_1 : Nat) : Int)).toNat) ((((c10_1 : Nat) : Int)).toNat) c18_ hc18) <|
ww (rows_flat rwf_iiiiiiLu c16_ 37) <|
ww (rows_flat rwf_iiiiiiLu c17_ 37) <|
yy 77 (vf) <|
ww (p := (Value.bool (!c18_)) = (Value.bool false)) (vBn hc19) <|
ww (p := U_V_1 none g2 c9_0 c9_1 c10_0 c10_1 c12_ ((((c11_1 : Nat) : Int)).toNat) 0 ()) (m_V_1_ok n g2 c9_0 c9_1 c10_0 c10_1 c12_ ((((c11_1 : Nat) : Int)).toNat) 0 () hc20) <|
ww (rows_flat rwf_iiiiiiLu c9_0 37) <|
ww (rows_flat rwf_iiiiiiLu c10_0 37) <|
ww (rows_flat rwf_b c12_ 4) ee) (by kernel_rfl))
            ·rw [if_neg hc19] at h
             cases h
           ·rw [hc17] at h
            dsimp only at h
            obtain ⟨c18_, hc18, h⟩ := Option.bind_eq_some_iff.1 h
            by_cases hc19 : c18_ = true
            ·rw [if_pos hc19] at h
             obtain ⟨_, hc20, h⟩ := Option.bind_eq_some_iff.1 h
             obtain rfl := oI h; exact (runF2 hm (L := lT [(84, ⟨⟨[0, 2, 7, 8, 9, 10], [(0, 2, true), (1, 4, true), (2, 7, true)], 3, 0, [], false, []⟩, (X_V_1 g2 c9_0 c9_1 c10_0 c10_1 c12_ ((((c11_1 : Nat) : Int)).toNat) ()).1, (X_V_1 g2 c9_0 c9_1 c10_0 c10_1 c12_ ((((c11_1 : Nat) : Int)).toNat) ()).2⟩)]) ⟨[6], [], 0, 0, [], false, []⟩ (yy 5 (.call ⟨0, [], (Value.bool true), Ax.h0, []⟩) <|
ww (m_viewportlaw16lives_ok n  () hc1) <|
yy 12 (.call (C_liq1 g10 g11 g12 c2_ [] [])) <|
ww (m_liq1_ok n g10 g11 g12 c2_ hc2) <|
yy 13 (vf) <|
ww (p := (Value.bool (!c2_)) = (Value.bool false)) (vBn hc3) <|
yy 16 (.call (C_tCq1  c4_ [] [])) <|
ww (m_tCq1_ok n  c4_ hc4) <|
zz 17 (xnF hc5) <|
zz 22 (xdF hc6) <|
zz 27 (xdF hc7) <|
zz 32 (xdF hc8) <|
yy 38 (.call (C_treeEditq1 g10 g11 g12 0 (c9_0, c9_1) [] [(2, 1, true)])) <|
ww (m_treeEditq1_ok n g10 g11 g12 0 (c9_0, c9_1) hc9) <|
ww (rows_flat rwf_iiiiiiLu c9_0 37) <|
yy 42 (.call (C_treeEditq1 g10 g11 g12 g2 (c10_0, c10_1) [] [(4, 1, true)])) <|
ww (m_treeEditq1_ok n g10 g11 g12 g2 (c10_0, c10_1) hc10) <|
ww (rows_flat rwf_iiiiiiLu c10_0 37) <|
yy 47 (.call (C_treeBareq1  (.inl (c11_0, c11_1)) [] [(5, 0, true)])) <|
ww (m_treeBareq1_ok n  (.inl (c11_0, c11_1)) hc11) <|
ww (rows_flat rwf_iiiiiiLu c11_0 37) <|
yy 48 (.call (C_treeStaleq1 c11_0 c11_1 c11_1 c12_ [(0, 5, true)] [(5, 0, true), (7, 2, true)])) <|
ww (m_treeStaleq1_ok n c11_0 c11_1 c11_1 c12_ hc12) <|
ww (rows_flat rwf_iiiiiiLu c11_0 37) <|
ww (rows_flat rwf_iiiiiiLu c11_0 37) <|
ww (rows_flat rwf_b c12_ 4) <|
zz 56 (xnF hc13) <|
zz 62 (xnF hc14) <|
zz 69 (xnF hc15) <|
yy 73 (.call (C_treeBareq2 c9_0 c9_1 c9_1 (.inl c16_) [(0, 2, true)] [(8, 1, true)])) <|
ww (m_treeBareq2_ok n c9_0 c9_1 c9_1 (.inl c16_) hc16) <|
ww (rows_flat rwf_iiiiiiLu c9_0 37) <|
ww (rows_flat rwf_iiiiiiLu c16_ 37) <|
yy 75 (.call (C_treeBareq2 c10_0 c10_1 c10_1 (.inr ()) [(0, 4, true)] [])) <|
ww (m_treeBareq2_ok n c10_0 c10_1 c10_1 (.inr ()) hc17) <|
ww (rows_flat rwf_iiiiiiLu c10_0 37) <|
yy 76 (.call (C_tSq2 c16_ ((((c9_1 : Nat) : Int)).toNat) ((((c9_1 : Nat) : Int)).toNat) c18_ [(0, 8, true)] [])) <|
ww (m_tSq2_ok n c16_ ((((c9_1 : Nat) : Int)).toNat) ((((c9_1 : Nat) : Int)).toNat) c18_ hc18) <|
ww (rows_flat rwf_iiiiiiLu c16_ 37) <|
yy 77 (vf) <|
ww (p := (Value.bool (!c18_)) = (Value.bool false)) (vBn hc19) <|
ww (p := U_V_1 none g2 c9_0 c9_1 c10_0 c10_1 c12_ ((((c11_1 : Nat) : Int)).toNat) 0 ()) (m_V_1_ok n g2 c9_0 c9_1 c10_0 c10_1 c12_ ((((c11_1 : Nat) : Int)).toNat) 0 () hc20) <|
ww (rows_flat rwf_iiiiiiLu c9_0 37) <|
ww (rows_flat rwf_iiiiiiLu c10_0 37) <|
ww (rows_flat rwf_b c12_ 4) ee) (by kernel_rfl))
            ·rw [if_neg hc19] at h
             cases h
          ·rw [hc16] at h
           dsimp only at h
           rcases hc17 : m_treeBareq2 n c10_0 c10_1 c10_1 with _ | (c17_ | ⟨⟩)
           ·rw [hc17] at h; cases h
           ·rw [hc17] at h
            dsimp only at h
            obtain ⟨c18_, hc18, h⟩ := Option.bind_eq_some_iff.1 h
            by_cases hc19 : c18_ = true
            ·rw [if_pos hc19] at h
             obtain ⟨_, hc20, h⟩ := Option.bind_eq_some_iff.1 h
             obtain rfl := oI h; exact (runF2 hm (L := lT [(84, ⟨⟨[0, 2, 7, 8, 9, 10], [(0, 2, true), (1, 4, true), (2, 7, true)], 3, 0, [], false, []⟩, (X_V_1 g2 c9_0 c9_1 c10_0 c10_1 c12_ ((((c11_1 : Nat) : Int)).toNat) ()).1, (X_V_1 g2 c9_0 c9_1 c10_0 c10_1 c12_ ((((c11_1 : Nat) : Int)).toNat) ()).2⟩)]) ⟨[6], [], 0, 0, [], false, []⟩ (yy 5 (.call ⟨0, [], (Value.bool true), Ax.h0, []⟩) <|
ww (m_viewportlaw16lives_ok n  () hc1) <|
yy 12 (.call (C_liq1 g10 g11 g12 c2_ [] [])) <|
ww (m_liq1_ok n g10 g11 g12 c2_ hc2) <|
yy 13 (vf) <|
ww (p := (Value.bool (!c2_)) = (Value.bool false)) (vBn hc3) <|
yy 16 (.call (C_tCq1  c4_ [] [])) <|
ww (m_tCq1_ok n  c4_ hc4) <|
zz 17 (xnF hc5) <|
zz 22 (xdF hc6) <|
zz 27 (xdF hc7) <|
zz 32 (xdF hc8) <|
yy 38 (.call (C_treeEditq1 g10 g11 g12 0 (c9_0, c9_1) [] [(2, 1, true)])) <|
ww (m_treeEditq1_ok n g10 g11 g12 0 (c9_0, c9_1) hc9) <|
ww (rows_flat rwf_iiiiiiLu c9_0 37) <|
yy 42 (.call (C_treeEditq1 g10 g11 g12 g2 (c10_0, c10_1) [] [(4, 1, true)])) <|
ww (m_treeEditq1_ok n g10 g11 g12 g2 (c10_0, c10_1) hc10) <|
ww (rows_flat rwf_iiiiiiLu c10_0 37) <|
yy 47 (.call (C_treeBareq1  (.inl (c11_0, c11_1)) [] [(5, 0, true)])) <|
ww (m_treeBareq1_ok n  (.inl (c11_0, c11_1)) hc11) <|
ww (rows_flat rwf_iiiiiiLu c11_0 37) <|
yy 48 (.call (C_treeStaleq1 c11_0 c11_1 c11_1 c12_ [(0, 5, true)] [(5, 0, true), (7, 2, true)])) <|
ww (m_treeStaleq1_ok n c11_0 c11_1 c11_1 c12_ hc12) <|
ww (rows_flat rwf_iiiiiiLu c11_0 37) <|
ww (rows_flat rwf_iiiiiiLu c11_0 37) <|
ww (rows_flat rwf_b c12_ 4) <|
zz 56 (xnF hc13) <|
zz 62 (xnF hc14) <|
zz 69 (xnF hc15) <|
yy 73 (.call (C_treeBareq2 c9_0 c9_1 c9_1 (.inr ()) [(0, 2, true)] [])) <|
ww (m_treeBareq2_ok n c9_0 c9_1 c9_1 (.inr ()) hc16) <|
ww (rows_flat rwf_iiiiiiLu c9_0 37) <|
yy 75 (.call (C_treeBareq2 c10_0 c10_1 c10_1 (.inl c17_) [(0, 4, true)] [(8, 1, true)])) <|
ww (m_treeBareq2_ok n c10_0 c10_1 c10_1 (.inl c17_) hc17) <|
ww (rows_flat rwf_iiiiiiLu c10_0 37) <|
ww (rows_flat rwf_iiiiiiLu c17_ 37) <|
yy 76 (.call (C_tSq3 c17_ ((((c10_1 : Nat) : Int)).toNat) ((((c10_1 : Nat) : Int)).toNat) c18_ [(0, 8, true)] [])) <|
ww (m_tSq3_ok n c17_ ((((c10_1 : Nat) : Int)).toNat) ((((c10_1 : Nat) : Int)).toNat) c18_ hc18) <|
ww (rows_flat rwf_iiiiiiLu c17_ 37) <|
yy 77 (vf) <|
ww (p := (Value.bool (!c18_)) = (Value.bool false)) (vBn hc19) <|
ww (p := U_V_1 none g2 c9_0 c9_1 c10_0 c10_1 c12_ ((((c11_1 : Nat) : Int)).toNat) 0 ()) (m_V_1_ok n g2 c9_0 c9_1 c10_0 c10_1 c12_ ((((c11_1 : Nat) : Int)).toNat) 0 () hc20) <|
ww (rows_flat rwf_iiiiiiLu c9_0 37) <|
ww (rows_flat rwf_iiiiiiLu c10_0 37) <|
ww (rows_flat rwf_b c12_ 4) ee) (by kernel_rfl))
            ·rw [if_neg hc19] at h
             cases h
           ·rw [hc17] at h
            dsimp only at h
            obtain ⟨_, hc18, h⟩ := Option.bind_eq_some_iff.1 h
            obtain ⟨_, hc19, h⟩ := Option.bind_eq_some_iff.1 h
            obtain rfl := oI h; exact (runF2 hm (L := lT [(84, ⟨⟨[0, 2, 7, 8, 9, 10], [(0, 2, true), (1, 4, true), (2, 7, true)], 3, 0, [], false, []⟩, (X_V_1 g2 c9_0 c9_1 c10_0 c10_1 c12_ ((((c11_1 : Nat) : Int)).toNat) ()).1, (X_V_1 g2 c9_0 c9_1 c10_0 c10_1 c12_ ((((c11_1 : Nat) : Int)).toNat) ()).2⟩)]) ⟨[6], [], 0, 0, [], false, []⟩ (yy 5 (.call ⟨0, [], (Value.bool true), Ax.h0, []⟩) <|
ww (m_viewportlaw16lives_ok n  () hc1) <|
yy 12 (.call (C_liq1 g10 g11 g12 c2_ [] [])) <|
ww (m_liq1_ok n g10 g11 g12 c2_ hc2) <|
yy 13 (vf) <|
ww (p := (Value.bool (!c2_)) = (Value.bool false)) (vBn hc3) <|
yy 16 (.call (C_tCq1  c4_ [] [])) <|
ww (m_tCq1_ok n  c4_ hc4) <|
zz 17 (xnF hc5) <|
zz 22 (xdF hc6) <|
zz 27 (xdF hc7) <|
zz 32 (xdF hc8) <|
yy 38 (.call (C_treeEditq1 g10 g11 g12 0 (c9_0, c9_1) [] [(2, 1, true)])) <|
ww (m_treeEditq1_ok n g10 g11 g12 0 (c9_0, c9_1) hc9) <|
ww (rows_flat rwf_iiiiiiLu c9_0 37) <|
yy 42 (.call (C_treeEditq1 g10 g11 g12 g2 (c10_0, c10_1) [] [(4, 1, true)])) <|
ww (m_treeEditq1_ok n g10 g11 g12 g2 (c10_0, c10_1) hc10) <|
ww (rows_flat rwf_iiiiiiLu c10_0 37) <|
yy 47 (.call (C_treeBareq1  (.inl (c11_0, c11_1)) [] [(5, 0, true)])) <|
ww (m_treeBareq1_ok n  (.inl (c11_0, c11_1)) hc11) <|
ww (rows_flat rwf_iiiiiiLu c11_0 37) <|
yy 48 (.call (C_treeStaleq1 c11_0 c11_1 c11_1 c12_ [(0, 5, true)] [(5, 0, true), (7, 2, true)])) <|
ww (m_treeStaleq1_ok n c11_0 c11_1 c11_1 c12_ hc12) <|
ww (rows_flat rwf_iiiiiiLu c11_0 37) <|
ww (rows_flat rwf_iiiiiiLu c11_0 37) <|
ww (rows_flat rwf_b c12_ 4) <|
zz 56 (xnF hc13) <|
zz 62 (xnF hc14) <|
zz 69 (xnF hc15) <|
yy 73 (.call (C_treeBareq2 c9_0 c9_1 c9_1 (.inr ()) [(0, 2, true)] [])) <|
ww (m_treeBareq2_ok n c9_0 c9_1 c9_1 (.inr ()) hc16) <|
ww (rows_flat rwf_iiiiiiLu c9_0 37) <|
yy 75 (.call (C_treeBareq2 c10_0 c10_1 c10_1 (.inr ()) [(0, 4, true)] [])) <|
ww (m_treeBareq2_ok n c10_0 c10_1 c10_1 (.inr ()) hc17) <|
ww (rows_flat rwf_iiiiiiLu c10_0 37) <|
yy 76 (.call (C_tSq4  () [] [])) <|
ww (m_tSq4_ok n  () hc18) <|
ww (p := U_V_1 none g2 c9_0 c9_1 c10_0 c10_1 c12_ ((((c11_1 : Nat) : Int)).toNat) 0 ()) (m_V_1_ok n g2 c9_0 c9_1 c10_0 c10_1 c12_ ((((c11_1 : Nat) : Int)).toNat) 0 () hc19) <|
ww (rows_flat rwf_iiiiiiLu c9_0 37) <|
ww (rows_flat rwf_iiiiiiLu c10_0 37) <|
ww (rows_flat rwf_b c12_ 4) ee) (by kernel_rfl))
         ·rw [if_neg hc15] at h
          cases h
        ·rw [if_neg hc14] at h
         cases h
       ·rw [if_neg hc13] at h
        cases h
      ·rw [hc11] at h
       dsimp only at h
       cases h
  ·rw [if_neg hc5] at h
   obtain rfl := oI h; exact (runF2 hm (L := lT []) ⟨[6], [], 0, 0, [], false, []⟩ (yy 5 (.call ⟨0, [], (Value.bool true), Ax.h0, []⟩) <|
ww (m_viewportlaw16lives_ok n  () hc1) <|
yy 12 (.call (C_liq1 g10 g11 g12 c2_ [] [])) <|
ww (m_liq1_ok n g10 g11 g12 c2_ hc2) <|
yy 13 (vf) <|
ww (p := (Value.bool (!c2_)) = (Value.bool false)) (vBn hc3) <|
yy 16 (.call (C_tCq1  c4_ [] [])) <|
ww (m_tCq1_ok n  c4_ hc4) <|
zz 17 (xnT hc5) ee) (by kernel_rfl))
 ·rw [if_neg hc3] at h
  obtain rfl := oI h; exact (runF2 hm (L := lT []) ⟨[6], [], 0, 0, [], false, []⟩ (yy 5 (.call ⟨0, [], (Value.bool true), Ax.h0, []⟩) <|
ww (m_viewportlaw16lives_ok n  () hc1) <|
yy 12 (.call (C_liq1 g10 g11 g12 c2_ [] [])) <|
ww (m_liq1_ok n g10 g11 g12 c2_ hc2) <|
yy 13 (vt) <|
ww (p := (Value.bool (!c2_)) = (Value.bool true)) (vBn (Bool.eq_false_iff.2 hc3)) ee) (by kernel_rfl))

end Go.Proofs.Ytoebdapeikdmjaa.tcl16
