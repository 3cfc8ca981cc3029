/-
  What functions do, told by pure functions. No condition.
-/
import Derived.Test.YtiiionooieoniaaStlATold
set_option linter.unusedSimpArgs false
set_option linter.unusedVariables false
set_option linter.unusedSectionVars false
set_option linter.unnecessarySimpa false
set_option maxRecDepth 100000
namespace Go.Proofs.Ytiiionooieoniaa.stlw
open Go Go.Proofs.Ytiiionooieoniaa Ax
variable [Args]
noncomputable def A_treeCheckq1 : List Value := [(sW 1 0 (Args.B).length Args.cB)]
noncomputable def H_treeCheckq1 : AH := ⟨sB [], 0, 0⟩
noncomputable def V_treeCheckq1 (r : Int) : Value := match r with
 | o0 => (i6 o0)
noncomputable def R_treeCheckq1 (r : Int) : AH := match r with
 | o0 => ⟨sB [], 0, 0⟩
noncomputable abbrev G_treeCheckq1 (r : Int) : Prop := Gv P (.func 29) A_treeCheckq1 H_treeCheckq1 (V_treeCheckq1  r) (R_treeCheckq1  r)
noncomputable abbrev C_treeCheckq1 (r : Int) (ins outs : BL) : CallA := ⟨0, ins, V_treeCheckq1  r, R_treeCheckq1  r, outs⟩
noncomputable def S_treeCheckq1_1 (x1_0 : Int) (st : Int) : XSt := match st with
 | x1_1 => (sT 36 [(16, (sW 1 0 (Args.B).length Args.cB)), (17, (i6 x1_0)), (18, (i6 x1_1))], [], ⟨sB [], 0, 0⟩)
noncomputable def X_treeCheckq1_1 (x1_0 : Int) (r : (Unit) ⊕ (Unit)) : Ex × XSt := match r with
 | .inl _ => (.ret, (sT 36 [(2, (i6 (2 : Int)))], [], ⟨sB [], 0, 0⟩))
 | .inr _ => (.exit 0, (sT 36 [], [], ⟨sB [], 0, 0⟩))
noncomputable abbrev Q_treeCheckq1_1 (rnd : Option Nat) (x1_0 : Int) (st : Int) (c : Ex × XSt) : Prop := CG P rnd (fnN P 29) 0 (codeOf P 29 [false, false, true, false, true, true, true]) (S_treeCheckq1_1 x1_0 st) c
noncomputable abbrev U_treeCheckq1_1 (rd : Option Nat) (x1_0 : Int) (st : Int) (r : (Unit) ⊕ (Unit)) : Prop := CG P rd (fnN P 29) 0 (codeOf P 29 [false, true, false, true, true, true]) (S_treeCheckq1_1 x1_0 st) (X_treeCheckq1_1 x1_0 r)
def B_treeCheckq1_1 (n : Nat) (x1_0 : Int) (st : Int) : Option ((Int) ⊕ ((Unit) ⊕ (Unit))) := match st with
 | x1_1 =>
  if x1_1 < x1_0 then
   if 0 ≤ x1_1 ∧ x1_1 < (((Args.B).length : Nat) : Int) then
    ((some ((Args.B).getD (x1_1).toNat (0, 0, 0, 0, 0, 0, nl0, 0)))).bind fun y1_3_ =>
    (m_treesoundq1 n (y1_3_.1) (y1_3_.2.1) (y1_3_.2.2.1) (y1_3_.2.2.2.1) (y1_3_.2.2.2.2.1) (y1_3_.2.2.2.2.2.1) (y1_3_.2.2.2.2.2.2.1) (y1_3_.2.2.2.2.2.2.2)).bind fun y1_4_ =>
    if y1_4_ = true then
     if (y1_3_.2.1) = (1 : Int) then
      if x1_1 > (0 : Int) then
       some (.inr (.inl ()))
      else
       some (.inl (w64 (x1_1 + (1 : Int))))
     else
      some (.inl (w64 (x1_1 + (1 : Int))))
    else
     some (.inr (.inl ()))
   else none
  else
   some (.inr (.inr ()))
def m_treeCheckq1_1 (n : Nat) (x1_0 : Int) (st : Int) : Option ((Unit) ⊕ (Unit)) := iterM (B_treeCheckq1_1 n x1_0) n st
theorem q_treeCheckq1_1_0 (n : Nat) {rnd : Option Nat} (x1_0 x1_1 : Int) (hy1_1 : x1_1 < x1_0) (hy1_2 : 0 ≤ x1_1 ∧ x1_1 < (((Args.B).length : Nat) : Int)) (y1_3_ : Int × Int × Int × Int × Int × Int × NL × Int) (hy1_3 : (some ((Args.B).getD (x1_1).toNat (0, 0, 0, 0, 0, 0, nl0, 0))) = some y1_3_) (y1_4_ : Bool) (hy1_4 : m_treesoundq1 n (y1_3_.1) (y1_3_.2.1) (y1_3_.2.2.1) (y1_3_.2.2.2.1) (y1_3_.2.2.2.2.1) (y1_3_.2.2.2.2.2.1) (y1_3_.2.2.2.2.2.2.1) (y1_3_.2.2.2.2.2.2.2) = some y1_4_) (hy1_5 : y1_4_ = true) (hy1_6 : (y1_3_.2.1) = (1 : Int)) (hy1_7 : x1_1 > (0 : Int)) : Q_treeCheckq1_1 rnd x1_0 x1_1 (X_treeCheckq1_1 x1_0 (.inl ())) :=
 runC2 hm (L := lT []) ⟨[2], [], 0, 0⟩ (zz 1 (xdT hy1_1) <|
zz 8 (xk4 1 Args.cB hy1_2) <|
zz 9 (lk5 hy1_3 (toNatLt hy1_2)) <|
yy 15 (.call (C_treesoundq1 (y1_3_.1) (y1_3_.2.1) (y1_3_.2.2.1) (y1_3_.2.2.2.1) (y1_3_.2.2.2.2.1) (y1_3_.2.2.2.2.2.1) (y1_3_.2.2.2.2.2.2.1) (y1_3_.2.2.2.2.2.2.2) y1_4_ [] [])) <|
ww (m_treesoundq1_ok n (y1_3_.1) (y1_3_.2.1) (y1_3_.2.2.1) (y1_3_.2.2.2.1) (y1_3_.2.2.2.2.1) (y1_3_.2.2.2.2.2.1) (y1_3_.2.2.2.2.2.2.1) (y1_3_.2.2.2.2.2.2.2) y1_4_ hy1_4) <|
yy 16 (vf) <|
ww (p := (Value.bool (!y1_4_)) = (Value.bool false)) (vBn hy1_5) <|
zz 20 (xeT hy1_6) <|
zz 23 (xdT hy1_7) <|
ee) (by kernel_rfl)
theorem q_treeCheckq1_1_1 (n : Nat) {rnd : Option Nat} (x1_0 x1_1 : Int) (hy1_1 : x1_1 < x1_0) (hy1_2 : 0 ≤ x1_1 ∧ x1_1 < (((Args.B).length : Nat) : Int)) (y1_3_ : Int × Int × Int × Int × Int × Int × NL × Int) (hy1_3 : (some ((Args.B).getD (x1_1).toNat (0, 0, 0, 0, 0, 0, nl0, 0))) = some y1_3_) (y1_4_ : Bool) (hy1_4 : m_treesoundq1 n (y1_3_.1) (y1_3_.2.1) (y1_3_.2.2.1) (y1_3_.2.2.2.1) (y1_3_.2.2.2.2.1) (y1_3_.2.2.2.2.2.1) (y1_3_.2.2.2.2.2.2.1) (y1_3_.2.2.2.2.2.2.2) = some y1_4_) (hy1_5 : y1_4_ = true) (hy1_6 : (y1_3_.2.1) = (1 : Int)) (hy1_7 : ¬ (x1_1 > (0 : Int))) : Q_treeCheckq1_1 rnd x1_0 x1_1 (.normal, S_treeCheckq1_1 x1_0 (w64 (x1_1 + (1 : Int)))) :=
 runC2 hm (L := lT []) ⟨[16, 17, 18], [], 0, 0⟩ (zz 1 (xdT hy1_1) <|
zz 8 (xk4 1 Args.cB hy1_2) <|
zz 9 (lk5 hy1_3 (toNatLt hy1_2)) <|
yy 15 (.call (C_treesoundq1 (y1_3_.1) (y1_3_.2.1) (y1_3_.2.2.1) (y1_3_.2.2.2.1) (y1_3_.2.2.2.2.1) (y1_3_.2.2.2.2.2.1) (y1_3_.2.2.2.2.2.2.1) (y1_3_.2.2.2.2.2.2.2) y1_4_ [] [])) <|
ww (m_treesoundq1_ok n (y1_3_.1) (y1_3_.2.1) (y1_3_.2.2.1) (y1_3_.2.2.2.1) (y1_3_.2.2.2.2.1) (y1_3_.2.2.2.2.2.1) (y1_3_.2.2.2.2.2.2.1) (y1_3_.2.2.2.2.2.2.2) y1_4_ hy1_4) <|
yy 16 (vf) <|
ww (p := (Value.bool (!y1_4_)) = (Value.bool false)) (vBn hy1_5) <|
zz 20 (xeT hy1_6) <|
zz 23 (xdF hy1_7) <|
ee) (by kernel_rfl)
theorem q_treeCheckq1_1_2 (n : Nat) {rnd : Option Nat} (x1_0 x1_1 : Int) (hy1_1 : x1_1 < x1_0) (hy1_2 : 0 ≤ x1_1 ∧ x1_1 < (((Args.B).length : Nat) : Int)) (y1_3_ : Int × Int × Int × Int × Int × Int × NL × Int) (hy1_3 : (some ((Args.B).getD (x1_1).toNat (0, 0, 0, 0, 0, 0, nl0, 0))) = some y1_3_) (y1_4_ : Bool) (hy1_4 : m_treesoundq1 n (y1_3_.1) (y1_3_.2.1) (y1_3_.2.2.1) (y1_3_.2.2.2.1) (y1_3_.2.2.2.2.1) (y1_3_.2.2.2.2.2.1) (y1_3_.2.2.2.2.2.2.1) (y1_3_.2.2.2.2.2.2.2) = some y1_4_) (hy1_5 : y1_4_ = true) (hy1_6 : ¬ ((y1_3_.2.1) = (1 : Int))) : Q_treeCheckq1_1 rnd x1_0 x1_1 (.normal, S_treeCheckq1_1 x1_0 (w64 (x1_1 + (1 : Int)))) :=
 runC2 hm (L := lT []) ⟨[16, 17, 18], [], 0, 0⟩ (zz 1 (xdT hy1_1) <|
zz 8 (xk4 1 Args.cB hy1_2) <|
zz 9 (lk5 hy1_3 (toNatLt hy1_2)) <|
yy 15 (.call (C_treesoundq1 (y1_3_.1) (y1_3_.2.1) (y1_3_.2.2.1) (y1_3_.2.2.2.1) (y1_3_.2.2.2.2.1) (y1_3_.2.2.2.2.2.1) (y1_3_.2.2.2.2.2.2.1) (y1_3_.2.2.2.2.2.2.2) y1_4_ [] [])) <|
ww (m_treesoundq1_ok n (y1_3_.1) (y1_3_.2.1) (y1_3_.2.2.1) (y1_3_.2.2.2.1) (y1_3_.2.2.2.2.1) (y1_3_.2.2.2.2.2.1) (y1_3_.2.2.2.2.2.2.1) (y1_3_.2.2.2.2.2.2.2) y1_4_ hy1_4) <|
yy 16 (vf) <|
ww (p := (Value.bool (!y1_4_)) = (Value.bool false)) (vBn hy1_5) <|
zz 20 (xeF hy1_6) <|
ee) (by kernel_rfl)
theorem q_treeCheckq1_1_3 (n : Nat) {rnd : Option Nat} (x1_0 x1_1 : Int) (hy1_1 : x1_1 < x1_0) (hy1_2 : 0 ≤ x1_1 ∧ x1_1 < (((Args.B).length : Nat) : Int)) (y1_3_ : Int × Int × Int × Int × Int × Int × NL × Int) (hy1_3 : (some ((Args.B).getD (x1_1).toNat (0, 0, 0, 0, 0, 0, nl0, 0))) = some y1_3_) (y1_4_ : Bool) (hy1_4 : m_treesoundq1 n (y1_3_.1) (y1_3_.2.1) (y1_3_.2.2.1) (y1_3_.2.2.2.1) (y1_3_.2.2.2.2.1) (y1_3_.2.2.2.2.2.1) (y1_3_.2.2.2.2.2.2.1) (y1_3_.2.2.2.2.2.2.2) = some y1_4_) (hy1_5 : ¬ (y1_4_ = true)) : Q_treeCheckq1_1 rnd x1_0 x1_1 (X_treeCheckq1_1 x1_0 (.inl ())) :=
 runC2 hm (L := lT []) ⟨[2], [], 0, 0⟩ (zz 1 (xdT hy1_1) <|
zz 8 (xk4 1 Args.cB hy1_2) <|
zz 9 (lk5 hy1_3 (toNatLt hy1_2)) <|
yy 15 (.call (C_treesoundq1 (y1_3_.1) (y1_3_.2.1) (y1_3_.2.2.1) (y1_3_.2.2.2.1) (y1_3_.2.2.2.2.1) (y1_3_.2.2.2.2.2.1) (y1_3_.2.2.2.2.2.2.1) (y1_3_.2.2.2.2.2.2.2) y1_4_ [] [])) <|
ww (m_treesoundq1_ok n (y1_3_.1) (y1_3_.2.1) (y1_3_.2.2.1) (y1_3_.2.2.2.1) (y1_3_.2.2.2.2.1) (y1_3_.2.2.2.2.2.1) (y1_3_.2.2.2.2.2.2.1) (y1_3_.2.2.2.2.2.2.2) y1_4_ hy1_4) <|
yy 16 (vt) <|
ww (p := (Value.bool (!y1_4_)) = (Value.bool true)) (vBn (Bool.eq_false_iff.2 hy1_5)) <|
ee) (by kernel_rfl)
theorem q_treeCheckq1_1_4 (n : Nat) {rnd : Option Nat} (x1_0 x1_1 : Int) (hy1_1 : ¬ (x1_1 < x1_0)) : Q_treeCheckq1_1 rnd x1_0 x1_1 (X_treeCheckq1_1 x1_0 (.inr ())) :=
 runC2 hm (L := lT []) ⟨[], [], 0, 0⟩ (zz 1 (xdF hy1_1) <|
ee) (by kernel_rfl)
theorem m_treeCheckq1_1_ok (n : Nat) {rnd : Option Nat} (x1_0 : Int) (st : Int) (r : (Unit) ⊕ (Unit)) (h : m_treeCheckq1_1 n x1_0 st = some r) : CG P rnd (fnN P 29) 0 (codeOf P 29 [false, true, false, true, true, true]) (S_treeCheckq1_1 x1_0 st) (X_treeCheckq1_1 x1_0 r) :=
 CG.iter (b := codeOf P 29 [false, false, true, false, true, true, true]) (by kernel_rfl) (body := B_treeCheckq1_1 n x1_0) (S := S_treeCheckq1_1 x1_0) (X := X_treeCheckq1_1 x1_0)
  (fun x1_1 s' h => by
  unfold B_treeCheckq1_1 at h
  dsimp only at h
  by_cases hy1_1 : x1_1 < x1_0
  ·rw [if_pos hy1_1] at h
   by_cases hy1_2 : 0 ≤ x1_1 ∧ x1_1 < (((Args.B).length : Nat) : Int)
   ·rw [if_pos hy1_2] at h
    obtain ⟨y1_3_, hy1_3, h⟩ := Option.bind_eq_some_iff.1 h
    obtain ⟨y1_4_, hy1_4, h⟩ := Option.bind_eq_some_iff.1 h
    by_cases hy1_5 : y1_4_ = true
    ·rw [if_pos hy1_5] at h
     by_cases hy1_6 : (y1_3_.2.1) = (1 : Int)
     ·rw [if_pos hy1_6] at h
      by_cases hy1_7 : x1_1 > (0 : Int)
      ·rw [if_pos hy1_7] at h
       cases h
      ·rw [if_neg hy1_7] at h
       obtain rfl := Sum.inl.inj (Option.some.inj h); exact q_treeCheckq1_1_1 n x1_0 x1_1 hy1_1 hy1_2 y1_3_ hy1_3 y1_4_ hy1_4 hy1_5 hy1_6 hy1_7
     ·rw [if_neg hy1_6] at h
      obtain rfl := Sum.inl.inj (Option.some.inj h); exact q_treeCheckq1_1_2 n x1_0 x1_1 hy1_1 hy1_2 y1_3_ hy1_3 y1_4_ hy1_4 hy1_5 hy1_6
    ·rw [if_neg hy1_5] at h
     cases h
   ·rw [if_neg hy1_2] at h; cases h
  ·rw [if_neg hy1_1] at h
   cases h)
  (fun x1_1 r h => by
  unfold B_treeCheckq1_1 at h
  dsimp only at h
  by_cases hy1_1 : x1_1 < x1_0
  ·rw [if_pos hy1_1] at h
   by_cases hy1_2 : 0 ≤ x1_1 ∧ x1_1 < (((Args.B).length : Nat) : Int)
   ·rw [if_pos hy1_2] at h
    obtain ⟨y1_3_, hy1_3, h⟩ := Option.bind_eq_some_iff.1 h
    obtain ⟨y1_4_, hy1_4, h⟩ := Option.bind_eq_some_iff.1 h
    by_cases hy1_5 : y1_4_ = true
    ·rw [if_pos hy1_5] at h
     by_cases hy1_6 : (y1_3_.2.1) = (1 : Int)
     ·rw [if_pos hy1_6] at h
      by_cases hy1_7 : x1_1 > (0 : Int)
      ·rw [if_pos hy1_7] at h
       obtain rfl := Sum.inr.inj (Option.some.inj h); exact q_treeCheckq1_1_0 n x1_0 x1_1 hy1_1 hy1_2 y1_3_ hy1_3 y1_4_ hy1_4 hy1_5 hy1_6 hy1_7
      ·rw [if_neg hy1_7] at h
       cases h
     ·rw [if_neg hy1_6] at h
      cases h
    ·rw [if_neg hy1_5] at h
     obtain rfl := Sum.inr.inj (Option.some.inj h); exact q_treeCheckq1_1_3 n x1_0 x1_1 hy1_1 hy1_2 y1_3_ hy1_3 y1_4_ hy1_4 hy1_5
   ·rw [if_neg hy1_2] at h; cases h
  ·rw [if_neg hy1_1] at h
   obtain rfl := Sum.inr.inj (Option.some.inj h); exact q_treeCheckq1_1_4 n x1_0 x1_1 hy1_1)
  (fun r => by intro hx; rcases r with _ | _ <;> cases hx) h
def m_treeCheckq1 (n : Nat) : Option (Int) :=
 if (((Args.B).length : Nat) : Int) > (524288 : Int) then
  some 3
 else
  if (((Args.B).length : Nat) : Int) = (0 : Int) then
   some 2
  else
   (m_treeinOrderq1 n).bind fun c3_ =>
   if c3_ = true then
    match m_treeCheckq1_1 n (((Args.B).length : Nat) : Int) 0 with
    | none => none
    | some (.inl _) =>
     some 2
    | some (.inr _) =>
     some 0
   else
    some 2
theorem p_treeCheckq1_0 (n : Nat) (hc1 : (((Args.B).length : Nat) : Int) > (524288 : Int)) : G_treeCheckq1  3 :=
 runF2 hm (L := lT []) ⟨[2], [], 0, 0⟩ (zz 6 (xdT hc1) <|
ee) (by kernel_rfl)
theorem p_treeCheckq1_1 (n : Nat) (hc1 : ¬ ((((Args.B).length : Nat) : Int) > (524288 : Int))) (hc2 : (((Args.B).length : Nat) : Int) = (0 : Int)) : G_treeCheckq1  2 :=
 runF2 hm (L := lT []) ⟨[2], [], 0, 0⟩ (zz 6 (xdF hc1) <|
zz 12 (xeT hc2) <|
ee) (by kernel_rfl)
theorem p_treeCheckq1_2 (n : Nat) (hc1 : ¬ ((((Args.B).length : Nat) : Int) > (524288 : Int))) (hc2 : ¬ ((((Args.B).length : Nat) : Int) = (0 : Int))) (c3_ : Bool) (hc3 : m_treeinOrderq1 n = some c3_) (hc4 : c3_ = true) (hc5 : m_treeCheckq1_1 n (((Args.B).length : Nat) : Int) 0 = some (.inl ())) : G_treeCheckq1  2 :=
 runF2 hm (L := lT [(25, ⟨⟨[16, 17, 18], [], 0, 0⟩, (X_treeCheckq1_1 (((Args.B).length : Nat) : Int) (.inl ())).1, (X_treeCheckq1_1 (((Args.B).length : Nat) : Int) (.inl ())).2⟩)]) ⟨[2], [], 0, 0⟩ (zz 6 (xdF hc1) <|
zz 12 (xeF hc2) <|
yy 15 (.call (C_treeinOrderq1  c3_ [] [])) <|
ww (m_treeinOrderq1_ok n  c3_ hc3) <|
yy 16 (vf) <|
ww (p := (Value.bool (!c3_)) = (Value.bool false)) (vBn hc4) <|
ww (p := U_treeCheckq1_1 none (((Args.B).length : Nat) : Int) 0 (.inl ())) (m_treeCheckq1_1_ok n (((Args.B).length : Nat) : Int) 0 (.inl ()) hc5) <|
ee) (by kernel_rfl)
theorem p_treeCheckq1_3 (n : Nat) (hc1 : ¬ ((((Args.B).length : Nat) : Int) > (524288 : Int))) (hc2 : ¬ ((((Args.B).length : Nat) : Int) = (0 : Int))) (c3_ : Bool) (hc3 : m_treeinOrderq1 n = some c3_) (hc4 : c3_ = true) (hc5 : m_treeCheckq1_1 n (((Args.B).length : Nat) : Int) 0 = some (.inr ())) : G_treeCheckq1  0 :=
 runF2 hm (L := lT [(25, ⟨⟨[16, 17, 18], [], 0, 0⟩, (X_treeCheckq1_1 (((Args.B).length : Nat) : Int) (.inr ())).1, (X_treeCheckq1_1 (((Args.B).length : Nat) : Int) (.inr ())).2⟩)]) ⟨[2], [], 0, 0⟩ (zz 6 (xdF hc1) <|
zz 12 (xeF hc2) <|
yy 15 (.call (C_treeinOrderq1  c3_ [] [])) <|
ww (m_treeinOrderq1_ok n  c3_ hc3) <|
yy 16 (vf) <|
ww (p := (Value.bool (!c3_)) = (Value.bool false)) (vBn hc4) <|
ww (p := U_treeCheckq1_1 none (((Args.B).length : Nat) : Int) 0 (.inr ())) (m_treeCheckq1_1_ok n (((Args.B).length : Nat) : Int) 0 (.inr ()) hc5) <|
ee) (by kernel_rfl)
theorem p_treeCheckq1_4 (n : Nat) (hc1 : ¬ ((((Args.B).length : Nat) : Int) > (524288 : Int))) (hc2 : ¬ ((((Args.B).length : Nat) : Int) = (0 : Int))) (c3_ : Bool) (hc3 : m_treeinOrderq1 n = some c3_) (hc4 : ¬ (c3_ = true)) : G_treeCheckq1  2 :=
 runF2 hm (L := lT []) ⟨[2], [], 0, 0⟩ (zz 6 (xdF hc1) <|
zz 12 (xeF hc2) <|
yy 15 (.call (C_treeinOrderq1  c3_ [] [])) <|
ww (m_treeinOrderq1_ok n  c3_ hc3) <|
yy 16 (vt) <|
ww (p := (Value.bool (!c3_)) = (Value.bool true)) (vBn (Bool.eq_false_iff.2 hc4)) <|
ee) (by kernel_rfl)
theorem m_treeCheckq1_ok (n : Nat) (r : Int) (h : m_treeCheckq1 n = some r) : Gv P (.func 29) A_treeCheckq1 H_treeCheckq1 (V_treeCheckq1  r) (R_treeCheckq1  r) := by
 unfold m_treeCheckq1 at h
 by_cases hc1 : (((Args.B).length : Nat) : Int) > (524288 : Int)
 ·rw [if_pos hc1] at h
  obtain rfl := Option.some.inj h; exact p_treeCheckq1_0 n hc1
 ·rw [if_neg hc1] at h
  by_cases hc2 : (((Args.B).length : Nat) : Int) = (0 : Int)
  ·rw [if_pos hc2] at h
   obtain rfl := Option.some.inj h; exact p_treeCheckq1_1 n hc1 hc2
  ·rw [if_neg hc2] at h
   obtain ⟨c3_, hc3, h⟩ := Option.bind_eq_some_iff.1 h
   by_cases hc4 : c3_ = true
   ·rw [if_pos hc4] at h
    rcases hc5 : m_treeCheckq1_1 n (((Args.B).length : Nat) : Int) 0 with _ | (⟨⟩ | ⟨⟩)
    ·rw [hc5] at h; cases h
    ·rw [hc5] at h
     dsimp only at h
     obtain rfl := Option.some.inj h; exact p_treeCheckq1_2 n hc1 hc2 c3_ hc3 hc4 hc5
    ·rw [hc5] at h
     dsimp only at h
     obtain rfl := Option.some.inj h; exact p_treeCheckq1_3 n hc1 hc2 c3_ hc3 hc4 hc5
   ·rw [if_neg hc4] at h
    obtain rfl := Option.some.inj h; exact p_treeCheckq1_4 n hc1 hc2 c3_ hc3 hc4

noncomputable def A_treehasq1 (a0 : Int) : List Value := [(sW 1 0 (Args.B).length Args.cB), (i6 a0)]
noncomputable def H_treehasq1 (a0 : Int) : AH := ⟨sB [], 0, 0⟩
noncomputable def V_treehasq1 (a0 : Int) (r : Bool) : Value := match r with
 | o0 => (bO o0)
noncomputable def R_treehasq1 (a0 : Int) (r : Bool) : AH := match r with
 | o0 => ⟨sB [], 0, 0⟩
noncomputable abbrev G_treehasq1 (a0 : Int) (r : Bool) : Prop := Gv P (.func 25) (A_treehasq1 a0) (H_treehasq1 a0) (V_treehasq1 a0 r) (R_treehasq1 a0 r)
noncomputable abbrev C_treehasq1 (a0 : Int) (r : Bool) (ins outs : BL) : CallA := ⟨0, ins, V_treehasq1 a0 r, R_treehasq1 a0 r, outs⟩
def m_treehasq1 (n : Nat) (a0 : Int) : Option (Bool) :=
 if a0 ≥ (0 : Int) then
  if a0 < (((Args.B).length : Nat) : Int) then
   (m_treeCheckq1 n).bind fun c3_ =>
   if c3_ = (0 : Int) then
    some true
   else
    some false
  else
   some false
 else
  some false
theorem p_treehasq1_0 (n : Nat) (a0 : Int) (hc1 : a0 ≥ (0 : Int)) (hc2 : a0 < (((Args.B).length : Nat) : Int)) (c3_ : Int) (hc3 : m_treeCheckq1 n = some c3_) (hc4 : c3_ = (0 : Int)) : G_treehasq1 a0 true :=
 runF2 hm (L := lT []) ⟨[4], [], 0, 0⟩ (zz 4 (xdT hc1) <|
zz 9 (xdT hc2) <|
yy 13 (.call (C_treeCheckq1  c3_ [] [])) <|
ww (m_treeCheckq1_ok n  c3_ hc3) <|
zz 14 (xeT hc4) <|
ee) (by kernel_rfl)
theorem p_treehasq1_1 (n : Nat) (a0 : Int) (hc1 : a0 ≥ (0 : Int)) (hc2 : a0 < (((Args.B).length : Nat) : Int)) (c3_ : Int) (hc3 : m_treeCheckq1 n = some c3_) (hc4 : ¬ (c3_ = (0 : Int))) : G_treehasq1 a0 false :=
 runF2 hm (L := lT []) ⟨[4], [], 0, 0⟩ (zz 4 (xdT hc1) <|
zz 9 (xdT hc2) <|
yy 13 (.call (C_treeCheckq1  c3_ [] [])) <|
ww (m_treeCheckq1_ok n  c3_ hc3) <|
zz 14 (xeF hc4) <|
ee) (by kernel_rfl)
theorem p_treehasq1_2 (n : Nat) (a0 : Int) (hc1 : a0 ≥ (0 : Int)) (hc2 : ¬ (a0 < (((Args.B).length : Nat) : Int))) : G_treehasq1 a0 false :=
 runF2 hm (L := lT []) ⟨[4], [], 0, 0⟩ (zz 4 (xdT hc1) <|
zz 9 (xdF hc2) <|
ee) (by kernel_rfl)
theorem p_treehasq1_3 (n : Nat) (a0 : Int) (hc1 : ¬ (a0 ≥ (0 : Int))) : G_treehasq1 a0 false :=
 runF2 hm (L := lT []) ⟨[4], [], 0, 0⟩ (zz 4 (xdF hc1) <|
ee) (by kernel_rfl)
theorem m_treehasq1_ok (n : Nat) (a0 : Int) (r : Bool) (h : m_treehasq1 n a0 = some r) : Gv P (.func 25) (A_treehasq1 a0) (H_treehasq1 a0) (V_treehasq1 a0 r) (R_treehasq1 a0 r) := by
 unfold m_treehasq1 at h
 by_cases hc1 : a0 ≥ (0 : Int)
 ·rw [if_pos hc1] at h
  by_cases hc2 : a0 < (((Args.B).length : Nat) : Int)
  ·rw [if_pos hc2] at h
   obtain ⟨c3_, hc3, h⟩ := Option.bind_eq_some_iff.1 h
   by_cases hc4 : c3_ = (0 : Int)
   ·rw [if_pos hc4] at h
    obtain rfl := Option.some.inj h; exact p_treehasq1_0 n a0 hc1 hc2 c3_ hc3 hc4
   ·rw [if_neg hc4] at h
    obtain rfl := Option.some.inj h; exact p_treehasq1_1 n a0 hc1 hc2 c3_ hc3 hc4
  ·rw [if_neg hc2] at h
   obtain rfl := Option.some.inj h; exact p_treehasq1_2 n a0 hc1 hc2
 ·rw [if_neg hc1] at h
  obtain rfl := Option.some.inj h; exact p_treehasq1_3 n a0 hc1

noncomputable def A_cmpisNaNintq1 (a0 : Int) : List Value := [(i6 a0)]
noncomputable def H_cmpisNaNintq1 (a0 : Int) : AH := ⟨sB [], 0, 0⟩
noncomputable def V_cmpisNaNintq1 (a0 : Int) (r : Unit) : Value := match r with
 | _ => (bO false)
noncomputable def R_cmpisNaNintq1 (a0 : Int) (r : Unit) : AH := match r with
 | _ => ⟨sB [], 0, 0⟩
noncomputable abbrev G_cmpisNaNintq1 (a0 : Int) (r : Unit) : Prop := Gv P (.func 35) (A_cmpisNaNintq1 a0) (H_cmpisNaNintq1 a0) (V_cmpisNaNintq1 a0 r) (R_cmpisNaNintq1 a0 r)
noncomputable abbrev C_cmpisNaNintq1 (a0 : Int) (r : Unit) (ins outs : BL) : CallA := ⟨0, ins, V_cmpisNaNintq1 a0 r, R_cmpisNaNintq1 a0 r, outs⟩
def m_cmpisNaNintq1 (n : Nat) (a0 : Int) : Option (Unit) :=
 some ()
theorem p_cmpisNaNintq1_0 (n : Nat) (a0 : Int) : G_cmpisNaNintq1 a0 () :=
 runF2 hm (L := lT []) ⟨[2], [], 0, 0⟩ (zz 5 (xnF (a := a0) rfl) <|
ee) (by kernel_rfl)
theorem m_cmpisNaNintq1_ok (n : Nat) (a0 : Int) (r : Unit) (h : m_cmpisNaNintq1 n a0 = some r) : Gv P (.func 35) (A_cmpisNaNintq1 a0) (H_cmpisNaNintq1 a0) (V_cmpisNaNintq1 a0 r) (R_cmpisNaNintq1 a0 r) := by
 unfold m_cmpisNaNintq1 at h
 obtain rfl := Option.some.inj h; exact p_cmpisNaNintq1_0 n a0

noncomputable def A_cmpLessintq1 (a0 : Int) (a1 : Int) : List Value := [(i6 a0), (i6 a1)]
noncomputable def H_cmpLessintq1 (a0 : Int) (a1 : Int) : AH := ⟨sB [], 0, 0⟩
noncomputable def V_cmpLessintq1 (a0 : Int) (a1 : Int) (r : Bool) : Value := match r with
 | o0 => (bO o0)
noncomputable def R_cmpLessintq1 (a0 : Int) (a1 : Int) (r : Bool) : AH := match r with
 | o0 => ⟨sB [], 0, 0⟩
noncomputable abbrev G_cmpLessintq1 (a0 : Int) (a1 : Int) (r : Bool) : Prop := Gv P (.func 30) (A_cmpLessintq1 a0 a1) (H_cmpLessintq1 a0 a1) (V_cmpLessintq1 a0 a1 r) (R_cmpLessintq1 a0 a1 r)
noncomputable abbrev C_cmpLessintq1 (a0 : Int) (a1 : Int) (r : Bool) (ins outs : BL) : CallA := ⟨0, ins, V_cmpLessintq1 a0 a1 r, R_cmpLessintq1 a0 a1 r, outs⟩
def m_cmpLessintq1 (n : Nat) (a0 : Int) (a1 : Int) : Option (Bool) :=
 (m_cmpisNaNintq1 n a0).bind fun _ =>
 if a0 < a1 then
  some true
 else
  some false
theorem p_cmpLessintq1_0 (n : Nat) (a0 a1 : Int) (hc1 : m_cmpisNaNintq1 n a0 = some ()) (hc2 : a0 < a1) : G_cmpLessintq1 a0 a1 true :=
 runF2 hm (L := lT []) ⟨[4], [], 0, 0⟩ (yy 4 (.call (C_cmpisNaNintq1 a0 () [] [])) <|
ww (m_cmpisNaNintq1_ok n a0 () hc1) <|
zz 13 (xdT hc2) <|
ee) (by kernel_rfl)
theorem p_cmpLessintq1_1 (n : Nat) (a0 a1 : Int) (hc1 : m_cmpisNaNintq1 n a0 = some ()) (hc2 : ¬ (a0 < a1)) : G_cmpLessintq1 a0 a1 false :=
 runF2 hm (L := lT []) ⟨[4], [], 0, 0⟩ (yy 4 (.call (C_cmpisNaNintq1 a0 () [] [])) <|
ww (m_cmpisNaNintq1_ok n a0 () hc1) <|
zz 13 (xdF hc2) <|
ee) (by kernel_rfl)
theorem m_cmpLessintq1_ok (n : Nat) (a0 : Int) (a1 : Int) (r : Bool) (h : m_cmpLessintq1 n a0 a1 = some r) : Gv P (.func 30) (A_cmpLessintq1 a0 a1) (H_cmpLessintq1 a0 a1) (V_cmpLessintq1 a0 a1 r) (R_cmpLessintq1 a0 a1 r) := by
 unfold m_cmpLessintq1 at h
 obtain ⟨_, hc1, h⟩ := Option.bind_eq_some_iff.1 h
 by_cases hc2 : a0 < a1
 ·rw [if_pos hc2] at h
  obtain rfl := Option.some.inj h; exact p_cmpLessintq1_0 n a0 a1 hc1 hc2
 ·rw [if_neg hc2] at h
  obtain rfl := Option.some.inj h; exact p_cmpLessintq1_1 n a0 a1 hc1 hc2

noncomputable def A_slicesisNaNintq1 (a0 : Int) : List Value := [(i6 a0)]
noncomputable def H_slicesisNaNintq1 (a0 : Int) : AH := ⟨sB [], 0, 0⟩
noncomputable def V_slicesisNaNintq1 (a0 : Int) (r : Unit) : Value := match r with
 | _ => (bO false)
noncomputable def R_slicesisNaNintq1 (a0 : Int) (r : Unit) : AH := match r with
 | _ => ⟨sB [], 0, 0⟩
noncomputable abbrev G_slicesisNaNintq1 (a0 : Int) (r : Unit) : Prop := Gv P (.func 31) (A_slicesisNaNintq1 a0) (H_slicesisNaNintq1 a0) (V_slicesisNaNintq1 a0 r) (R_slicesisNaNintq1 a0 r)
noncomputable abbrev C_slicesisNaNintq1 (a0 : Int) (r : Unit) (ins outs : BL) : CallA := ⟨0, ins, V_slicesisNaNintq1 a0 r, R_slicesisNaNintq1 a0 r, outs⟩
def m_slicesisNaNintq1 (n : Nat) (a0 : Int) : Option (Unit) :=
 some ()
theorem p_slicesisNaNintq1_0 (n : Nat) (a0 : Int) : G_slicesisNaNintq1 a0 () :=
 runF2 hm (L := lT []) ⟨[2], [], 0, 0⟩ (zz 5 (xnF (a := a0) rfl) <|
ee) (by kernel_rfl)
theorem m_slicesisNaNintq1_ok (n : Nat) (a0 : Int) (r : Unit) (h : m_slicesisNaNintq1 n a0 = some r) : Gv P (.func 31) (A_slicesisNaNintq1 a0) (H_slicesisNaNintq1 a0) (V_slicesisNaNintq1 a0 r) (R_slicesisNaNintq1 a0 r) := by
 unfold m_slicesisNaNintq1 at h
 obtain rfl := Option.some.inj h; exact p_slicesisNaNintq1_0 n a0

noncomputable def A_slicesBinarySearchintintq1 (a0 : NL) (a1 : Int) : List Value := [(nlV a0), (i6 a1)]
noncomputable def H_slicesBinarySearchintintq1 (a0 : NL) (a1 : Int) : AH := ⟨sB [], 0, 0⟩
noncomputable def V_slicesBinarySearchintintq1 (a0 : NL) (a1 : Int) (r : Int × Bool) : Value := match r with
 | (o0, o1) => (Value.tuple #[(i6 o0), (bO o1)])
noncomputable def R_slicesBinarySearchintintq1 (a0 : NL) (a1 : Int) (r : Int × Bool) : AH := match r with
 | (o0, o1) => ⟨sB [], 0, 0⟩
noncomputable abbrev G_slicesBinarySearchintintq1 (a0 : NL) (a1 : Int) (r : Int × Bool) : Prop := Gv P (.func 26) (A_slicesBinarySearchintintq1 a0 a1) (H_slicesBinarySearchintintq1 a0 a1) (V_slicesBinarySearchintintq1 a0 a1 r) (R_slicesBinarySearchintintq1 a0 a1 r)
noncomputable abbrev C_slicesBinarySearchintintq1 (a0 : NL) (a1 : Int) (r : Int × Bool) (ins outs : BL) : CallA := ⟨0, ins, V_slicesBinarySearchintintq1 a0 a1 r, R_slicesBinarySearchintintq1 a0 a1 r, outs⟩
noncomputable def S_slicesBinarySearchintintq1_1 (x1_0 : NL) (x1_1 : Int) (x1_2 : Int) (st : Int × Int) : XSt := match st with
 | (x1_3, x1_4) => (sT 54 [(0, (nlV x1_0)), (1, (i6 x1_1)), (6, (i6 x1_2)), (7, (i6 x1_3)), (8, (i6 x1_4))], [], ⟨sB [], 0, 0⟩)
noncomputable def X_slicesBinarySearchintintq1_1 (x1_0 : NL) (x1_1 : Int) (x1_2 : Int) (r : Int) : Ex × XSt := match r with
 | z1_0 => (.exit 0, (sT 54 [(0, (nlV x1_0)), (1, (i6 x1_1)), (6, (i6 x1_2)), (7, (i6 z1_0))], [], ⟨sB [], 0, 0⟩))
noncomputable abbrev Q_slicesBinarySearchintintq1_1 (rnd : Option Nat) (x1_0 : NL) (x1_1 : Int) (x1_2 : Int) (st : Int × Int) (c : Ex × XSt) : Prop := CG P rnd (fnN P 26) 0 (codeOf P 26 [false, false, false, true, true, true]) (S_slicesBinarySearchintintq1_1 x1_0 x1_1 x1_2 st) c
noncomputable abbrev U_slicesBinarySearchintintq1_1 (rd : Option Nat) (x1_0 : NL) (x1_1 : Int) (x1_2 : Int) (st : Int × Int) (r : Int) : Prop := CG P rd (fnN P 26) 0 (codeOf P 26 [false, false, true, true, true]) (S_slicesBinarySearchintintq1_1 x1_0 x1_1 x1_2 st) (X_slicesBinarySearchintintq1_1 x1_0 x1_1 x1_2 r)
def B_slicesBinarySearchintintq1_1 (n : Nat) (x1_0 : NL) (x1_1 : Int) (x1_2 : Int) (st : Int × Int) : Option ((Int × Int) ⊕ (Int)) := match st with
 | (x1_3, x1_4) =>
  if x1_3 < x1_4 then
   if 0 ≤ (IntKind.i64.wrap (Int.fdiv (IntKind.u64.wrap (w64 (x1_3 + x1_4))) 2)) ∧ (IntKind.i64.wrap (Int.fdiv (IntKind.u64.wrap (w64 (x1_3 + x1_4))) 2)) < (((x1_0).l.length : Nat) : Int) then
    if ((IntKind.i64.wrap (Int.fdiv (IntKind.u64.wrap (w64 (x1_3 + x1_4))) 2))).toNat < ((x1_0).l).length then
     ((some (((x1_0).l).getD ((IntKind.i64.wrap (Int.fdiv (IntKind.u64.wrap (w64 (x1_3 + x1_4))) 2))).toNat 0))).bind fun y1_4_ =>
     (m_cmpLessintq1 n y1_4_ x1_1).bind fun y1_5_ =>
     if y1_5_ = true then
      ((some (w64 ((IntKind.i64.wrap (Int.fdiv (IntKind.u64.wrap (w64 (x1_3 + x1_4))) 2)) + (1 : Int))))).bind fun y1_7_ =>
      some (.inl (y1_7_, x1_4))
     else
      some (.inl (x1_3, (IntKind.i64.wrap (Int.fdiv (IntKind.u64.wrap (w64 (x1_3 + x1_4))) 2))))
    else none
   else none
  else
   some (.inr x1_3)
def m_slicesBinarySearchintintq1_1 (n : Nat) (x1_0 : NL) (x1_1 : Int) (x1_2 : Int) (st : Int × Int) : Option (Int) := iterM (B_slicesBinarySearchintintq1_1 n x1_0 x1_1 x1_2) n st
theorem q_slicesBinarySearchintintq1_1_0 (n : Nat) {rnd : Option Nat} (x1_0 : NL) (x1_1 x1_2 x1_3 x1_4 : Int) (hy1_1 : x1_3 < x1_4) (hy1_2 : 0 ≤ (IntKind.i64.wrap (Int.fdiv (IntKind.u64.wrap (w64 (x1_3 + x1_4))) 2)) ∧ (IntKind.i64.wrap (Int.fdiv (IntKind.u64.wrap (w64 (x1_3 + x1_4))) 2)) < (((x1_0).l.length : Nat) : Int)) (hy1_3 : ((IntKind.i64.wrap (Int.fdiv (IntKind.u64.wrap (w64 (x1_3 + x1_4))) 2))).toNat < ((x1_0).l).length) (y1_4_ : Int) (hy1_4 : (some (((x1_0).l).getD ((IntKind.i64.wrap (Int.fdiv (IntKind.u64.wrap (w64 (x1_3 + x1_4))) 2))).toNat 0)) = some y1_4_) (y1_5_ : Bool) (hy1_5 : m_cmpLessintq1 n y1_4_ x1_1 = some y1_5_) (hy1_6 : y1_5_ = true) (y1_7_ : Int) (hy1_7 : (some (w64 ((IntKind.i64.wrap (Int.fdiv (IntKind.u64.wrap (w64 (x1_3 + x1_4))) 2)) + (1 : Int)))) = some y1_7_) : Q_slicesBinarySearchintintq1_1 rnd x1_0 x1_1 x1_2 (x1_3, x1_4) (.normal, S_slicesBinarySearchintintq1_1 x1_0 x1_1 x1_2 (y1_7_, x1_4)) :=
 runC2 hm (L := lT []) ⟨[0, 1, 6, 7, 8], [], 0, 0⟩ (zz 4 (xdT hy1_1) <|
zz 18 (xk12 (Nat.add (x1_0).num 64) (x1_0).cap hy1_2) <|
zz 19 (nk13 hy1_4 hy1_3) <|
yy 21 (.call (C_cmpLessintq1 y1_4_ x1_1 y1_5_ [] [])) <|
ww (m_cmpLessintq1_ok n y1_4_ x1_1 y1_5_ hy1_5) <|
zz 22 (xbT hy1_6) <|
zz 24 (xnm hy1_7) <|
ee) (by kernel_rfl)
theorem q_slicesBinarySearchintintq1_1_1 (n : Nat) {rnd : Option Nat} (x1_0 : NL) (x1_1 x1_2 x1_3 x1_4 : Int) (hy1_1 : x1_3 < x1_4) (hy1_2 : 0 ≤ (IntKind.i64.wrap (Int.fdiv (IntKind.u64.wrap (w64 (x1_3 + x1_4))) 2)) ∧ (IntKind.i64.wrap (Int.fdiv (IntKind.u64.wrap (w64 (x1_3 + x1_4))) 2)) < (((x1_0).l.length : Nat) : Int)) (hy1_3 : ((IntKind.i64.wrap (Int.fdiv (IntKind.u64.wrap (w64 (x1_3 + x1_4))) 2))).toNat < ((x1_0).l).length) (y1_4_ : Int) (hy1_4 : (some (((x1_0).l).getD ((IntKind.i64.wrap (Int.fdiv (IntKind.u64.wrap (w64 (x1_3 + x1_4))) 2))).toNat 0)) = some y1_4_) (y1_5_ : Bool) (hy1_5 : m_cmpLessintq1 n y1_4_ x1_1 = some y1_5_) (hy1_6 : ¬ (y1_5_ = true)) : Q_slicesBinarySearchintintq1_1 rnd x1_0 x1_1 x1_2 (x1_3, x1_4) (.normal, S_slicesBinarySearchintintq1_1 x1_0 x1_1 x1_2 (x1_3, (IntKind.i64.wrap (Int.fdiv (IntKind.u64.wrap (w64 (x1_3 + x1_4))) 2)))) :=
 runC2 hm (L := lT []) ⟨[0, 1, 6, 7, 8], [], 0, 0⟩ (zz 4 (xdT hy1_1) <|
zz 18 (xk12 (Nat.add (x1_0).num 64) (x1_0).cap hy1_2) <|
zz 19 (nk13 hy1_4 hy1_3) <|
yy 21 (.call (C_cmpLessintq1 y1_4_ x1_1 y1_5_ [] [])) <|
ww (m_cmpLessintq1_ok n y1_4_ x1_1 y1_5_ hy1_5) <|
zz 22 (xbF hy1_6) <|
ee) (by kernel_rfl)
theorem q_slicesBinarySearchintintq1_1_2 (n : Nat) {rnd : Option Nat} (x1_0 : NL) (x1_1 x1_2 x1_3 x1_4 : Int) (hy1_1 : ¬ (x1_3 < x1_4)) : Q_slicesBinarySearchintintq1_1 rnd x1_0 x1_1 x1_2 (x1_3, x1_4) (X_slicesBinarySearchintintq1_1 x1_0 x1_1 x1_2 x1_3) :=
 runC2 hm (L := lT []) ⟨[0, 1, 6, 7], [], 0, 0⟩ (zz 4 (xdF hy1_1) <|
ee) (by kernel_rfl)
theorem m_slicesBinarySearchintintq1_1_ok (n : Nat) {rnd : Option Nat} (x1_0 : NL) (x1_1 : Int) (x1_2 : Int) (st : Int × Int) (r : Int) (h : m_slicesBinarySearchintintq1_1 n x1_0 x1_1 x1_2 st = some r) : CG P rnd (fnN P 26) 0 (codeOf P 26 [false, false, true, true, true]) (S_slicesBinarySearchintintq1_1 x1_0 x1_1 x1_2 st) (X_slicesBinarySearchintintq1_1 x1_0 x1_1 x1_2 r) :=
 CG.iter (b := codeOf P 26 [false, false, false, true, true, true]) (by kernel_rfl) (body := B_slicesBinarySearchintintq1_1 n x1_0 x1_1 x1_2) (S := S_slicesBinarySearchintintq1_1 x1_0 x1_1 x1_2) (X := X_slicesBinarySearchintintq1_1 x1_0 x1_1 x1_2)
  (fun s s' h => by
  obtain ⟨x1_3, x1_4⟩ := s
  unfold B_slicesBinarySearchintintq1_1 at h
  dsimp only at h
  by_cases hy1_1 : x1_3 < x1_4
  ·rw [if_pos hy1_1] at h
   by_cases hy1_2 : 0 ≤ (IntKind.i64.wrap (Int.fdiv (IntKind.u64.wrap (w64 (x1_3 + x1_4))) 2)) ∧ (IntKind.i64.wrap (Int.fdiv (IntKind.u64.wrap (w64 (x1_3 + x1_4))) 2)) < (((x1_0).l.length : Nat) : Int)
   ·rw [if_pos hy1_2] at h
    by_cases hy1_3 : ((IntKind.i64.wrap (Int.fdiv (IntKind.u64.wrap (w64 (x1_3 + x1_4))) 2))).toNat < ((x1_0).l).length
    ·rw [if_pos hy1_3] at h
     obtain ⟨y1_4_, hy1_4, h⟩ := Option.bind_eq_some_iff.1 h
     obtain ⟨y1_5_, hy1_5, h⟩ := Option.bind_eq_some_iff.1 h
     by_cases hy1_6 : y1_5_ = true
     ·rw [if_pos hy1_6] at h
      obtain ⟨y1_7_, hy1_7, h⟩ := Option.bind_eq_some_iff.1 h
      obtain rfl := Sum.inl.inj (Option.some.inj h); exact q_slicesBinarySearchintintq1_1_0 n x1_0 x1_1 x1_2 x1_3 x1_4 hy1_1 hy1_2 hy1_3 y1_4_ hy1_4 y1_5_ hy1_5 hy1_6 y1_7_ hy1_7
     ·rw [if_neg hy1_6] at h
      obtain rfl := Sum.inl.inj (Option.some.inj h); exact q_slicesBinarySearchintintq1_1_1 n x1_0 x1_1 x1_2 x1_3 x1_4 hy1_1 hy1_2 hy1_3 y1_4_ hy1_4 y1_5_ hy1_5 hy1_6
    ·rw [if_neg hy1_3] at h; cases h
   ·rw [if_neg hy1_2] at h; cases h
  ·rw [if_neg hy1_1] at h
   cases h)
  (fun s r h => by
  obtain ⟨x1_3, x1_4⟩ := s
  unfold B_slicesBinarySearchintintq1_1 at h
  dsimp only at h
  by_cases hy1_1 : x1_3 < x1_4
  ·rw [if_pos hy1_1] at h
   by_cases hy1_2 : 0 ≤ (IntKind.i64.wrap (Int.fdiv (IntKind.u64.wrap (w64 (x1_3 + x1_4))) 2)) ∧ (IntKind.i64.wrap (Int.fdiv (IntKind.u64.wrap (w64 (x1_3 + x1_4))) 2)) < (((x1_0).l.length : Nat) : Int)
   ·rw [if_pos hy1_2] at h
    by_cases hy1_3 : ((IntKind.i64.wrap (Int.fdiv (IntKind.u64.wrap (w64 (x1_3 + x1_4))) 2))).toNat < ((x1_0).l).length
    ·rw [if_pos hy1_3] at h
     obtain ⟨y1_4_, hy1_4, h⟩ := Option.bind_eq_some_iff.1 h
     obtain ⟨y1_5_, hy1_5, h⟩ := Option.bind_eq_some_iff.1 h
     by_cases hy1_6 : y1_5_ = true
     ·rw [if_pos hy1_6] at h
      obtain ⟨y1_7_, hy1_7, h⟩ := Option.bind_eq_some_iff.1 h
      cases h
     ·rw [if_neg hy1_6] at h
      cases h
    ·rw [if_neg hy1_3] at h; cases h
   ·rw [if_neg hy1_2] at h; cases h
  ·rw [if_neg hy1_1] at h
   obtain rfl := Sum.inr.inj (Option.some.inj h); exact q_slicesBinarySearchintintq1_1_2 n x1_0 x1_1 x1_2 x1_3 x1_4 hy1_1)
  (fun r => by intro hx; cases hx) h
def m_slicesBinarySearchintintq1 (n : Nat) (a0 : NL) (a1 : Int) : Option (Int × Bool) :=
 (m_slicesBinarySearchintintq1_1 n a0 a1 (((a0).l.length : Nat) : Int) (0, (((a0).l.length : Nat) : Int))).bind fun c1_ =>
 if c1_ < (((a0).l.length : Nat) : Int) then
  if 0 ≤ c1_ ∧ c1_ < (((a0).l.length : Nat) : Int) then
   if (c1_).toNat < ((a0).l).length then
    ((some (((a0).l).getD (c1_).toNat 0))).bind fun c5_ =>
    if c5_ = a1 then
     some (c1_, true)
    else
     (m_slicesisNaNintq1 n c5_).bind fun _ =>
     some (c1_, false)
   else none
  else none
 else
  some (c1_, false)
theorem p_slicesBinarySearchintintq1_0 (n : Nat) (a0 : NL) (a1 c1_ : Int) (hc1 : m_slicesBinarySearchintintq1_1 n a0 a1 (((a0).l.length : Nat) : Int) (0, (((a0).l.length : Nat) : Int)) = some c1_) (hc2 : c1_ < (((a0).l.length : Nat) : Int)) (hc3 : 0 ≤ c1_ ∧ c1_ < (((a0).l.length : Nat) : Int)) (hc4 : (c1_).toNat < ((a0).l).length) (c5_ : Int) (hc5 : (some (((a0).l).getD (c1_).toNat 0)) = some c5_) (hc6 : c5_ = a1) : G_slicesBinarySearchintintq1 a0 a1 (c1_, true) :=
 runF2 hm (L := lT [(13, ⟨⟨[0, 1, 6, 7, 8], [], 0, 0⟩, (X_slicesBinarySearchintintq1_1 a0 a1 (((a0).l.length : Nat) : Int) c1_).1, (X_slicesBinarySearchintintq1_1 a0 a1 (((a0).l.length : Nat) : Int) c1_).2⟩)]) ⟨[4, 5], [], 0, 0⟩ (ww (p := U_slicesBinarySearchintintq1_1 none a0 a1 (((a0).l.length : Nat) : Int) (0, (((a0).l.length : Nat) : Int)) c1_) (m_slicesBinarySearchintintq1_1_ok n a0 a1 (((a0).l.length : Nat) : Int) (0, (((a0).l.length : Nat) : Int)) c1_ hc1) <|
zz 18 (xdT hc2) <|
zz 22 (xk12 (Nat.add (a0).num 64) (a0).cap hc3) <|
zz 23 (nk13 hc5 hc4) <|
zz 25 (xeT hc6) <|
ee) (by kernel_rfl)
theorem p_slicesBinarySearchintintq1_1 (n : Nat) (a0 : NL) (a1 c1_ : Int) (hc1 : m_slicesBinarySearchintintq1_1 n a0 a1 (((a0).l.length : Nat) : Int) (0, (((a0).l.length : Nat) : Int)) = some c1_) (hc2 : c1_ < (((a0).l.length : Nat) : Int)) (hc3 : 0 ≤ c1_ ∧ c1_ < (((a0).l.length : Nat) : Int)) (hc4 : (c1_).toNat < ((a0).l).length) (c5_ : Int) (hc5 : (some (((a0).l).getD (c1_).toNat 0)) = some c5_) (hc6 : ¬ (c5_ = a1)) (hc7 : m_slicesisNaNintq1 n c5_ = some ()) : G_slicesBinarySearchintintq1 a0 a1 (c1_, false) :=
 runF2 hm (L := lT [(13, ⟨⟨[0, 1, 6, 7, 8], [], 0, 0⟩, (X_slicesBinarySearchintintq1_1 a0 a1 (((a0).l.length : Nat) : Int) c1_).1, (X_slicesBinarySearchintintq1_1 a0 a1 (((a0).l.length : Nat) : Int) c1_).2⟩)]) ⟨[4, 5], [], 0, 0⟩ (ww (p := U_slicesBinarySearchintintq1_1 none a0 a1 (((a0).l.length : Nat) : Int) (0, (((a0).l.length : Nat) : Int)) c1_) (m_slicesBinarySearchintintq1_1_ok n a0 a1 (((a0).l.length : Nat) : Int) (0, (((a0).l.length : Nat) : Int)) c1_ hc1) <|
zz 18 (xdT hc2) <|
zz 22 (xk12 (Nat.add (a0).num 64) (a0).cap hc3) <|
zz 23 (nk13 hc5 hc4) <|
zz 25 (xeF hc6) <|
zz 29 (xk12 (Nat.add (a0).num 64) (a0).cap hc3) <|
zz 30 (nk13 hc5 hc4) <|
yy 31 (.call (C_slicesisNaNintq1 c5_ () [] [])) <|
ww (m_slicesisNaNintq1_ok n c5_ () hc7) <|
ee) (by kernel_rfl)
theorem p_slicesBinarySearchintintq1_2 (n : Nat) (a0 : NL) (a1 c1_ : Int) (hc1 : m_slicesBinarySearchintintq1_1 n a0 a1 (((a0).l.length : Nat) : Int) (0, (((a0).l.length : Nat) : Int)) = some c1_) (hc2 : ¬ (c1_ < (((a0).l.length : Nat) : Int))) : G_slicesBinarySearchintintq1 a0 a1 (c1_, false) :=
 runF2 hm (L := lT [(13, ⟨⟨[0, 1, 6, 7, 8], [], 0, 0⟩, (X_slicesBinarySearchintintq1_1 a0 a1 (((a0).l.length : Nat) : Int) c1_).1, (X_slicesBinarySearchintintq1_1 a0 a1 (((a0).l.length : Nat) : Int) c1_).2⟩)]) ⟨[4, 5], [], 0, 0⟩ (ww (p := U_slicesBinarySearchintintq1_1 none a0 a1 (((a0).l.length : Nat) : Int) (0, (((a0).l.length : Nat) : Int)) c1_) (m_slicesBinarySearchintintq1_1_ok n a0 a1 (((a0).l.length : Nat) : Int) (0, (((a0).l.length : Nat) : Int)) c1_ hc1) <|
zz 18 (xdF hc2) <|
ee) (by kernel_rfl)
theorem m_slicesBinarySearchintintq1_ok (n : Nat) (a0 : NL) (a1 : Int) (r : Int × Bool) (h : m_slicesBinarySearchintintq1 n a0 a1 = some r) : Gv P (.func 26) (A_slicesBinarySearchintintq1 a0 a1) (H_slicesBinarySearchintintq1 a0 a1) (V_slicesBinarySearchintintq1 a0 a1 r) (R_slicesBinarySearchintintq1 a0 a1 r) := by
 unfold m_slicesBinarySearchintintq1 at h
 obtain ⟨c1_, hc1, h⟩ := Option.bind_eq_some_iff.1 h
 by_cases hc2 : c1_ < (((a0).l.length : Nat) : Int)
 ·rw [if_pos hc2] at h
  by_cases hc3 : 0 ≤ c1_ ∧ c1_ < (((a0).l.length : Nat) : Int)
  ·rw [if_pos hc3] at h
   by_cases hc4 : (c1_).toNat < ((a0).l).length
   ·rw [if_pos hc4] at h
    obtain ⟨c5_, hc5, h⟩ := Option.bind_eq_some_iff.1 h
    by_cases hc6 : c5_ = a1
    ·rw [if_pos hc6] at h
     obtain rfl := Option.some.inj h; exact p_slicesBinarySearchintintq1_0 n a0 a1 c1_ hc1 hc2 hc3 hc4 c5_ hc5 hc6
    ·rw [if_neg hc6] at h
     obtain ⟨_, hc7, h⟩ := Option.bind_eq_some_iff.1 h
     obtain rfl := Option.some.inj h; exact p_slicesBinarySearchintintq1_1 n a0 a1 c1_ hc1 hc2 hc3 hc4 c5_ hc5 hc6 hc7
   ·rw [if_neg hc4] at h; cases h
  ·rw [if_neg hc3] at h; cases h
 ·rw [if_neg hc2] at h
  obtain rfl := Option.some.inj h; exact p_slicesBinarySearchintintq1_2 n a0 a1 c1_ hc1 hc2

noncomputable def A_treePathq1 (a0 : Int) : List Value := [(sW 1 0 (Args.B).length Args.cB), (i6 a0)]
noncomputable def H_treePathq1 (a0 : Int) : AH := ⟨sB [], 0, 0⟩
noncomputable def V_treePathq1 (a0 : Int) (r : List Int × Nat) : Value := match r with
 | (o0, o1) => (sN 0 0 (o0).length o1)
noncomputable def R_treePathq1 (a0 : Int) (r : List Int × Nat) : AH := match r with
 | (o0, o1) => ⟨sB [(0, (some (.cells (layT (iv o0)) 3)))], 1, 0⟩
noncomputable abbrev G_treePathq1 (a0 : Int) (r : List Int × Nat) : Prop := Gv P (.func 17) (A_treePathq1 a0) (H_treePathq1 a0) (V_treePathq1 a0 r) (R_treePathq1 a0 r)
noncomputable abbrev C_treePathq1 (a0 : Int) (r : List Int × Nat) (ins outs : BL) : CallA := ⟨0, ins, V_treePathq1 a0 r, R_treePathq1 a0 r, outs⟩
noncomputable def S_treePathq1_1 (x1_0 : Int) (st : Int × List Int) : XSt := match st with
 | (x1_1, x1_2) => (sT 50 [(0, (sW 1 0 (Args.B).length Args.cB)), (1, (i6 x1_0)), (5, (i6 x1_1)), (6, (sN 0 0 (x1_2).length (Nat.add big 1)))], [], ⟨sB [(0, (some (.cells (layT (iv x1_2)) 3)))], 1, 0⟩)
noncomputable def X_treePathq1_1 (x1_0 : Int) (r : List Int) : Ex × XSt := match r with
 | z1_0 => (.exit 0, (sT 50 [(6, (sN 0 0 (z1_0).length (Nat.add big 1)))], [], ⟨sB [(0, (some (.cells (layT (iv z1_0)) 3)))], 1, 0⟩))
noncomputable abbrev Q_treePathq1_1 (rnd : Option Nat) (x1_0 : Int) (st : Int × List Int) (c : Ex × XSt) : Prop := CG P rnd (fnN P 17) 0 (codeOf P 17 [false, false, false, true, true, true, true]) (S_treePathq1_1 x1_0 st) c
noncomputable abbrev U_treePathq1_1 (rd : Option Nat) (x1_0 : Int) (st : Int × List Int) (r : List Int) : Prop := CG P rd (fnN P 17) 0 (codeOf P 17 [false, false, true, true, true, true]) (S_treePathq1_1 x1_0 st) (X_treePathq1_1 x1_0 r)
def B_treePathq1_1 (n : Nat) (x1_0 : Int) (st : Int × List Int) : Option ((Int × List Int) ⊕ (List Int)) := match st with
 | (x1_1, x1_2) =>
  if x1_1 = x1_0 then
   some (.inr x1_2)
  else
   if 0 ≤ x1_1 ∧ x1_1 < (((Args.B).length : Nat) : Int) then
    ((some ((Args.B).getD (x1_1).toNat (0, 0, 0, 0, 0, 0, nl0, 0)))).bind fun y1_3_ =>
    (m_slicesBinarySearchintintq1 n (y1_3_.2.2.2.2.2.2.1) x1_0).bind fun t => match t with
    | (y1_4_0, y1_4_1) =>
     if y1_4_1 = true then
      if 0 ≤ y1_4_0 ∧ y1_4_0 < ((((y1_3_.2.2.2.2.2.2.1)).l.length : Nat) : Int) then
       if (y1_4_0).toNat < (((y1_3_.2.2.2.2.2.2.1)).l).length then
        ((some ((((y1_3_.2.2.2.2.2.2.1)).l).getD (y1_4_0).toNat 0))).bind fun y1_8_ =>
        if 0 ≤ y1_8_ ∧ y1_8_ < (((Args.B).length : Nat) : Int) then
         ((some ((Args.B).getD (y1_8_).toNat (0, 0, 0, 0, 0, 0, nl0, 0)))).bind fun y1_10_ =>
         if ((x1_2).length + 1) * 8 ≤ 140737488355328 then
          some (.inl (y1_8_, (x1_2 ++ [(y1_10_.1)])))
         else none
        else none
       else none
      else none
     else
      if 0 ≤ (w64 (y1_4_0 - (1 : Int))) ∧ (w64 (y1_4_0 - (1 : Int))) < ((((y1_3_.2.2.2.2.2.2.1)).l.length : Nat) : Int) then
       if ((w64 (y1_4_0 - (1 : Int)))).toNat < (((y1_3_.2.2.2.2.2.2.1)).l).length then
        ((some ((((y1_3_.2.2.2.2.2.2.1)).l).getD ((w64 (y1_4_0 - (1 : Int)))).toNat 0))).bind fun y1_8_ =>
        if 0 ≤ y1_8_ ∧ y1_8_ < (((Args.B).length : Nat) : Int) then
         ((some ((Args.B).getD (y1_8_).toNat (0, 0, 0, 0, 0, 0, nl0, 0)))).bind fun y1_10_ =>
         if ((x1_2).length + 1) * 8 ≤ 140737488355328 then
          some (.inl (y1_8_, (x1_2 ++ [(y1_10_.1)])))
         else none
        else none
       else none
      else none
   else none
def m_treePathq1_1 (n : Nat) (x1_0 : Int) (st : Int × List Int) : Option (List Int) := iterM (B_treePathq1_1 n x1_0) n st
theorem q_treePathq1_1_0 (n : Nat) {rnd : Option Nat} (x1_0 x1_1 : Int) (x1_2 : List Int) (hy1_1 : x1_1 = x1_0) : Q_treePathq1_1 rnd x1_0 (x1_1, x1_2) (X_treePathq1_1 x1_0 x1_2) :=
 runC2 hm (L := lT []) ⟨[6], [(0, 0, true)], 1, 0⟩ (zz 4 (xnF hy1_1) <|
ww (iv_flat x1_2 3) <|
ee) (by kernel_rfl)
theorem q_treePathq1_1_1 (n : Nat) {rnd : Option Nat} (x1_0 x1_1 : Int) (x1_2 : List Int) (hy1_1 : ¬ (x1_1 = x1_0)) (hy1_2 : 0 ≤ x1_1 ∧ x1_1 < (((Args.B).length : Nat) : Int)) (y1_3_ : Int × Int × Int × Int × Int × Int × NL × Int) (hy1_3 : (some ((Args.B).getD (x1_1).toNat (0, 0, 0, 0, 0, 0, nl0, 0))) = some y1_3_) (y1_4_0 : Int) (y1_4_1 : Bool) (hy1_4 : m_slicesBinarySearchintintq1 n (y1_3_.2.2.2.2.2.2.1) x1_0 = some (y1_4_0, y1_4_1)) (hy1_5 : y1_4_1 = true) (hy1_6 : 0 ≤ y1_4_0 ∧ y1_4_0 < ((((y1_3_.2.2.2.2.2.2.1)).l.length : Nat) : Int)) (hy1_7 : (y1_4_0).toNat < (((y1_3_.2.2.2.2.2.2.1)).l).length) (y1_8_ : Int) (hy1_8 : (some ((((y1_3_.2.2.2.2.2.2.1)).l).getD (y1_4_0).toNat 0)) = some y1_8_) (hy1_9 : 0 ≤ y1_8_ ∧ y1_8_ < (((Args.B).length : Nat) : Int)) (y1_10_ : Int × Int × Int × Int × Int × Int × NL × Int) (hy1_10 : (some ((Args.B).getD (y1_8_).toNat (0, 0, 0, 0, 0, 0, nl0, 0))) = some y1_10_) (hy1_11 : ((x1_2).length + 1) * 8 ≤ 140737488355328) : Q_treePathq1_1 rnd x1_0 (x1_1, x1_2) (.normal, S_treePathq1_1 x1_0 (y1_8_, (x1_2 ++ [(y1_10_.1)]))) :=
 runC2 hm (L := lT []) ⟨[0, 1, 5, 6], [(0, 2, true)], 1, 0⟩ (zz 4 (xnT hy1_1) <|
zz 10 (xk4 1 Args.cB hy1_2) <|
zz 11 (fk10 ((x1_1).toNat * 8)) <|
zz 12 (lk11 hy1_3 (toNatLt hy1_2)) <|
yy 17 (.call (C_slicesBinarySearchintintq1 (y1_3_.2.2.2.2.2.2.1) x1_0 (y1_4_0, y1_4_1) [] [])) <|
ww (m_slicesBinarySearchintintq1_ok n (y1_3_.2.2.2.2.2.2.1) x1_0 (y1_4_0, y1_4_1) hy1_4) <|
yy 26 (vf) <|
ww (p := (Value.bool (!y1_4_1)) = (Value.bool false)) (vBn hy1_5) <|
zz 31 (xk12 (Nat.add ((y1_3_.2.2.2.2.2.2.1)).num 64) ((y1_3_.2.2.2.2.2.2.1)).cap hy1_6) <|
zz 32 (nk13 hy1_8 hy1_7) <|
zz 37 (xk4 1 Args.cB hy1_9) <|
zz 38 (fk20 ((y1_8_).toNat * 8)) <|
zz 39 (lk21 hy1_10 (toNatLt hy1_9)) <|
yy 41 (.app ⟨none, iv x1_2, (iv (x1_2 ++ [(y1_10_.1)])), ((x1_2 ++ [(y1_10_.1)])).length, false⟩) <|
ww (p := 0 < 1) ((by decide)) <|
ww (p := rdT (layT (iv x1_2)) (Nat.mul (x1_2).length 1) 0 = some (iv x1_2)) (iv_rd _) <|
ww (p := fits (Nat.add (x1_2).length 1) 8 = true) (fits_ok hy1_11 (by have := hy1_11; show (_ : Nat) + _ ≤ _; omega)) <|
ww (p := allCells [(i6 (y1_10_.1))] = true) (rfl) <|
ww (p := allCells (iv x1_2) = true) (iv_cells _) <|
ww (p := iv x1_2 ++ [(i6 (y1_10_.1))] = (iv (x1_2 ++ [(y1_10_.1)]))) (by simp [iv]) <|
ww (p := Nat.add (x1_2).length 1 = ((x1_2 ++ [(y1_10_.1)])).length) (by simp) <|
ww (iv_flat (x1_2 ++ [(y1_10_.1)]) 3) <|
ee) (by kernel_rfl)
theorem q_treePathq1_1_2 (n : Nat) {rnd : Option Nat} (x1_0 x1_1 : Int) (x1_2 : List Int) (hy1_1 : ¬ (x1_1 = x1_0)) (hy1_2 : 0 ≤ x1_1 ∧ x1_1 < (((Args.B).length : Nat) : Int)) (y1_3_ : Int × Int × Int × Int × Int × Int × NL × Int) (hy1_3 : (some ((Args.B).getD (x1_1).toNat (0, 0, 0, 0, 0, 0, nl0, 0))) = some y1_3_) (y1_4_0 : Int) (y1_4_1 : Bool) (hy1_4 : m_slicesBinarySearchintintq1 n (y1_3_.2.2.2.2.2.2.1) x1_0 = some (y1_4_0, y1_4_1)) (hy1_5 : ¬ (y1_4_1 = true)) (hy1_6 : 0 ≤ (w64 (y1_4_0 - (1 : Int))) ∧ (w64 (y1_4_0 - (1 : Int))) < ((((y1_3_.2.2.2.2.2.2.1)).l.length : Nat) : Int)) (hy1_7 : ((w64 (y1_4_0 - (1 : Int)))).toNat < (((y1_3_.2.2.2.2.2.2.1)).l).length) (y1_8_ : Int) (hy1_8 : (some ((((y1_3_.2.2.2.2.2.2.1)).l).getD ((w64 (y1_4_0 - (1 : Int)))).toNat 0)) = some y1_8_) (hy1_9 : 0 ≤ y1_8_ ∧ y1_8_ < (((Args.B).length : Nat) : Int)) (y1_10_ : Int × Int × Int × Int × Int × Int × NL × Int) (hy1_10 : (some ((Args.B).getD (y1_8_).toNat (0, 0, 0, 0, 0, 0, nl0, 0))) = some y1_10_) (hy1_11 : ((x1_2).length + 1) * 8 ≤ 140737488355328) : Q_treePathq1_1 rnd x1_0 (x1_1, x1_2) (.normal, S_treePathq1_1 x1_0 (y1_8_, (x1_2 ++ [(y1_10_.1)]))) :=
 runC2 hm (L := lT []) ⟨[0, 1, 5, 6], [(0, 2, true)], 1, 0⟩ (zz 4 (xnT hy1_1) <|
zz 10 (xk4 1 Args.cB hy1_2) <|
zz 11 (fk10 ((x1_1).toNat * 8)) <|
zz 12 (lk11 hy1_3 (toNatLt hy1_2)) <|
yy 17 (.call (C_slicesBinarySearchintintq1 (y1_3_.2.2.2.2.2.2.1) x1_0 (y1_4_0, y1_4_1) [] [])) <|
ww (m_slicesBinarySearchintintq1_ok n (y1_3_.2.2.2.2.2.2.1) x1_0 (y1_4_0, y1_4_1) hy1_4) <|
yy 26 (vt) <|
ww (p := (Value.bool (!y1_4_1)) = (Value.bool true)) (vBn (Bool.eq_false_iff.2 hy1_5)) <|
zz 34 (xk12 (Nat.add ((y1_3_.2.2.2.2.2.2.1)).num 64) ((y1_3_.2.2.2.2.2.2.1)).cap hy1_6) <|
zz 35 (nk13 hy1_8 hy1_7) <|
zz 40 (xk4 1 Args.cB hy1_9) <|
zz 41 (fk20 ((y1_8_).toNat * 8)) <|
zz 42 (lk21 hy1_10 (toNatLt hy1_9)) <|
yy 44 (.app ⟨none, iv x1_2, (iv (x1_2 ++ [(y1_10_.1)])), ((x1_2 ++ [(y1_10_.1)])).length, false⟩) <|
ww (p := 0 < 1) ((by decide)) <|
ww (p := rdT (layT (iv x1_2)) (Nat.mul (x1_2).length 1) 0 = some (iv x1_2)) (iv_rd _) <|
ww (p := fits (Nat.add (x1_2).length 1) 8 = true) (fits_ok hy1_11 (by have := hy1_11; show (_ : Nat) + _ ≤ _; omega)) <|
ww (p := allCells [(i6 (y1_10_.1))] = true) (rfl) <|
ww (p := allCells (iv x1_2) = true) (iv_cells _) <|
ww (p := iv x1_2 ++ [(i6 (y1_10_.1))] = (iv (x1_2 ++ [(y1_10_.1)]))) (by simp [iv]) <|
ww (p := Nat.add (x1_2).length 1 = ((x1_2 ++ [(y1_10_.1)])).length) (by simp) <|
ww (iv_flat (x1_2 ++ [(y1_10_.1)]) 3) <|
ee) (by kernel_rfl)
theorem m_treePathq1_1_ok (n : Nat) {rnd : Option Nat} (x1_0 : Int) (st : Int × List Int) (r : List Int) (h : m_treePathq1_1 n x1_0 st = some r) : LG P rnd (fnN P 17) 0 (codeOf P 17 [false, false, false, true, true, true, true]) (S_treePathq1_1 x1_0 st) (X_treePathq1_1 x1_0 r) :=
 LG.iter (body := B_treePathq1_1 n x1_0) (S := S_treePathq1_1 x1_0) (X := X_treePathq1_1 x1_0)
  (fun s s' h => by
  obtain ⟨x1_1, x1_2⟩ := s
  unfold B_treePathq1_1 at h
  dsimp only at h
  by_cases hy1_1 : x1_1 = x1_0
  ·rw [if_pos hy1_1] at h
   cases h
  ·rw [if_neg hy1_1] at h
   by_cases hy1_2 : 0 ≤ x1_1 ∧ x1_1 < (((Args.B).length : Nat) : Int)
   ·rw [if_pos hy1_2] at h
    obtain ⟨y1_3_, hy1_3, h⟩ := Option.bind_eq_some_iff.1 h
    obtain ⟨⟨y1_4_0, y1_4_1⟩, hy1_4, h⟩ := Option.bind_eq_some_iff.1 h
    dsimp only at h
    by_cases hy1_5 : y1_4_1 = true
    ·rw [if_pos hy1_5] at h
     by_cases hy1_6 : 0 ≤ y1_4_0 ∧ y1_4_0 < ((((y1_3_.2.2.2.2.2.2.1)).l.length : Nat) : Int)
     ·rw [if_pos hy1_6] at h
      by_cases hy1_7 : (y1_4_0).toNat < (((y1_3_.2.2.2.2.2.2.1)).l).length
      ·rw [if_pos hy1_7] at h
       obtain ⟨y1_8_, hy1_8, h⟩ := Option.bind_eq_some_iff.1 h
       by_cases hy1_9 : 0 ≤ y1_8_ ∧ y1_8_ < (((Args.B).length : Nat) : Int)
       ·rw [if_pos hy1_9] at h
        obtain ⟨y1_10_, hy1_10, h⟩ := Option.bind_eq_some_iff.1 h
        by_cases hy1_11 : ((x1_2).length + 1) * 8 ≤ 140737488355328
        ·rw [if_pos hy1_11] at h
         obtain rfl := Sum.inl.inj (Option.some.inj h); exact q_treePathq1_1_1 n x1_0 x1_1 x1_2 hy1_1 hy1_2 y1_3_ hy1_3 y1_4_0 y1_4_1 hy1_4 hy1_5 hy1_6 hy1_7 y1_8_ hy1_8 hy1_9 y1_10_ hy1_10 hy1_11
        ·rw [if_neg hy1_11] at h; cases h
       ·rw [if_neg hy1_9] at h; cases h
      ·rw [if_neg hy1_7] at h; cases h
     ·rw [if_neg hy1_6] at h; cases h
    ·rw [if_neg hy1_5] at h
     by_cases hy1_6 : 0 ≤ (w64 (y1_4_0 - (1 : Int))) ∧ (w64 (y1_4_0 - (1 : Int))) < ((((y1_3_.2.2.2.2.2.2.1)).l.length : Nat) : Int)
     ·rw [if_pos hy1_6] at h
      by_cases hy1_7 : ((w64 (y1_4_0 - (1 : Int)))).toNat < (((y1_3_.2.2.2.2.2.2.1)).l).length
      ·rw [if_pos hy1_7] at h
       obtain ⟨y1_8_, hy1_8, h⟩ := Option.bind_eq_some_iff.1 h
       by_cases hy1_9 : 0 ≤ y1_8_ ∧ y1_8_ < (((Args.B).length : Nat) : Int)
       ·rw [if_pos hy1_9] at h
        obtain ⟨y1_10_, hy1_10, h⟩ := Option.bind_eq_some_iff.1 h
        by_cases hy1_11 : ((x1_2).length + 1) * 8 ≤ 140737488355328
        ·rw [if_pos hy1_11] at h
         obtain rfl := Sum.inl.inj (Option.some.inj h); exact q_treePathq1_1_2 n x1_0 x1_1 x1_2 hy1_1 hy1_2 y1_3_ hy1_3 y1_4_0 y1_4_1 hy1_4 hy1_5 hy1_6 hy1_7 y1_8_ hy1_8 hy1_9 y1_10_ hy1_10 hy1_11
        ·rw [if_neg hy1_11] at h; cases h
       ·rw [if_neg hy1_9] at h; cases h
      ·rw [if_neg hy1_7] at h; cases h
     ·rw [if_neg hy1_6] at h; cases h
   ·rw [if_neg hy1_2] at h; cases h)
  (fun s r h => by
  obtain ⟨x1_1, x1_2⟩ := s
  unfold B_treePathq1_1 at h
  dsimp only at h
  by_cases hy1_1 : x1_1 = x1_0
  ·rw [if_pos hy1_1] at h
   obtain rfl := Sum.inr.inj (Option.some.inj h); exact q_treePathq1_1_0 n x1_0 x1_1 x1_2 hy1_1
  ·rw [if_neg hy1_1] at h
   by_cases hy1_2 : 0 ≤ x1_1 ∧ x1_1 < (((Args.B).length : Nat) : Int)
   ·rw [if_pos hy1_2] at h
    obtain ⟨y1_3_, hy1_3, h⟩ := Option.bind_eq_some_iff.1 h
    obtain ⟨⟨y1_4_0, y1_4_1⟩, hy1_4, h⟩ := Option.bind_eq_some_iff.1 h
    dsimp only at h
    by_cases hy1_5 : y1_4_1 = true
    ·rw [if_pos hy1_5] at h
     by_cases hy1_6 : 0 ≤ y1_4_0 ∧ y1_4_0 < ((((y1_3_.2.2.2.2.2.2.1)).l.length : Nat) : Int)
     ·rw [if_pos hy1_6] at h
      by_cases hy1_7 : (y1_4_0).toNat < (((y1_3_.2.2.2.2.2.2.1)).l).length
      ·rw [if_pos hy1_7] at h
       obtain ⟨y1_8_, hy1_8, h⟩ := Option.bind_eq_some_iff.1 h
       by_cases hy1_9 : 0 ≤ y1_8_ ∧ y1_8_ < (((Args.B).length : Nat) : Int)
       ·rw [if_pos hy1_9] at h
        obtain ⟨y1_10_, hy1_10, h⟩ := Option.bind_eq_some_iff.1 h
        by_cases hy1_11 : ((x1_2).length + 1) * 8 ≤ 140737488355328
        ·rw [if_pos hy1_11] at h
         cases h
        ·rw [if_neg hy1_11] at h; cases h
       ·rw [if_neg hy1_9] at h; cases h
      ·rw [if_neg hy1_7] at h; cases h
     ·rw [if_neg hy1_6] at h; cases h
    ·rw [if_neg hy1_5] at h
     by_cases hy1_6 : 0 ≤ (w64 (y1_4_0 - (1 : Int))) ∧ (w64 (y1_4_0 - (1 : Int))) < ((((y1_3_.2.2.2.2.2.2.1)).l.length : Nat) : Int)
     ·rw [if_pos hy1_6] at h
      by_cases hy1_7 : ((w64 (y1_4_0 - (1 : Int)))).toNat < (((y1_3_.2.2.2.2.2.2.1)).l).length
      ·rw [if_pos hy1_7] at h
       obtain ⟨y1_8_, hy1_8, h⟩ := Option.bind_eq_some_iff.1 h
       by_cases hy1_9 : 0 ≤ y1_8_ ∧ y1_8_ < (((Args.B).length : Nat) : Int)
       ·rw [if_pos hy1_9] at h
        obtain ⟨y1_10_, hy1_10, h⟩ := Option.bind_eq_some_iff.1 h
        by_cases hy1_11 : ((x1_2).length + 1) * 8 ≤ 140737488355328
        ·rw [if_pos hy1_11] at h
         cases h
        ·rw [if_neg hy1_11] at h; cases h
       ·rw [if_neg hy1_9] at h; cases h
      ·rw [if_neg hy1_7] at h; cases h
     ·rw [if_neg hy1_6] at h; cases h
   ·rw [if_neg hy1_2] at h; cases h)
  (fun r => by intro hx; cases hx) _ _ _ h
def m_treePathq1 (n : Nat) (a0 : Int) : Option (List Int × Nat) :=
 (m_treehasq1 n a0).bind fun c1_ =>
 if c1_ = true then
  if 0 ≤ (0 : Int) ∧ (0 : Int) < (((Args.B).length : Nat) : Int) then
   ((some ((Args.B).getD ((0 : Int)).toNat (0, 0, 0, 0, 0, 0, nl0, 0)))).bind fun c4_ =>
   if (0 : Int) = a0 then
    some ([(c4_.1)], 1)
   else
    (m_slicesBinarySearchintintq1 n (c4_.2.2.2.2.2.2.1) a0).bind fun t => match t with
    | (c6_0, c6_1) =>
     if c6_1 = true then
      if 0 ≤ c6_0 ∧ c6_0 < ((((c4_.2.2.2.2.2.2.1)).l.length : Nat) : Int) then
       if (c6_0).toNat < (((c4_.2.2.2.2.2.2.1)).l).length then
        ((some ((((c4_.2.2.2.2.2.2.1)).l).getD (c6_0).toNat 0))).bind fun c10_ =>
        if 0 ≤ c10_ ∧ c10_ < (((Args.B).length : Nat) : Int) then
         ((some ((Args.B).getD (c10_).toNat (0, 0, 0, 0, 0, 0, nl0, 0)))).bind fun c12_ =>
         (m_treePathq1_1 n a0 (c10_, [(c4_.1), (c12_.1)])).bind fun c13_ =>
         some (c13_, (Nat.add big 1))
        else none
       else none
      else none
     else
      if 0 ≤ (w64 (c6_0 - (1 : Int))) ∧ (w64 (c6_0 - (1 : Int))) < ((((c4_.2.2.2.2.2.2.1)).l.length : Nat) : Int) then
       if ((w64 (c6_0 - (1 : Int)))).toNat < (((c4_.2.2.2.2.2.2.1)).l).length then
        ((some ((((c4_.2.2.2.2.2.2.1)).l).getD ((w64 (c6_0 - (1 : Int)))).toNat 0))).bind fun c10_ =>
        if 0 ≤ c10_ ∧ c10_ < (((Args.B).length : Nat) : Int) then
         ((some ((Args.B).getD (c10_).toNat (0, 0, 0, 0, 0, 0, nl0, 0)))).bind fun c12_ =>
         (m_treePathq1_1 n a0 (c10_, [(c4_.1), (c12_.1)])).bind fun c13_ =>
         some (c13_, (Nat.add big 1))
        else none
       else none
      else none
  else none
 else
  none
theorem p_treePathq1_0 (n : Nat) (a0 : Int) (c1_ : Bool) (hc1 : m_treehasq1 n a0 = some c1_) (hc2 : c1_ = true) (hc3 : 0 ≤ (0 : Int) ∧ (0 : Int) < (((Args.B).length : Nat) : Int)) (c4_ : Int × Int × Int × Int × Int × Int × NL × Int) (hc4 : (some ((Args.B).getD ((0 : Int)).toNat (0, 0, 0, 0, 0, 0, nl0, 0))) = some c4_) (hc5 : (0 : Int) = a0) : G_treePathq1 a0 ([(c4_.1)], 1) :=
 runF2 hm (L := lT []) ⟨[4], [(0, 0, false)], 1, 0⟩ (yy 6 (.call (C_treehasq1 a0 c1_ [] [])) <|
ww (m_treehasq1_ok n a0 c1_ hc1) <|
yy 7 (vf) <|
ww (p := (Value.bool (!c1_)) = (Value.bool false)) (vBn hc2) <|
zz 13 (xk4 1 Args.cB hc3) <|
zz 14 (fk20 (((0 : Int)).toNat * 8)) <|
zz 15 (lk21 hc4 (toNatLt hc3)) <|
zz 25 (xnF hc5) <|
ee) (by kernel_rfl)
theorem p_treePathq1_1 (n : Nat) (a0 : Int) (c1_ : Bool) (hc1 : m_treehasq1 n a0 = some c1_) (hc2 : c1_ = true) (hc3 : 0 ≤ (0 : Int) ∧ (0 : Int) < (((Args.B).length : Nat) : Int)) (c4_ : Int × Int × Int × Int × Int × Int × NL × Int) (hc4 : (some ((Args.B).getD ((0 : Int)).toNat (0, 0, 0, 0, 0, 0, nl0, 0))) = some c4_) (hc5 : ¬ ((0 : Int) = a0)) (c6_0 : Int) (c6_1 : Bool) (hc6 : m_slicesBinarySearchintintq1 n (c4_.2.2.2.2.2.2.1) a0 = some (c6_0, c6_1)) (hc7 : c6_1 = true) (hc8 : 0 ≤ c6_0 ∧ c6_0 < ((((c4_.2.2.2.2.2.2.1)).l.length : Nat) : Int)) (hc9 : (c6_0).toNat < (((c4_.2.2.2.2.2.2.1)).l).length) (c10_ : Int) (hc10 : (some ((((c4_.2.2.2.2.2.2.1)).l).getD (c6_0).toNat 0)) = some c10_) (hc11 : 0 ≤ c10_ ∧ c10_ < (((Args.B).length : Nat) : Int)) (c12_ : Int × Int × Int × Int × Int × Int × NL × Int) (hc12 : (some ((Args.B).getD (c10_).toNat (0, 0, 0, 0, 0, 0, nl0, 0))) = some c12_) (c13_ : List Int) (hc13 : m_treePathq1_1 n a0 (c10_, [(c4_.1), (c12_.1)]) = some c13_) : G_treePathq1 a0 (c13_, (Nat.add big 1)) :=
 runF2 hm (L := lT [(64, ⟨⟨[0, 1, 5, 6], [(0, 2, false)], 1, 0⟩, (X_treePathq1_1 a0 c13_).1, (X_treePathq1_1 a0 c13_).2⟩)]) ⟨[4], [(0, 0, true)], 1, 0⟩ (yy 6 (.call (C_treehasq1 a0 c1_ [] [])) <|
ww (m_treehasq1_ok n a0 c1_ hc1) <|
yy 7 (vf) <|
ww (p := (Value.bool (!c1_)) = (Value.bool false)) (vBn hc2) <|
zz 13 (xk4 1 Args.cB hc3) <|
zz 14 (fk20 (((0 : Int)).toNat * 8)) <|
zz 15 (lk21 hc4 (toNatLt hc3)) <|
zz 25 (xnT hc5) <|
zz 31 (xk4 1 Args.cB hc3) <|
zz 32 (fk10 (((0 : Int)).toNat * 8)) <|
zz 33 (lk11 hc4 (toNatLt hc3)) <|
yy 38 (.call (C_slicesBinarySearchintintq1 (c4_.2.2.2.2.2.2.1) a0 (c6_0, c6_1) [] [])) <|
ww (m_slicesBinarySearchintintq1_ok n (c4_.2.2.2.2.2.2.1) a0 (c6_0, c6_1) hc6) <|
yy 47 (vf) <|
ww (p := (Value.bool (!c6_1)) = (Value.bool false)) (vBn hc7) <|
zz 52 (xk12 (Nat.add ((c4_.2.2.2.2.2.2.1)).num 64) ((c4_.2.2.2.2.2.2.1)).cap hc8) <|
zz 53 (nk13 hc10 hc9) <|
zz 58 (xk4 1 Args.cB hc11) <|
zz 59 (fk20 ((c10_).toNat * 8)) <|
zz 60 (lk21 hc12 (toNatLt hc11)) <|
ww (p := LG P none (fnN P 17) 0 (codeOf P 17 [false, false, false, true, true, true, true]) (S_treePathq1_1 a0 (c10_, [(c4_.1), (c12_.1)])) (X_treePathq1_1 a0 c13_)) (m_treePathq1_1_ok n a0 (c10_, [(c4_.1), (c12_.1)]) c13_ hc13) <|
ww (iv_flat c13_ 3) <|
ee) (by kernel_rfl)
theorem p_treePathq1_2 (n : Nat) (a0 : Int) (c1_ : Bool) (hc1 : m_treehasq1 n a0 = some c1_) (hc2 : c1_ = true) (hc3 : 0 ≤ (0 : Int) ∧ (0 : Int) < (((Args.B).length : Nat) : Int)) (c4_ : Int × Int × Int × Int × Int × Int × NL × Int) (hc4 : (some ((Args.B).getD ((0 : Int)).toNat (0, 0, 0, 0, 0, 0, nl0, 0))) = some c4_) (hc5 : ¬ ((0 : Int) = a0)) (c6_0 : Int) (c6_1 : Bool) (hc6 : m_slicesBinarySearchintintq1 n (c4_.2.2.2.2.2.2.1) a0 = some (c6_0, c6_1)) (hc7 : ¬ (c6_1 = true)) (hc8 : 0 ≤ (w64 (c6_0 - (1 : Int))) ∧ (w64 (c6_0 - (1 : Int))) < ((((c4_.2.2.2.2.2.2.1)).l.length : Nat) : Int)) (hc9 : ((w64 (c6_0 - (1 : Int)))).toNat < (((c4_.2.2.2.2.2.2.1)).l).length) (c10_ : Int) (hc10 : (some ((((c4_.2.2.2.2.2.2.1)).l).getD ((w64 (c6_0 - (1 : Int)))).toNat 0)) = some c10_) (hc11 : 0 ≤ c10_ ∧ c10_ < (((Args.B).length : Nat) : Int)) (c12_ : Int × Int × Int × Int × Int × Int × NL × Int) (hc12 : (some ((Args.B).getD (c10_).toNat (0, 0, 0, 0, 0, 0, nl0, 0))) = some c12_) (c13_ : List Int) (hc13 : m_treePathq1_1 n a0 (c10_, [(c4_.1), (c12_.1)]) = some c13_) : G_treePathq1 a0 (c13_, (Nat.add big 1)) :=
 runF2 hm (L := lT [(67, ⟨⟨[0, 1, 5, 6], [(0, 2, false)], 1, 0⟩, (X_treePathq1_1 a0 c13_).1, (X_treePathq1_1 a0 c13_).2⟩)]) ⟨[4], [(0, 0, true)], 1, 0⟩ (yy 6 (.call (C_treehasq1 a0 c1_ [] [])) <|
ww (m_treehasq1_ok n a0 c1_ hc1) <|
yy 7 (vf) <|
ww (p := (Value.bool (!c1_)) = (Value.bool false)) (vBn hc2) <|
zz 13 (xk4 1 Args.cB hc3) <|
zz 14 (fk20 (((0 : Int)).toNat * 8)) <|
zz 15 (lk21 hc4 (toNatLt hc3)) <|
zz 25 (xnT hc5) <|
zz 31 (xk4 1 Args.cB hc3) <|
zz 32 (fk10 (((0 : Int)).toNat * 8)) <|
zz 33 (lk11 hc4 (toNatLt hc3)) <|
yy 38 (.call (C_slicesBinarySearchintintq1 (c4_.2.2.2.2.2.2.1) a0 (c6_0, c6_1) [] [])) <|
ww (m_slicesBinarySearchintintq1_ok n (c4_.2.2.2.2.2.2.1) a0 (c6_0, c6_1) hc6) <|
yy 47 (vt) <|
ww (p := (Value.bool (!c6_1)) = (Value.bool true)) (vBn (Bool.eq_false_iff.2 hc7)) <|
zz 55 (xk12 (Nat.add ((c4_.2.2.2.2.2.2.1)).num 64) ((c4_.2.2.2.2.2.2.1)).cap hc8) <|
zz 56 (nk13 hc10 hc9) <|
zz 61 (xk4 1 Args.cB hc11) <|
zz 62 (fk20 ((c10_).toNat * 8)) <|
zz 63 (lk21 hc12 (toNatLt hc11)) <|
ww (p := LG P none (fnN P 17) 0 (codeOf P 17 [false, false, false, true, true, true, true]) (S_treePathq1_1 a0 (c10_, [(c4_.1), (c12_.1)])) (X_treePathq1_1 a0 c13_)) (m_treePathq1_1_ok n a0 (c10_, [(c4_.1), (c12_.1)]) c13_ hc13) <|
ww (iv_flat c13_ 3) <|
ee) (by kernel_rfl)
theorem m_treePathq1_ok (n : Nat) (a0 : Int) (r : List Int × Nat) (h : m_treePathq1 n a0 = some r) : Gv P (.func 17) (A_treePathq1 a0) (H_treePathq1 a0) (V_treePathq1 a0 r) (R_treePathq1 a0 r) := by
 unfold m_treePathq1 at h
 obtain ⟨c1_, hc1, h⟩ := Option.bind_eq_some_iff.1 h
 by_cases hc2 : c1_ = true
 ·rw [if_pos hc2] at h
  by_cases hc3 : 0 ≤ (0 : Int) ∧ (0 : Int) < (((Args.B).length : Nat) : Int)
  ·rw [if_pos hc3] at h
   obtain ⟨c4_, hc4, h⟩ := Option.bind_eq_some_iff.1 h
   by_cases hc5 : (0 : Int) = a0
   ·rw [if_pos hc5] at h
    obtain rfl := Option.some.inj h; exact p_treePathq1_0 n a0 c1_ hc1 hc2 hc3 c4_ hc4 hc5
   ·rw [if_neg hc5] at h
    obtain ⟨⟨c6_0, c6_1⟩, hc6, h⟩ := Option.bind_eq_some_iff.1 h
    dsimp only at h
    by_cases hc7 : c6_1 = true
    ·rw [if_pos hc7] at h
     by_cases hc8 : 0 ≤ c6_0 ∧ c6_0 < ((((c4_.2.2.2.2.2.2.1)).l.length : Nat) : Int)
     ·rw [if_pos hc8] at h
      by_cases hc9 : (c6_0).toNat < (((c4_.2.2.2.2.2.2.1)).l).length
      ·rw [if_pos hc9] at h
       obtain ⟨c10_, hc10, h⟩ := Option.bind_eq_some_iff.1 h
       by_cases hc11 : 0 ≤ c10_ ∧ c10_ < (((Args.B).length : Nat) : Int)
       ·rw [if_pos hc11] at h
        obtain ⟨c12_, hc12, h⟩ := Option.bind_eq_some_iff.1 h
        obtain ⟨c13_, hc13, h⟩ := Option.bind_eq_some_iff.1 h
        obtain rfl := Option.some.inj h; exact p_treePathq1_1 n a0 c1_ hc1 hc2 hc3 c4_ hc4 hc5 c6_0 c6_1 hc6 hc7 hc8 hc9 c10_ hc10 hc11 c12_ hc12 c13_ hc13
       ·rw [if_neg hc11] at h; cases h
      ·rw [if_neg hc9] at h; cases h
     ·rw [if_neg hc8] at h; cases h
    ·rw [if_neg hc7] at h
     by_cases hc8 : 0 ≤ (w64 (c6_0 - (1 : Int))) ∧ (w64 (c6_0 - (1 : Int))) < ((((c4_.2.2.2.2.2.2.1)).l.length : Nat) : Int)
     ·rw [if_pos hc8] at h
      by_cases hc9 : ((w64 (c6_0 - (1 : Int)))).toNat < (((c4_.2.2.2.2.2.2.1)).l).length
      ·rw [if_pos hc9] at h
       obtain ⟨c10_, hc10, h⟩ := Option.bind_eq_some_iff.1 h
       by_cases hc11 : 0 ≤ c10_ ∧ c10_ < (((Args.B).length : Nat) : Int)
       ·rw [if_pos hc11] at h
        obtain ⟨c12_, hc12, h⟩ := Option.bind_eq_some_iff.1 h
        obtain ⟨c13_, hc13, h⟩ := Option.bind_eq_some_iff.1 h
        obtain rfl := Option.some.inj h; exact p_treePathq1_2 n a0 c1_ hc1 hc2 hc3 c4_ hc4 hc5 c6_0 c6_1 hc6 hc7 hc8 hc9 c10_ hc10 hc11 c12_ hc12 c13_ hc13
       ·rw [if_neg hc11] at h; cases h
      ·rw [if_neg hc9] at h; cases h
     ·rw [if_neg hc8] at h; cases h
  ·rw [if_neg hc3] at h; cases h
 ·rw [if_neg hc2] at h
  cases h

noncomputable def A_slicesValuesapiStyleq1 : List Value := [(sW 0 0 (Args.A).length Args.cA)]
noncomputable def H_slicesValuesapiStyleq1 : AH := ⟨sB [], 0, 0⟩
noncomputable def V_slicesValuesapiStyleq1 (r : Unit) : Value := match r with
 | _ => (Value.func (.func 27) #[] #[(pN 0 0)])
noncomputable def R_slicesValuesapiStyleq1 (r : Unit) : AH := match r with
 | _ => ⟨sB [(0, (some (.cells (layT [(sW 0 0 (Args.A).length Args.cA)]) 22)))], 1, 0⟩
noncomputable abbrev G_slicesValuesapiStyleq1 (r : Unit) : Prop := Gv P (.func 21) A_slicesValuesapiStyleq1 H_slicesValuesapiStyleq1 (V_slicesValuesapiStyleq1  r) (R_slicesValuesapiStyleq1  r)
noncomputable abbrev C_slicesValuesapiStyleq1 (r : Unit) (ins outs : BL) : CallA := ⟨0, ins, V_slicesValuesapiStyleq1  r, R_slicesValuesapiStyleq1  r, outs⟩
def m_slicesValuesapiStyleq1 (n : Nat) : Option (Unit) :=
 some ()
theorem p_slicesValuesapiStyleq1_0 (n : Nat)  : G_slicesValuesapiStyleq1  () :=
 runF2 hm (L := lT []) ⟨[2], [(0, 0, false)], 1, 0⟩ (ee) (by kernel_rfl)
theorem m_slicesValuesapiStyleq1_ok (n : Nat) (r : Unit) (h : m_slicesValuesapiStyleq1 n = some r) : Gv P (.func 21) A_slicesValuesapiStyleq1 H_slicesValuesapiStyleq1 (V_slicesValuesapiStyleq1  r) (R_slicesValuesapiStyleq1  r) := by
 unfold m_slicesValuesapiStyleq1 at h
 obtain rfl := Option.some.inj h; exact p_slicesValuesapiStyleq1_0 n

noncomputable def A_slicesEqualintintq1 (a0 : List Int) (a1 : Nat) (a2 : Nat) (a3 : NL) : List Value := [(sN 0 0 a1 a2), (nlV a3)]
noncomputable def H_slicesEqualintintq1 (a0 : List Int) (a1 : Nat) (a2 : Nat) (a3 : NL) : AH := ⟨sB [(0, (some (.cells (layT (iv a0)) 3)))], 1, 1⟩
noncomputable def V_slicesEqualintintq1 (a0 : List Int) (a1 : Nat) (a2 : Nat) (a3 : NL) (r : Bool) : Value := match r with
 | o0 => (bO o0)
noncomputable def R_slicesEqualintintq1 (a0 : List Int) (a1 : Nat) (a2 : Nat) (a3 : NL) (r : Bool) : AH := match r with
 | o0 => ⟨sB [], 1, 1⟩
noncomputable abbrev G_slicesEqualintintq1 (a0 : List Int) (a1 : Nat) (a2 : Nat) (a3 : NL) (r : Bool) : Prop := Gv P (.func 32) (A_slicesEqualintintq1 a0 a1 a2 a3) (H_slicesEqualintintq1 a0 a1 a2 a3) (V_slicesEqualintintq1 a0 a1 a2 a3 r) (R_slicesEqualintintq1 a0 a1 a2 a3 r)
noncomputable abbrev C_slicesEqualintintq1 (a0 : List Int) (a1 : Nat) (a2 : Nat) (a3 : NL) (r : Bool) (ins outs : BL) : CallA := ⟨1, ins, V_slicesEqualintintq1 a0 a1 a2 a3 r, R_slicesEqualintintq1 a0 a1 a2 a3 r, outs⟩
noncomputable def S_slicesEqualintintq1_1 (x1_0 : List Int) (x1_1 : Nat) (x1_2 : Nat) (x1_3 : NL) (x1_4 : Int) (st : Int) : XSt := match st with
 | x1_5 => (sT 26 [(0, (sN 0 0 x1_1 x1_2)), (1, (nlV x1_3)), (12, (i6 x1_4)), (13, (i6 x1_5))], [], ⟨sB [(0, (some (.cells (layT (iv x1_0)) 3)))], 1, 1⟩)
noncomputable def X_slicesEqualintintq1_1 (x1_0 : List Int) (x1_1 : Nat) (x1_2 : Nat) (x1_3 : NL) (x1_4 : Int) (r : (Unit) ⊕ (Unit)) : Ex × XSt := match r with
 | .inl _ => (.ret, (sT 26 [(4, (bO false))], [], ⟨sB [(0, (some (.cells (layT (iv x1_0)) 3)))], 1, 1⟩))
 | .inr _ => (.exit 0, (sT 26 [], [], ⟨sB [(0, (some (.cells (layT (iv x1_0)) 3)))], 1, 1⟩))
noncomputable abbrev Q_slicesEqualintintq1_1 (rnd : Option Nat) (x1_0 : List Int) (x1_1 : Nat) (x1_2 : Nat) (x1_3 : NL) (x1_4 : Int) (st : Int) (c : Ex × XSt) : Prop := CG P rnd (fnN P 32) 1 (codeOf P 32 [false, false, true, false, true, true]) (S_slicesEqualintintq1_1 x1_0 x1_1 x1_2 x1_3 x1_4 st) c
noncomputable abbrev U_slicesEqualintintq1_1 (rd : Option Nat) (x1_0 : List Int) (x1_1 : Nat) (x1_2 : Nat) (x1_3 : NL) (x1_4 : Int) (st : Int) (r : (Unit) ⊕ (Unit)) : Prop := CG P rd (fnN P 32) 1 (codeOf P 32 [false, true, false, true, true]) (S_slicesEqualintintq1_1 x1_0 x1_1 x1_2 x1_3 x1_4 st) (X_slicesEqualintintq1_1 x1_0 x1_1 x1_2 x1_3 x1_4 r)
def B_slicesEqualintintq1_1 (n : Nat) (x1_0 : List Int) (x1_1 : Nat) (x1_2 : Nat) (x1_3 : NL) (x1_4 : Int) (st : Int) : Option ((Int) ⊕ ((Unit) ⊕ (Unit))) := match st with
 | x1_5 =>
  if x1_5 < x1_4 then
   if 0 ≤ x1_5 ∧ x1_5 < ((x1_1 : Nat) : Int) then
    if (x1_5).toNat < (x1_0).length then
     ((some ((x1_0).getD (x1_5).toNat 0))).bind fun y1_4_ =>
     if 0 ≤ x1_5 ∧ x1_5 < (((x1_3).l.length : Nat) : Int) then
      if (x1_5).toNat < ((x1_3).l).length then
       ((some (((x1_3).l).getD (x1_5).toNat 0))).bind fun y1_7_ =>
       if y1_4_ = y1_7_ then
        some (.inl (w64 (x1_5 + (1 : Int))))
       else
        some (.inr (.inl ()))
      else none
     else none
    else none
   else none
  else
   some (.inr (.inr ()))
def m_slicesEqualintintq1_1 (n : Nat) (x1_0 : List Int) (x1_1 : Nat) (x1_2 : Nat) (x1_3 : NL) (x1_4 : Int) (st : Int) : Option ((Unit) ⊕ (Unit)) := iterM (B_slicesEqualintintq1_1 n x1_0 x1_1 x1_2 x1_3 x1_4) n st
theorem q_slicesEqualintintq1_1_0 (n : Nat) {rnd : Option Nat} (x1_0 : List Int) (x1_1 x1_2 : Nat) (x1_3 : NL) (x1_4 x1_5 : Int) (hy1_1 : x1_5 < x1_4) (hy1_2 : 0 ≤ x1_5 ∧ x1_5 < ((x1_1 : Nat) : Int)) (hy1_3 : (x1_5).toNat < (x1_0).length) (y1_4_ : Int) (hy1_4 : (some ((x1_0).getD (x1_5).toNat 0)) = some y1_4_) (hy1_5 : 0 ≤ x1_5 ∧ x1_5 < (((x1_3).l.length : Nat) : Int)) (hy1_6 : (x1_5).toNat < ((x1_3).l).length) (y1_7_ : Int) (hy1_7 : (some (((x1_3).l).getD (x1_5).toNat 0)) = some y1_7_) (hy1_8 : y1_4_ = y1_7_) : Q_slicesEqualintintq1_1 rnd x1_0 x1_1 x1_2 x1_3 x1_4 x1_5 (.normal, S_slicesEqualintintq1_1 x1_0 x1_1 x1_2 x1_3 x1_4 (w64 (x1_5 + (1 : Int)))) :=
 runC2 hm (L := lT []) ⟨[0, 1, 12, 13], [(0, 0, true)], 1, 1⟩ (zz 1 (xdT hy1_1) <|
zz 12 (xk23 0 x1_2 hy1_2) <|
zz 13 (xivN hy1_4 hy1_3) <|
zz 16 (xk12 (Nat.add (x1_3).num 64) (x1_3).cap hy1_5) <|
zz 17 (nk13 hy1_7 hy1_6) <|
zz 18 (xnF hy1_8) <|
ww (iv_flat x1_0 3) <|
ee) (by kernel_rfl)
theorem q_slicesEqualintintq1_1_1 (n : Nat) {rnd : Option Nat} (x1_0 : List Int) (x1_1 x1_2 : Nat) (x1_3 : NL) (x1_4 x1_5 : Int) (hy1_1 : x1_5 < x1_4) (hy1_2 : 0 ≤ x1_5 ∧ x1_5 < ((x1_1 : Nat) : Int)) (hy1_3 : (x1_5).toNat < (x1_0).length) (y1_4_ : Int) (hy1_4 : (some ((x1_0).getD (x1_5).toNat 0)) = some y1_4_) (hy1_5 : 0 ≤ x1_5 ∧ x1_5 < (((x1_3).l.length : Nat) : Int)) (hy1_6 : (x1_5).toNat < ((x1_3).l).length) (y1_7_ : Int) (hy1_7 : (some (((x1_3).l).getD (x1_5).toNat 0)) = some y1_7_) (hy1_8 : ¬ (y1_4_ = y1_7_)) : Q_slicesEqualintintq1_1 rnd x1_0 x1_1 x1_2 x1_3 x1_4 x1_5 (X_slicesEqualintintq1_1 x1_0 x1_1 x1_2 x1_3 x1_4 (.inl ())) :=
 runC2 hm (L := lT []) ⟨[4], [(0, 0, true)], 1, 1⟩ (zz 1 (xdT hy1_1) <|
zz 12 (xk23 0 x1_2 hy1_2) <|
zz 13 (xivN hy1_4 hy1_3) <|
zz 16 (xk12 (Nat.add (x1_3).num 64) (x1_3).cap hy1_5) <|
zz 17 (nk13 hy1_7 hy1_6) <|
zz 18 (xnT hy1_8) <|
ww (iv_flat x1_0 3) <|
ee) (by kernel_rfl)
theorem q_slicesEqualintintq1_1_2 (n : Nat) {rnd : Option Nat} (x1_0 : List Int) (x1_1 x1_2 : Nat) (x1_3 : NL) (x1_4 x1_5 : Int) (hy1_1 : ¬ (x1_5 < x1_4)) : Q_slicesEqualintintq1_1 rnd x1_0 x1_1 x1_2 x1_3 x1_4 x1_5 (X_slicesEqualintintq1_1 x1_0 x1_1 x1_2 x1_3 x1_4 (.inr ())) :=
 runC2 hm (L := lT []) ⟨[], [(0, 0, true)], 1, 1⟩ (zz 1 (xdF hy1_1) <|
ww (iv_flat x1_0 3) <|
ee) (by kernel_rfl)
theorem m_slicesEqualintintq1_1_ok (n : Nat) {rnd : Option Nat} (x1_0 : List Int) (x1_1 : Nat) (x1_2 : Nat) (x1_3 : NL) (x1_4 : Int) (st : Int) (r : (Unit) ⊕ (Unit)) (h : m_slicesEqualintintq1_1 n x1_0 x1_1 x1_2 x1_3 x1_4 st = some r) : CG P rnd (fnN P 32) 1 (codeOf P 32 [false, true, false, true, true]) (S_slicesEqualintintq1_1 x1_0 x1_1 x1_2 x1_3 x1_4 st) (X_slicesEqualintintq1_1 x1_0 x1_1 x1_2 x1_3 x1_4 r) :=
 CG.iter (b := codeOf P 32 [false, false, true, false, true, true]) (by kernel_rfl) (body := B_slicesEqualintintq1_1 n x1_0 x1_1 x1_2 x1_3 x1_4) (S := S_slicesEqualintintq1_1 x1_0 x1_1 x1_2 x1_3 x1_4) (X := X_slicesEqualintintq1_1 x1_0 x1_1 x1_2 x1_3 x1_4)
  (fun x1_5 s' h => by
  unfold B_slicesEqualintintq1_1 at h
  dsimp only at h
  by_cases hy1_1 : x1_5 < x1_4
  ·rw [if_pos hy1_1] at h
   by_cases hy1_2 : 0 ≤ x1_5 ∧ x1_5 < ((x1_1 : Nat) : Int)
   ·rw [if_pos hy1_2] at h
    by_cases hy1_3 : (x1_5).toNat < (x1_0).length
    ·rw [if_pos hy1_3] at h
     obtain ⟨y1_4_, hy1_4, h⟩ := Option.bind_eq_some_iff.1 h
     by_cases hy1_5 : 0 ≤ x1_5 ∧ x1_5 < (((x1_3).l.length : Nat) : Int)
     ·rw [if_pos hy1_5] at h
      by_cases hy1_6 : (x1_5).toNat < ((x1_3).l).length
      ·rw [if_pos hy1_6] at h
       obtain ⟨y1_7_, hy1_7, h⟩ := Option.bind_eq_some_iff.1 h
       by_cases hy1_8 : y1_4_ = y1_7_
       ·rw [if_pos hy1_8] at h
        obtain rfl := Sum.inl.inj (Option.some.inj h); exact q_slicesEqualintintq1_1_0 n x1_0 x1_1 x1_2 x1_3 x1_4 x1_5 hy1_1 hy1_2 hy1_3 y1_4_ hy1_4 hy1_5 hy1_6 y1_7_ hy1_7 hy1_8
       ·rw [if_neg hy1_8] at h
        cases h
      ·rw [if_neg hy1_6] at h; cases h
     ·rw [if_neg hy1_5] at h; cases h
    ·rw [if_neg hy1_3] at h; cases h
   ·rw [if_neg hy1_2] at h; cases h
  ·rw [if_neg hy1_1] at h
   cases h)
  (fun x1_5 r h => by
  unfold B_slicesEqualintintq1_1 at h
  dsimp only at h
  by_cases hy1_1 : x1_5 < x1_4
  ·rw [if_pos hy1_1] at h
   by_cases hy1_2 : 0 ≤ x1_5 ∧ x1_5 < ((x1_1 : Nat) : Int)
   ·rw [if_pos hy1_2] at h
    by_cases hy1_3 : (x1_5).toNat < (x1_0).length
    ·rw [if_pos hy1_3] at h
     obtain ⟨y1_4_, hy1_4, h⟩ := Option.bind_eq_some_iff.1 h
     by_cases hy1_5 : 0 ≤ x1_5 ∧ x1_5 < (((x1_3).l.length : Nat) : Int)
     ·rw [if_pos hy1_5] at h
      by_cases hy1_6 : (x1_5).toNat < ((x1_3).l).length
      ·rw [if_pos hy1_6] at h
       obtain ⟨y1_7_, hy1_7, h⟩ := Option.bind_eq_some_iff.1 h
       by_cases hy1_8 : y1_4_ = y1_7_
       ·rw [if_pos hy1_8] at h
        cases h
       ·rw [if_neg hy1_8] at h
        obtain rfl := Sum.inr.inj (Option.some.inj h); exact q_slicesEqualintintq1_1_1 n x1_0 x1_1 x1_2 x1_3 x1_4 x1_5 hy1_1 hy1_2 hy1_3 y1_4_ hy1_4 hy1_5 hy1_6 y1_7_ hy1_7 hy1_8
      ·rw [if_neg hy1_6] at h; cases h
     ·rw [if_neg hy1_5] at h; cases h
    ·rw [if_neg hy1_3] at h; cases h
   ·rw [if_neg hy1_2] at h; cases h
  ·rw [if_neg hy1_1] at h
   obtain rfl := Sum.inr.inj (Option.some.inj h); exact q_slicesEqualintintq1_1_2 n x1_0 x1_1 x1_2 x1_3 x1_4 x1_5 hy1_1)
  (fun r => by intro hx; rcases r with _ | _ <;> cases hx) h
def m_slicesEqualintintq1 (n : Nat) (a0 : List Int) (a1 : Nat) (a2 : Nat) (a3 : NL) : Option (Bool) :=
 if ((a1 : Nat) : Int) = (((a3).l.length : Nat) : Int) then
  match m_slicesEqualintintq1_1 n a0 a1 a2 a3 ((a1 : Nat) : Int) 0 with
  | none => none
  | some (.inl _) =>
   some false
  | some (.inr _) =>
   some true
 else
  some false
theorem p_slicesEqualintintq1_0 (n : Nat) (a0 : List Int) (a1 a2 : Nat) (a3 : NL) (hc1 : ((a1 : Nat) : Int) = (((a3).l.length : Nat) : Int)) (hc2 : m_slicesEqualintintq1_1 n a0 a1 a2 a3 ((a1 : Nat) : Int) 0 = some (.inl ())) : G_slicesEqualintintq1 a0 a1 a2 a3 false :=
 runF2 hm (L := lT [(16, ⟨⟨[0, 1, 12, 13], [(0, 0, true)], 1, 1⟩, (X_slicesEqualintintq1_1 a0 a1 a2 a3 ((a1 : Nat) : Int) (.inl ())).1, (X_slicesEqualintintq1_1 a0 a1 a2 a3 ((a1 : Nat) : Int) (.inl ())).2⟩)]) ⟨[4], [], 1, 1⟩ (zz 8 (xnF hc1) <|
ww (p := U_slicesEqualintintq1_1 none a0 a1 a2 a3 ((a1 : Nat) : Int) 0 (.inl ())) (m_slicesEqualintintq1_1_ok n a0 a1 a2 a3 ((a1 : Nat) : Int) 0 (.inl ()) hc2) <|
ww (iv_flat a0 3) <|
ee) (by kernel_rfl)
theorem p_slicesEqualintintq1_1 (n : Nat) (a0 : List Int) (a1 a2 : Nat) (a3 : NL) (hc1 : ((a1 : Nat) : Int) = (((a3).l.length : Nat) : Int)) (hc2 : m_slicesEqualintintq1_1 n a0 a1 a2 a3 ((a1 : Nat) : Int) 0 = some (.inr ())) : G_slicesEqualintintq1 a0 a1 a2 a3 true :=
 runF2 hm (L := lT [(16, ⟨⟨[0, 1, 12, 13], [(0, 0, true)], 1, 1⟩, (X_slicesEqualintintq1_1 a0 a1 a2 a3 ((a1 : Nat) : Int) (.inr ())).1, (X_slicesEqualintintq1_1 a0 a1 a2 a3 ((a1 : Nat) : Int) (.inr ())).2⟩)]) ⟨[4], [], 1, 1⟩ (zz 8 (xnF hc1) <|
ww (p := U_slicesEqualintintq1_1 none a0 a1 a2 a3 ((a1 : Nat) : Int) 0 (.inr ())) (m_slicesEqualintintq1_1_ok n a0 a1 a2 a3 ((a1 : Nat) : Int) 0 (.inr ()) hc2) <|
ww (iv_flat a0 3) <|
ee) (by kernel_rfl)
theorem p_slicesEqualintintq1_2 (n : Nat) (a0 : List Int) (a1 a2 : Nat) (a3 : NL) (hc1 : ¬ (((a1 : Nat) : Int) = (((a3).l.length : Nat) : Int))) : G_slicesEqualintintq1 a0 a1 a2 a3 false :=
 runF2 hm (L := lT []) ⟨[4], [], 1, 1⟩ (zz 8 (xnT hc1) <|
ee) (by kernel_rfl)
theorem m_slicesEqualintintq1_ok (n : Nat) (a0 : List Int) (a1 : Nat) (a2 : Nat) (a3 : NL) (r : Bool) (h : m_slicesEqualintintq1 n a0 a1 a2 a3 = some r) : Gv P (.func 32) (A_slicesEqualintintq1 a0 a1 a2 a3) (H_slicesEqualintintq1 a0 a1 a2 a3) (V_slicesEqualintintq1 a0 a1 a2 a3 r) (R_slicesEqualintintq1 a0 a1 a2 a3 r) := by
 unfold m_slicesEqualintintq1 at h
 by_cases hc1 : ((a1 : Nat) : Int) = (((a3).l.length : Nat) : Int)
 ·rw [if_pos hc1] at h
  rcases hc2 : m_slicesEqualintintq1_1 n a0 a1 a2 a3 ((a1 : Nat) : Int) 0 with _ | (⟨⟩ | ⟨⟩)
  ·rw [hc2] at h; cases h
  ·rw [hc2] at h
   dsimp only at h
   obtain rfl := Option.some.inj h; exact p_slicesEqualintintq1_0 n a0 a1 a2 a3 hc1 hc2
  ·rw [hc2] at h
   dsimp only at h
   obtain rfl := Option.some.inj h; exact p_slicesEqualintintq1_1 n a0 a1 a2 a3 hc1 hc2
 ·rw [if_neg hc1] at h
  obtain rfl := Option.some.inj h; exact p_slicesEqualintintq1_2 n a0 a1 a2 a3 hc1

noncomputable def A_slicesEqualintintq2 (a0 : List Int) (a1 : Nat) (a2 : Nat) (a3 : Nat) (a4 : NL) : List Value := [(sN 0 (a1 * 1) a2 a3), (nlV a4)]
noncomputable def H_slicesEqualintintq2 (a0 : List Int) (a1 : Nat) (a2 : Nat) (a3 : Nat) (a4 : NL) : AH := ⟨sB [(0, (some (.cells (layT (iv a0)) 3)))], 1, 1⟩
noncomputable def V_slicesEqualintintq2 (a0 : List Int) (a1 : Nat) (a2 : Nat) (a3 : Nat) (a4 : NL) (r : Bool) : Value := match r with
 | o0 => (bO o0)
noncomputable def R_slicesEqualintintq2 (a0 : List Int) (a1 : Nat) (a2 : Nat) (a3 : Nat) (a4 : NL) (r : Bool) : AH := match r with
 | o0 => ⟨sB [], 1, 1⟩
noncomputable abbrev G_slicesEqualintintq2 (a0 : List Int) (a1 : Nat) (a2 : Nat) (a3 : Nat) (a4 : NL) (r : Bool) : Prop := Gv P (.func 32) (A_slicesEqualintintq2 a0 a1 a2 a3 a4) (H_slicesEqualintintq2 a0 a1 a2 a3 a4) (V_slicesEqualintintq2 a0 a1 a2 a3 a4 r) (R_slicesEqualintintq2 a0 a1 a2 a3 a4 r)
noncomputable abbrev C_slicesEqualintintq2 (a0 : List Int) (a1 : Nat) (a2 : Nat) (a3 : Nat) (a4 : NL) (r : Bool) (ins outs : BL) : CallA := ⟨1, ins, V_slicesEqualintintq2 a0 a1 a2 a3 a4 r, R_slicesEqualintintq2 a0 a1 a2 a3 a4 r, outs⟩
noncomputable def S_slicesEqualintintq2_1 (x1_0 : List Int) (x1_1 : Nat) (x1_2 : Nat) (x1_3 : Nat) (x1_4 : NL) (x1_5 : Int) (st : Int) : XSt := match st with
 | x1_6 => (sT 26 [(0, (sN 0 (x1_1 * 1) x1_2 x1_3)), (1, (nlV x1_4)), (12, (i6 x1_5)), (13, (i6 x1_6))], [], ⟨sB [(0, (some (.cells (layT (iv x1_0)) 3)))], 1, 1⟩)
noncomputable def X_slicesEqualintintq2_1 (x1_0 : List Int) (x1_1 : Nat) (x1_2 : Nat) (x1_3 : Nat) (x1_4 : NL) (x1_5 : Int) (r : (Unit) ⊕ (Unit)) : Ex × XSt := match r with
 | .inl _ => (.ret, (sT 26 [(4, (bO false))], [], ⟨sB [(0, (some (.cells (layT (iv x1_0)) 3)))], 1, 1⟩))
 | .inr _ => (.exit 0, (sT 26 [], [], ⟨sB [(0, (some (.cells (layT (iv x1_0)) 3)))], 1, 1⟩))
noncomputable abbrev Q_slicesEqualintintq2_1 (rnd : Option Nat) (x1_0 : List Int) (x1_1 : Nat) (x1_2 : Nat) (x1_3 : Nat) (x1_4 : NL) (x1_5 : Int) (st : Int) (c : Ex × XSt) : Prop := CG P rnd (fnN P 32) 1 (codeOf P 32 [false, false, true, false, true, true]) (S_slicesEqualintintq2_1 x1_0 x1_1 x1_2 x1_3 x1_4 x1_5 st) c
noncomputable abbrev U_slicesEqualintintq2_1 (rd : Option Nat) (x1_0 : List Int) (x1_1 : Nat) (x1_2 : Nat) (x1_3 : Nat) (x1_4 : NL) (x1_5 : Int) (st : Int) (r : (Unit) ⊕ (Unit)) : Prop := CG P rd (fnN P 32) 1 (codeOf P 32 [false, true, false, true, true]) (S_slicesEqualintintq2_1 x1_0 x1_1 x1_2 x1_3 x1_4 x1_5 st) (X_slicesEqualintintq2_1 x1_0 x1_1 x1_2 x1_3 x1_4 x1_5 r)
def B_slicesEqualintintq2_1 (n : Nat) (x1_0 : List Int) (x1_1 : Nat) (x1_2 : Nat) (x1_3 : Nat) (x1_4 : NL) (x1_5 : Int) (st : Int) : Option ((Int) ⊕ ((Unit) ⊕ (Unit))) := match st with
 | x1_6 =>
  if x1_6 < x1_5 then
   if 0 ≤ x1_6 ∧ x1_6 < ((x1_2 : Nat) : Int) then
    if ((x1_1 + (x1_6).toNat) * 1) < (x1_0).length then
     ((some ((x1_0).getD ((x1_1 + (x1_6).toNat) * 1) 0))).bind fun y1_4_ =>
     if 0 ≤ x1_6 ∧ x1_6 < (((x1_4).l.length : Nat) : Int) then
      if (x1_6).toNat < ((x1_4).l).length then
       ((some (((x1_4).l).getD (x1_6).toNat 0))).bind fun y1_7_ =>
       if y1_4_ = y1_7_ then
        some (.inl (w64 (x1_6 + (1 : Int))))
       else
        some (.inr (.inl ()))
      else none
     else none
    else none
   else none
  else
   some (.inr (.inr ()))
def m_slicesEqualintintq2_1 (n : Nat) (x1_0 : List Int) (x1_1 : Nat) (x1_2 : Nat) (x1_3 : Nat) (x1_4 : NL) (x1_5 : Int) (st : Int) : Option ((Unit) ⊕ (Unit)) := iterM (B_slicesEqualintintq2_1 n x1_0 x1_1 x1_2 x1_3 x1_4 x1_5) n st
theorem q_slicesEqualintintq2_1_0 (n : Nat) {rnd : Option Nat} (x1_0 : List Int) (x1_1 x1_2 x1_3 : Nat) (x1_4 : NL) (x1_5 x1_6 : Int) (hy1_1 : x1_6 < x1_5) (hy1_2 : 0 ≤ x1_6 ∧ x1_6 < ((x1_2 : Nat) : Int)) (hy1_3 : ((x1_1 + (x1_6).toNat) * 1) < (x1_0).length) (y1_4_ : Int) (hy1_4 : (some ((x1_0).getD ((x1_1 + (x1_6).toNat) * 1) 0)) = some y1_4_) (hy1_5 : 0 ≤ x1_6 ∧ x1_6 < (((x1_4).l.length : Nat) : Int)) (hy1_6 : (x1_6).toNat < ((x1_4).l).length) (y1_7_ : Int) (hy1_7 : (some (((x1_4).l).getD (x1_6).toNat 0)) = some y1_7_) (hy1_8 : y1_4_ = y1_7_) : Q_slicesEqualintintq2_1 rnd x1_0 x1_1 x1_2 x1_3 x1_4 x1_5 x1_6 (.normal, S_slicesEqualintintq2_1 x1_0 x1_1 x1_2 x1_3 x1_4 x1_5 (w64 (x1_6 + (1 : Int)))) :=
 runC2 hm (L := lT []) ⟨[0, 1, 12, 13], [(0, 0, true)], 1, 1⟩ (zz 1 (xdT hy1_1) <|
yy 12 (.pur (pN 0 ((x1_1 + (x1_6).toNat) * 1))) <|
ww (p := opIndexAddr P 30 (sN 0 (x1_1 * 1) x1_2 x1_3) (i6 x1_6) Ax.h0 = some ((pN 0 ((x1_1 + (x1_6).toNat) * 1)), Ax.h0)) (ixSO (e := 3) (es := 1) x1_1 (by kernel_rfl) (by kernel_rfl) hy1_2) <|
zz 13 (xivN hy1_4 hy1_3) <|
zz 16 (xk12 (Nat.add (x1_4).num 64) (x1_4).cap hy1_5) <|
zz 17 (nk13 hy1_7 hy1_6) <|
zz 18 (xnF hy1_8) <|
ww (iv_flat x1_0 3) <|
ee) (by kernel_rfl)
theorem q_slicesEqualintintq2_1_1 (n : Nat) {rnd : Option Nat} (x1_0 : List Int) (x1_1 x1_2 x1_3 : Nat) (x1_4 : NL) (x1_5 x1_6 : Int) (hy1_1 : x1_6 < x1_5) (hy1_2 : 0 ≤ x1_6 ∧ x1_6 < ((x1_2 : Nat) : Int)) (hy1_3 : ((x1_1 + (x1_6).toNat) * 1) < (x1_0).length) (y1_4_ : Int) (hy1_4 : (some ((x1_0).getD ((x1_1 + (x1_6).toNat) * 1) 0)) = some y1_4_) (hy1_5 : 0 ≤ x1_6 ∧ x1_6 < (((x1_4).l.length : Nat) : Int)) (hy1_6 : (x1_6).toNat < ((x1_4).l).length) (y1_7_ : Int) (hy1_7 : (some (((x1_4).l).getD (x1_6).toNat 0)) = some y1_7_) (hy1_8 : ¬ (y1_4_ = y1_7_)) : Q_slicesEqualintintq2_1 rnd x1_0 x1_1 x1_2 x1_3 x1_4 x1_5 x1_6 (X_slicesEqualintintq2_1 x1_0 x1_1 x1_2 x1_3 x1_4 x1_5 (.inl ())) :=
 runC2 hm (L := lT []) ⟨[4], [(0, 0, true)], 1, 1⟩ (zz 1 (xdT hy1_1) <|
yy 12 (.pur (pN 0 ((x1_1 + (x1_6).toNat) * 1))) <|
ww (p := opIndexAddr P 30 (sN 0 (x1_1 * 1) x1_2 x1_3) (i6 x1_6) Ax.h0 = some ((pN 0 ((x1_1 + (x1_6).toNat) * 1)), Ax.h0)) (ixSO (e := 3) (es := 1) x1_1 (by kernel_rfl) (by kernel_rfl) hy1_2) <|
zz 13 (xivN hy1_4 hy1_3) <|
zz 16 (xk12 (Nat.add (x1_4).num 64) (x1_4).cap hy1_5) <|
zz 17 (nk13 hy1_7 hy1_6) <|
zz 18 (xnT hy1_8) <|
ww (iv_flat x1_0 3) <|
ee) (by kernel_rfl)
theorem q_slicesEqualintintq2_1_2 (n : Nat) {rnd : Option Nat} (x1_0 : List Int) (x1_1 x1_2 x1_3 : Nat) (x1_4 : NL) (x1_5 x1_6 : Int) (hy1_1 : ¬ (x1_6 < x1_5)) : Q_slicesEqualintintq2_1 rnd x1_0 x1_1 x1_2 x1_3 x1_4 x1_5 x1_6 (X_slicesEqualintintq2_1 x1_0 x1_1 x1_2 x1_3 x1_4 x1_5 (.inr ())) :=
 runC2 hm (L := lT []) ⟨[], [(0, 0, true)], 1, 1⟩ (zz 1 (xdF hy1_1) <|
ww (iv_flat x1_0 3) <|
ee) (by kernel_rfl)
theorem m_slicesEqualintintq2_1_ok (n : Nat) {rnd : Option Nat} (x1_0 : List Int) (x1_1 : Nat) (x1_2 : Nat) (x1_3 : Nat) (x1_4 : NL) (x1_5 : Int) (st : Int) (r : (Unit) ⊕ (Unit)) (h : m_slicesEqualintintq2_1 n x1_0 x1_1 x1_2 x1_3 x1_4 x1_5 st = some r) : CG P rnd (fnN P 32) 1 (codeOf P 32 [false, true, false, true, true]) (S_slicesEqualintintq2_1 x1_0 x1_1 x1_2 x1_3 x1_4 x1_5 st) (X_slicesEqualintintq2_1 x1_0 x1_1 x1_2 x1_3 x1_4 x1_5 r) :=
 CG.iter (b := codeOf P 32 [false, false, true, false, true, true]) (by kernel_rfl) (body := B_slicesEqualintintq2_1 n x1_0 x1_1 x1_2 x1_3 x1_4 x1_5) (S := S_slicesEqualintintq2_1 x1_0 x1_1 x1_2 x1_3 x1_4 x1_5) (X := X_slicesEqualintintq2_1 x1_0 x1_1 x1_2 x1_3 x1_4 x1_5)
  (fun x1_6 s' h => by
  unfold B_slicesEqualintintq2_1 at h
  dsimp only at h
  by_cases hy1_1 : x1_6 < x1_5
  ·rw [if_pos hy1_1] at h
   by_cases hy1_2 : 0 ≤ x1_6 ∧ x1_6 < ((x1_2 : Nat) : Int)
   ·rw [if_pos hy1_2] at h
    by_cases hy1_3 : ((x1_1 + (x1_6).toNat) * 1) < (x1_0).length
    ·rw [if_pos hy1_3] at h
     obtain ⟨y1_4_, hy1_4, h⟩ := Option.bind_eq_some_iff.1 h
     by_cases hy1_5 : 0 ≤ x1_6 ∧ x1_6 < (((x1_4).l.length : Nat) : Int)
     ·rw [if_pos hy1_5] at h
      by_cases hy1_6 : (x1_6).toNat < ((x1_4).l).length
      ·rw [if_pos hy1_6] at h
       obtain ⟨y1_7_, hy1_7, h⟩ := Option.bind_eq_some_iff.1 h
       by_cases hy1_8 : y1_4_ = y1_7_
       ·rw [if_pos hy1_8] at h
        obtain rfl := Sum.inl.inj (Option.some.inj h); exact q_slicesEqualintintq2_1_0 n x1_0 x1_1 x1_2 x1_3 x1_4 x1_5 x1_6 hy1_1 hy1_2 hy1_3 y1_4_ hy1_4 hy1_5 hy1_6 y1_7_ hy1_7 hy1_8
       ·rw [if_neg hy1_8] at h
        cases h
      ·rw [if_neg hy1_6] at h; cases h
     ·rw [if_neg hy1_5] at h; cases h
    ·rw [if_neg hy1_3] at h; cases h
   ·rw [if_neg hy1_2] at h; cases h
  ·rw [if_neg hy1_1] at h
   cases h)
  (fun x1_6 r h => by
  unfold B_slicesEqualintintq2_1 at h
  dsimp only at h
  by_cases hy1_1 : x1_6 < x1_5
  ·rw [if_pos hy1_1] at h
   by_cases hy1_2 : 0 ≤ x1_6 ∧ x1_6 < ((x1_2 : Nat) : Int)
   ·rw [if_pos hy1_2] at h
    by_cases hy1_3 : ((x1_1 + (x1_6).toNat) * 1) < (x1_0).length
    ·rw [if_pos hy1_3] at h
     obtain ⟨y1_4_, hy1_4, h⟩ := Option.bind_eq_some_iff.1 h
     by_cases hy1_5 : 0 ≤ x1_6 ∧ x1_6 < (((x1_4).l.length : Nat) : Int)
     ·rw [if_pos hy1_5] at h
      by_cases hy1_6 : (x1_6).toNat < ((x1_4).l).length
      ·rw [if_pos hy1_6] at h
       obtain ⟨y1_7_, hy1_7, h⟩ := Option.bind_eq_some_iff.1 h
       by_cases hy1_8 : y1_4_ = y1_7_
       ·rw [if_pos hy1_8] at h
        cases h
       ·rw [if_neg hy1_8] at h
        obtain rfl := Sum.inr.inj (Option.some.inj h); exact q_slicesEqualintintq2_1_1 n x1_0 x1_1 x1_2 x1_3 x1_4 x1_5 x1_6 hy1_1 hy1_2 hy1_3 y1_4_ hy1_4 hy1_5 hy1_6 y1_7_ hy1_7 hy1_8
      ·rw [if_neg hy1_6] at h; cases h
     ·rw [if_neg hy1_5] at h; cases h
    ·rw [if_neg hy1_3] at h; cases h
   ·rw [if_neg hy1_2] at h; cases h
  ·rw [if_neg hy1_1] at h
   obtain rfl := Sum.inr.inj (Option.some.inj h); exact q_slicesEqualintintq2_1_2 n x1_0 x1_1 x1_2 x1_3 x1_4 x1_5 x1_6 hy1_1)
  (fun r => by intro hx; rcases r with _ | _ <;> cases hx) h
def m_slicesEqualintintq2 (n : Nat) (a0 : List Int) (a1 : Nat) (a2 : Nat) (a3 : Nat) (a4 : NL) : Option (Bool) :=
 if ((a2 : Nat) : Int) = (((a4).l.length : Nat) : Int) then
  match m_slicesEqualintintq2_1 n a0 a1 a2 a3 a4 ((a2 : Nat) : Int) 0 with
  | none => none
  | some (.inl _) =>
   some false
  | some (.inr _) =>
   some true
 else
  some false
theorem p_slicesEqualintintq2_0 (n : Nat) (a0 : List Int) (a1 a2 a3 : Nat) (a4 : NL) (hc1 : ((a2 : Nat) : Int) = (((a4).l.length : Nat) : Int)) (hc2 : m_slicesEqualintintq2_1 n a0 a1 a2 a3 a4 ((a2 : Nat) : Int) 0 = some (.inl ())) : G_slicesEqualintintq2 a0 a1 a2 a3 a4 false :=
 runF2 hm (L := lT [(16, ⟨⟨[0, 1, 12, 13], [(0, 0, true)], 1, 1⟩, (X_slicesEqualintintq2_1 a0 a1 a2 a3 a4 ((a2 : Nat) : Int) (.inl ())).1, (X_slicesEqualintintq2_1 a0 a1 a2 a3 a4 ((a2 : Nat) : Int) (.inl ())).2⟩)]) ⟨[4], [], 1, 1⟩ (zz 8 (xnF hc1) <|
ww (p := U_slicesEqualintintq2_1 none a0 a1 a2 a3 a4 ((a2 : Nat) : Int) 0 (.inl ())) (m_slicesEqualintintq2_1_ok n a0 a1 a2 a3 a4 ((a2 : Nat) : Int) 0 (.inl ()) hc2) <|
ww (iv_flat a0 3) <|
ee) (by kernel_rfl)
theorem p_slicesEqualintintq2_1 (n : Nat) (a0 : List Int) (a1 a2 a3 : Nat) (a4 : NL) (hc1 : ((a2 : Nat) : Int) = (((a4).l.length : Nat) : Int)) (hc2 : m_slicesEqualintintq2_1 n a0 a1 a2 a3 a4 ((a2 : Nat) : Int) 0 = some (.inr ())) : G_slicesEqualintintq2 a0 a1 a2 a3 a4 true :=
 runF2 hm (L := lT [(16, ⟨⟨[0, 1, 12, 13], [(0, 0, true)], 1, 1⟩, (X_slicesEqualintintq2_1 a0 a1 a2 a3 a4 ((a2 : Nat) : Int) (.inr ())).1, (X_slicesEqualintintq2_1 a0 a1 a2 a3 a4 ((a2 : Nat) : Int) (.inr ())).2⟩)]) ⟨[4], [], 1, 1⟩ (zz 8 (xnF hc1) <|
ww (p := U_slicesEqualintintq2_1 none a0 a1 a2 a3 a4 ((a2 : Nat) : Int) 0 (.inr ())) (m_slicesEqualintintq2_1_ok n a0 a1 a2 a3 a4 ((a2 : Nat) : Int) 0 (.inr ()) hc2) <|
ww (iv_flat a0 3) <|
ee) (by kernel_rfl)
theorem p_slicesEqualintintq2_2 (n : Nat) (a0 : List Int) (a1 a2 a3 : Nat) (a4 : NL) (hc1 : ¬ (((a2 : Nat) : Int) = (((a4).l.length : Nat) : Int))) : G_slicesEqualintintq2 a0 a1 a2 a3 a4 false :=
 runF2 hm (L := lT []) ⟨[4], [], 1, 1⟩ (zz 8 (xnT hc1) <|
ee) (by kernel_rfl)
theorem m_slicesEqualintintq2_ok (n : Nat) (a0 : List Int) (a1 : Nat) (a2 : Nat) (a3 : Nat) (a4 : NL) (r : Bool) (h : m_slicesEqualintintq2 n a0 a1 a2 a3 a4 = some r) : Gv P (.func 32) (A_slicesEqualintintq2 a0 a1 a2 a3 a4) (H_slicesEqualintintq2 a0 a1 a2 a3 a4) (V_slicesEqualintintq2 a0 a1 a2 a3 a4 r) (R_slicesEqualintintq2 a0 a1 a2 a3 a4 r) := by
 unfold m_slicesEqualintintq2 at h
 by_cases hc1 : ((a2 : Nat) : Int) = (((a4).l.length : Nat) : Int)
 ·rw [if_pos hc1] at h
  rcases hc2 : m_slicesEqualintintq2_1 n a0 a1 a2 a3 a4 ((a2 : Nat) : Int) 0 with _ | (⟨⟩ | ⟨⟩)
  ·rw [hc2] at h; cases h
  ·rw [hc2] at h
   dsimp only at h
   obtain rfl := Option.some.inj h; exact p_slicesEqualintintq2_0 n a0 a1 a2 a3 a4 hc1 hc2
  ·rw [hc2] at h
   dsimp only at h
   obtain rfl := Option.some.inj h; exact p_slicesEqualintintq2_1 n a0 a1 a2 a3 a4 hc1 hc2
 ·rw [if_neg hc1] at h
  obtain rfl := Option.some.inj h; exact p_slicesEqualintintq2_2 n a0 a1 a2 a3 a4 hc1

noncomputable def A_stylesendsWithintq1 (a0 : List Int) (a1 : Nat) (a2 : Nat) (a3 : NL) : List Value := [(sN 0 0 a1 a2), (nlV a3)]
noncomputable def H_stylesendsWithintq1 (a0 : List Int) (a1 : Nat) (a2 : Nat) (a3 : NL) : AH := ⟨sB [(0, (some (.cells (layT (iv a0)) 3)))], 1, 1⟩
noncomputable def V_stylesendsWithintq1 (a0 : List Int) (a1 : Nat) (a2 : Nat) (a3 : NL) (r : Bool) : Value := match r with
 | o0 => (bO o0)
noncomputable def R_stylesendsWithintq1 (a0 : List Int) (a1 : Nat) (a2 : Nat) (a3 : NL) (r : Bool) : AH := match r with
 | o0 => ⟨sB [], 1, 1⟩
noncomputable abbrev G_stylesendsWithintq1 (a0 : List Int) (a1 : Nat) (a2 : Nat) (a3 : NL) (r : Bool) : Prop := Gv P (.func 28) (A_stylesendsWithintq1 a0 a1 a2 a3) (H_stylesendsWithintq1 a0 a1 a2 a3) (V_stylesendsWithintq1 a0 a1 a2 a3 r) (R_stylesendsWithintq1 a0 a1 a2 a3 r)
noncomputable abbrev C_stylesendsWithintq1 (a0 : List Int) (a1 : Nat) (a2 : Nat) (a3 : NL) (r : Bool) (ins outs : BL) : CallA := ⟨1, ins, V_stylesendsWithintq1 a0 a1 a2 a3 r, R_stylesendsWithintq1 a0 a1 a2 a3 r, outs⟩
def m_stylesendsWithintq1 (n : Nat) (a0 : List Int) (a1 : Nat) (a2 : Nat) (a3 : NL) : Option (Bool) :=
 if (((a3).l.length : Nat) : Int) ≤ ((a1 : Nat) : Int) then
  ((some (w64 (((a1 : Nat) : Int) - (((a3).l.length : Nat) : Int))))).bind fun c2_ =>
  if 0 ≤ c2_ ∧ c2_ ≤ ((a1 : Nat) : Int) then
   if a1 ≤ a2 then
    if a2 < big then
     if a2 = (c2_).toNat then
      (m_slicesEqualintintq1 n a0 (a1 - (c2_).toNat) (a2 - (c2_).toNat) a3).bind fun c7_ =>
      some c7_
     else
      (m_slicesEqualintintq2 n a0 ((c2_).toNat) (a1 - (c2_).toNat) (a2 - (c2_).toNat) a3).bind fun c7_ =>
      some c7_
    else
     if a2 = Nat.add big 1 then
      (m_slicesEqualintintq2 n a0 ((c2_).toNat) (a1 - (c2_).toNat) (Nat.add big 1) a3).bind fun c7_ =>
      some c7_
     else none
   else none
  else none
 else
  some false
theorem p_stylesendsWithintq1_0 (n : Nat) (a0 : List Int) (a1 a2 : Nat) (a3 : NL) (hc1 : (((a3).l.length : Nat) : Int) ≤ ((a1 : Nat) : Int)) (c2_ : Int) (hc2 : (some (w64 (((a1 : Nat) : Int) - (((a3).l.length : Nat) : Int)))) = some c2_) (hc3 : 0 ≤ c2_ ∧ c2_ ≤ ((a1 : Nat) : Int)) (hc4 : a1 ≤ a2) (hc5 : a2 < big) (hc6 : a2 = (c2_).toNat) (c7_ : Bool) (hc7 : m_slicesEqualintintq1 n a0 (a1 - (c2_).toNat) (a2 - (c2_).toNat) a3 = some c7_) : G_stylesendsWithintq1 a0 a1 a2 a3 c7_ :=
 runF2 hm (L := lT []) ⟨[4], [], 1, 1⟩ (zz 7 (xdT hc1) <|
zz 14 (xnm hc2) <|
yy 15 (.pur (sN 0 0 (a1 - (c2_).toNat) (a2 - (c2_).toNat))) <|
ww (p := opSlice P 30 (sN 0 0 a1 a2) (some (i6 c2_)) none none Ax.h0 = some ((sN 0 0 (a1 - (c2_).toNat) (a2 - (c2_).toNat)), Ax.h0)) (slKVe (e := 3) (es := 1) (by kernel_rfl) (by kernel_rfl) hc5 (natOf_toNat (by omega)) rfl (by omega) (by omega) hc6) <|
yy 17 (.call (C_slicesEqualintintq1 a0 (a1 - (c2_).toNat) (a2 - (c2_).toNat) a3 c7_ [(0, 0, true)] [])) <|
ww (m_slicesEqualintintq1_ok n a0 (a1 - (c2_).toNat) (a2 - (c2_).toNat) a3 c7_ hc7) <|
ww (iv_flat a0 3) <|
ee) (by kernel_rfl)
theorem p_stylesendsWithintq1_1 (n : Nat) (a0 : List Int) (a1 a2 : Nat) (a3 : NL) (hc1 : (((a3).l.length : Nat) : Int) ≤ ((a1 : Nat) : Int)) (c2_ : Int) (hc2 : (some (w64 (((a1 : Nat) : Int) - (((a3).l.length : Nat) : Int)))) = some c2_) (hc3 : 0 ≤ c2_ ∧ c2_ ≤ ((a1 : Nat) : Int)) (hc4 : a1 ≤ a2) (hc5 : a2 < big) (hc6 : ¬ (a2 = (c2_).toNat)) (c7_ : Bool) (hc7 : m_slicesEqualintintq2 n a0 ((c2_).toNat) (a1 - (c2_).toNat) (a2 - (c2_).toNat) a3 = some c7_) : G_stylesendsWithintq1 a0 a1 a2 a3 c7_ :=
 runF2 hm (L := lT []) ⟨[4], [], 1, 1⟩ (zz 7 (xdT hc1) <|
zz 14 (xnm hc2) <|
yy 15 (.pur (sN 0 ((c2_).toNat * 1) (a1 - (c2_).toNat) (a2 - (c2_).toNat))) <|
ww (p := opSlice P 30 (sN 0 0 a1 a2) (some (i6 c2_)) none none Ax.h0 = some ((sN 0 ((c2_).toNat * 1) (a1 - (c2_).toNat) (a2 - (c2_).toNat)), Ax.h0)) (slKVn (e := 3) (es := 1) (by kernel_rfl) (by kernel_rfl) hc5 (natOf_toNat (by omega)) rfl (by omega) (by omega) hc6) <|
yy 17 (.call (C_slicesEqualintintq2 a0 ((c2_).toNat) (a1 - (c2_).toNat) (a2 - (c2_).toNat) a3 c7_ [(0, 0, true)] [])) <|
ww (m_slicesEqualintintq2_ok n a0 ((c2_).toNat) (a1 - (c2_).toNat) (a2 - (c2_).toNat) a3 c7_ hc7) <|
ww (iv_flat a0 3) <|
ee) (by kernel_rfl)
theorem p_stylesendsWithintq1_2 (n : Nat) (a0 : List Int) (a1 a2 : Nat) (a3 : NL) (hc1 : (((a3).l.length : Nat) : Int) ≤ ((a1 : Nat) : Int)) (c2_ : Int) (hc2 : (some (w64 (((a1 : Nat) : Int) - (((a3).l.length : Nat) : Int)))) = some c2_) (hc3 : 0 ≤ c2_ ∧ c2_ ≤ ((a1 : Nat) : Int)) (hc4 : a1 ≤ a2) (hc5 : ¬ (a2 < big)) (hc6 : a2 = Nat.add big 1) (c7_ : Bool) (hc7 : m_slicesEqualintintq2 n a0 ((c2_).toNat) (a1 - (c2_).toNat) (Nat.add big 1) a3 = some c7_) : G_stylesendsWithintq1 a0 a1 a2 a3 c7_ :=
 runF2 hm (L := lT []) ⟨[4], [], 1, 1⟩ (zz 7 (xdT hc1) <|
zz 14 (xnm hc2) <|
yy 15 (.pur (sN 0 ((c2_).toNat * 1) (a1 - (c2_).toNat) (Nat.add big 1))) <|
ww (p := opSlice P 30 (sN 0 0 a1 a2) (some (i6 c2_)) none none Ax.h0 = some ((sN 0 ((c2_).toNat * 1) (a1 - (c2_).toNat) (Nat.add big 1)), Ax.h0)) (slUV (e := 3) (es := 1) (by kernel_rfl) (by kernel_rfl) rfl rfl hc6 (natOf_toNat (by omega)) rfl (by omega) (by omega)) <|
yy 17 (.call (C_slicesEqualintintq2 a0 ((c2_).toNat) (a1 - (c2_).toNat) (Nat.add big 1) a3 c7_ [(0, 0, true)] [])) <|
ww (m_slicesEqualintintq2_ok n a0 ((c2_).toNat) (a1 - (c2_).toNat) (Nat.add big 1) a3 c7_ hc7) <|
ww (iv_flat a0 3) <|
ee) (by kernel_rfl)
theorem p_stylesendsWithintq1_3 (n : Nat) (a0 : List Int) (a1 a2 : Nat) (a3 : NL) (hc1 : ¬ ((((a3).l.length : Nat) : Int) ≤ ((a1 : Nat) : Int))) : G_stylesendsWithintq1 a0 a1 a2 a3 false :=
 runF2 hm (L := lT []) ⟨[4], [], 1, 1⟩ (zz 7 (xdF hc1) <|
ee) (by kernel_rfl)
theorem m_stylesendsWithintq1_ok (n : Nat) (a0 : List Int) (a1 : Nat) (a2 : Nat) (a3 : NL) (r : Bool) (h : m_stylesendsWithintq1 n a0 a1 a2 a3 = some r) : Gv P (.func 28) (A_stylesendsWithintq1 a0 a1 a2 a3) (H_stylesendsWithintq1 a0 a1 a2 a3) (V_stylesendsWithintq1 a0 a1 a2 a3 r) (R_stylesendsWithintq1 a0 a1 a2 a3 r) := by
 unfold m_stylesendsWithintq1 at h
 by_cases hc1 : (((a3).l.length : Nat) : Int) ≤ ((a1 : Nat) : Int)
 ·rw [if_pos hc1] at h
  obtain ⟨c2_, hc2, h⟩ := Option.bind_eq_some_iff.1 h
  by_cases hc3 : 0 ≤ c2_ ∧ c2_ ≤ ((a1 : Nat) : Int)
  ·rw [if_pos hc3] at h
   by_cases hc4 : a1 ≤ a2
   ·rw [if_pos hc4] at h
    by_cases hc5 : a2 < big
    ·rw [if_pos hc5] at h
     by_cases hc6 : a2 = (c2_).toNat
     ·rw [if_pos hc6] at h
      obtain ⟨c7_, hc7, h⟩ := Option.bind_eq_some_iff.1 h
      obtain rfl := Option.some.inj h; exact p_stylesendsWithintq1_0 n a0 a1 a2 a3 hc1 c2_ hc2 hc3 hc4 hc5 hc6 c7_ hc7
     ·rw [if_neg hc6] at h
      obtain ⟨c7_, hc7, h⟩ := Option.bind_eq_some_iff.1 h
      obtain rfl := Option.some.inj h; exact p_stylesendsWithintq1_1 n a0 a1 a2 a3 hc1 c2_ hc2 hc3 hc4 hc5 hc6 c7_ hc7
    ·rw [if_neg hc5] at h
     by_cases hc6 : a2 = Nat.add big 1
     ·rw [if_pos hc6] at h
      obtain ⟨c7_, hc7, h⟩ := Option.bind_eq_some_iff.1 h
      obtain rfl := Option.some.inj h; exact p_stylesendsWithintq1_2 n a0 a1 a2 a3 hc1 c2_ hc2 hc3 hc4 hc5 hc6 c7_ hc7
     ·rw [if_neg hc6] at h; cases h
   ·rw [if_neg hc4] at h; cases h
  ·rw [if_neg hc3] at h; cases h
 ·rw [if_neg hc1] at h
  obtain rfl := Option.some.inj h; exact p_stylesendsWithintq1_3 n a0 a1 a2 a3 hc1

noncomputable def A_stylesMatchesq1 (a0 : Int) (a1 : NL) (a2 : Int) (a3 : Int) (a4 : Int) (a5 : List Int) (a6 : Nat) (a7 : Nat) : List Value := [(Value.agg #[(i6 a0), (nlV a1), (i6 a2), (i6 a3)]), (i6 a4), (sN 0 0 a6 a7)]
noncomputable def H_stylesMatchesq1 (a0 : Int) (a1 : NL) (a2 : Int) (a3 : Int) (a4 : Int) (a5 : List Int) (a6 : Nat) (a7 : Nat) : AH := ⟨sB [(0, (some (.cells (layT (iv a5)) 3)))], 1, 1⟩
noncomputable def V_stylesMatchesq1 (a0 : Int) (a1 : NL) (a2 : Int) (a3 : Int) (a4 : Int) (a5 : List Int) (a6 : Nat) (a7 : Nat) (r : Bool) : Value := match r with
 | o0 => (bO o0)
noncomputable def R_stylesMatchesq1 (a0 : Int) (a1 : NL) (a2 : Int) (a3 : Int) (a4 : Int) (a5 : List Int) (a6 : Nat) (a7 : Nat) (r : Bool) : AH := match r with
 | o0 => ⟨sB [], 1, 1⟩
noncomputable abbrev G_stylesMatchesq1 (a0 : Int) (a1 : NL) (a2 : Int) (a3 : Int) (a4 : Int) (a5 : List Int) (a6 : Nat) (a7 : Nat) (r : Bool) : Prop := Gv P (.func 23) (A_stylesMatchesq1 a0 a1 a2 a3 a4 a5 a6 a7) (H_stylesMatchesq1 a0 a1 a2 a3 a4 a5 a6 a7) (V_stylesMatchesq1 a0 a1 a2 a3 a4 a5 a6 a7 r) (R_stylesMatchesq1 a0 a1 a2 a3 a4 a5 a6 a7 r)
noncomputable abbrev C_stylesMatchesq1 (a0 : Int) (a1 : NL) (a2 : Int) (a3 : Int) (a4 : Int) (a5 : List Int) (a6 : Nat) (a7 : Nat) (r : Bool) (ins outs : BL) : CallA := ⟨1, ins, V_stylesMatchesq1 a0 a1 a2 a3 a4 a5 a6 a7 r, R_stylesMatchesq1 a0 a1 a2 a3 a4 a5 a6 a7 r, outs⟩
def m_stylesMatchesq1 (n : Nat) (a0 : Int) (a1 : NL) (a2 : Int) (a3 : Int) (a4 : Int) (a5 : List Int) (a6 : Nat) (a7 : Nat) : Option (Bool) :=
 if a0 = a4 then
  (m_stylesendsWithintq1 n a5 a6 a7 a1).bind fun c2_ =>
  some c2_
 else
  some false
theorem p_stylesMatchesq1_0 (n : Nat) (a0 : Int) (a1 : NL) (a2 a3 a4 : Int) (a5 : List Int) (a6 a7 : Nat) (hc1 : a0 = a4) (c2_ : Bool) (hc2 : m_stylesendsWithintq1 n a5 a6 a7 a1 = some c2_) : G_stylesMatchesq1 a0 a1 a2 a3 a4 a5 a6 a7 c2_ :=
 runF2 hm (L := lT []) ⟨[6], [], 1, 1⟩ (zz 7 (xeT hc1) <|
yy 12 (.call (C_stylesendsWithintq1 a5 a6 a7 a1 c2_ [(0, 0, true)] [])) <|
ww (m_stylesendsWithintq1_ok n a5 a6 a7 a1 c2_ hc2) <|
ww (iv_flat a5 3) <|
ee) (by kernel_rfl)
theorem p_stylesMatchesq1_1 (n : Nat) (a0 : Int) (a1 : NL) (a2 a3 a4 : Int) (a5 : List Int) (a6 a7 : Nat) (hc1 : ¬ (a0 = a4)) : G_stylesMatchesq1 a0 a1 a2 a3 a4 a5 a6 a7 false :=
 runF2 hm (L := lT []) ⟨[6], [], 1, 1⟩ (zz 7 (xeF hc1) <|
ee) (by kernel_rfl)
theorem m_stylesMatchesq1_ok (n : Nat) (a0 : Int) (a1 : NL) (a2 : Int) (a3 : Int) (a4 : Int) (a5 : List Int) (a6 : Nat) (a7 : Nat) (r : Bool) (h : m_stylesMatchesq1 n a0 a1 a2 a3 a4 a5 a6 a7 = some r) : Gv P (.func 23) (A_stylesMatchesq1 a0 a1 a2 a3 a4 a5 a6 a7) (H_stylesMatchesq1 a0 a1 a2 a3 a4 a5 a6 a7) (V_stylesMatchesq1 a0 a1 a2 a3 a4 a5 a6 a7 r) (R_stylesMatchesq1 a0 a1 a2 a3 a4 a5 a6 a7 r) := by
 unfold m_stylesMatchesq1 at h
 by_cases hc1 : a0 = a4
 ·rw [if_pos hc1] at h
  obtain ⟨c2_, hc2, h⟩ := Option.bind_eq_some_iff.1 h
  obtain rfl := Option.some.inj h; exact p_stylesMatchesq1_0 n a0 a1 a2 a3 a4 a5 a6 a7 hc1 c2_ hc2
 ·rw [if_neg hc1] at h
  obtain rfl := Option.some.inj h; exact p_stylesMatchesq1_1 n a0 a1 a2 a3 a4 a5 a6 a7 hc1

noncomputable def A_stylesStyle1q1 (a0 : Int) (a1 : Int) (a2 : Int) (a3 : Bool) (a4 : Int) (a5 : NL) (a6 : Int) (a7 : Int) (a8 : Int) (a9 : List Int) (a10 : Nat) (a11 : Nat) : List Value := [(Value.agg #[(i6 a0), (Value.slice none 0 0), (i6 a1), (i6 a2), (bO a3)]), (Value.agg #[(i6 a4), (nlV a5), (i6 a6), (i6 a7)]), (pN 0 0), (pN 1 0)]
noncomputable def H_stylesStyle1q1 (a0 : Int) (a1 : Int) (a2 : Int) (a3 : Bool) (a4 : Int) (a5 : NL) (a6 : Int) (a7 : Int) (a8 : Int) (a9 : List Int) (a10 : Nat) (a11 : Nat) : AH := ⟨sB [(0, (some (.cells (layT [(i6 a8)]) 3))), (1, (some (.cells (layT [(sN 2 0 a10 a11)]) 30))), (2, (some (.cells (layT (iv a9)) 3)))], 3, 3⟩
noncomputable def V_stylesStyle1q1 (a0 : Int) (a1 : Int) (a2 : Int) (a3 : Bool) (a4 : Int) (a5 : NL) (a6 : Int) (a7 : Int) (a8 : Int) (a9 : List Int) (a10 : Nat) (a11 : Nat) (r : Int × List (NL) × Int × Int × Bool) : Value := match r with
 | (o0, o1, o2, o3, o4) => (Value.agg #[(i6 o0), (nlQ o1), (i6 o2), (i6 o3), (bO o4)])
noncomputable def R_stylesStyle1q1 (a0 : Int) (a1 : Int) (a2 : Int) (a3 : Bool) (a4 : Int) (a5 : NL) (a6 : Int) (a7 : Int) (a8 : Int) (a9 : List Int) (a10 : Nat) (a11 : Nat) (r : Int × List (NL) × Int × Int × Bool) : AH := match r with
 | (o0, o1, o2, o3, o4) => ⟨sB [(3, (some (.cells (layT [(i6 o0), (nlQ o1), (i6 o2), (i6 o3), (bO o4)]) 47)))], 4, 3⟩
noncomputable abbrev G_stylesStyle1q1 (a0 : Int) (a1 : Int) (a2 : Int) (a3 : Bool) (a4 : Int) (a5 : NL) (a6 : Int) (a7 : Int) (a8 : Int) (a9 : List Int) (a10 : Nat) (a11 : Nat) (r : Int × List (NL) × Int × Int × Bool) : Prop := Gv P (.func 22) (A_stylesStyle1q1 a0 a1 a2 a3 a4 a5 a6 a7 a8 a9 a10 a11) (H_stylesStyle1q1 a0 a1 a2 a3 a4 a5 a6 a7 a8 a9 a10 a11) (V_stylesStyle1q1 a0 a1 a2 a3 a4 a5 a6 a7 a8 a9 a10 a11 r) (R_stylesStyle1q1 a0 a1 a2 a3 a4 a5 a6 a7 a8 a9 a10 a11 r)
noncomputable abbrev C_stylesStyle1q1 (a0 : Int) (a1 : Int) (a2 : Int) (a3 : Bool) (a4 : Int) (a5 : NL) (a6 : Int) (a7 : Int) (a8 : Int) (a9 : List Int) (a10 : Nat) (a11 : Nat) (r : Int × List (NL) × Int × Int × Bool) (ins outs : BL) : CallA := ⟨3, ins, V_stylesStyle1q1 a0 a1 a2 a3 a4 a5 a6 a7 a8 a9 a10 a11 r, R_stylesStyle1q1 a0 a1 a2 a3 a4 a5 a6 a7 a8 a9 a10 a11 r, outs⟩
def m_stylesStyle1q1 (n : Nat) (a0 : Int) (a1 : Int) (a2 : Int) (a3 : Bool) (a4 : Int) (a5 : NL) (a6 : Int) (a7 : Int) (a8 : Int) (a9 : List Int) (a10 : Nat) (a11 : Nat) : Option (Int × List (NL) × Int × Int × Bool) :=
 (m_stylesMatchesq1 n a4 a5 a6 a7 a8 a9 a10 a11).bind fun c1_ =>
 if c1_ = true then
  if a3 = true then
   if a7 ≤ a2 then
    some (a0, ([] : List (NL)), a1, a2, a3)
   else
    some (a4, [a5], a6, a7, true)
  else
   some (a4, [a5], a6, a7, true)
 else
  some (a0, ([] : List (NL)), a1, a2, a3)
theorem p_stylesStyle1q1_0 (n : Nat) (a0 a1 a2 : Int) (a3 : Bool) (a4 : Int) (a5 : NL) (a6 a7 a8 : Int) (a9 : List Int) (a10 a11 : Nat) (c1_ : Bool) (hc1 : m_stylesMatchesq1 n a4 a5 a6 a7 a8 a9 a10 a11 = some c1_) (hc2 : c1_ = true) (hc3 : a3 = true) (hc4 : a7 ≤ a2) : G_stylesStyle1q1 a0 a1 a2 a3 a4 a5 a6 a7 a8 a9 a10 a11 (a0, ([] : List (NL)), a1, a2, a3) :=
 runF2 hm (L := lT []) ⟨[6], [(3, 5, false)], 4, 3⟩ (yy 9 (.call (C_stylesMatchesq1 a4 a5 a6 a7 a8 a9 a10 a11 c1_ [(0, 2, true)] [])) <|
ww (m_stylesMatchesq1_ok n a4 a5 a6 a7 a8 a9 a10 a11 c1_ hc1) <|
ww (iv_flat a9 3) <|
yy 10 (vf) <|
ww (p := (Value.bool (!c1_)) = (Value.bool false)) (vBn hc2) <|
zz 14 (xbT hc3) <|
zz 20 (xdT hc4) <|
ee) (by kernel_rfl)
theorem p_stylesStyle1q1_1 (n : Nat) (a0 a1 a2 : Int) (a3 : Bool) (a4 : Int) (a5 : NL) (a6 a7 a8 : Int) (a9 : List Int) (a10 a11 : Nat) (c1_ : Bool) (hc1 : m_stylesMatchesq1 n a4 a5 a6 a7 a8 a9 a10 a11 = some c1_) (hc2 : c1_ = true) (hc3 : a3 = true) (hc4 : ¬ (a7 ≤ a2)) : G_stylesStyle1q1 a0 a1 a2 a3 a4 a5 a6 a7 a8 a9 a10 a11 (a4, [a5], a6, a7, true) :=
 runF2 hm (L := lT []) ⟨[6], [(3, 5, false)], 4, 3⟩ (yy 9 (.call (C_stylesMatchesq1 a4 a5 a6 a7 a8 a9 a10 a11 c1_ [(0, 2, true)] [])) <|
ww (m_stylesMatchesq1_ok n a4 a5 a6 a7 a8 a9 a10 a11 c1_ hc1) <|
ww (iv_flat a9 3) <|
yy 10 (vf) <|
ww (p := (Value.bool (!c1_)) = (Value.bool false)) (vBn hc2) <|
zz 14 (xbT hc3) <|
zz 20 (xdF hc4) <|
ee) (by kernel_rfl)
theorem p_stylesStyle1q1_2 (n : Nat) (a0 a1 a2 : Int) (a3 : Bool) (a4 : Int) (a5 : NL) (a6 a7 a8 : Int) (a9 : List Int) (a10 a11 : Nat) (c1_ : Bool) (hc1 : m_stylesMatchesq1 n a4 a5 a6 a7 a8 a9 a10 a11 = some c1_) (hc2 : c1_ = true) (hc3 : ¬ (a3 = true)) : G_stylesStyle1q1 a0 a1 a2 a3 a4 a5 a6 a7 a8 a9 a10 a11 (a4, [a5], a6, a7, true) :=
 runF2 hm (L := lT []) ⟨[6], [(3, 5, false)], 4, 3⟩ (yy 9 (.call (C_stylesMatchesq1 a4 a5 a6 a7 a8 a9 a10 a11 c1_ [(0, 2, true)] [])) <|
ww (m_stylesMatchesq1_ok n a4 a5 a6 a7 a8 a9 a10 a11 c1_ hc1) <|
ww (iv_flat a9 3) <|
yy 10 (vf) <|
ww (p := (Value.bool (!c1_)) = (Value.bool false)) (vBn hc2) <|
zz 14 (xbF hc3) <|
ee) (by kernel_rfl)
theorem p_stylesStyle1q1_3 (n : Nat) (a0 a1 a2 : Int) (a3 : Bool) (a4 : Int) (a5 : NL) (a6 a7 a8 : Int) (a9 : List Int) (a10 a11 : Nat) (c1_ : Bool) (hc1 : m_stylesMatchesq1 n a4 a5 a6 a7 a8 a9 a10 a11 = some c1_) (hc2 : ¬ (c1_ = true)) : G_stylesStyle1q1 a0 a1 a2 a3 a4 a5 a6 a7 a8 a9 a10 a11 (a0, ([] : List (NL)), a1, a2, a3) :=
 runF2 hm (L := lT []) ⟨[6], [(3, 5, false)], 4, 3⟩ (yy 9 (.call (C_stylesMatchesq1 a4 a5 a6 a7 a8 a9 a10 a11 c1_ [(0, 2, true)] [])) <|
ww (m_stylesMatchesq1_ok n a4 a5 a6 a7 a8 a9 a10 a11 c1_ hc1) <|
ww (iv_flat a9 3) <|
yy 10 (vt) <|
ww (p := (Value.bool (!c1_)) = (Value.bool true)) (vBn (Bool.eq_false_iff.2 hc2)) <|
ee) (by kernel_rfl)
theorem m_stylesStyle1q1_ok (n : Nat) (a0 : Int) (a1 : Int) (a2 : Int) (a3 : Bool) (a4 : Int) (a5 : NL) (a6 : Int) (a7 : Int) (a8 : Int) (a9 : List Int) (a10 : Nat) (a11 : Nat) (r : Int × List (NL) × Int × Int × Bool) (h : m_stylesStyle1q1 n a0 a1 a2 a3 a4 a5 a6 a7 a8 a9 a10 a11 = some r) : Gv P (.func 22) (A_stylesStyle1q1 a0 a1 a2 a3 a4 a5 a6 a7 a8 a9 a10 a11) (H_stylesStyle1q1 a0 a1 a2 a3 a4 a5 a6 a7 a8 a9 a10 a11) (V_stylesStyle1q1 a0 a1 a2 a3 a4 a5 a6 a7 a8 a9 a10 a11 r) (R_stylesStyle1q1 a0 a1 a2 a3 a4 a5 a6 a7 a8 a9 a10 a11 r) := by
 unfold m_stylesStyle1q1 at h
 obtain ⟨c1_, hc1, h⟩ := Option.bind_eq_some_iff.1 h
 by_cases hc2 : c1_ = true
 ·rw [if_pos hc2] at h
  by_cases hc3 : a3 = true
  ·rw [if_pos hc3] at h
   by_cases hc4 : a7 ≤ a2
   ·rw [if_pos hc4] at h
    obtain rfl := Option.some.inj h; exact p_stylesStyle1q1_0 n a0 a1 a2 a3 a4 a5 a6 a7 a8 a9 a10 a11 c1_ hc1 hc2 hc3 hc4
   ·rw [if_neg hc4] at h
    obtain rfl := Option.some.inj h; exact p_stylesStyle1q1_1 n a0 a1 a2 a3 a4 a5 a6 a7 a8 a9 a10 a11 c1_ hc1 hc2 hc3 hc4
  ·rw [if_neg hc3] at h
   obtain rfl := Option.some.inj h; exact p_stylesStyle1q1_2 n a0 a1 a2 a3 a4 a5 a6 a7 a8 a9 a10 a11 c1_ hc1 hc2 hc3
 ·rw [if_neg hc2] at h
  obtain rfl := Option.some.inj h; exact p_stylesStyle1q1_3 n a0 a1 a2 a3 a4 a5 a6 a7 a8 a9 a10 a11 c1_ hc1 hc2

noncomputable def A_foldOverstyleschoice_1010y1 (a0 : Int) (a1 : Int) (a2 : Int) (a3 : Bool) (a4 : Int) (a5 : List Int) (a6 : Nat) (a7 : Nat) (a8 : Int) (a9 : Int) (a10 : Int) (a11 : Bool) (a12 : Int) (a13 : NL) (a14 : Int) (a15 : Int) : List Value := [(Value.agg #[(i6 a12), (nlV a13), (i6 a14), (i6 a15)])]
noncomputable def H_foldOverstyleschoice_1010y1 (a0 : Int) (a1 : Int) (a2 : Int) (a3 : Bool) (a4 : Int) (a5 : List Int) (a6 : Nat) (a7 : Nat) (a8 : Int) (a9 : Int) (a10 : Int) (a11 : Bool) (a12 : Int) (a13 : NL) (a14 : Int) (a15 : Int) : AH := ⟨sB [(0, (some (rblk P 20 [false, true, false, true] .ready none [(4, (pN 2 0)), (5, (pN 3 0)), (6, (pN 7 0)), (8, (Value.func (.func 27) #[] #[(pN 8 0)]))] 1))), (1, (some (.marks true))), (2, (some (.cells (layT [(i6 a0), (Value.slice none 0 0), (i6 a1), (i6 a2), (bO a3)]) 47))), (3, (some (.cells (layT [(Value.func (.func 22) #[] #[(pN 4 0), (pN 5 0)])]) 53))), (4, (some (.cells (layT [(i6 a4)]) 3))), (5, (some (.cells (layT [(sN 6 0 a6 a7)]) 30))), (6, (some (.cells (layT (iv a5)) 3))), (7, (some (.cells (layT [(i6 a8), (Value.slice none 0 0), (i6 a9), (i6 a10), (bO a11)]) 47))), (8, (some (.cells (layT [(sW 0 0 (Args.A).length Args.cA)]) 22)))], 9, 9⟩
noncomputable def V_foldOverstyleschoice_1010y1 (a0 : Int) (a1 : Int) (a2 : Int) (a3 : Bool) (a4 : Int) (a5 : List Int) (a6 : Nat) (a7 : Nat) (a8 : Int) (a9 : Int) (a10 : Int) (a11 : Bool) (a12 : Int) (a13 : NL) (a14 : Int) (a15 : Int) (r : Int × List (NL) × Int × Int × Bool) : Value := match r with
 | (o0, o1, o2, o3, o4) => (bO true)
noncomputable def R_foldOverstyleschoice_1010y1 (a0 : Int) (a1 : Int) (a2 : Int) (a3 : Bool) (a4 : Int) (a5 : List Int) (a6 : Nat) (a7 : Nat) (a8 : Int) (a9 : Int) (a10 : Int) (a11 : Bool) (a12 : Int) (a13 : NL) (a14 : Int) (a15 : Int) (r : Int × List (NL) × Int × Int × Bool) : AH := match r with
 | (o0, o1, o2, o3, o4) => ⟨sB [(0, (some (rblk P 20 [false, true, false, true] .ready none [(4, (pN 2 0)), (5, (pN 3 0)), (6, (pN 7 0)), (8, (Value.func (.func 27) #[] #[(pN 8 0)]))] 1))), (1, (some (.marks true))), (2, (some (.cells (layT [(i6 o0), (nlQ o1), (i6 o2), (i6 o3), (bO o4)]) 47))), (3, (some (.cells (layT [(Value.func (.func 22) #[] #[(pN 4 0), (pN 5 0)])]) 53))), (4, (some (.cells (layT [(i6 a4)]) 3))), (5, (some (.cells (layT [(sN 6 0 a6 a7)]) 30))), (6, (some (.cells (layT (iv a5)) 3))), (7, (some (.cells (layT [(i6 a8), (Value.slice none 0 0), (i6 a9), (i6 a10), (bO a11)]) 47))), (8, (some (.cells (layT [(sW 0 0 (Args.A).length Args.cA)]) 22)))], 9, 0⟩
noncomputable abbrev G_foldOverstyleschoice_1010y1 (a0 : Int) (a1 : Int) (a2 : Int) (a3 : Bool) (a4 : Int) (a5 : List Int) (a6 : Nat) (a7 : Nat) (a8 : Int) (a9 : Int) (a10 : Int) (a11 : Bool) (a12 : Int) (a13 : NL) (a14 : Int) (a15 : Int) (r : Int × List (NL) × Int × Int × Bool) : Prop := Gv P (.yield 0) (A_foldOverstyleschoice_1010y1 a0 a1 a2 a3 a4 a5 a6 a7 a8 a9 a10 a11 a12 a13 a14 a15) (H_foldOverstyleschoice_1010y1 a0 a1 a2 a3 a4 a5 a6 a7 a8 a9 a10 a11 a12 a13 a14 a15) (V_foldOverstyleschoice_1010y1 a0 a1 a2 a3 a4 a5 a6 a7 a8 a9 a10 a11 a12 a13 a14 a15 r) (R_foldOverstyleschoice_1010y1 a0 a1 a2 a3 a4 a5 a6 a7 a8 a9 a10 a11 a12 a13 a14 a15 r)
noncomputable abbrev C_foldOverstyleschoice_1010y1 (a0 : Int) (a1 : Int) (a2 : Int) (a3 : Bool) (a4 : Int) (a5 : List Int) (a6 : Nat) (a7 : Nat) (a8 : Int) (a9 : Int) (a10 : Int) (a11 : Bool) (a12 : Int) (a13 : NL) (a14 : Int) (a15 : Int) (r : Int × List (NL) × Int × Int × Bool) (ins outs : BL) : CallA := ⟨9, ins, V_foldOverstyleschoice_1010y1 a0 a1 a2 a3 a4 a5 a6 a7 a8 a9 a10 a11 a12 a13 a14 a15 r, R_foldOverstyleschoice_1010y1 a0 a1 a2 a3 a4 a5 a6 a7 a8 a9 a10 a11 a12 a13 a14 a15 r, outs⟩
def m_foldOverstyleschoice_1010y1 (n : Nat) (a0 : Int) (a1 : Int) (a2 : Int) (a3 : Bool) (a4 : Int) (a5 : List Int) (a6 : Nat) (a7 : Nat) (a8 : Int) (a9 : Int) (a10 : Int) (a11 : Bool) (a12 : Int) (a13 : NL) (a14 : Int) (a15 : Int) : Option (Int × List (NL) × Int × Int × Bool) :=
 (m_stylesStyle1q1 n a0 a1 a2 a3 a12 a13 a14 a15 a4 a5 a6 a7).bind fun t => match t with
 | (c1_0, c1_1, c1_2, c1_3, c1_4) =>
  match c1_1 with
  | [] =>
   some (c1_0, ([] : List (NL)), c1_2, c1_3, c1_4)
  | c1_1a :: c1_1t =>
   some (c1_0, [c1_1a], c1_2, c1_3, c1_4)
theorem p_foldOverstyleschoice_1010y1_0 (n : Nat) (a0 a1 a2 : Int) (a3 : Bool) (a4 : Int) (a5 : List Int) (a6 a7 : Nat) (a8 a9 a10 : Int) (a11 : Bool) (a12 : Int) (a13 : NL) (a14 a15 c1_0 c1_2 c1_3 : Int) (c1_4 : Bool) (hc1 : m_stylesStyle1q1 n a0 a1 a2 a3 a12 a13 a14 a15 a4 a5 a6 a7 = some (c1_0, [], c1_2, c1_3, c1_4)) : G_foldOverstyleschoice_1010y1 a0 a1 a2 a3 a4 a5 a6 a7 a8 a9 a10 a11 a12 a13 a14 a15 (c1_0, ([] : List (NL)), c1_2, c1_3, c1_4) :=
 runY_ok hm (A1 := aT []) (L1 := lT []) (A2 := aT [(4, .call (C_stylesStyle1q1 a0 a1 a2 a3 a12 a13 a14 a15 a4 a5 a6 a7 (c1_0, ([] : List (NL)), c1_2, c1_3, c1_4) [(0, 4, false), (1, 5, false), (2, 6, true)] [(10, 3, false)]))]) (L2 := lT []) (wk := ⟨[], [(0, 0, false), (1, 1, false), (2, 2, false), (3, 3, false), (4, 4, false), (5, 5, false), (6, 6, true), (7, 7, false), (8, 8, false)], 9, 0⟩)
  (ps := [G_stylesStyle1q1 a0 a1 a2 a3 a12 a13 a14 a15 a4 a5 a6 a7 (c1_0, ([] : List (NL)), c1_2, c1_3, c1_4),
FlatB (.cells (layT (iv a5)) 3),
FlatB (.cells (layT (iv a5)) 3)]) (by kernel_rfl) ⟨(m_stylesStyle1q1_ok n a0 a1 a2 a3 a12 a13 a14 a15 a4 a5 a6 a7 (c1_0, ([] : List (NL)), c1_2, c1_3, c1_4) hc1), (iv_flat a5 3), (iv_flat a5 3), trivial⟩
theorem p_foldOverstyleschoice_1010y1_1 (n : Nat) (a0 a1 a2 : Int) (a3 : Bool) (a4 : Int) (a5 : List Int) (a6 a7 : Nat) (a8 a9 a10 : Int) (a11 : Bool) (a12 : Int) (a13 : NL) (a14 a15 c1_0 : Int) (c1_1a : NL) (c1_1t : List (NL)) (c1_2 c1_3 : Int) (c1_4 : Bool) (hc1 : m_stylesStyle1q1 n a0 a1 a2 a3 a12 a13 a14 a15 a4 a5 a6 a7 = some (c1_0, (c1_1a :: c1_1t), c1_2, c1_3, c1_4)) : G_foldOverstyleschoice_1010y1 a0 a1 a2 a3 a4 a5 a6 a7 a8 a9 a10 a11 a12 a13 a14 a15 (c1_0, [c1_1a], c1_2, c1_3, c1_4) :=
 runY_ok hm (A1 := aT []) (L1 := lT []) (A2 := aT [(4, .call (C_stylesStyle1q1 a0 a1 a2 a3 a12 a13 a14 a15 a4 a5 a6 a7 (c1_0, (c1_1a :: c1_1t), c1_2, c1_3, c1_4) [(0, 4, false), (1, 5, false), (2, 6, true)] [(10, 3, false)]))]) (L2 := lT []) (wk := ⟨[], [(0, 0, false), (1, 1, false), (2, 2, false), (3, 3, false), (4, 4, false), (5, 5, false), (6, 6, true), (7, 7, false), (8, 8, false)], 9, 0⟩)
  (ps := [G_stylesStyle1q1 a0 a1 a2 a3 a12 a13 a14 a15 a4 a5 a6 a7 (c1_0, (c1_1a :: c1_1t), c1_2, c1_3, c1_4),
FlatB (.cells (layT (iv a5)) 3),
FlatB (.cells (layT (iv a5)) 3)]) (by kernel_rfl) ⟨(m_stylesStyle1q1_ok n a0 a1 a2 a3 a12 a13 a14 a15 a4 a5 a6 a7 (c1_0, (c1_1a :: c1_1t), c1_2, c1_3, c1_4) hc1), (iv_flat a5 3), (iv_flat a5 3), trivial⟩
theorem m_foldOverstyleschoice_1010y1_ok (n : Nat) (a0 : Int) (a1 : Int) (a2 : Int) (a3 : Bool) (a4 : Int) (a5 : List Int) (a6 : Nat) (a7 : Nat) (a8 : Int) (a9 : Int) (a10 : Int) (a11 : Bool) (a12 : Int) (a13 : NL) (a14 : Int) (a15 : Int) (r : Int × List (NL) × Int × Int × Bool) (h : m_foldOverstyleschoice_1010y1 n a0 a1 a2 a3 a4 a5 a6 a7 a8 a9 a10 a11 a12 a13 a14 a15 = some r) : Gv P (.yield 0) (A_foldOverstyleschoice_1010y1 a0 a1 a2 a3 a4 a5 a6 a7 a8 a9 a10 a11 a12 a13 a14 a15) (H_foldOverstyleschoice_1010y1 a0 a1 a2 a3 a4 a5 a6 a7 a8 a9 a10 a11 a12 a13 a14 a15) (V_foldOverstyleschoice_1010y1 a0 a1 a2 a3 a4 a5 a6 a7 a8 a9 a10 a11 a12 a13 a14 a15 r) (R_foldOverstyleschoice_1010y1 a0 a1 a2 a3 a4 a5 a6 a7 a8 a9 a10 a11 a12 a13 a14 a15 r) := by
 unfold m_foldOverstyleschoice_1010y1 at h
 obtain ⟨⟨c1_0, c1_1, c1_2, c1_3, c1_4⟩, hc1, h⟩ := Option.bind_eq_some_iff.1 h
 dsimp only at h
 cases c1_1 with
 | nil =>
  dsimp only at h
  obtain rfl := Option.some.inj h; exact p_foldOverstyleschoice_1010y1_0 n a0 a1 a2 a3 a4 a5 a6 a7 a8 a9 a10 a11 a12 a13 a14 a15 c1_0 c1_2 c1_3 c1_4 hc1
 | cons c1_1a c1_1t =>
  dsimp only at h
  obtain rfl := Option.some.inj h; exact p_foldOverstyleschoice_1010y1_1 n a0 a1 a2 a3 a4 a5 a6 a7 a8 a9 a10 a11 a12 a13 a14 a15 c1_0 c1_1a c1_1t c1_2 c1_3 c1_4 hc1

noncomputable def A_stylesStyle1q2 (a0 : Int) (a1 : NL) (a2 : Int) (a3 : Int) (a4 : Bool) (a5 : Int) (a6 : NL) (a7 : Int) (a8 : Int) (a9 : Int) (a10 : List Int) (a11 : Nat) (a12 : Nat) : List Value := [(Value.agg #[(i6 a0), (nlV a1), (i6 a2), (i6 a3), (bO a4)]), (Value.agg #[(i6 a5), (nlV a6), (i6 a7), (i6 a8)]), (pN 0 0), (pN 1 0)]
noncomputable def H_stylesStyle1q2 (a0 : Int) (a1 : NL) (a2 : Int) (a3 : Int) (a4 : Bool) (a5 : Int) (a6 : NL) (a7 : Int) (a8 : Int) (a9 : Int) (a10 : List Int) (a11 : Nat) (a12 : Nat) : AH := ⟨sB [(0, (some (.cells (layT [(i6 a9)]) 3))), (1, (some (.cells (layT [(sN 2 0 a11 a12)]) 30))), (2, (some (.cells (layT (iv a10)) 3)))], 3, 3⟩
noncomputable def V_stylesStyle1q2 (a0 : Int) (a1 : NL) (a2 : Int) (a3 : Int) (a4 : Bool) (a5 : Int) (a6 : NL) (a7 : Int) (a8 : Int) (a9 : Int) (a10 : List Int) (a11 : Nat) (a12 : Nat) (r : Int × NL × Int × Int × Bool) : Value := match r with
 | (o0, o1, o2, o3, o4) => (Value.agg #[(i6 o0), (nlV o1), (i6 o2), (i6 o3), (bO o4)])
noncomputable def R_stylesStyle1q2 (a0 : Int) (a1 : NL) (a2 : Int) (a3 : Int) (a4 : Bool) (a5 : Int) (a6 : NL) (a7 : Int) (a8 : Int) (a9 : Int) (a10 : List Int) (a11 : Nat) (a12 : Nat) (r : Int × NL × Int × Int × Bool) : AH := match r with
 | (o0, o1, o2, o3, o4) => ⟨sB [(3, (some (.cells (layT [(i6 o0), (nlV o1), (i6 o2), (i6 o3), (bO o4)]) 47)))], 4, 3⟩
noncomputable abbrev G_stylesStyle1q2 (a0 : Int) (a1 : NL) (a2 : Int) (a3 : Int) (a4 : Bool) (a5 : Int) (a6 : NL) (a7 : Int) (a8 : Int) (a9 : Int) (a10 : List Int) (a11 : Nat) (a12 : Nat) (r : Int × NL × Int × Int × Bool) : Prop := Gv P (.func 22) (A_stylesStyle1q2 a0 a1 a2 a3 a4 a5 a6 a7 a8 a9 a10 a11 a12) (H_stylesStyle1q2 a0 a1 a2 a3 a4 a5 a6 a7 a8 a9 a10 a11 a12) (V_stylesStyle1q2 a0 a1 a2 a3 a4 a5 a6 a7 a8 a9 a10 a11 a12 r) (R_stylesStyle1q2 a0 a1 a2 a3 a4 a5 a6 a7 a8 a9 a10 a11 a12 r)
noncomputable abbrev C_stylesStyle1q2 (a0 : Int) (a1 : NL) (a2 : Int) (a3 : Int) (a4 : Bool) (a5 : Int) (a6 : NL) (a7 : Int) (a8 : Int) (a9 : Int) (a10 : List Int) (a11 : Nat) (a12 : Nat) (r : Int × NL × Int × Int × Bool) (ins outs : BL) : CallA := ⟨3, ins, V_stylesStyle1q2 a0 a1 a2 a3 a4 a5 a6 a7 a8 a9 a10 a11 a12 r, R_stylesStyle1q2 a0 a1 a2 a3 a4 a5 a6 a7 a8 a9 a10 a11 a12 r, outs⟩
def m_stylesStyle1q2 (n : Nat) (a0 : Int) (a1 : NL) (a2 : Int) (a3 : Int) (a4 : Bool) (a5 : Int) (a6 : NL) (a7 : Int) (a8 : Int) (a9 : Int) (a10 : List Int) (a11 : Nat) (a12 : Nat) : Option (Int × NL × Int × Int × Bool) :=
 (m_stylesMatchesq1 n a5 a6 a7 a8 a9 a10 a11 a12).bind fun c1_ =>
 if c1_ = true then
  if a4 = true then
   if a8 ≤ a3 then
    some (a0, a1, a2, a3, a4)
   else
    some (a5, a6, a7, a8, true)
  else
   some (a5, a6, a7, a8, true)
 else
  some (a0, a1, a2, a3, a4)
theorem p_stylesStyle1q2_0 (n : Nat) (a0 : Int) (a1 : NL) (a2 a3 : Int) (a4 : Bool) (a5 : Int) (a6 : NL) (a7 a8 a9 : Int) (a10 : List Int) (a11 a12 : Nat) (c1_ : Bool) (hc1 : m_stylesMatchesq1 n a5 a6 a7 a8 a9 a10 a11 a12 = some c1_) (hc2 : c1_ = true) (hc3 : a4 = true) (hc4 : a8 ≤ a3) : G_stylesStyle1q2 a0 a1 a2 a3 a4 a5 a6 a7 a8 a9 a10 a11 a12 (a0, a1, a2, a3, a4) :=
 runF2 hm (L := lT []) ⟨[6], [(3, 5, false)], 4, 3⟩ (yy 9 (.call (C_stylesMatchesq1 a5 a6 a7 a8 a9 a10 a11 a12 c1_ [(0, 2, true)] [])) <|
ww (m_stylesMatchesq1_ok n a5 a6 a7 a8 a9 a10 a11 a12 c1_ hc1) <|
ww (iv_flat a10 3) <|
yy 10 (vf) <|
ww (p := (Value.bool (!c1_)) = (Value.bool false)) (vBn hc2) <|
zz 14 (xbT hc3) <|
zz 20 (xdT hc4) <|
ee) (by kernel_rfl)
theorem p_stylesStyle1q2_1 (n : Nat) (a0 : Int) (a1 : NL) (a2 a3 : Int) (a4 : Bool) (a5 : Int) (a6 : NL) (a7 a8 a9 : Int) (a10 : List Int) (a11 a12 : Nat) (c1_ : Bool) (hc1 : m_stylesMatchesq1 n a5 a6 a7 a8 a9 a10 a11 a12 = some c1_) (hc2 : c1_ = true) (hc3 : a4 = true) (hc4 : ¬ (a8 ≤ a3)) : G_stylesStyle1q2 a0 a1 a2 a3 a4 a5 a6 a7 a8 a9 a10 a11 a12 (a5, a6, a7, a8, true) :=
 runF2 hm (L := lT []) ⟨[6], [(3, 5, false)], 4, 3⟩ (yy 9 (.call (C_stylesMatchesq1 a5 a6 a7 a8 a9 a10 a11 a12 c1_ [(0, 2, true)] [])) <|
ww (m_stylesMatchesq1_ok n a5 a6 a7 a8 a9 a10 a11 a12 c1_ hc1) <|
ww (iv_flat a10 3) <|
yy 10 (vf) <|
ww (p := (Value.bool (!c1_)) = (Value.bool false)) (vBn hc2) <|
zz 14 (xbT hc3) <|
zz 20 (xdF hc4) <|
ee) (by kernel_rfl)
theorem p_stylesStyle1q2_2 (n : Nat) (a0 : Int) (a1 : NL) (a2 a3 : Int) (a4 : Bool) (a5 : Int) (a6 : NL) (a7 a8 a9 : Int) (a10 : List Int) (a11 a12 : Nat) (c1_ : Bool) (hc1 : m_stylesMatchesq1 n a5 a6 a7 a8 a9 a10 a11 a12 = some c1_) (hc2 : c1_ = true) (hc3 : ¬ (a4 = true)) : G_stylesStyle1q2 a0 a1 a2 a3 a4 a5 a6 a7 a8 a9 a10 a11 a12 (a5, a6, a7, a8, true) :=
 runF2 hm (L := lT []) ⟨[6], [(3, 5, false)], 4, 3⟩ (yy 9 (.call (C_stylesMatchesq1 a5 a6 a7 a8 a9 a10 a11 a12 c1_ [(0, 2, true)] [])) <|
ww (m_stylesMatchesq1_ok n a5 a6 a7 a8 a9 a10 a11 a12 c1_ hc1) <|
ww (iv_flat a10 3) <|
yy 10 (vf) <|
ww (p := (Value.bool (!c1_)) = (Value.bool false)) (vBn hc2) <|
zz 14 (xbF hc3) <|
ee) (by kernel_rfl)
theorem p_stylesStyle1q2_3 (n : Nat) (a0 : Int) (a1 : NL) (a2 a3 : Int) (a4 : Bool) (a5 : Int) (a6 : NL) (a7 a8 a9 : Int) (a10 : List Int) (a11 a12 : Nat) (c1_ : Bool) (hc1 : m_stylesMatchesq1 n a5 a6 a7 a8 a9 a10 a11 a12 = some c1_) (hc2 : ¬ (c1_ = true)) : G_stylesStyle1q2 a0 a1 a2 a3 a4 a5 a6 a7 a8 a9 a10 a11 a12 (a0, a1, a2, a3, a4) :=
 runF2 hm (L := lT []) ⟨[6], [(3, 5, false)], 4, 3⟩ (yy 9 (.call (C_stylesMatchesq1 a5 a6 a7 a8 a9 a10 a11 a12 c1_ [(0, 2, true)] [])) <|
ww (m_stylesMatchesq1_ok n a5 a6 a7 a8 a9 a10 a11 a12 c1_ hc1) <|
ww (iv_flat a10 3) <|
yy 10 (vt) <|
ww (p := (Value.bool (!c1_)) = (Value.bool true)) (vBn (Bool.eq_false_iff.2 hc2)) <|
ee) (by kernel_rfl)
theorem m_stylesStyle1q2_ok (n : Nat) (a0 : Int) (a1 : NL) (a2 : Int) (a3 : Int) (a4 : Bool) (a5 : Int) (a6 : NL) (a7 : Int) (a8 : Int) (a9 : Int) (a10 : List Int) (a11 : Nat) (a12 : Nat) (r : Int × NL × Int × Int × Bool) (h : m_stylesStyle1q2 n a0 a1 a2 a3 a4 a5 a6 a7 a8 a9 a10 a11 a12 = some r) : Gv P (.func 22) (A_stylesStyle1q2 a0 a1 a2 a3 a4 a5 a6 a7 a8 a9 a10 a11 a12) (H_stylesStyle1q2 a0 a1 a2 a3 a4 a5 a6 a7 a8 a9 a10 a11 a12) (V_stylesStyle1q2 a0 a1 a2 a3 a4 a5 a6 a7 a8 a9 a10 a11 a12 r) (R_stylesStyle1q2 a0 a1 a2 a3 a4 a5 a6 a7 a8 a9 a10 a11 a12 r) := by
 unfold m_stylesStyle1q2 at h
 obtain ⟨c1_, hc1, h⟩ := Option.bind_eq_some_iff.1 h
 by_cases hc2 : c1_ = true
 ·rw [if_pos hc2] at h
  by_cases hc3 : a4 = true
  ·rw [if_pos hc3] at h
   by_cases hc4 : a8 ≤ a3
   ·rw [if_pos hc4] at h
    obtain rfl := Option.some.inj h; exact p_stylesStyle1q2_0 n a0 a1 a2 a3 a4 a5 a6 a7 a8 a9 a10 a11 a12 c1_ hc1 hc2 hc3 hc4
   ·rw [if_neg hc4] at h
    obtain rfl := Option.some.inj h; exact p_stylesStyle1q2_1 n a0 a1 a2 a3 a4 a5 a6 a7 a8 a9 a10 a11 a12 c1_ hc1 hc2 hc3 hc4
  ·rw [if_neg hc3] at h
   obtain rfl := Option.some.inj h; exact p_stylesStyle1q2_2 n a0 a1 a2 a3 a4 a5 a6 a7 a8 a9 a10 a11 a12 c1_ hc1 hc2 hc3
 ·rw [if_neg hc2] at h
  obtain rfl := Option.some.inj h; exact p_stylesStyle1q2_3 n a0 a1 a2 a3 a4 a5 a6 a7 a8 a9 a10 a11 a12 c1_ hc1 hc2

noncomputable def A_foldOverstyleschoice_1010y2 (a0 : Int) (a1 : NL) (a2 : Int) (a3 : Int) (a4 : Bool) (a5 : Int) (a6 : List Int) (a7 : Nat) (a8 : Nat) (a9 : Int) (a10 : Int) (a11 : Int) (a12 : Bool) (a13 : Int) (a14 : NL) (a15 : Int) (a16 : Int) : List Value := [(Value.agg #[(i6 a13), (nlV a14), (i6 a15), (i6 a16)])]
noncomputable def H_foldOverstyleschoice_1010y2 (a0 : Int) (a1 : NL) (a2 : Int) (a3 : Int) (a4 : Bool) (a5 : Int) (a6 : List Int) (a7 : Nat) (a8 : Nat) (a9 : Int) (a10 : Int) (a11 : Int) (a12 : Bool) (a13 : Int) (a14 : NL) (a15 : Int) (a16 : Int) : AH := ⟨sB [(0, (some (rblk P 20 [false, true, false, true] .ready none [(4, (pN 2 0)), (5, (pN 3 0)), (6, (pN 7 0)), (8, (Value.func (.func 27) #[] #[(pN 8 0)]))] 1))), (1, (some (.marks true))), (2, (some (.cells (layT [(i6 a0), (nlV a1), (i6 a2), (i6 a3), (bO a4)]) 47))), (3, (some (.cells (layT [(Value.func (.func 22) #[] #[(pN 4 0), (pN 5 0)])]) 53))), (4, (some (.cells (layT [(i6 a5)]) 3))), (5, (some (.cells (layT [(sN 6 0 a7 a8)]) 30))), (6, (some (.cells (layT (iv a6)) 3))), (7, (some (.cells (layT [(i6 a9), (Value.slice none 0 0), (i6 a10), (i6 a11), (bO a12)]) 47))), (8, (some (.cells (layT [(sW 0 0 (Args.A).length Args.cA)]) 22)))], 9, 9⟩
noncomputable def V_foldOverstyleschoice_1010y2 (a0 : Int) (a1 : NL) (a2 : Int) (a3 : Int) (a4 : Bool) (a5 : Int) (a6 : List Int) (a7 : Nat) (a8 : Nat) (a9 : Int) (a10 : Int) (a11 : Int) (a12 : Bool) (a13 : Int) (a14 : NL) (a15 : Int) (a16 : Int) (r : Int × NL × Int × Int × Bool) : Value := match r with
 | (o0, o1, o2, o3, o4) => (bO true)
noncomputable def R_foldOverstyleschoice_1010y2 (a0 : Int) (a1 : NL) (a2 : Int) (a3 : Int) (a4 : Bool) (a5 : Int) (a6 : List Int) (a7 : Nat) (a8 : Nat) (a9 : Int) (a10 : Int) (a11 : Int) (a12 : Bool) (a13 : Int) (a14 : NL) (a15 : Int) (a16 : Int) (r : Int × NL × Int × Int × Bool) : AH := match r with
 | (o0, o1, o2, o3, o4) => ⟨sB [(0, (some (rblk P 20 [false, true, false, true] .ready none [(4, (pN 2 0)), (5, (pN 3 0)), (6, (pN 7 0)), (8, (Value.func (.func 27) #[] #[(pN 8 0)]))] 1))), (1, (some (.marks true))), (2, (some (.cells (layT [(i6 o0), (nlV o1), (i6 o2), (i6 o3), (bO o4)]) 47))), (3, (some (.cells (layT [(Value.func (.func 22) #[] #[(pN 4 0), (pN 5 0)])]) 53))), (4, (some (.cells (layT [(i6 a5)]) 3))), (5, (some (.cells (layT [(sN 6 0 a7 a8)]) 30))), (6, (some (.cells (layT (iv a6)) 3))), (7, (some (.cells (layT [(i6 a9), (Value.slice none 0 0), (i6 a10), (i6 a11), (bO a12)]) 47))), (8, (some (.cells (layT [(sW 0 0 (Args.A).length Args.cA)]) 22)))], 9, 0⟩
noncomputable abbrev G_foldOverstyleschoice_1010y2 (a0 : Int) (a1 : NL) (a2 : Int) (a3 : Int) (a4 : Bool) (a5 : Int) (a6 : List Int) (a7 : Nat) (a8 : Nat) (a9 : Int) (a10 : Int) (a11 : Int) (a12 : Bool) (a13 : Int) (a14 : NL) (a15 : Int) (a16 : Int) (r : Int × NL × Int × Int × Bool) : Prop := Gv P (.yield 0) (A_foldOverstyleschoice_1010y2 a0 a1 a2 a3 a4 a5 a6 a7 a8 a9 a10 a11 a12 a13 a14 a15 a16) (H_foldOverstyleschoice_1010y2 a0 a1 a2 a3 a4 a5 a6 a7 a8 a9 a10 a11 a12 a13 a14 a15 a16) (V_foldOverstyleschoice_1010y2 a0 a1 a2 a3 a4 a5 a6 a7 a8 a9 a10 a11 a12 a13 a14 a15 a16 r) (R_foldOverstyleschoice_1010y2 a0 a1 a2 a3 a4 a5 a6 a7 a8 a9 a10 a11 a12 a13 a14 a15 a16 r)
noncomputable abbrev C_foldOverstyleschoice_1010y2 (a0 : Int) (a1 : NL) (a2 : Int) (a3 : Int) (a4 : Bool) (a5 : Int) (a6 : List Int) (a7 : Nat) (a8 : Nat) (a9 : Int) (a10 : Int) (a11 : Int) (a12 : Bool) (a13 : Int) (a14 : NL) (a15 : Int) (a16 : Int) (r : Int × NL × Int × Int × Bool) (ins outs : BL) : CallA := ⟨9, ins, V_foldOverstyleschoice_1010y2 a0 a1 a2 a3 a4 a5 a6 a7 a8 a9 a10 a11 a12 a13 a14 a15 a16 r, R_foldOverstyleschoice_1010y2 a0 a1 a2 a3 a4 a5 a6 a7 a8 a9 a10 a11 a12 a13 a14 a15 a16 r, outs⟩
def m_foldOverstyleschoice_1010y2 (n : Nat) (a0 : Int) (a1 : NL) (a2 : Int) (a3 : Int) (a4 : Bool) (a5 : Int) (a6 : List Int) (a7 : Nat) (a8 : Nat) (a9 : Int) (a10 : Int) (a11 : Int) (a12 : Bool) (a13 : Int) (a14 : NL) (a15 : Int) (a16 : Int) : Option (Int × NL × Int × Int × Bool) :=
 (m_stylesStyle1q2 n a0 a1 a2 a3 a4 a13 a14 a15 a16 a5 a6 a7 a8).bind fun t => match t with
 | (c1_0, c1_1, c1_2, c1_3, c1_4) =>
  some (c1_0, c1_1, c1_2, c1_3, c1_4)
theorem p_foldOverstyleschoice_1010y2_0 (n : Nat) (a0 : Int) (a1 : NL) (a2 a3 : Int) (a4 : Bool) (a5 : Int) (a6 : List Int) (a7 a8 : Nat) (a9 a10 a11 : Int) (a12 : Bool) (a13 : Int) (a14 : NL) (a15 a16 c1_0 : Int) (c1_1 : NL) (c1_2 c1_3 : Int) (c1_4 : Bool) (hc1 : m_stylesStyle1q2 n a0 a1 a2 a3 a4 a13 a14 a15 a16 a5 a6 a7 a8 = some (c1_0, c1_1, c1_2, c1_3, c1_4)) : G_foldOverstyleschoice_1010y2 a0 a1 a2 a3 a4 a5 a6 a7 a8 a9 a10 a11 a12 a13 a14 a15 a16 (c1_0, c1_1, c1_2, c1_3, c1_4) :=
 runY_ok hm (A1 := aT []) (L1 := lT []) (A2 := aT [(4, .call (C_stylesStyle1q2 a0 a1 a2 a3 a4 a13 a14 a15 a16 a5 a6 a7 a8 (c1_0, c1_1, c1_2, c1_3, c1_4) [(0, 4, false), (1, 5, false), (2, 6, true)] [(10, 3, false)]))]) (L2 := lT []) (wk := ⟨[], [(0, 0, false), (1, 1, false), (2, 2, false), (3, 3, false), (4, 4, false), (5, 5, false), (6, 6, true), (7, 7, false), (8, 8, false)], 9, 0⟩)
  (ps := [G_stylesStyle1q2 a0 a1 a2 a3 a4 a13 a14 a15 a16 a5 a6 a7 a8 (c1_0, c1_1, c1_2, c1_3, c1_4),
FlatB (.cells (layT (iv a6)) 3),
FlatB (.cells (layT (iv a6)) 3)]) (by kernel_rfl) ⟨(m_stylesStyle1q2_ok n a0 a1 a2 a3 a4 a13 a14 a15 a16 a5 a6 a7 a8 (c1_0, c1_1, c1_2, c1_3, c1_4) hc1), (iv_flat a6 3), (iv_flat a6 3), trivial⟩
theorem m_foldOverstyleschoice_1010y2_ok (n : Nat) (a0 : Int) (a1 : NL) (a2 : Int) (a3 : Int) (a4 : Bool) (a5 : Int) (a6 : List Int) (a7 : Nat) (a8 : Nat) (a9 : Int) (a10 : Int) (a11 : Int) (a12 : Bool) (a13 : Int) (a14 : NL) (a15 : Int) (a16 : Int) (r : Int × NL × Int × Int × Bool) (h : m_foldOverstyleschoice_1010y2 n a0 a1 a2 a3 a4 a5 a6 a7 a8 a9 a10 a11 a12 a13 a14 a15 a16 = some r) : Gv P (.yield 0) (A_foldOverstyleschoice_1010y2 a0 a1 a2 a3 a4 a5 a6 a7 a8 a9 a10 a11 a12 a13 a14 a15 a16) (H_foldOverstyleschoice_1010y2 a0 a1 a2 a3 a4 a5 a6 a7 a8 a9 a10 a11 a12 a13 a14 a15 a16) (V_foldOverstyleschoice_1010y2 a0 a1 a2 a3 a4 a5 a6 a7 a8 a9 a10 a11 a12 a13 a14 a15 a16 r) (R_foldOverstyleschoice_1010y2 a0 a1 a2 a3 a4 a5 a6 a7 a8 a9 a10 a11 a12 a13 a14 a15 a16 r) := by
 unfold m_foldOverstyleschoice_1010y2 at h
 obtain ⟨⟨c1_0, c1_1, c1_2, c1_3, c1_4⟩, hc1, h⟩ := Option.bind_eq_some_iff.1 h
 dsimp only at h
 obtain rfl := Option.some.inj h; exact p_foldOverstyleschoice_1010y2_0 n a0 a1 a2 a3 a4 a5 a6 a7 a8 a9 a10 a11 a12 a13 a14 a15 a16 c1_0 c1_1 c1_2 c1_3 c1_4 hc1

noncomputable def A_slicesValuesapiStyle1q1 (a0 : Int) (a1 : Int) (a2 : Int) (a3 : Bool) (a4 : Int) (a5 : List Int) (a6 : Nat) (a7 : Nat) (a8 : Int) (a9 : Int) (a10 : Int) (a11 : Bool) : List Value := [(Value.func (.yield 0) #[] #[]), (pN 8 0)]
noncomputable def H_slicesValuesapiStyle1q1 (a0 : Int) (a1 : Int) (a2 : Int) (a3 : Bool) (a4 : Int) (a5 : List Int) (a6 : Nat) (a7 : Nat) (a8 : Int) (a9 : Int) (a10 : Int) (a11 : Bool) : AH := ⟨sB [(0, (some (rblk P 20 [false, true, false, true] .ready none [(4, (pN 2 0)), (5, (pN 3 0)), (6, (pN 7 0)), (8, (Value.func (.func 27) #[] #[(pN 8 0)]))] 1))), (1, (some (.marks true))), (2, (some (.cells (layT [(i6 a0), (Value.slice none 0 0), (i6 a1), (i6 a2), (bO a3)]) 47))), (3, (some (.cells (layT [(Value.func (.func 22) #[] #[(pN 4 0), (pN 5 0)])]) 53))), (4, (some (.cells (layT [(i6 a4)]) 3))), (5, (some (.cells (layT [(sN 6 0 a6 a7)]) 30))), (6, (some (.cells (layT (iv a5)) 3))), (7, (some (.cells (layT [(i6 a8), (Value.slice none 0 0), (i6 a9), (i6 a10), (bO a11)]) 47))), (8, (some (.cells (layT [(sW 0 0 (Args.A).length Args.cA)]) 22)))], 9, 9⟩
noncomputable def V_slicesValuesapiStyle1q1 (a0 : Int) (a1 : Int) (a2 : Int) (a3 : Bool) (a4 : Int) (a5 : List Int) (a6 : Nat) (a7 : Nat) (a8 : Int) (a9 : Int) (a10 : Int) (a11 : Bool) (r : Int × List (NL) × Int × Int × Bool) : Value := match r with
 | (o0, o1, o2, o3, o4) => (Value.tuple #[])
noncomputable def R_slicesValuesapiStyle1q1 (a0 : Int) (a1 : Int) (a2 : Int) (a3 : Bool) (a4 : Int) (a5 : List Int) (a6 : Nat) (a7 : Nat) (a8 : Int) (a9 : Int) (a10 : Int) (a11 : Bool) (r : Int × List (NL) × Int × Int × Bool) : AH := match r with
 | (o0, o1, o2, o3, o4) => ⟨sB [(0, (some (rblk P 20 [false, true, false, true] .ready none [(4, (pN 2 0)), (5, (pN 3 0)), (6, (pN 7 0)), (8, (Value.func (.func 27) #[] #[(pN 8 0)]))] 1))), (1, (some (.marks true))), (2, (some (.cells (layT [(i6 o0), (nlQ o1), (i6 o2), (i6 o3), (bO o4)]) 47))), (3, (some (.cells (layT [(Value.func (.func 22) #[] #[(pN 4 0), (pN 5 0)])]) 53))), (4, (some (.cells (layT [(i6 a4)]) 3))), (5, (some (.cells (layT [(sN 6 0 a6 a7)]) 30))), (6, (some (.cells (layT (iv a5)) 3))), (7, (some (.cells (layT [(i6 a8), (Value.slice none 0 0), (i6 a9), (i6 a10), (bO a11)]) 47))), (8, (some (.cells (layT [(sW 0 0 (Args.A).length Args.cA)]) 22)))], 9, 0⟩
noncomputable abbrev G_slicesValuesapiStyle1q1 (a0 : Int) (a1 : Int) (a2 : Int) (a3 : Bool) (a4 : Int) (a5 : List Int) (a6 : Nat) (a7 : Nat) (a8 : Int) (a9 : Int) (a10 : Int) (a11 : Bool) (r : Int × List (NL) × Int × Int × Bool) : Prop := Gv P (.func 27) (A_slicesValuesapiStyle1q1 a0 a1 a2 a3 a4 a5 a6 a7 a8 a9 a10 a11) (H_slicesValuesapiStyle1q1 a0 a1 a2 a3 a4 a5 a6 a7 a8 a9 a10 a11) (V_slicesValuesapiStyle1q1 a0 a1 a2 a3 a4 a5 a6 a7 a8 a9 a10 a11 r) (R_slicesValuesapiStyle1q1 a0 a1 a2 a3 a4 a5 a6 a7 a8 a9 a10 a11 r)
noncomputable abbrev C_slicesValuesapiStyle1q1 (a0 : Int) (a1 : Int) (a2 : Int) (a3 : Bool) (a4 : Int) (a5 : List Int) (a6 : Nat) (a7 : Nat) (a8 : Int) (a9 : Int) (a10 : Int) (a11 : Bool) (r : Int × List (NL) × Int × Int × Bool) (ins outs : BL) : CallA := ⟨9, ins, V_slicesValuesapiStyle1q1 a0 a1 a2 a3 a4 a5 a6 a7 a8 a9 a10 a11 r, R_slicesValuesapiStyle1q1 a0 a1 a2 a3 a4 a5 a6 a7 a8 a9 a10 a11 r, outs⟩
noncomputable def S_slicesValuesapiStyle1q1_1 (x1_5 : Int) (x1_6 : List Int) (x1_7 : Nat) (x1_8 : Nat) (x1_9 : Int) (x1_10 : Int) (x1_11 : Int) (x1_12 : Bool) (x1_13 : Int) (st : Int × List (NL) × Int × Int × Bool × Int) : XSt := match st with
 | (x1_0, x1_1, x1_2, x1_3, x1_4, x1_14) => (sT 16 [(0, (Value.func (.yield 0) #[] #[])), (5, (sW 0 0 (Args.A).length Args.cA)), (6, (i6 x1_13)), (7, (i6 x1_14))], [], ⟨sB [(0, (some (rblk P 20 [false, true, false, true] .ready none [(4, (pN 2 0)), (5, (pN 3 0)), (6, (pN 7 0)), (8, (Value.func (.func 27) #[] #[(pN 8 0)]))] 1))), (1, (some (.marks true))), (2, (some (.cells (layT [(i6 x1_0), (nlQ x1_1), (i6 x1_2), (i6 x1_3), (bO x1_4)]) 47))), (3, (some (.cells (layT [(Value.func (.func 22) #[] #[(pN 4 0), (pN 5 0)])]) 53))), (4, (some (.cells (layT [(i6 x1_5)]) 3))), (5, (some (.cells (layT [(sN 6 0 x1_7 x1_8)]) 30))), (6, (some (.cells (layT (iv x1_6)) 3))), (7, (some (.cells (layT [(i6 x1_9), (Value.slice none 0 0), (i6 x1_10), (i6 x1_11), (bO x1_12)]) 47))), (8, (some (.cells (layT [(sW 0 0 (Args.A).length Args.cA)]) 22)))], 9, 0⟩)
noncomputable def X_slicesValuesapiStyle1q1_1 (x1_5 : Int) (x1_6 : List Int) (x1_7 : Nat) (x1_8 : Nat) (x1_9 : Int) (x1_10 : Int) (x1_11 : Int) (x1_12 : Bool) (x1_13 : Int) (r : Int × List (NL) × Int × Int × Bool) : Ex × XSt := match r with
 | (z1_0, z1_1, z1_2, z1_3, z1_4) => (.exit 0, (sT 16 [], [], ⟨sB [(0, (some (rblk P 20 [false, true, false, true] .ready none [(4, (pN 2 0)), (5, (pN 3 0)), (6, (pN 7 0)), (8, (Value.func (.func 27) #[] #[(pN 8 0)]))] 1))), (1, (some (.marks true))), (2, (some (.cells (layT [(i6 z1_0), (nlQ z1_1), (i6 z1_2), (i6 z1_3), (bO z1_4)]) 47))), (3, (some (.cells (layT [(Value.func (.func 22) #[] #[(pN 4 0), (pN 5 0)])]) 53))), (4, (some (.cells (layT [(i6 x1_5)]) 3))), (5, (some (.cells (layT [(sN 6 0 x1_7 x1_8)]) 30))), (6, (some (.cells (layT (iv x1_6)) 3))), (7, (some (.cells (layT [(i6 x1_9), (Value.slice none 0 0), (i6 x1_10), (i6 x1_11), (bO x1_12)]) 47))), (8, (some (.cells (layT [(sW 0 0 (Args.A).length Args.cA)]) 22)))], 9, 0⟩))
noncomputable abbrev Q_slicesValuesapiStyle1q1_1 (rnd : Option Nat) (x1_5 : Int) (x1_6 : List Int) (x1_7 : Nat) (x1_8 : Nat) (x1_9 : Int) (x1_10 : Int) (x1_11 : Int) (x1_12 : Bool) (x1_13 : Int) (st : Int × List (NL) × Int × Int × Bool × Int) (c : Ex × XSt) : Prop := CG P rnd (fnN P 27) 9 (codeOf P 27 [false, false, true]) (S_slicesValuesapiStyle1q1_1 x1_5 x1_6 x1_7 x1_8 x1_9 x1_10 x1_11 x1_12 x1_13 st) c
noncomputable abbrev U_slicesValuesapiStyle1q1_1 (rd : Option Nat) (x1_5 : Int) (x1_6 : List Int) (x1_7 : Nat) (x1_8 : Nat) (x1_9 : Int) (x1_10 : Int) (x1_11 : Int) (x1_12 : Bool) (x1_13 : Int) (st : Int × List (NL) × Int × Int × Bool × Int) (r : Int × List (NL) × Int × Int × Bool) : Prop := CG P rd (fnN P 27) 9 (codeOf P 27 [false, true]) (S_slicesValuesapiStyle1q1_1 x1_5 x1_6 x1_7 x1_8 x1_9 x1_10 x1_11 x1_12 x1_13 st) (X_slicesValuesapiStyle1q1_1 x1_5 x1_6 x1_7 x1_8 x1_9 x1_10 x1_11 x1_12 x1_13 r)
def B_slicesValuesapiStyle1q1_1 (n : Nat) (x1_5 : Int) (x1_6 : List Int) (x1_7 : Nat) (x1_8 : Nat) (x1_9 : Int) (x1_10 : Int) (x1_11 : Int) (x1_12 : Bool) (x1_13 : Int) (st : Int × List (NL) × Int × Int × Bool × Int) : Option ((Int × List (NL) × Int × Int × Bool × Int) ⊕ (Int × List (NL) × Int × Int × Bool)) := match st with
 | (x1_0, x1_1, x1_2, x1_3, x1_4, x1_14) =>
  match x1_1 with
  | [] =>
   if x1_14 < x1_13 then
    if 0 ≤ x1_14 ∧ x1_14 < (((Args.A).length : Nat) : Int) then
     ((some ((Args.A).getD (x1_14).toNat (0, nl0, 0, 0)))).bind fun y1_3_ =>
     (m_foldOverstyleschoice_1010y1 n x1_0 x1_2 x1_3 x1_4 x1_5 x1_6 x1_7 x1_8 x1_9 x1_10 x1_11 x1_12 (y1_3_.1) (y1_3_.2.1) (y1_3_.2.2.1) (y1_3_.2.2.2)).bind fun t => match t with
     | (y1_4_0, y1_4_1, y1_4_2, y1_4_3, y1_4_4) =>
      match y1_4_1 with
      | [] =>
       some (.inl (y1_4_0, ([] : List (NL)), y1_4_2, y1_4_3, y1_4_4, (w64 (x1_14 + (1 : Int)))))
      | y1_4_1a :: y1_4_1t =>
       some (.inl (y1_4_0, [y1_4_1a], y1_4_2, y1_4_3, y1_4_4, (w64 (x1_14 + (1 : Int)))))
    else none
   else
    some (.inr (x1_0, ([] : List (NL)), x1_2, x1_3, x1_4))
  | x1_1a :: x1_1t =>
   if x1_14 < x1_13 then
    if 0 ≤ x1_14 ∧ x1_14 < (((Args.A).length : Nat) : Int) then
     ((some ((Args.A).getD (x1_14).toNat (0, nl0, 0, 0)))).bind fun y1_3_ =>
     (m_foldOverstyleschoice_1010y2 n x1_0 x1_1a x1_2 x1_3 x1_4 x1_5 x1_6 x1_7 x1_8 x1_9 x1_10 x1_11 x1_12 (y1_3_.1) (y1_3_.2.1) (y1_3_.2.2.1) (y1_3_.2.2.2)).bind fun t => match t with
     | (y1_4_0, y1_4_1, y1_4_2, y1_4_3, y1_4_4) =>
      some (.inl (y1_4_0, [y1_4_1], y1_4_2, y1_4_3, y1_4_4, (w64 (x1_14 + (1 : Int)))))
    else none
   else
    some (.inr (x1_0, [x1_1a], x1_2, x1_3, x1_4))
def m_slicesValuesapiStyle1q1_1 (n : Nat) (x1_5 : Int) (x1_6 : List Int) (x1_7 : Nat) (x1_8 : Nat) (x1_9 : Int) (x1_10 : Int) (x1_11 : Int) (x1_12 : Bool) (x1_13 : Int) (st : Int × List (NL) × Int × Int × Bool × Int) : Option (Int × List (NL) × Int × Int × Bool) := iterM (B_slicesValuesapiStyle1q1_1 n x1_5 x1_6 x1_7 x1_8 x1_9 x1_10 x1_11 x1_12 x1_13) n st
theorem q_slicesValuesapiStyle1q1_1_0 (n : Nat) {rnd : Option Nat} (x1_0 x1_2 x1_3 : Int) (x1_4 : Bool) (x1_5 : Int) (x1_6 : List Int) (x1_7 x1_8 : Nat) (x1_9 x1_10 x1_11 : Int) (x1_12 : Bool) (x1_13 x1_14 : Int) (hy1_1 : x1_14 < x1_13) (hy1_2 : 0 ≤ x1_14 ∧ x1_14 < (((Args.A).length : Nat) : Int)) (y1_3_ : Int × NL × Int × Int) (hy1_3 : (some ((Args.A).getD (x1_14).toNat (0, nl0, 0, 0))) = some y1_3_) (y1_4_0 y1_4_2 y1_4_3 : Int) (y1_4_4 : Bool) (hy1_4 : m_foldOverstyleschoice_1010y1 n x1_0 x1_2 x1_3 x1_4 x1_5 x1_6 x1_7 x1_8 x1_9 x1_10 x1_11 x1_12 (y1_3_.1) (y1_3_.2.1) (y1_3_.2.2.1) (y1_3_.2.2.2) = some (y1_4_0, [], y1_4_2, y1_4_3, y1_4_4)) : Q_slicesValuesapiStyle1q1_1 rnd x1_5 x1_6 x1_7 x1_8 x1_9 x1_10 x1_11 x1_12 x1_13 (x1_0, ([] : List (NL)), x1_2, x1_3, x1_4, x1_14) (.normal, S_slicesValuesapiStyle1q1_1 x1_5 x1_6 x1_7 x1_8 x1_9 x1_10 x1_11 x1_12 x1_13 (y1_4_0, ([] : List (NL)), y1_4_2, y1_4_3, y1_4_4, (w64 (x1_14 + (1 : Int))))) :=
 runC2 hm (L := lT []) ⟨[0, 5, 6, 7], [(0, 0, false), (1, 1, false), (2, 2, false), (3, 3, false), (4, 4, false), (5, 5, false), (6, 6, true), (7, 7, false), (8, 8, false)], 9, 0⟩ (zz 1 (xdT hy1_1) <|
zz 7 (xk1 0 Args.cA hy1_2) <|
zz 8 (lk22 hy1_3 (toNatLt hy1_2)) <|
yy 14 (.call (C_foldOverstyleschoice_1010y1 x1_0 x1_2 x1_3 x1_4 x1_5 x1_6 x1_7 x1_8 x1_9 x1_10 x1_11 x1_12 (y1_3_.1) (y1_3_.2.1) (y1_3_.2.2.1) (y1_3_.2.2.2) (y1_4_0, ([] : List (NL)), y1_4_2, y1_4_3, y1_4_4) [(0, 0, false), (1, 1, false), (2, 2, false), (3, 3, false), (4, 4, false), (5, 5, false), (6, 6, true), (7, 7, false), (8, 8, false)] [(0, 0, false), (1, 1, false), (2, 2, false), (3, 3, false), (4, 4, false), (5, 5, false), (6, 6, true), (7, 7, false), (8, 8, false)])) <|
ww (m_foldOverstyleschoice_1010y1_ok n x1_0 x1_2 x1_3 x1_4 x1_5 x1_6 x1_7 x1_8 x1_9 x1_10 x1_11 x1_12 (y1_3_.1) (y1_3_.2.1) (y1_3_.2.2.1) (y1_3_.2.2.2) (y1_4_0, ([] : List (NL)), y1_4_2, y1_4_3, y1_4_4) hy1_4) <|
ww (iv_flat x1_6 3) <|
ww (iv_flat x1_6 3) <|
ww (iv_flat x1_6 3) <|
ee) (by kernel_rfl)
theorem q_slicesValuesapiStyle1q1_1_1 (n : Nat) {rnd : Option Nat} (x1_0 x1_2 x1_3 : Int) (x1_4 : Bool) (x1_5 : Int) (x1_6 : List Int) (x1_7 x1_8 : Nat) (x1_9 x1_10 x1_11 : Int) (x1_12 : Bool) (x1_13 x1_14 : Int) (hy1_1 : x1_14 < x1_13) (hy1_2 : 0 ≤ x1_14 ∧ x1_14 < (((Args.A).length : Nat) : Int)) (y1_3_ : Int × NL × Int × Int) (hy1_3 : (some ((Args.A).getD (x1_14).toNat (0, nl0, 0, 0))) = some y1_3_) (y1_4_0 : Int) (y1_4_1a : NL) (y1_4_1t : List (NL)) (y1_4_2 y1_4_3 : Int) (y1_4_4 : Bool) (hy1_4 : m_foldOverstyleschoice_1010y1 n x1_0 x1_2 x1_3 x1_4 x1_5 x1_6 x1_7 x1_8 x1_9 x1_10 x1_11 x1_12 (y1_3_.1) (y1_3_.2.1) (y1_3_.2.2.1) (y1_3_.2.2.2) = some (y1_4_0, (y1_4_1a :: y1_4_1t), y1_4_2, y1_4_3, y1_4_4)) : Q_slicesValuesapiStyle1q1_1 rnd x1_5 x1_6 x1_7 x1_8 x1_9 x1_10 x1_11 x1_12 x1_13 (x1_0, ([] : List (NL)), x1_2, x1_3, x1_4, x1_14) (.normal, S_slicesValuesapiStyle1q1_1 x1_5 x1_6 x1_7 x1_8 x1_9 x1_10 x1_11 x1_12 x1_13 (y1_4_0, [y1_4_1a], y1_4_2, y1_4_3, y1_4_4, (w64 (x1_14 + (1 : Int))))) :=
 runC2 hm (L := lT []) ⟨[0, 5, 6, 7], [(0, 0, false), (1, 1, false), (2, 2, false), (3, 3, false), (4, 4, false), (5, 5, false), (6, 6, true), (7, 7, false), (8, 8, false)], 9, 0⟩ (zz 1 (xdT hy1_1) <|
zz 7 (xk1 0 Args.cA hy1_2) <|
zz 8 (lk22 hy1_3 (toNatLt hy1_2)) <|
yy 14 (.call (C_foldOverstyleschoice_1010y1 x1_0 x1_2 x1_3 x1_4 x1_5 x1_6 x1_7 x1_8 x1_9 x1_10 x1_11 x1_12 (y1_3_.1) (y1_3_.2.1) (y1_3_.2.2.1) (y1_3_.2.2.2) (y1_4_0, (y1_4_1a :: y1_4_1t), y1_4_2, y1_4_3, y1_4_4) [(0, 0, false), (1, 1, false), (2, 2, false), (3, 3, false), (4, 4, false), (5, 5, false), (6, 6, true), (7, 7, false), (8, 8, false)] [(0, 0, false), (1, 1, false), (2, 2, false), (3, 3, false), (4, 4, false), (5, 5, false), (6, 6, true), (7, 7, false), (8, 8, false)])) <|
ww (m_foldOverstyleschoice_1010y1_ok n x1_0 x1_2 x1_3 x1_4 x1_5 x1_6 x1_7 x1_8 x1_9 x1_10 x1_11 x1_12 (y1_3_.1) (y1_3_.2.1) (y1_3_.2.2.1) (y1_3_.2.2.2) (y1_4_0, (y1_4_1a :: y1_4_1t), y1_4_2, y1_4_3, y1_4_4) hy1_4) <|
ww (iv_flat x1_6 3) <|
ww (iv_flat x1_6 3) <|
ww (iv_flat x1_6 3) <|
ee) (by kernel_rfl)
theorem q_slicesValuesapiStyle1q1_1_2 (n : Nat) {rnd : Option Nat} (x1_0 x1_2 x1_3 : Int) (x1_4 : Bool) (x1_5 : Int) (x1_6 : List Int) (x1_7 x1_8 : Nat) (x1_9 x1_10 x1_11 : Int) (x1_12 : Bool) (x1_13 x1_14 : Int) (hy1_1 : ¬ (x1_14 < x1_13)) : Q_slicesValuesapiStyle1q1_1 rnd x1_5 x1_6 x1_7 x1_8 x1_9 x1_10 x1_11 x1_12 x1_13 (x1_0, ([] : List (NL)), x1_2, x1_3, x1_4, x1_14) (X_slicesValuesapiStyle1q1_1 x1_5 x1_6 x1_7 x1_8 x1_9 x1_10 x1_11 x1_12 x1_13 (x1_0, ([] : List (NL)), x1_2, x1_3, x1_4)) :=
 runC2 hm (L := lT []) ⟨[], [(0, 0, false), (1, 1, false), (2, 2, false), (3, 3, false), (4, 4, false), (5, 5, false), (6, 6, true), (7, 7, false), (8, 8, false)], 9, 0⟩ (zz 1 (xdF hy1_1) <|
ww (iv_flat x1_6 3) <|
ee) (by kernel_rfl)
theorem q_slicesValuesapiStyle1q1_1_3 (n : Nat) {rnd : Option Nat} (x1_0 : Int) (x1_1a : NL) (x1_1t : List (NL)) (x1_2 x1_3 : Int) (x1_4 : Bool) (x1_5 : Int) (x1_6 : List Int) (x1_7 x1_8 : Nat) (x1_9 x1_10 x1_11 : Int) (x1_12 : Bool) (x1_13 x1_14 : Int) (hy1_1 : x1_14 < x1_13) (hy1_2 : 0 ≤ x1_14 ∧ x1_14 < (((Args.A).length : Nat) : Int)) (y1_3_ : Int × NL × Int × Int) (hy1_3 : (some ((Args.A).getD (x1_14).toNat (0, nl0, 0, 0))) = some y1_3_) (y1_4_0 : Int) (y1_4_1 : NL) (y1_4_2 y1_4_3 : Int) (y1_4_4 : Bool) (hy1_4 : m_foldOverstyleschoice_1010y2 n x1_0 x1_1a x1_2 x1_3 x1_4 x1_5 x1_6 x1_7 x1_8 x1_9 x1_10 x1_11 x1_12 (y1_3_.1) (y1_3_.2.1) (y1_3_.2.2.1) (y1_3_.2.2.2) = some (y1_4_0, y1_4_1, y1_4_2, y1_4_3, y1_4_4)) : Q_slicesValuesapiStyle1q1_1 rnd x1_5 x1_6 x1_7 x1_8 x1_9 x1_10 x1_11 x1_12 x1_13 (x1_0, (x1_1a :: x1_1t), x1_2, x1_3, x1_4, x1_14) (.normal, S_slicesValuesapiStyle1q1_1 x1_5 x1_6 x1_7 x1_8 x1_9 x1_10 x1_11 x1_12 x1_13 (y1_4_0, [y1_4_1], y1_4_2, y1_4_3, y1_4_4, (w64 (x1_14 + (1 : Int))))) :=
 runC2 hm (L := lT []) ⟨[0, 5, 6, 7], [(0, 0, false), (1, 1, false), (2, 2, false), (3, 3, false), (4, 4, false), (5, 5, false), (6, 6, true), (7, 7, false), (8, 8, false)], 9, 0⟩ (zz 1 (xdT hy1_1) <|
zz 7 (xk1 0 Args.cA hy1_2) <|
zz 8 (lk22 hy1_3 (toNatLt hy1_2)) <|
yy 14 (.call (C_foldOverstyleschoice_1010y2 x1_0 x1_1a x1_2 x1_3 x1_4 x1_5 x1_6 x1_7 x1_8 x1_9 x1_10 x1_11 x1_12 (y1_3_.1) (y1_3_.2.1) (y1_3_.2.2.1) (y1_3_.2.2.2) (y1_4_0, y1_4_1, y1_4_2, y1_4_3, y1_4_4) [(0, 0, false), (1, 1, false), (2, 2, false), (3, 3, false), (4, 4, false), (5, 5, false), (6, 6, true), (7, 7, false), (8, 8, false)] [(0, 0, false), (1, 1, false), (2, 2, false), (3, 3, false), (4, 4, false), (5, 5, false), (6, 6, true), (7, 7, false), (8, 8, false)])) <|
ww (m_foldOverstyleschoice_1010y2_ok n x1_0 x1_1a x1_2 x1_3 x1_4 x1_5 x1_6 x1_7 x1_8 x1_9 x1_10 x1_11 x1_12 (y1_3_.1) (y1_3_.2.1) (y1_3_.2.2.1) (y1_3_.2.2.2) (y1_4_0, y1_4_1, y1_4_2, y1_4_3, y1_4_4) hy1_4) <|
ww (iv_flat x1_6 3) <|
ww (iv_flat x1_6 3) <|
ww (iv_flat x1_6 3) <|
ee) (by kernel_rfl)
theorem q_slicesValuesapiStyle1q1_1_4 (n : Nat) {rnd : Option Nat} (x1_0 : Int) (x1_1a : NL) (x1_1t : List (NL)) (x1_2 x1_3 : Int) (x1_4 : Bool) (x1_5 : Int) (x1_6 : List Int) (x1_7 x1_8 : Nat) (x1_9 x1_10 x1_11 : Int) (x1_12 : Bool) (x1_13 x1_14 : Int) (hy1_1 : ¬ (x1_14 < x1_13)) : Q_slicesValuesapiStyle1q1_1 rnd x1_5 x1_6 x1_7 x1_8 x1_9 x1_10 x1_11 x1_12 x1_13 (x1_0, (x1_1a :: x1_1t), x1_2, x1_3, x1_4, x1_14) (X_slicesValuesapiStyle1q1_1 x1_5 x1_6 x1_7 x1_8 x1_9 x1_10 x1_11 x1_12 x1_13 (x1_0, [x1_1a], x1_2, x1_3, x1_4)) :=
 runC2 hm (L := lT []) ⟨[], [(0, 0, false), (1, 1, false), (2, 2, false), (3, 3, false), (4, 4, false), (5, 5, false), (6, 6, true), (7, 7, false), (8, 8, false)], 9, 0⟩ (zz 1 (xdF hy1_1) <|
ww (iv_flat x1_6 3) <|
ee) (by kernel_rfl)
theorem m_slicesValuesapiStyle1q1_1_ok (n : Nat) {rnd : Option Nat} (x1_5 : Int) (x1_6 : List Int) (x1_7 : Nat) (x1_8 : Nat) (x1_9 : Int) (x1_10 : Int) (x1_11 : Int) (x1_12 : Bool) (x1_13 : Int) (st : Int × List (NL) × Int × Int × Bool × Int) (r : Int × List (NL) × Int × Int × Bool) (h : m_slicesValuesapiStyle1q1_1 n x1_5 x1_6 x1_7 x1_8 x1_9 x1_10 x1_11 x1_12 x1_13 st = some r) : CG P rnd (fnN P 27) 9 (codeOf P 27 [false, true]) (S_slicesValuesapiStyle1q1_1 x1_5 x1_6 x1_7 x1_8 x1_9 x1_10 x1_11 x1_12 x1_13 st) (X_slicesValuesapiStyle1q1_1 x1_5 x1_6 x1_7 x1_8 x1_9 x1_10 x1_11 x1_12 x1_13 r) :=
 CG.iter (b := codeOf P 27 [false, false, true]) (by kernel_rfl) (body := B_slicesValuesapiStyle1q1_1 n x1_5 x1_6 x1_7 x1_8 x1_9 x1_10 x1_11 x1_12 x1_13) (S := S_slicesValuesapiStyle1q1_1 x1_5 x1_6 x1_7 x1_8 x1_9 x1_10 x1_11 x1_12 x1_13) (X := X_slicesValuesapiStyle1q1_1 x1_5 x1_6 x1_7 x1_8 x1_9 x1_10 x1_11 x1_12 x1_13)
  (fun s s' h => by
  obtain ⟨x1_0, x1_1, x1_2, x1_3, x1_4, x1_14⟩ := s
  unfold B_slicesValuesapiStyle1q1_1 at h
  dsimp only at h
  cases x1_1 with
  | nil =>
   dsimp only at h
   by_cases hy1_1 : x1_14 < x1_13
   ·rw [if_pos hy1_1] at h
    by_cases hy1_2 : 0 ≤ x1_14 ∧ x1_14 < (((Args.A).length : Nat) : Int)
    ·rw [if_pos hy1_2] at h
     obtain ⟨y1_3_, hy1_3, h⟩ := Option.bind_eq_some_iff.1 h
     obtain ⟨⟨y1_4_0, y1_4_1, y1_4_2, y1_4_3, y1_4_4⟩, hy1_4, h⟩ := Option.bind_eq_some_iff.1 h
     dsimp only at h
     cases y1_4_1 with
     | nil =>
      dsimp only at h
      obtain rfl := Sum.inl.inj (Option.some.inj h); exact q_slicesValuesapiStyle1q1_1_0 n x1_0 x1_2 x1_3 x1_4 x1_5 x1_6 x1_7 x1_8 x1_9 x1_10 x1_11 x1_12 x1_13 x1_14 hy1_1 hy1_2 y1_3_ hy1_3 y1_4_0 y1_4_2 y1_4_3 y1_4_4 hy1_4
     | cons y1_4_1a y1_4_1t =>
      dsimp only at h
      obtain rfl := Sum.inl.inj (Option.some.inj h); exact q_slicesValuesapiStyle1q1_1_1 n x1_0 x1_2 x1_3 x1_4 x1_5 x1_6 x1_7 x1_8 x1_9 x1_10 x1_11 x1_12 x1_13 x1_14 hy1_1 hy1_2 y1_3_ hy1_3 y1_4_0 y1_4_1a y1_4_1t y1_4_2 y1_4_3 y1_4_4 hy1_4
    ·rw [if_neg hy1_2] at h; cases h
   ·rw [if_neg hy1_1] at h
    cases h
  | cons x1_1a x1_1t =>
   dsimp only at h
   by_cases hy1_1 : x1_14 < x1_13
   ·rw [if_pos hy1_1] at h
    by_cases hy1_2 : 0 ≤ x1_14 ∧ x1_14 < (((Args.A).length : Nat) : Int)
    ·rw [if_pos hy1_2] at h
     obtain ⟨y1_3_, hy1_3, h⟩ := Option.bind_eq_some_iff.1 h
     obtain ⟨⟨y1_4_0, y1_4_1, y1_4_2, y1_4_3, y1_4_4⟩, hy1_4, h⟩ := Option.bind_eq_some_iff.1 h
     dsimp only at h
     obtain rfl := Sum.inl.inj (Option.some.inj h); exact q_slicesValuesapiStyle1q1_1_3 n x1_0 x1_1a x1_1t x1_2 x1_3 x1_4 x1_5 x1_6 x1_7 x1_8 x1_9 x1_10 x1_11 x1_12 x1_13 x1_14 hy1_1 hy1_2 y1_3_ hy1_3 y1_4_0 y1_4_1 y1_4_2 y1_4_3 y1_4_4 hy1_4
    ·rw [if_neg hy1_2] at h; cases h
   ·rw [if_neg hy1_1] at h
    cases h)
  (fun s r h => by
  obtain ⟨x1_0, x1_1, x1_2, x1_3, x1_4, x1_14⟩ := s
  unfold B_slicesValuesapiStyle1q1_1 at h
  dsimp only at h
  cases x1_1 with
  | nil =>
   dsimp only at h
   by_cases hy1_1 : x1_14 < x1_13
   ·rw [if_pos hy1_1] at h
    by_cases hy1_2 : 0 ≤ x1_14 ∧ x1_14 < (((Args.A).length : Nat) : Int)
    ·rw [if_pos hy1_2] at h
     obtain ⟨y1_3_, hy1_3, h⟩ := Option.bind_eq_some_iff.1 h
     obtain ⟨⟨y1_4_0, y1_4_1, y1_4_2, y1_4_3, y1_4_4⟩, hy1_4, h⟩ := Option.bind_eq_some_iff.1 h
     dsimp only at h
     cases y1_4_1 with
     | nil =>
      dsimp only at h
      cases h
     | cons y1_4_1a y1_4_1t =>
      dsimp only at h
      cases h
    ·rw [if_neg hy1_2] at h; cases h
   ·rw [if_neg hy1_1] at h
    obtain rfl := Sum.inr.inj (Option.some.inj h); exact q_slicesValuesapiStyle1q1_1_2 n x1_0 x1_2 x1_3 x1_4 x1_5 x1_6 x1_7 x1_8 x1_9 x1_10 x1_11 x1_12 x1_13 x1_14 hy1_1
  | cons x1_1a x1_1t =>
   dsimp only at h
   by_cases hy1_1 : x1_14 < x1_13
   ·rw [if_pos hy1_1] at h
    by_cases hy1_2 : 0 ≤ x1_14 ∧ x1_14 < (((Args.A).length : Nat) : Int)
    ·rw [if_pos hy1_2] at h
     obtain ⟨y1_3_, hy1_3, h⟩ := Option.bind_eq_some_iff.1 h
     obtain ⟨⟨y1_4_0, y1_4_1, y1_4_2, y1_4_3, y1_4_4⟩, hy1_4, h⟩ := Option.bind_eq_some_iff.1 h
     dsimp only at h
     cases h
    ·rw [if_neg hy1_2] at h; cases h
   ·rw [if_neg hy1_1] at h
    obtain rfl := Sum.inr.inj (Option.some.inj h); exact q_slicesValuesapiStyle1q1_1_4 n x1_0 x1_1a x1_1t x1_2 x1_3 x1_4 x1_5 x1_6 x1_7 x1_8 x1_9 x1_10 x1_11 x1_12 x1_13 x1_14 hy1_1)
  (fun r => by intro hx; cases hx) h
def m_slicesValuesapiStyle1q1 (n : Nat) (a0 : Int) (a1 : Int) (a2 : Int) (a3 : Bool) (a4 : Int) (a5 : List Int) (a6 : Nat) (a7 : Nat) (a8 : Int) (a9 : Int) (a10 : Int) (a11 : Bool) : Option (Int × List (NL) × Int × Int × Bool) :=
 (m_slicesValuesapiStyle1q1_1 n a4 a5 a6 a7 a8 a9 a10 a11 (((Args.A).length : Nat) : Int) (a0, ([] : List (NL)), a1, a2, a3, 0)).bind fun t => match t with
 | (c1_0, c1_1, c1_2, c1_3, c1_4) =>
  match c1_1 with
  | [] =>
   some (c1_0, ([] : List (NL)), c1_2, c1_3, c1_4)
  | c1_1a :: c1_1t =>
   some (c1_0, [c1_1a], c1_2, c1_3, c1_4)
theorem p_slicesValuesapiStyle1q1_0 (n : Nat) (a0 a1 a2 : Int) (a3 : Bool) (a4 : Int) (a5 : List Int) (a6 a7 : Nat) (a8 a9 a10 : Int) (a11 : Bool) (c1_0 c1_2 c1_3 : Int) (c1_4 : Bool) (hc1 : m_slicesValuesapiStyle1q1_1 n a4 a5 a6 a7 a8 a9 a10 a11 (((Args.A).length : Nat) : Int) (a0, ([] : List (NL)), a1, a2, a3, 0) = some (c1_0, [], c1_2, c1_3, c1_4)) : G_slicesValuesapiStyle1q1 a0 a1 a2 a3 a4 a5 a6 a7 a8 a9 a10 a11 (c1_0, ([] : List (NL)), c1_2, c1_3, c1_4) :=
 runF2 hm (L := lT [(5, ⟨⟨[0, 5, 6, 7], [(0, 0, false), (1, 1, false), (2, 2, false), (3, 3, false), (4, 4, false), (5, 5, false), (6, 6, true), (7, 7, false), (8, 8, false)], 9, 0⟩, (X_slicesValuesapiStyle1q1_1 a4 a5 a6 a7 a8 a9 a10 a11 (((Args.A).length : Nat) : Int) (c1_0, ([] : List (NL)), c1_2, c1_3, c1_4)).1, (X_slicesValuesapiStyle1q1_1 a4 a5 a6 a7 a8 a9 a10 a11 (((Args.A).length : Nat) : Int) (c1_0, ([] : List (NL)), c1_2, c1_3, c1_4)).2⟩)]) ⟨[], [(0, 0, false), (1, 1, false), (2, 2, false), (3, 3, false), (4, 4, false), (5, 5, false), (6, 6, true), (7, 7, false), (8, 8, false)], 9, 0⟩ (ww (p := U_slicesValuesapiStyle1q1_1 none a4 a5 a6 a7 a8 a9 a10 a11 (((Args.A).length : Nat) : Int) (a0, ([] : List (NL)), a1, a2, a3, 0) (c1_0, ([] : List (NL)), c1_2, c1_3, c1_4)) (m_slicesValuesapiStyle1q1_1_ok n a4 a5 a6 a7 a8 a9 a10 a11 (((Args.A).length : Nat) : Int) (a0, ([] : List (NL)), a1, a2, a3, 0) (c1_0, ([] : List (NL)), c1_2, c1_3, c1_4) hc1) <|
ww (iv_flat a5 3) <|
ww (iv_flat a5 3) <|
ee) (by kernel_rfl)
theorem p_slicesValuesapiStyle1q1_1 (n : Nat) (a0 a1 a2 : Int) (a3 : Bool) (a4 : Int) (a5 : List Int) (a6 a7 : Nat) (a8 a9 a10 : Int) (a11 : Bool) (c1_0 : Int) (c1_1a : NL) (c1_1t : List (NL)) (c1_2 c1_3 : Int) (c1_4 : Bool) (hc1 : m_slicesValuesapiStyle1q1_1 n a4 a5 a6 a7 a8 a9 a10 a11 (((Args.A).length : Nat) : Int) (a0, ([] : List (NL)), a1, a2, a3, 0) = some (c1_0, (c1_1a :: c1_1t), c1_2, c1_3, c1_4)) : G_slicesValuesapiStyle1q1 a0 a1 a2 a3 a4 a5 a6 a7 a8 a9 a10 a11 (c1_0, [c1_1a], c1_2, c1_3, c1_4) :=
 runF2 hm (L := lT [(5, ⟨⟨[0, 5, 6, 7], [(0, 0, false), (1, 1, false), (2, 2, false), (3, 3, false), (4, 4, false), (5, 5, false), (6, 6, true), (7, 7, false), (8, 8, false)], 9, 0⟩, (X_slicesValuesapiStyle1q1_1 a4 a5 a6 a7 a8 a9 a10 a11 (((Args.A).length : Nat) : Int) (c1_0, (c1_1a :: c1_1t), c1_2, c1_3, c1_4)).1, (X_slicesValuesapiStyle1q1_1 a4 a5 a6 a7 a8 a9 a10 a11 (((Args.A).length : Nat) : Int) (c1_0, (c1_1a :: c1_1t), c1_2, c1_3, c1_4)).2⟩)]) ⟨[], [(0, 0, false), (1, 1, false), (2, 2, false), (3, 3, false), (4, 4, false), (5, 5, false), (6, 6, true), (7, 7, false), (8, 8, false)], 9, 0⟩ (ww (p := U_slicesValuesapiStyle1q1_1 none a4 a5 a6 a7 a8 a9 a10 a11 (((Args.A).length : Nat) : Int) (a0, ([] : List (NL)), a1, a2, a3, 0) (c1_0, (c1_1a :: c1_1t), c1_2, c1_3, c1_4)) (m_slicesValuesapiStyle1q1_1_ok n a4 a5 a6 a7 a8 a9 a10 a11 (((Args.A).length : Nat) : Int) (a0, ([] : List (NL)), a1, a2, a3, 0) (c1_0, (c1_1a :: c1_1t), c1_2, c1_3, c1_4) hc1) <|
ww (iv_flat a5 3) <|
ww (iv_flat a5 3) <|
ee) (by kernel_rfl)
theorem m_slicesValuesapiStyle1q1_ok (n : Nat) (a0 : Int) (a1 : Int) (a2 : Int) (a3 : Bool) (a4 : Int) (a5 : List Int) (a6 : Nat) (a7 : Nat) (a8 : Int) (a9 : Int) (a10 : Int) (a11 : Bool) (r : Int × List (NL) × Int × Int × Bool) (h : m_slicesValuesapiStyle1q1 n a0 a1 a2 a3 a4 a5 a6 a7 a8 a9 a10 a11 = some r) : Gv P (.func 27) (A_slicesValuesapiStyle1q1 a0 a1 a2 a3 a4 a5 a6 a7 a8 a9 a10 a11) (H_slicesValuesapiStyle1q1 a0 a1 a2 a3 a4 a5 a6 a7 a8 a9 a10 a11) (V_slicesValuesapiStyle1q1 a0 a1 a2 a3 a4 a5 a6 a7 a8 a9 a10 a11 r) (R_slicesValuesapiStyle1q1 a0 a1 a2 a3 a4 a5 a6 a7 a8 a9 a10 a11 r) := by
 unfold m_slicesValuesapiStyle1q1 at h
 obtain ⟨⟨c1_0, c1_1, c1_2, c1_3, c1_4⟩, hc1, h⟩ := Option.bind_eq_some_iff.1 h
 dsimp only at h
 cases c1_1 with
 | nil =>
  dsimp only at h
  obtain rfl := Option.some.inj h; exact p_slicesValuesapiStyle1q1_0 n a0 a1 a2 a3 a4 a5 a6 a7 a8 a9 a10 a11 c1_0 c1_2 c1_3 c1_4 hc1
 | cons c1_1a c1_1t =>
  dsimp only at h
  obtain rfl := Option.some.inj h; exact p_slicesValuesapiStyle1q1_1 n a0 a1 a2 a3 a4 a5 a6 a7 a8 a9 a10 a11 c1_0 c1_1a c1_1t c1_2 c1_3 c1_4 hc1

noncomputable def A_foldOverstyleschoiceq1 (a0 : Int) (a1 : Int) (a2 : Int) (a3 : Bool) (a4 : Int) (a5 : List Int) (a6 : Nat) (a7 : Nat) : List Value := [(Value.func (.func 27) #[] #[(pN 0 0)]), (Value.agg #[(i6 a0), (Value.slice none 0 0), (i6 a1), (i6 a2), (bO a3)]), (Value.func (.func 22) #[] #[(pN 1 0), (pN 2 0)])]
noncomputable def H_foldOverstyleschoiceq1 (a0 : Int) (a1 : Int) (a2 : Int) (a3 : Bool) (a4 : Int) (a5 : List Int) (a6 : Nat) (a7 : Nat) : AH := ⟨sB [(0, (some (.cells (layT [(sW 0 0 (Args.A).length Args.cA)]) 22))), (1, (some (.cells (layT [(i6 a4)]) 3))), (2, (some (.cells (layT [(sN 3 0 a6 a7)]) 30))), (3, (some (.cells (layT (iv a5)) 3)))], 4, 4⟩
noncomputable def V_foldOverstyleschoiceq1 (a0 : Int) (a1 : Int) (a2 : Int) (a3 : Bool) (a4 : Int) (a5 : List Int) (a6 : Nat) (a7 : Nat) (r : Int × List (NL) × Int × Int × Bool) : Value := match r with
 | (o0, o1, o2, o3, o4) => (Value.agg #[(i6 o0), (nlQ o1), (i6 o2), (i6 o3), (bO o4)])
noncomputable def R_foldOverstyleschoiceq1 (a0 : Int) (a1 : Int) (a2 : Int) (a3 : Bool) (a4 : Int) (a5 : List Int) (a6 : Nat) (a7 : Nat) (r : Int × List (NL) × Int × Int × Bool) : AH := match r with
 | (o0, o1, o2, o3, o4) => ⟨sB [(0, (some (.cells (layT [(sW 0 0 (Args.A).length Args.cA)]) 22))), (1, (some (.cells (layT [(i6 a4)]) 3))), (2, (some (.cells (layT [(sN 3 0 a6 a7)]) 30))), (3, (some (.cells (layT (iv a5)) 3))), (4, (some (.marks false))), (5, (some (.cells (layT [(i6 o0), (nlQ o1), (i6 o2), (i6 o3), (bO o4)]) 47)))], 6, 0⟩
noncomputable abbrev G_foldOverstyleschoiceq1 (a0 : Int) (a1 : Int) (a2 : Int) (a3 : Bool) (a4 : Int) (a5 : List Int) (a6 : Nat) (a7 : Nat) (r : Int × List (NL) × Int × Int × Bool) : Prop := Gv P (.func 20) (A_foldOverstyleschoiceq1 a0 a1 a2 a3 a4 a5 a6 a7) (H_foldOverstyleschoiceq1 a0 a1 a2 a3 a4 a5 a6 a7) (V_foldOverstyleschoiceq1 a0 a1 a2 a3 a4 a5 a6 a7 r) (R_foldOverstyleschoiceq1 a0 a1 a2 a3 a4 a5 a6 a7 r)
noncomputable abbrev C_foldOverstyleschoiceq1 (a0 : Int) (a1 : Int) (a2 : Int) (a3 : Bool) (a4 : Int) (a5 : List Int) (a6 : Nat) (a7 : Nat) (r : Int × List (NL) × Int × Int × Bool) (ins outs : BL) : CallA := ⟨4, ins, V_foldOverstyleschoiceq1 a0 a1 a2 a3 a4 a5 a6 a7 r, R_foldOverstyleschoiceq1 a0 a1 a2 a3 a4 a5 a6 a7 r, outs⟩
def m_foldOverstyleschoiceq1 (n : Nat) (a0 : Int) (a1 : Int) (a2 : Int) (a3 : Bool) (a4 : Int) (a5 : List Int) (a6 : Nat) (a7 : Nat) : Option (Int × List (NL) × Int × Int × Bool) :=
 (m_slicesValuesapiStyle1q1 n a0 a1 a2 a3 a4 a5 a6 a7 0 0 0 false).bind fun t => match t with
 | (c1_0, c1_1, c1_2, c1_3, c1_4) =>
  match c1_1 with
  | [] =>
   some (c1_0, ([] : List (NL)), c1_2, c1_3, c1_4)
  | c1_1a :: c1_1t =>
   some (c1_0, [c1_1a], c1_2, c1_3, c1_4)
theorem p_foldOverstyleschoiceq1_0 (n : Nat) (a0 a1 a2 : Int) (a3 : Bool) (a4 : Int) (a5 : List Int) (a6 a7 : Nat) (c1_0 c1_2 c1_3 : Int) (c1_4 : Bool) (hc1 : m_slicesValuesapiStyle1q1 n a0 a1 a2 a3 a4 a5 a6 a7 0 0 0 false = some (c1_0, [], c1_2, c1_3, c1_4)) : G_foldOverstyleschoiceq1 a0 a1 a2 a3 a4 a5 a6 a7 (c1_0, ([] : List (NL)), c1_2, c1_3, c1_4) :=
 runF2 hm (L := lT []) ⟨[6], [(0, 0, false), (1, 1, false), (2, 2, false), (3, 3, true), (4, 7, false), (5, 6, false)], 6, 0⟩ (yy 8 (.rng (C_slicesValuesapiStyle1q1 a0 a1 a2 a3 a4 a5 a6 a7 0 0 0 false (c1_0, ([] : List (NL)), c1_2, c1_3, c1_4) [(0, 8, false), (1, 7, false), (2, 4, false), (3, 5, false), (4, 1, false), (5, 2, false), (6, 3, true), (7, 6, false), (8, 0, false)] [(8, 0, false), (7, 1, false), (4, 2, false), (5, 3, false), (1, 4, false), (2, 5, false), (3, 6, true), (6, 7, false), (0, 8, false)]) [4, 5, 6, 8]) <|
ww (m_slicesValuesapiStyle1q1_ok n a0 a1 a2 a3 a4 a5 a6 a7 0 0 0 false (c1_0, ([] : List (NL)), c1_2, c1_3, c1_4) hc1) <|
ww (iv_flat a5 3) <|
ww (iv_flat a5 3) <|
ww (iv_flat a5 3) <|
ee) (by kernel_rfl)
theorem p_foldOverstyleschoiceq1_1 (n : Nat) (a0 a1 a2 : Int) (a3 : Bool) (a4 : Int) (a5 : List Int) (a6 a7 : Nat) (c1_0 : Int) (c1_1a : NL) (c1_1t : List (NL)) (c1_2 c1_3 : Int) (c1_4 : Bool) (hc1 : m_slicesValuesapiStyle1q1 n a0 a1 a2 a3 a4 a5 a6 a7 0 0 0 false = some (c1_0, (c1_1a :: c1_1t), c1_2, c1_3, c1_4)) : G_foldOverstyleschoiceq1 a0 a1 a2 a3 a4 a5 a6 a7 (c1_0, [c1_1a], c1_2, c1_3, c1_4) :=
 runF2 hm (L := lT []) ⟨[6], [(0, 0, false), (1, 1, false), (2, 2, false), (3, 3, true), (4, 7, false), (5, 6, false)], 6, 0⟩ (yy 8 (.rng (C_slicesValuesapiStyle1q1 a0 a1 a2 a3 a4 a5 a6 a7 0 0 0 false (c1_0, (c1_1a :: c1_1t), c1_2, c1_3, c1_4) [(0, 8, false), (1, 7, false), (2, 4, false), (3, 5, false), (4, 1, false), (5, 2, false), (6, 3, true), (7, 6, false), (8, 0, false)] [(8, 0, false), (7, 1, false), (4, 2, false), (5, 3, false), (1, 4, false), (2, 5, false), (3, 6, true), (6, 7, false), (0, 8, false)]) [4, 5, 6, 8]) <|
ww (m_slicesValuesapiStyle1q1_ok n a0 a1 a2 a3 a4 a5 a6 a7 0 0 0 false (c1_0, (c1_1a :: c1_1t), c1_2, c1_3, c1_4) hc1) <|
ww (iv_flat a5 3) <|
ww (iv_flat a5 3) <|
ww (iv_flat a5 3) <|
ee) (by kernel_rfl)
theorem m_foldOverstyleschoiceq1_ok (n : Nat) (a0 : Int) (a1 : Int) (a2 : Int) (a3 : Bool) (a4 : Int) (a5 : List Int) (a6 : Nat) (a7 : Nat) (r : Int × List (NL) × Int × Int × Bool) (h : m_foldOverstyleschoiceq1 n a0 a1 a2 a3 a4 a5 a6 a7 = some r) : Gv P (.func 20) (A_foldOverstyleschoiceq1 a0 a1 a2 a3 a4 a5 a6 a7) (H_foldOverstyleschoiceq1 a0 a1 a2 a3 a4 a5 a6 a7) (V_foldOverstyleschoiceq1 a0 a1 a2 a3 a4 a5 a6 a7 r) (R_foldOverstyleschoiceq1 a0 a1 a2 a3 a4 a5 a6 a7 r) := by
 unfold m_foldOverstyleschoiceq1 at h
 obtain ⟨⟨c1_0, c1_1, c1_2, c1_3, c1_4⟩, hc1, h⟩ := Option.bind_eq_some_iff.1 h
 dsimp only at h
 cases c1_1 with
 | nil =>
  dsimp only at h
  obtain rfl := Option.some.inj h; exact p_foldOverstyleschoiceq1_0 n a0 a1 a2 a3 a4 a5 a6 a7 c1_0 c1_2 c1_3 c1_4 hc1
 | cons c1_1a c1_1t =>
  dsimp only at h
  obtain rfl := Option.some.inj h; exact p_foldOverstyleschoiceq1_1 n a0 a1 a2 a3 a4 a5 a6 a7 c1_0 c1_1a c1_1t c1_2 c1_3 c1_4 hc1

noncomputable def A_stylesStyleq1 (a0 : Int) (a1 : List Int) (a2 : Nat) (a3 : Nat) : List Value := [(sW 0 0 (Args.A).length Args.cA), (i6 a0), (sN 0 0 a2 a3)]
noncomputable def H_stylesStyleq1 (a0 : Int) (a1 : List Int) (a2 : Nat) (a3 : Nat) : AH := ⟨sB [(0, (some (.cells (layT (iv a1)) 3)))], 1, 1⟩
noncomputable def V_stylesStyleq1 (a0 : Int) (a1 : List Int) (a2 : Nat) (a3 : Nat) (r : Int) : Value := match r with
 | o0 => (i6 o0)
noncomputable def R_stylesStyleq1 (a0 : Int) (a1 : List Int) (a2 : Nat) (a3 : Nat) (r : Int) : AH := match r with
 | o0 => ⟨sB [(0, (some (.cells (layT (iv a1)) 3)))], 1, 0⟩
noncomputable abbrev G_stylesStyleq1 (a0 : Int) (a1 : List Int) (a2 : Nat) (a3 : Nat) (r : Int) : Prop := Gv P (.func 11) (A_stylesStyleq1 a0 a1 a2 a3) (H_stylesStyleq1 a0 a1 a2 a3) (V_stylesStyleq1 a0 a1 a2 a3 r) (R_stylesStyleq1 a0 a1 a2 a3 r)
noncomputable abbrev C_stylesStyleq1 (a0 : Int) (a1 : List Int) (a2 : Nat) (a3 : Nat) (r : Int) (ins outs : BL) : CallA := ⟨1, ins, V_stylesStyleq1 a0 a1 a2 a3 r, R_stylesStyleq1 a0 a1 a2 a3 r, outs⟩
def m_stylesStyleq1 (n : Nat) (a0 : Int) (a1 : List Int) (a2 : Nat) (a3 : Nat) : Option (Int) :=
 (m_slicesValuesapiStyleq1 n).bind fun _ =>
 (m_foldOverstyleschoiceq1 n 0 0 0 false a0 a1 a2 a3).bind fun t => match t with
 | (c2_0, c2_1, c2_2, c2_3, c2_4) =>
  match c2_1 with
  | [] =>
   some c2_2
  | c2_1a :: c2_1t =>
   some c2_2
theorem p_stylesStyleq1_0 (n : Nat) (a0 : Int) (a1 : List Int) (a2 a3 : Nat) (hc1 : m_slicesValuesapiStyleq1 n = some ()) (c2_0 c2_2 c2_3 : Int) (c2_4 : Bool) (hc2 : m_foldOverstyleschoiceq1 n 0 0 0 false a0 a1 a2 a3 = some (c2_0, [], c2_2, c2_3, c2_4)) : G_stylesStyleq1 a0 a1 a2 a3 c2_2 :=
 runF2 hm (L := lT []) ⟨[6], [(0, 0, true)], 1, 0⟩ (yy 6 (.call (C_slicesValuesapiStyleq1  () [] [(3, 0, false)])) <|
ww (m_slicesValuesapiStyleq1_ok n  () hc1) <|
yy 9 (.call (C_foldOverstyleschoiceq1 0 0 0 false a0 a1 a2 a3 (c2_0, ([] : List (NL)), c2_2, c2_3, c2_4) [(0, 3, false), (1, 1, false), (2, 2, false), (3, 0, true)] [(3, 0, false), (1, 1, false), (2, 2, false), (0, 3, true), (5, 5, false)])) <|
ww (m_foldOverstyleschoiceq1_ok n 0 0 0 false a0 a1 a2 a3 (c2_0, ([] : List (NL)), c2_2, c2_3, c2_4) hc2) <|
ww (iv_flat a1 3) <|
ww (iv_flat a1 3) <|
ww (iv_flat a1 3) <|
ee) (by kernel_rfl)
theorem p_stylesStyleq1_1 (n : Nat) (a0 : Int) (a1 : List Int) (a2 a3 : Nat) (hc1 : m_slicesValuesapiStyleq1 n = some ()) (c2_0 : Int) (c2_1a : NL) (c2_1t : List (NL)) (c2_2 c2_3 : Int) (c2_4 : Bool) (hc2 : m_foldOverstyleschoiceq1 n 0 0 0 false a0 a1 a2 a3 = some (c2_0, (c2_1a :: c2_1t), c2_2, c2_3, c2_4)) : G_stylesStyleq1 a0 a1 a2 a3 c2_2 :=
 runF2 hm (L := lT []) ⟨[6], [(0, 0, true)], 1, 0⟩ (yy 6 (.call (C_slicesValuesapiStyleq1  () [] [(3, 0, false)])) <|
ww (m_slicesValuesapiStyleq1_ok n  () hc1) <|
yy 9 (.call (C_foldOverstyleschoiceq1 0 0 0 false a0 a1 a2 a3 (c2_0, (c2_1a :: c2_1t), c2_2, c2_3, c2_4) [(0, 3, false), (1, 1, false), (2, 2, false), (3, 0, true)] [(3, 0, false), (1, 1, false), (2, 2, false), (0, 3, true), (5, 5, false)])) <|
ww (m_foldOverstyleschoiceq1_ok n 0 0 0 false a0 a1 a2 a3 (c2_0, (c2_1a :: c2_1t), c2_2, c2_3, c2_4) hc2) <|
ww (iv_flat a1 3) <|
ww (iv_flat a1 3) <|
ww (iv_flat a1 3) <|
ee) (by kernel_rfl)
theorem m_stylesStyleq1_ok (n : Nat) (a0 : Int) (a1 : List Int) (a2 : Nat) (a3 : Nat) (r : Int) (h : m_stylesStyleq1 n a0 a1 a2 a3 = some r) : Gv P (.func 11) (A_stylesStyleq1 a0 a1 a2 a3) (H_stylesStyleq1 a0 a1 a2 a3) (V_stylesStyleq1 a0 a1 a2 a3 r) (R_stylesStyleq1 a0 a1 a2 a3 r) := by
 unfold m_stylesStyleq1 at h
 obtain ⟨_, hc1, h⟩ := Option.bind_eq_some_iff.1 h
 obtain ⟨⟨c2_0, c2_1, c2_2, c2_3, c2_4⟩, hc2, h⟩ := Option.bind_eq_some_iff.1 h
 dsimp only at h
 cases c2_1 with
 | nil =>
  dsimp only at h
  obtain rfl := Option.some.inj h; exact p_stylesStyleq1_0 n a0 a1 a2 a3 hc1 c2_0 c2_2 c2_3 c2_4 hc2
 | cons c2_1a c2_1t =>
  dsimp only at h
  obtain rfl := Option.some.inj h; exact p_stylesStyleq1_1 n a0 a1 a2 a3 hc1 c2_0 c2_1a c2_1t c2_2 c2_3 c2_4 hc2

noncomputable def A_stylesLeafq1 (a0 : Int) : List Value := [(sW 0 0 (Args.A).length Args.cA), (sW 1 0 (Args.B).length Args.cB), (i6 a0)]
noncomputable def H_stylesLeafq1 (a0 : Int) : AH := ⟨sB [], 0, 0⟩
noncomputable def V_stylesLeafq1 (a0 : Int) (r : Int) : Value := match r with
 | o0 => (i6 o0)
noncomputable def R_stylesLeafq1 (a0 : Int) (r : Int) : AH := match r with
 | o0 => ⟨sB [], 0, 0⟩
noncomputable abbrev G_stylesLeafq1 (a0 : Int) (r : Int) : Prop := Gv P (.func 9) (A_stylesLeafq1 a0) (H_stylesLeafq1 a0) (V_stylesLeafq1 a0 r) (R_stylesLeafq1 a0 r)
noncomputable abbrev C_stylesLeafq1 (a0 : Int) (r : Int) (ins outs : BL) : CallA := ⟨0, ins, V_stylesLeafq1 a0 r, R_stylesLeafq1 a0 r, outs⟩
def m_stylesLeafq1 (n : Nat) (a0 : Int) : Option (Int) :=
 (m_treePathq1 n a0).bind fun t => match t with
 | (c1_0, c1_1) =>
  if (((c1_0).length : Nat) : Int) = (0 : Int) then
   some 0
  else
   if 0 ≤ a0 ∧ a0 < (((Args.B).length : Nat) : Int) then
    ((some ((Args.B).getD (a0).toNat (0, 0, 0, 0, 0, 0, nl0, 0)))).bind fun c4_ =>
    if (c4_.2.1) = (3 : Int) then
     ((some (w64 ((((c1_0).length : Nat) : Int) - (1 : Int))))).bind fun c6_ =>
     if 0 ≤ c6_ ∧ c6_ ≤ (((c1_0).length : Nat) : Int) then
      if (c1_0).length ≤ c1_1 ∧ (c1_1 < big ∨ c1_1 = Nat.add big 1) then
       (m_stylesStyleq1 n (c4_.1) c1_0 ((c6_).toNat) c1_1).bind fun c9_ =>
       some c9_
      else none
     else none
    else
     if (c4_.2.1) = (5 : Int) then
      ((some (w64 ((((c1_0).length : Nat) : Int) - (1 : Int))))).bind fun c7_ =>
      if 0 ≤ c7_ ∧ c7_ ≤ (((c1_0).length : Nat) : Int) then
       if (c1_0).length ≤ c1_1 ∧ (c1_1 < big ∨ c1_1 = Nat.add big 1) then
        (m_stylesStyleq1 n (c4_.1) c1_0 ((c7_).toNat) c1_1).bind fun c10_ =>
        some c10_
       else none
      else none
     else
      some 0
   else none
theorem p_stylesLeafq1_0 (n : Nat) (a0 : Int) (c1_0 : List Int) (c1_1 : Nat) (hc1 : m_treePathq1 n a0 = some (c1_0, c1_1)) (hc2 : (((c1_0).length : Nat) : Int) = (0 : Int)) : G_stylesLeafq1 a0 0 :=
 runF2 hm (L := lT []) ⟨[6], [], 0, 0⟩ (yy 5 (.call (C_treePathq1 a0 (c1_0, c1_1) [] [(0, 0, true)])) <|
ww (m_treePathq1_ok n a0 (c1_0, c1_1) hc1) <|
ww (iv_flat c1_0 3) <|
zz 11 (xeT hc2) <|
ee) (by kernel_rfl)
theorem p_stylesLeafq1_1 (n : Nat) (a0 : Int) (c1_0 : List Int) (c1_1 : Nat) (hc1 : m_treePathq1 n a0 = some (c1_0, c1_1)) (hc2 : ¬ ((((c1_0).length : Nat) : Int) = (0 : Int))) (hc3 : 0 ≤ a0 ∧ a0 < (((Args.B).length : Nat) : Int)) (c4_ : Int × Int × Int × Int × Int × Int × NL × Int) (hc4 : (some ((Args.B).getD (a0).toNat (0, 0, 0, 0, 0, 0, nl0, 0))) = some c4_) (hc5 : (c4_.2.1) = (3 : Int)) (c6_ : Int) (hc6 : (some (w64 ((((c1_0).length : Nat) : Int) - (1 : Int)))) = some c6_) (hc7 : 0 ≤ c6_ ∧ c6_ ≤ (((c1_0).length : Nat) : Int)) (hc8 : (c1_0).length ≤ c1_1 ∧ (c1_1 < big ∨ c1_1 = Nat.add big 1)) (c9_ : Int) (hc9 : m_stylesStyleq1 n (c4_.1) c1_0 ((c6_).toNat) c1_1 = some c9_) : G_stylesLeafq1 a0 c9_ :=
 runF2 hm (L := lT []) ⟨[6], [], 0, 0⟩ (yy 5 (.call (C_treePathq1 a0 (c1_0, c1_1) [] [(0, 0, true)])) <|
ww (m_treePathq1_ok n a0 (c1_0, c1_1) hc1) <|
ww (iv_flat c1_0 3) <|
zz 11 (xeF hc2) <|
zz 15 (xk4 1 Args.cB hc3) <|
zz 16 (fk6 ((a0).toNat * 8)) <|
zz 17 (lk7 hc4 (toNatLt hc3)) <|
zz 18 (xnF hc5) <|
zz 33 (xk4 1 Args.cB hc3) <|
zz 34 (fk20 ((a0).toNat * 8)) <|
zz 35 (lk21 hc4 (toNatLt hc3)) <|
zz 39 (xnm hc6) <|
yy 40 (.pur (sN 0 0 (c6_).toNat c1_1)) <|
ww (p := opSlice P 30 (sN 0 0 (c1_0).length c1_1) none (some (i6 c6_)) none Ax.h0 = some ((sN 0 0 (c6_).toNat c1_1), Ax.h0)) (slHiV (e := 3) (es := 1) (by kernel_rfl) (by kernel_rfl) rfl rfl hc7 hc8) <|
yy 41 (.call (C_stylesStyleq1 (c4_.1) c1_0 ((c6_).toNat) c1_1 c9_ [(0, 0, true)] [(0, 0, true)])) <|
ww (m_stylesStyleq1_ok n (c4_.1) c1_0 ((c6_).toNat) c1_1 c9_ hc9) <|
ww (iv_flat c1_0 3) <|
ww (iv_flat c1_0 3) <|
ee) (by kernel_rfl)
theorem p_stylesLeafq1_2 (n : Nat) (a0 : Int) (c1_0 : List Int) (c1_1 : Nat) (hc1 : m_treePathq1 n a0 = some (c1_0, c1_1)) (hc2 : ¬ ((((c1_0).length : Nat) : Int) = (0 : Int))) (hc3 : 0 ≤ a0 ∧ a0 < (((Args.B).length : Nat) : Int)) (c4_ : Int × Int × Int × Int × Int × Int × NL × Int) (hc4 : (some ((Args.B).getD (a0).toNat (0, 0, 0, 0, 0, 0, nl0, 0))) = some c4_) (hc5 : ¬ ((c4_.2.1) = (3 : Int))) (hc6 : (c4_.2.1) = (5 : Int)) (c7_ : Int) (hc7 : (some (w64 ((((c1_0).length : Nat) : Int) - (1 : Int)))) = some c7_) (hc8 : 0 ≤ c7_ ∧ c7_ ≤ (((c1_0).length : Nat) : Int)) (hc9 : (c1_0).length ≤ c1_1 ∧ (c1_1 < big ∨ c1_1 = Nat.add big 1)) (c10_ : Int) (hc10 : m_stylesStyleq1 n (c4_.1) c1_0 ((c7_).toNat) c1_1 = some c10_) : G_stylesLeafq1 a0 c10_ :=
 runF2 hm (L := lT []) ⟨[6], [], 0, 0⟩ (yy 5 (.call (C_treePathq1 a0 (c1_0, c1_1) [] [(0, 0, true)])) <|
ww (m_treePathq1_ok n a0 (c1_0, c1_1) hc1) <|
ww (iv_flat c1_0 3) <|
zz 11 (xeF hc2) <|
zz 15 (xk4 1 Args.cB hc3) <|
zz 16 (fk6 ((a0).toNat * 8)) <|
zz 17 (lk7 hc4 (toNatLt hc3)) <|
zz 18 (xnT hc5) <|
zz 22 (xk4 1 Args.cB hc3) <|
zz 23 (fk6 ((a0).toNat * 8)) <|
zz 24 (lk7 hc4 (toNatLt hc3)) <|
zz 25 (xnF hc6) <|
zz 33 (xk4 1 Args.cB hc3) <|
zz 34 (fk20 ((a0).toNat * 8)) <|
zz 35 (lk21 hc4 (toNatLt hc3)) <|
zz 39 (xnm hc7) <|
yy 40 (.pur (sN 0 0 (c7_).toNat c1_1)) <|
ww (p := opSlice P 30 (sN 0 0 (c1_0).length c1_1) none (some (i6 c7_)) none Ax.h0 = some ((sN 0 0 (c7_).toNat c1_1), Ax.h0)) (slHiV (e := 3) (es := 1) (by kernel_rfl) (by kernel_rfl) rfl rfl hc8 hc9) <|
yy 41 (.call (C_stylesStyleq1 (c4_.1) c1_0 ((c7_).toNat) c1_1 c10_ [(0, 0, true)] [(0, 0, true)])) <|
ww (m_stylesStyleq1_ok n (c4_.1) c1_0 ((c7_).toNat) c1_1 c10_ hc10) <|
ww (iv_flat c1_0 3) <|
ww (iv_flat c1_0 3) <|
ee) (by kernel_rfl)
theorem p_stylesLeafq1_3 (n : Nat) (a0 : Int) (c1_0 : List Int) (c1_1 : Nat) (hc1 : m_treePathq1 n a0 = some (c1_0, c1_1)) (hc2 : ¬ ((((c1_0).length : Nat) : Int) = (0 : Int))) (hc3 : 0 ≤ a0 ∧ a0 < (((Args.B).length : Nat) : Int)) (c4_ : Int × Int × Int × Int × Int × Int × NL × Int) (hc4 : (some ((Args.B).getD (a0).toNat (0, 0, 0, 0, 0, 0, nl0, 0))) = some c4_) (hc5 : ¬ ((c4_.2.1) = (3 : Int))) (hc6 : ¬ ((c4_.2.1) = (5 : Int))) : G_stylesLeafq1 a0 0 :=
 runF2 hm (L := lT []) ⟨[6], [], 0, 0⟩ (yy 5 (.call (C_treePathq1 a0 (c1_0, c1_1) [] [(0, 0, true)])) <|
ww (m_treePathq1_ok n a0 (c1_0, c1_1) hc1) <|
ww (iv_flat c1_0 3) <|
zz 11 (xeF hc2) <|
zz 15 (xk4 1 Args.cB hc3) <|
zz 16 (fk6 ((a0).toNat * 8)) <|
zz 17 (lk7 hc4 (toNatLt hc3)) <|
zz 18 (xnT hc5) <|
zz 22 (xk4 1 Args.cB hc3) <|
zz 23 (fk6 ((a0).toNat * 8)) <|
zz 24 (lk7 hc4 (toNatLt hc3)) <|
zz 25 (xnT hc6) <|
ee) (by kernel_rfl)
theorem m_stylesLeafq1_ok (n : Nat) (a0 : Int) (r : Int) (h : m_stylesLeafq1 n a0 = some r) : Gv P (.func 9) (A_stylesLeafq1 a0) (H_stylesLeafq1 a0) (V_stylesLeafq1 a0 r) (R_stylesLeafq1 a0 r) := by
 unfold m_stylesLeafq1 at h
 obtain ⟨⟨c1_0, c1_1⟩, hc1, h⟩ := Option.bind_eq_some_iff.1 h
 dsimp only at h
 by_cases hc2 : (((c1_0).length : Nat) : Int) = (0 : Int)
 ·rw [if_pos hc2] at h
  obtain rfl := Option.some.inj h; exact p_stylesLeafq1_0 n a0 c1_0 c1_1 hc1 hc2
 ·rw [if_neg hc2] at h
  by_cases hc3 : 0 ≤ a0 ∧ a0 < (((Args.B).length : Nat) : Int)
  ·rw [if_pos hc3] at h
   obtain ⟨c4_, hc4, h⟩ := Option.bind_eq_some_iff.1 h
   by_cases hc5 : (c4_.2.1) = (3 : Int)
   ·rw [if_pos hc5] at h
    obtain ⟨c6_, hc6, h⟩ := Option.bind_eq_some_iff.1 h
    by_cases hc7 : 0 ≤ c6_ ∧ c6_ ≤ (((c1_0).length : Nat) : Int)
    ·rw [if_pos hc7] at h
     by_cases hc8 : (c1_0).length ≤ c1_1 ∧ (c1_1 < big ∨ c1_1 = Nat.add big 1)
     ·rw [if_pos hc8] at h
      obtain ⟨c9_, hc9, h⟩ := Option.bind_eq_some_iff.1 h
      obtain rfl := Option.some.inj h; exact p_stylesLeafq1_1 n a0 c1_0 c1_1 hc1 hc2 hc3 c4_ hc4 hc5 c6_ hc6 hc7 hc8 c9_ hc9
     ·rw [if_neg hc8] at h; cases h
    ·rw [if_neg hc7] at h; cases h
   ·rw [if_neg hc5] at h
    by_cases hc6 : (c4_.2.1) = (5 : Int)
    ·rw [if_pos hc6] at h
     obtain ⟨c7_, hc7, h⟩ := Option.bind_eq_some_iff.1 h
     by_cases hc8 : 0 ≤ c7_ ∧ c7_ ≤ (((c1_0).length : Nat) : Int)
     ·rw [if_pos hc8] at h
      by_cases hc9 : (c1_0).length ≤ c1_1 ∧ (c1_1 < big ∨ c1_1 = Nat.add big 1)
      ·rw [if_pos hc9] at h
       obtain ⟨c10_, hc10, h⟩ := Option.bind_eq_some_iff.1 h
       obtain rfl := Option.some.inj h; exact p_stylesLeafq1_2 n a0 c1_0 c1_1 hc1 hc2 hc3 c4_ hc4 hc5 hc6 c7_ hc7 hc8 hc9 c10_ hc10
      ·rw [if_neg hc9] at h; cases h
     ·rw [if_neg hc8] at h; cases h
    ·rw [if_neg hc6] at h
     obtain rfl := Option.some.inj h; exact p_stylesLeafq1_3 n a0 c1_0 c1_1 hc1 hc2 hc3 c4_ hc4 hc5 hc6
  ·rw [if_neg hc3] at h; cases h

noncomputable def A_viewportref16isq1 (a0 : Int) : List Value := [(sW 1 0 (Args.B).length Args.cB), (i6 a0)]
noncomputable def H_viewportref16isq1 (a0 : Int) : AH := ⟨sB [], 0, 0⟩
noncomputable def V_viewportref16isq1 (a0 : Int) (r : Bool) : Value := match r with
 | o0 => (bO o0)
noncomputable def R_viewportref16isq1 (a0 : Int) (r : Bool) : AH := match r with
 | o0 => ⟨sB [], 0, 0⟩
noncomputable abbrev G_viewportref16isq1 (a0 : Int) (r : Bool) : Prop := Gv P (.func 18) (A_viewportref16isq1 a0) (H_viewportref16isq1 a0) (V_viewportref16isq1 a0 r) (R_viewportref16isq1 a0 r)
noncomputable abbrev C_viewportref16isq1 (a0 : Int) (r : Bool) (ins outs : BL) : CallA := ⟨0, ins, V_viewportref16isq1 a0 r, R_viewportref16isq1 a0 r, outs⟩
def m_viewportref16isq1 (n : Nat) (a0 : Int) : Option (Bool) :=
 (m_viewportref16Checkq1 n).bind fun c1_ =>
 if c1_ = (0 : Int) then
  if a0 ≥ (0 : Int) then
   if a0 < (((Args.B).length : Nat) : Int) then
    some true
   else
    some false
  else
   some false
 else
  some false
theorem p_viewportref16isq1_0 (n : Nat) (a0 c1_ : Int) (hc1 : m_viewportref16Checkq1 n = some c1_) (hc2 : c1_ = (0 : Int)) (hc3 : a0 ≥ (0 : Int)) (hc4 : a0 < (((Args.B).length : Nat) : Int)) : G_viewportref16isq1 a0 true :=
 runF2 hm (L := lT []) ⟨[4], [], 0, 0⟩ (yy 4 (.call (C_viewportref16Checkq1  c1_ [] [])) <|
ww (m_viewportref16Checkq1_ok n  c1_ hc1) <|
zz 5 (xeT hc2) <|
zz 8 (xdT hc3) <|
zz 14 (xdT hc4) <|
ee) (by kernel_rfl)
theorem p_viewportref16isq1_1 (n : Nat) (a0 c1_ : Int) (hc1 : m_viewportref16Checkq1 n = some c1_) (hc2 : c1_ = (0 : Int)) (hc3 : a0 ≥ (0 : Int)) (hc4 : ¬ (a0 < (((Args.B).length : Nat) : Int))) : G_viewportref16isq1 a0 false :=
 runF2 hm (L := lT []) ⟨[4], [], 0, 0⟩ (yy 4 (.call (C_viewportref16Checkq1  c1_ [] [])) <|
ww (m_viewportref16Checkq1_ok n  c1_ hc1) <|
zz 5 (xeT hc2) <|
zz 8 (xdT hc3) <|
zz 14 (xdF hc4) <|
ee) (by kernel_rfl)
theorem p_viewportref16isq1_2 (n : Nat) (a0 c1_ : Int) (hc1 : m_viewportref16Checkq1 n = some c1_) (hc2 : c1_ = (0 : Int)) (hc3 : ¬ (a0 ≥ (0 : Int))) : G_viewportref16isq1 a0 false :=
 runF2 hm (L := lT []) ⟨[4], [], 0, 0⟩ (yy 4 (.call (C_viewportref16Checkq1  c1_ [] [])) <|
ww (m_viewportref16Checkq1_ok n  c1_ hc1) <|
zz 5 (xeT hc2) <|
zz 8 (xdF hc3) <|
ee) (by kernel_rfl)
theorem p_viewportref16isq1_3 (n : Nat) (a0 c1_ : Int) (hc1 : m_viewportref16Checkq1 n = some c1_) (hc2 : ¬ (c1_ = (0 : Int))) : G_viewportref16isq1 a0 false :=
 runF2 hm (L := lT []) ⟨[4], [], 0, 0⟩ (yy 4 (.call (C_viewportref16Checkq1  c1_ [] [])) <|
ww (m_viewportref16Checkq1_ok n  c1_ hc1) <|
zz 5 (xeF hc2) <|
ee) (by kernel_rfl)
theorem m_viewportref16isq1_ok (n : Nat) (a0 : Int) (r : Bool) (h : m_viewportref16isq1 n a0 = some r) : Gv P (.func 18) (A_viewportref16isq1 a0) (H_viewportref16isq1 a0) (V_viewportref16isq1 a0 r) (R_viewportref16isq1 a0 r) := by
 unfold m_viewportref16isq1 at h
 obtain ⟨c1_, hc1, h⟩ := Option.bind_eq_some_iff.1 h
 by_cases hc2 : c1_ = (0 : Int)
 ·rw [if_pos hc2] at h
  by_cases hc3 : a0 ≥ (0 : Int)
  ·rw [if_pos hc3] at h
   by_cases hc4 : a0 < (((Args.B).length : Nat) : Int)
   ·rw [if_pos hc4] at h
    obtain rfl := Option.some.inj h; exact p_viewportref16isq1_0 n a0 c1_ hc1 hc2 hc3 hc4
   ·rw [if_neg hc4] at h
    obtain rfl := Option.some.inj h; exact p_viewportref16isq1_1 n a0 c1_ hc1 hc2 hc3 hc4
  ·rw [if_neg hc3] at h
   obtain rfl := Option.some.inj h; exact p_viewportref16isq1_2 n a0 c1_ hc1 hc2 hc3
 ·rw [if_neg hc2] at h
  obtain rfl := Option.some.inj h; exact p_viewportref16isq1_3 n a0 c1_ hc1 hc2

noncomputable def A_viewportref16Parentsq1 : List Value := [(sW 1 0 (Args.B).length Args.cB)]
noncomputable def H_viewportref16Parentsq1 : AH := ⟨sB [], 0, 0⟩
noncomputable def V_viewportref16Parentsq1 (r : List Int × Nat) : Value := match r with
 | (o0, o1) => (sN 0 0 o1 o1)
noncomputable def R_viewportref16Parentsq1 (r : List Int × Nat) : AH := match r with
 | (o0, o1) => ⟨sB [(0, (some (.cells (layT (iv o0)) 3)))], 1, 0⟩
noncomputable abbrev G_viewportref16Parentsq1 (r : List Int × Nat) : Prop := Gv P (.func 19) A_viewportref16Parentsq1 H_viewportref16Parentsq1 (V_viewportref16Parentsq1  r) (R_viewportref16Parentsq1  r)
noncomputable abbrev C_viewportref16Parentsq1 (r : List Int × Nat) (ins outs : BL) : CallA := ⟨0, ins, V_viewportref16Parentsq1  r, R_viewportref16Parentsq1  r, outs⟩
noncomputable def S_viewportref16Parentsq1_2 (x2_1 : Nat) (x2_2 : Int) (st : List Int × Int) : XSt := match st with
 | (x2_0, x2_3) => (sT 42 [(0, (sW 1 0 (Args.B).length Args.cB)), (3, (sN 0 0 x2_1 x2_1)), (4, (i6 x2_2)), (5, (i6 x2_3))], [], ⟨sB [(0, (some (.cells (layT (iv x2_0)) 3)))], 1, 0⟩)
noncomputable def X_viewportref16Parentsq1_2 (x2_1 : Nat) (x2_2 : Int) (r : List Int) : Ex × XSt := match r with
 | z2_0 => (.exit 2, (sT 42 [(0, (sW 1 0 (Args.B).length Args.cB)), (3, (sN 0 0 x2_1 x2_1)), (4, (i6 x2_2))], [], ⟨sB [(0, (some (.cells (layT (iv z2_0)) 3)))], 1, 0⟩))
noncomputable abbrev Q_viewportref16Parentsq1_2 (rnd : Option Nat) (x2_1 : Nat) (x2_2 : Int) (st : List Int × Int) (c : Ex × XSt) : Prop := CG P rnd (fnN P 19) 0 (codeOf P 19 [false, false, true, false, false, true, false, false, true, false, true, true, true, true]) (S_viewportref16Parentsq1_2 x2_1 x2_2 st) c
noncomputable abbrev U_viewportref16Parentsq1_2 (rd : Option Nat) (x2_1 : Nat) (x2_2 : Int) (st : List Int × Int) (r : List Int) : Prop := CG P rd (fnN P 19) 0 (codeOf P 19 [false, true, false, false, true, false, false, true, false, true, true, true, true]) (S_viewportref16Parentsq1_2 x2_1 x2_2 st) (X_viewportref16Parentsq1_2 x2_1 x2_2 r)
def B_viewportref16Parentsq1_2 (n : Nat) (x2_1 : Nat) (x2_2 : Int) (st : List Int × Int) : Option ((List Int × Int) ⊕ (List Int)) := match st with
 | (x2_0, x2_3) =>
  if 0 ≤ x2_2 ∧ x2_2 < (((Args.B).length : Nat) : Int) then
   ((some ((Args.B).getD (x2_2).toNat (0, 0, 0, 0, 0, 0, nl0, 0)))).bind fun y2_2_ =>
   if x2_3 < ((((y2_2_.2.2.2.2.2.2.1)).l.length : Nat) : Int) then
    if 0 ≤ x2_3 ∧ x2_3 < ((((y2_2_.2.2.2.2.2.2.1)).l.length : Nat) : Int) then
     if (x2_3).toNat < (((y2_2_.2.2.2.2.2.2.1)).l).length then
      ((some ((((y2_2_.2.2.2.2.2.2.1)).l).getD (x2_3).toNat 0))).bind fun y2_6_ =>
      if 0 ≤ y2_6_ ∧ y2_6_ < ((x2_1 : Nat) : Int) then
       if (y2_6_).toNat < (x2_0).length then
        some (.inl (((x2_0).set (y2_6_).toNat x2_2), (w64 (x2_3 + (1 : Int)))))
       else none
      else none
     else none
    else none
   else
    some (.inr x2_0)
  else none
def m_viewportref16Parentsq1_2 (n : Nat) (x2_1 : Nat) (x2_2 : Int) (st : List Int × Int) : Option (List Int) := iterM (B_viewportref16Parentsq1_2 n x2_1 x2_2) n st
theorem q_viewportref16Parentsq1_2_0 (n : Nat) {rnd : Option Nat} (x2_0 : List Int) (x2_1 : Nat) (x2_2 x2_3 : Int) (hy2_1 : 0 ≤ x2_2 ∧ x2_2 < (((Args.B).length : Nat) : Int)) (y2_2_ : Int × Int × Int × Int × Int × Int × NL × Int) (hy2_2 : (some ((Args.B).getD (x2_2).toNat (0, 0, 0, 0, 0, 0, nl0, 0))) = some y2_2_) (hy2_3 : x2_3 < ((((y2_2_.2.2.2.2.2.2.1)).l.length : Nat) : Int)) (hy2_4 : 0 ≤ x2_3 ∧ x2_3 < ((((y2_2_.2.2.2.2.2.2.1)).l.length : Nat) : Int)) (hy2_5 : (x2_3).toNat < (((y2_2_.2.2.2.2.2.2.1)).l).length) (y2_6_ : Int) (hy2_6 : (some ((((y2_2_.2.2.2.2.2.2.1)).l).getD (x2_3).toNat 0)) = some y2_6_) (hy2_7 : 0 ≤ y2_6_ ∧ y2_6_ < ((x2_1 : Nat) : Int)) (hy2_8 : (y2_6_).toNat < (x2_0).length) : Q_viewportref16Parentsq1_2 rnd x2_1 x2_2 (x2_0, x2_3) (.normal, S_viewportref16Parentsq1_2 x2_1 x2_2 (((x2_0).set (y2_6_).toNat x2_2), (w64 (x2_3 + (1 : Int))))) :=
 runC2 hm (L := lT []) ⟨[0, 3, 4, 5], [(0, 0, true)], 1, 0⟩ (zz 5 (xk4 1 Args.cB hy2_1) <|
zz 6 (fk10 ((x2_2).toNat * 8)) <|
zz 7 (lk11 hy2_2 (toNatLt hy2_1)) <|
zz 9 (xdT hy2_3) <|
zz 16 (xk4 1 Args.cB hy2_1) <|
zz 17 (fk10 ((x2_2).toNat * 8)) <|
zz 18 (lk11 hy2_2 (toNatLt hy2_1)) <|
zz 20 (xk12 (Nat.add ((y2_2_.2.2.2.2.2.2.1)).num 64) ((y2_2_.2.2.2.2.2.2.1)).cap hy2_4) <|
zz 21 (nk13 hy2_6 hy2_5) <|
zz 23 (xk23 0 x2_1 hy2_7) <|
yy 24 (.sto (layT (iv ((x2_0).set (y2_6_).toNat x2_2)))) <|
ww (p := ∃ old, rdT (layT (iv x2_0)) 1 (y2_6_).toNat = some old) (Exists.elim (iv_st (x2_0) ((y2_6_).toNat) (x2_2) hy2_8) fun o h => ⟨o, h.1⟩) <|
ww (p := layL [(i6 x2_2)] (y2_6_).toNat (layT (iv x2_0)) = layT (iv ((x2_0).set (y2_6_).toNat x2_2))) (Exists.elim (iv_st (x2_0) ((y2_6_).toNat) (x2_2) hy2_8) fun o h => h.2) <|
ww (iv_flat ((x2_0).set (y2_6_).toNat x2_2) 3) <|
ee) (by kernel_rfl)
theorem q_viewportref16Parentsq1_2_1 (n : Nat) {rnd : Option Nat} (x2_0 : List Int) (x2_1 : Nat) (x2_2 x2_3 : Int) (hy2_1 : 0 ≤ x2_2 ∧ x2_2 < (((Args.B).length : Nat) : Int)) (y2_2_ : Int × Int × Int × Int × Int × Int × NL × Int) (hy2_2 : (some ((Args.B).getD (x2_2).toNat (0, 0, 0, 0, 0, 0, nl0, 0))) = some y2_2_) (hy2_3 : ¬ (x2_3 < ((((y2_2_.2.2.2.2.2.2.1)).l.length : Nat) : Int))) : Q_viewportref16Parentsq1_2 rnd x2_1 x2_2 (x2_0, x2_3) (X_viewportref16Parentsq1_2 x2_1 x2_2 x2_0) :=
 runC2 hm (L := lT []) ⟨[0, 3, 4], [(0, 0, true)], 1, 0⟩ (zz 5 (xk4 1 Args.cB hy2_1) <|
zz 6 (fk10 ((x2_2).toNat * 8)) <|
zz 7 (lk11 hy2_2 (toNatLt hy2_1)) <|
zz 9 (xdF hy2_3) <|
ww (iv_flat x2_0 3) <|
ee) (by kernel_rfl)
theorem m_viewportref16Parentsq1_2_ok (n : Nat) {rnd : Option Nat} (x2_1 : Nat) (x2_2 : Int) (st : List Int × Int) (r : List Int) (h : m_viewportref16Parentsq1_2 n x2_1 x2_2 st = some r) : CG P rnd (fnN P 19) 0 (codeOf P 19 [false, true, false, false, true, false, false, true, false, true, true, true, true]) (S_viewportref16Parentsq1_2 x2_1 x2_2 st) (X_viewportref16Parentsq1_2 x2_1 x2_2 r) :=
 CG.iter (b := codeOf P 19 [false, false, true, false, false, true, false, false, true, false, true, true, true, true]) (by kernel_rfl) (body := B_viewportref16Parentsq1_2 n x2_1 x2_2) (S := S_viewportref16Parentsq1_2 x2_1 x2_2) (X := X_viewportref16Parentsq1_2 x2_1 x2_2)
  (fun s s' h => by
  obtain ⟨x2_0, x2_3⟩ := s
  unfold B_viewportref16Parentsq1_2 at h
  dsimp only at h
  by_cases hy2_1 : 0 ≤ x2_2 ∧ x2_2 < (((Args.B).length : Nat) : Int)
  ·rw [if_pos hy2_1] at h
   obtain ⟨y2_2_, hy2_2, h⟩ := Option.bind_eq_some_iff.1 h
   by_cases hy2_3 : x2_3 < ((((y2_2_.2.2.2.2.2.2.1)).l.length : Nat) : Int)
   ·rw [if_pos hy2_3] at h
    by_cases hy2_4 : 0 ≤ x2_3 ∧ x2_3 < ((((y2_2_.2.2.2.2.2.2.1)).l.length : Nat) : Int)
    ·rw [if_pos hy2_4] at h
     by_cases hy2_5 : (x2_3).toNat < (((y2_2_.2.2.2.2.2.2.1)).l).length
     ·rw [if_pos hy2_5] at h
      obtain ⟨y2_6_, hy2_6, h⟩ := Option.bind_eq_some_iff.1 h
      by_cases hy2_7 : 0 ≤ y2_6_ ∧ y2_6_ < ((x2_1 : Nat) : Int)
      ·rw [if_pos hy2_7] at h
       by_cases hy2_8 : (y2_6_).toNat < (x2_0).length
       ·rw [if_pos hy2_8] at h
        obtain rfl := Sum.inl.inj (Option.some.inj h); exact q_viewportref16Parentsq1_2_0 n x2_0 x2_1 x2_2 x2_3 hy2_1 y2_2_ hy2_2 hy2_3 hy2_4 hy2_5 y2_6_ hy2_6 hy2_7 hy2_8
       ·rw [if_neg hy2_8] at h; cases h
      ·rw [if_neg hy2_7] at h; cases h
     ·rw [if_neg hy2_5] at h; cases h
    ·rw [if_neg hy2_4] at h; cases h
   ·rw [if_neg hy2_3] at h
    cases h
  ·rw [if_neg hy2_1] at h; cases h)
  (fun s r h => by
  obtain ⟨x2_0, x2_3⟩ := s
  unfold B_viewportref16Parentsq1_2 at h
  dsimp only at h
  by_cases hy2_1 : 0 ≤ x2_2 ∧ x2_2 < (((Args.B).length : Nat) : Int)
  ·rw [if_pos hy2_1] at h
   obtain ⟨y2_2_, hy2_2, h⟩ := Option.bind_eq_some_iff.1 h
   by_cases hy2_3 : x2_3 < ((((y2_2_.2.2.2.2.2.2.1)).l.length : Nat) : Int)
   ·rw [if_pos hy2_3] at h
    by_cases hy2_4 : 0 ≤ x2_3 ∧ x2_3 < ((((y2_2_.2.2.2.2.2.2.1)).l.length : Nat) : Int)
    ·rw [if_pos hy2_4] at h
     by_cases hy2_5 : (x2_3).toNat < (((y2_2_.2.2.2.2.2.2.1)).l).length
     ·rw [if_pos hy2_5] at h
      obtain ⟨y2_6_, hy2_6, h⟩ := Option.bind_eq_some_iff.1 h
      by_cases hy2_7 : 0 ≤ y2_6_ ∧ y2_6_ < ((x2_1 : Nat) : Int)
      ·rw [if_pos hy2_7] at h
       by_cases hy2_8 : (y2_6_).toNat < (x2_0).length
       ·rw [if_pos hy2_8] at h
        cases h
       ·rw [if_neg hy2_8] at h; cases h
      ·rw [if_neg hy2_7] at h; cases h
     ·rw [if_neg hy2_5] at h; cases h
    ·rw [if_neg hy2_4] at h; cases h
   ·rw [if_neg hy2_3] at h
    obtain rfl := Sum.inr.inj (Option.some.inj h); exact q_viewportref16Parentsq1_2_1 n x2_0 x2_1 x2_2 x2_3 hy2_1 y2_2_ hy2_2 hy2_3
  ·rw [if_neg hy2_1] at h; cases h)
  (fun r => by intro hx; cases hx) h
noncomputable def S_viewportref16Parentsq1_1 (x1_1 : Nat) (st : List Int × Int) : XSt := match st with
 | (x1_0, x1_2) => (sT 42 [(0, (sW 1 0 (Args.B).length Args.cB)), (3, (sN 0 0 x1_1 x1_1)), (4, (i6 x1_2))], [], ⟨sB [(0, (some (.cells (layT (iv x1_0)) 3)))], 1, 0⟩)
noncomputable def X_viewportref16Parentsq1_1 (x1_1 : Nat) (r : List Int) : Ex × XSt := match r with
 | z1_0 => (.exit 0, (sT 42 [(3, (sN 0 0 x1_1 x1_1))], [], ⟨sB [(0, (some (.cells (layT (iv z1_0)) 3)))], 1, 0⟩))
noncomputable abbrev Q_viewportref16Parentsq1_1 (rnd : Option Nat) (x1_1 : Nat) (st : List Int × Int) (c : Ex × XSt) : Prop := CG P rnd (fnN P 19) 0 (codeOf P 19 [false, false, true, false, true, true, true, true]) (S_viewportref16Parentsq1_1 x1_1 st) c
noncomputable abbrev U_viewportref16Parentsq1_1 (rd : Option Nat) (x1_1 : Nat) (st : List Int × Int) (r : List Int) : Prop := CG P rd (fnN P 19) 0 (codeOf P 19 [false, true, false, true, true, true, true]) (S_viewportref16Parentsq1_1 x1_1 st) (X_viewportref16Parentsq1_1 x1_1 r)
def B_viewportref16Parentsq1_1 (n : Nat) (x1_1 : Nat) (st : List Int × Int) : Option ((List Int × Int) ⊕ (List Int)) := match st with
 | (x1_0, x1_2) =>
  if x1_2 < (((Args.B).length : Nat) : Int) then
   (m_viewportref16Parentsq1_2 n x1_1 x1_2 (x1_0, 0)).bind fun y1_2_ =>
   some (.inl (y1_2_, (w64 (x1_2 + (1 : Int)))))
  else
   some (.inr x1_0)
def m_viewportref16Parentsq1_1 (n : Nat) (x1_1 : Nat) (st : List Int × Int) : Option (List Int) := iterM (B_viewportref16Parentsq1_1 n x1_1) n st
theorem q_viewportref16Parentsq1_1_0 (n : Nat) {rnd : Option Nat} (x1_0 : List Int) (x1_1 : Nat) (x1_2 : Int) (hy1_1 : x1_2 < (((Args.B).length : Nat) : Int)) (y1_2_ : List Int) (hy1_2 : m_viewportref16Parentsq1_2 n x1_1 x1_2 (x1_0, 0) = some y1_2_) : Q_viewportref16Parentsq1_1 rnd x1_1 (x1_0, x1_2) (.normal, S_viewportref16Parentsq1_1 x1_1 (y1_2_, (w64 (x1_2 + (1 : Int))))) :=
 runC2 hm (L := lT [(12, ⟨⟨[0, 3, 4, 5], [(0, 0, true)], 1, 0⟩, (X_viewportref16Parentsq1_2 x1_1 x1_2 y1_2_).1, (X_viewportref16Parentsq1_2 x1_1 x1_2 y1_2_).2⟩)]) ⟨[0, 3, 4], [(0, 0, true)], 1, 0⟩ (zz 5 (xdT hy1_1) <|
ww (p := U_viewportref16Parentsq1_2 rnd x1_1 x1_2 (x1_0, 0) y1_2_) (m_viewportref16Parentsq1_2_ok n x1_1 x1_2 (x1_0, 0) y1_2_ hy1_2) <|
ww (iv_flat x1_0 3) <|
ww (iv_flat y1_2_ 3) <|
ee) (by kernel_rfl)
theorem q_viewportref16Parentsq1_1_1 (n : Nat) {rnd : Option Nat} (x1_0 : List Int) (x1_1 : Nat) (x1_2 : Int) (hy1_1 : ¬ (x1_2 < (((Args.B).length : Nat) : Int))) : Q_viewportref16Parentsq1_1 rnd x1_1 (x1_0, x1_2) (X_viewportref16Parentsq1_1 x1_1 x1_0) :=
 runC2 hm (L := lT []) ⟨[3], [(0, 0, true)], 1, 0⟩ (zz 5 (xdF hy1_1) <|
ww (iv_flat x1_0 3) <|
ee) (by kernel_rfl)
theorem m_viewportref16Parentsq1_1_ok (n : Nat) {rnd : Option Nat} (x1_1 : Nat) (st : List Int × Int) (r : List Int) (h : m_viewportref16Parentsq1_1 n x1_1 st = some r) : CG P rnd (fnN P 19) 0 (codeOf P 19 [false, true, false, true, true, true, true]) (S_viewportref16Parentsq1_1 x1_1 st) (X_viewportref16Parentsq1_1 x1_1 r) :=
 CG.iter (b := codeOf P 19 [false, false, true, false, true, true, true, true]) (by kernel_rfl) (body := B_viewportref16Parentsq1_1 n x1_1) (S := S_viewportref16Parentsq1_1 x1_1) (X := X_viewportref16Parentsq1_1 x1_1)
  (fun s s' h => by
  obtain ⟨x1_0, x1_2⟩ := s
  unfold B_viewportref16Parentsq1_1 at h
  dsimp only at h
  by_cases hy1_1 : x1_2 < (((Args.B).length : Nat) : Int)
  ·rw [if_pos hy1_1] at h
   obtain ⟨y1_2_, hy1_2, h⟩ := Option.bind_eq_some_iff.1 h
   obtain rfl := Sum.inl.inj (Option.some.inj h); exact q_viewportref16Parentsq1_1_0 n x1_0 x1_1 x1_2 hy1_1 y1_2_ hy1_2
  ·rw [if_neg hy1_1] at h
   cases h)
  (fun s r h => by
  obtain ⟨x1_0, x1_2⟩ := s
  unfold B_viewportref16Parentsq1_1 at h
  dsimp only at h
  by_cases hy1_1 : x1_2 < (((Args.B).length : Nat) : Int)
  ·rw [if_pos hy1_1] at h
   obtain ⟨y1_2_, hy1_2, h⟩ := Option.bind_eq_some_iff.1 h
   cases h
  ·rw [if_neg hy1_1] at h
   obtain rfl := Sum.inr.inj (Option.some.inj h); exact q_viewportref16Parentsq1_1_1 n x1_0 x1_1 x1_2 hy1_1)
  (fun r => by intro hx; cases hx) h
def m_viewportref16Parentsq1 (n : Nat) : Option (List Int × Nat) :=
 (m_viewportref16Checkq1 n).bind fun c1_ =>
 if c1_ = (0 : Int) then
  if 0 ≤ (((Args.B).length : Nat) : Int) then
   if ((((Args.B).length : Nat) : Int)).toNat * 8 ≤ 140737488355328 then
    if 0 ≤ (0 : Int) ∧ (0 : Int) < ((((((Args.B).length : Nat) : Int)).toNat : Nat) : Int) then
     if ((0 : Int)).toNat < ((List.replicate ((((Args.B).length : Nat) : Int)).toNat (0 : Int))).length then
      (m_viewportref16Parentsq1_1 n (((((Args.B).length : Nat) : Int)).toNat) ((((List.replicate ((((Args.B).length : Nat) : Int)).toNat (0 : Int))).set ((0 : Int)).toNat (-1 : Int)), 0)).bind fun c7_ =>
      some (c7_, (((((Args.B).length : Nat) : Int)).toNat))
     else none
    else none
   else none
  else none
 else
  none
theorem p_viewportref16Parentsq1_0 (n : Nat) (c1_ : Int) (hc1 : m_viewportref16Checkq1 n = some c1_) (hc2 : c1_ = (0 : Int)) (hc3 : 0 ≤ (((Args.B).length : Nat) : Int)) (hc4 : ((((Args.B).length : Nat) : Int)).toNat * 8 ≤ 140737488355328) (hc5 : 0 ≤ (0 : Int) ∧ (0 : Int) < ((((((Args.B).length : Nat) : Int)).toNat : Nat) : Int)) (hc6 : ((0 : Int)).toNat < ((List.replicate ((((Args.B).length : Nat) : Int)).toNat (0 : Int))).length) (c7_ : List Int) (hc7 : m_viewportref16Parentsq1_1 n (((((Args.B).length : Nat) : Int)).toNat) ((((List.replicate ((((Args.B).length : Nat) : Int)).toNat (0 : Int))).set ((0 : Int)).toNat (-1 : Int)), 0) = some c7_) : G_viewportref16Parentsq1  (c7_, (((((Args.B).length : Nat) : Int)).toNat)) :=
 runF2 hm (L := lT [(21, ⟨⟨[0, 3, 4], [(0, 0, true)], 1, 0⟩, (X_viewportref16Parentsq1_1 (((((Args.B).length : Nat) : Int)).toNat) c7_).1, (X_viewportref16Parentsq1_1 (((((Args.B).length : Nat) : Int)).toNat) c7_).2⟩)]) ⟨[2], [(0, 0, true)], 1, 0⟩ (yy 5 (.call (C_viewportref16Checkq1  c1_ [] [])) <|
ww (m_viewportref16Checkq1_ok n  c1_ hc1) <|
zz 6 (xnF hc2) <|
yy 11 (.mk ((((Args.B).length : Nat) : Int)).toNat (iv (List.replicate ((((Args.B).length : Nat) : Int)).toNat (0 : Int)))) <|
ww (p := natOf (i6 (((Args.B).length : Nat) : Int)) = some ((((Args.B).length : Nat) : Int)).toNat) (natOf_toNat hc3) <|
ww (p := natOf (i6 (((Args.B).length : Nat) : Int)) = some ((((Args.B).length : Nat) : Int)).toNat) (natOf_toNat hc3) <|
ww (p := fits ((((Args.B).length : Nat) : Int)).toNat 8 = true) (fits_ok hc4 (by omega)) <|
ww (p := isZ8 [(i6 (0 : Int))] = false) (rfl) <|
ww (p := reps [(i6 (0 : Int))] ((((Args.B).length : Nat) : Int)).toNat = (iv (List.replicate ((((Args.B).length : Nat) : Int)).toNat (0 : Int)))) (reps_iv _) <|
zz 15 (xk23 0 ((((Args.B).length : Nat) : Int)).toNat hc5) <|
yy 16 (.sto (layT (iv (((List.replicate ((((Args.B).length : Nat) : Int)).toNat (0 : Int))).set ((0 : Int)).toNat (-1 : Int))))) <|
ww (p := ∃ old, rdT (layT (iv (List.replicate ((((Args.B).length : Nat) : Int)).toNat (0 : Int)))) 1 ((0 : Int)).toNat = some old) (Exists.elim (iv_st ((List.replicate ((((Args.B).length : Nat) : Int)).toNat (0 : Int))) (((0 : Int)).toNat) ((-1 : Int)) hc6) fun o h => ⟨o, h.1⟩) <|
ww (p := layL [(i6 (-1 : Int))] ((0 : Int)).toNat (layT (iv (List.replicate ((((Args.B).length : Nat) : Int)).toNat (0 : Int)))) = layT (iv (((List.replicate ((((Args.B).length : Nat) : Int)).toNat (0 : Int))).set ((0 : Int)).toNat (-1 : Int)))) (Exists.elim (iv_st ((List.replicate ((((Args.B).length : Nat) : Int)).toNat (0 : Int))) (((0 : Int)).toNat) ((-1 : Int)) hc6) fun o h => h.2) <|
ww (p := U_viewportref16Parentsq1_1 none (((((Args.B).length : Nat) : Int)).toNat) ((((List.replicate ((((Args.B).length : Nat) : Int)).toNat (0 : Int))).set ((0 : Int)).toNat (-1 : Int)), 0) c7_) (m_viewportref16Parentsq1_1_ok n (((((Args.B).length : Nat) : Int)).toNat) ((((List.replicate ((((Args.B).length : Nat) : Int)).toNat (0 : Int))).set ((0 : Int)).toNat (-1 : Int)), 0) c7_ hc7) <|
ww (iv_flat (((List.replicate ((((Args.B).length : Nat) : Int)).toNat (0 : Int))).set ((0 : Int)).toNat (-1 : Int)) 3) <|
ww (iv_flat c7_ 3) <|
ee) (by kernel_rfl)
theorem m_viewportref16Parentsq1_ok (n : Nat) (r : List Int × Nat) (h : m_viewportref16Parentsq1 n = some r) : Gv P (.func 19) A_viewportref16Parentsq1 H_viewportref16Parentsq1 (V_viewportref16Parentsq1  r) (R_viewportref16Parentsq1  r) := by
 unfold m_viewportref16Parentsq1 at h
 obtain ⟨c1_, hc1, h⟩ := Option.bind_eq_some_iff.1 h
 by_cases hc2 : c1_ = (0 : Int)
 ·rw [if_pos hc2] at h
  by_cases hc3 : 0 ≤ (((Args.B).length : Nat) : Int)
  ·rw [if_pos hc3] at h
   by_cases hc4 : ((((Args.B).length : Nat) : Int)).toNat * 8 ≤ 140737488355328
   ·rw [if_pos hc4] at h
    by_cases hc5 : 0 ≤ (0 : Int) ∧ (0 : Int) < ((((((Args.B).length : Nat) : Int)).toNat : Nat) : Int)
    ·rw [if_pos hc5] at h
     by_cases hc6 : ((0 : Int)).toNat < ((List.replicate ((((Args.B).length : Nat) : Int)).toNat (0 : Int))).length
     ·rw [if_pos hc6] at h
      obtain ⟨c7_, hc7, h⟩ := Option.bind_eq_some_iff.1 h
      obtain rfl := Option.some.inj h; exact p_viewportref16Parentsq1_0 n c1_ hc1 hc2 hc3 hc4 hc5 hc6 c7_ hc7
     ·rw [if_neg hc6] at h; cases h
    ·rw [if_neg hc5] at h; cases h
   ·rw [if_neg hc4] at h; cases h
  ·rw [if_neg hc3] at h; cases h
 ·rw [if_neg hc2] at h
  cases h

noncomputable def A_viewportref16Pathq1 (a0 : Int) : List Value := [(sW 1 0 (Args.B).length Args.cB), (i6 a0)]
noncomputable def H_viewportref16Pathq1 (a0 : Int) : AH := ⟨sB [], 0, 0⟩
noncomputable def V_viewportref16Pathq1 (a0 : Int) (r : List Int × Nat × Nat) : Value := match r with
 | (o0, o1, o2) => (sN 0 0 o1 o2)
noncomputable def R_viewportref16Pathq1 (a0 : Int) (r : List Int × Nat × Nat) : AH := match r with
 | (o0, o1, o2) => ⟨sB [(0, (some (.cells (layT (iv o0)) 3)))], 1, 0⟩
noncomputable abbrev G_viewportref16Pathq1 (a0 : Int) (r : List Int × Nat × Nat) : Prop := Gv P (.func 10) (A_viewportref16Pathq1 a0) (H_viewportref16Pathq1 a0) (V_viewportref16Pathq1 a0 r) (R_viewportref16Pathq1 a0 r)
noncomputable abbrev C_viewportref16Pathq1 (a0 : Int) (r : List Int × Nat × Nat) (ins outs : BL) : CallA := ⟨0, ins, V_viewportref16Pathq1 a0 r, R_viewportref16Pathq1 a0 r, outs⟩
noncomputable def S_viewportref16Pathq1_1 (x1_1 : List Int) (x1_2 : Nat) (st : Int × List Int × Nat × Nat) : XSt := match st with
 | (x1_0, x1_3, x1_4, x1_5) => (sT 28 [(0, (sW 1 0 (Args.B).length Args.cB)), (1, (i6 x1_0)), (5, (sN 0 0 x1_2 x1_2)), (6, (slKQ x1_3 1 x1_4 0 x1_5))], [], ⟨sB [(0, (some (.cells (layT (iv x1_1)) 3))), (1, (nblk x1_3 3))], 2, 0⟩)
noncomputable def X_viewportref16Pathq1_1 (x1_1 : List Int) (x1_2 : Nat) (r : List Int × Nat × Nat) : Ex × XSt := match r with
 | (z1_0, z1_1, z1_2) => (.exit 0, (sT 28 [(6, (slKQ z1_0 0 z1_1 0 z1_2))], [], ⟨sB [(0, (nblk z1_0 3))], 1, 0⟩))
noncomputable abbrev Q_viewportref16Pathq1_1 (rnd : Option Nat) (x1_1 : List Int) (x1_2 : Nat) (st : Int × List Int × Nat × Nat) (c : Ex × XSt) : Prop := CG P rnd (fnN P 10) 0 (codeOf P 10 [false, false, false, true, true, true, true]) (S_viewportref16Pathq1_1 x1_1 x1_2 st) c
noncomputable abbrev U_viewportref16Pathq1_1 (rd : Option Nat) (x1_1 : List Int) (x1_2 : Nat) (st : Int × List Int × Nat × Nat) (r : List Int × Nat × Nat) : Prop := CG P rd (fnN P 10) 0 (codeOf P 10 [false, false, true, true, true, true]) (S_viewportref16Pathq1_1 x1_1 x1_2 st) (X_viewportref16Pathq1_1 x1_1 x1_2 r)
def B_viewportref16Pathq1_1 (n : Nat) (x1_1 : List Int) (x1_2 : Nat) (st : Int × List Int × Nat × Nat) : Option ((Int × List Int × Nat × Nat) ⊕ (List Int × Nat × Nat)) := match st with
 | (x1_0, x1_3, x1_4, x1_5) =>
  match x1_3 with
  | [] =>
   if x1_0 ≥ (0 : Int) then
    if 0 ≤ x1_0 ∧ x1_0 < (((Args.B).length : Nat) : Int) then
     ((some ((Args.B).getD (x1_0).toNat (0, 0, 0, 0, 0, 0, nl0, 0)))).bind fun y1_3_ =>
     if 0 ≤ x1_0 ∧ x1_0 < ((x1_2 : Nat) : Int) then
      if (x1_0).toNat < (x1_1).length then
       ((some ((x1_1).getD (x1_0).toNat 0))).bind fun y1_6_ =>
       some (.inl (y1_6_, [(y1_3_.1)], 1, 1))
      else none
     else none
    else none
   else
    some (.inr (([] : List Int), 0, 0))
  | x1_3a :: x1_3t =>
   if x1_0 ≥ (0 : Int) then
    if 0 ≤ x1_0 ∧ x1_0 < (((Args.B).length : Nat) : Int) then
     ((some ((Args.B).getD (x1_0).toNat (0, 0, 0, 0, 0, 0, nl0, 0)))).bind fun y1_3_ =>
     if 0 < x1_4 then
      if 0 + x1_4 ≤ ((x1_3a :: x1_3t)).length then
       if (1 + x1_4) * 8 ≤ 140737488355328 then
        if 1 < 1 + x1_4 then
         if 0 ≤ x1_0 ∧ x1_0 < ((x1_2 : Nat) : Int) then
          if (x1_0).toNat < (x1_1).length then
           ((some ((x1_1).getD (x1_0).toNat 0))).bind fun y1_10_ =>
           some (.inl (y1_10_, ([(y1_3_.1)] ++ (List.take x1_4 (List.drop 0 (x1_3a :: x1_3t)))), ((([(y1_3_.1)] ++ (List.take x1_4 (List.drop 0 (x1_3a :: x1_3t))))).length), (Nat.add big 1)))
          else none
         else none
        else none
       else none
      else none
     else
      if 0 ≤ x1_0 ∧ x1_0 < ((x1_2 : Nat) : Int) then
       if (x1_0).toNat < (x1_1).length then
        ((some ((x1_1).getD (x1_0).toNat 0))).bind fun y1_7_ =>
        some (.inl (y1_7_, [(y1_3_.1)], 1, 1))
       else none
      else none
    else none
   else
    some (.inr ((x1_3a :: x1_3t), x1_4, x1_5))
def m_viewportref16Pathq1_1 (n : Nat) (x1_1 : List Int) (x1_2 : Nat) (st : Int × List Int × Nat × Nat) : Option (List Int × Nat × Nat) := iterM (B_viewportref16Pathq1_1 n x1_1 x1_2) n st
theorem q_viewportref16Pathq1_1_0 (n : Nat) {rnd : Option Nat} (x1_0 : Int) (x1_1 : List Int) (x1_2 x1_4 x1_5 : Nat) (hy1_1 : x1_0 ≥ (0 : Int)) (hy1_2 : 0 ≤ x1_0 ∧ x1_0 < (((Args.B).length : Nat) : Int)) (y1_3_ : Int × Int × Int × Int × Int × Int × NL × Int) (hy1_3 : (some ((Args.B).getD (x1_0).toNat (0, 0, 0, 0, 0, 0, nl0, 0))) = some y1_3_) (hy1_4 : 0 ≤ x1_0 ∧ x1_0 < ((x1_2 : Nat) : Int)) (hy1_5 : (x1_0).toNat < (x1_1).length) (y1_6_ : Int) (hy1_6 : (some ((x1_1).getD (x1_0).toNat 0)) = some y1_6_) : Q_viewportref16Pathq1_1 rnd x1_1 x1_2 (x1_0, ([] : List Int), x1_4, x1_5) (.normal, S_viewportref16Pathq1_1 x1_1 x1_2 (y1_6_, [(y1_3_.1)], 1, 1)) :=
 runC2 hm (L := lT []) ⟨[0, 1, 5, 6], [(0, 0, true), (1, 2, false)], 2, 0⟩ (zz 3 (xdT hy1_1) <|
zz 9 (xk4 1 Args.cB hy1_2) <|
zz 10 (fk20 ((x1_0).toNat * 8)) <|
zz 11 (lk21 hy1_3 (toNatLt hy1_2)) <|
zz 18 (xk23 0 x1_2 hy1_4) <|
zz 19 (xivN hy1_6 hy1_5) <|
ww (iv_flat x1_1 3) <|
ee) (by kernel_rfl)
theorem q_viewportref16Pathq1_1_1 (n : Nat) {rnd : Option Nat} (x1_0 : Int) (x1_1 : List Int) (x1_2 x1_4 x1_5 : Nat) (hy1_1 : ¬ (x1_0 ≥ (0 : Int))) : Q_viewportref16Pathq1_1 rnd x1_1 x1_2 (x1_0, ([] : List Int), x1_4, x1_5) (X_viewportref16Pathq1_1 x1_1 x1_2 (([] : List Int), 0, 0)) :=
 runC2 hm (L := lT []) ⟨[6], [], 1, 0⟩ (zz 3 (xdF hy1_1) <|
ee) (by kernel_rfl)
theorem q_viewportref16Pathq1_1_2 (n : Nat) {rnd : Option Nat} (x1_0 : Int) (x1_1 : List Int) (x1_2 : Nat) (x1_3a : Int) (x1_3t : List (Int)) (x1_4 x1_5 : Nat) (hy1_1 : x1_0 ≥ (0 : Int)) (hy1_2 : 0 ≤ x1_0 ∧ x1_0 < (((Args.B).length : Nat) : Int)) (y1_3_ : Int × Int × Int × Int × Int × Int × NL × Int) (hy1_3 : (some ((Args.B).getD (x1_0).toNat (0, 0, 0, 0, 0, 0, nl0, 0))) = some y1_3_) (hy1_4 : 0 < x1_4) (hy1_5 : 0 + x1_4 ≤ ((x1_3a :: x1_3t)).length) (hy1_6 : (1 + x1_4) * 8 ≤ 140737488355328) (hy1_7 : 1 < 1 + x1_4) (hy1_8 : 0 ≤ x1_0 ∧ x1_0 < ((x1_2 : Nat) : Int)) (hy1_9 : (x1_0).toNat < (x1_1).length) (y1_10_ : Int) (hy1_10 : (some ((x1_1).getD (x1_0).toNat 0)) = some y1_10_) : Q_viewportref16Pathq1_1 rnd x1_1 x1_2 (x1_0, (x1_3a :: x1_3t), x1_4, x1_5) (.normal, S_viewportref16Pathq1_1 x1_1 x1_2 (y1_10_, ([(y1_3_.1)] ++ (List.take x1_4 (List.drop 0 (x1_3a :: x1_3t)))), ((([(y1_3_.1)] ++ (List.take x1_4 (List.drop 0 (x1_3a :: x1_3t))))).length), (Nat.add big 1))) :=
 runC2 hm (L := lT []) ⟨[0, 1, 5, 6], [(0, 0, true), (1, 3, true)], 2, 0⟩ (zz 3 (xdT hy1_1) <|
zz 9 (xk4 1 Args.cB hy1_2) <|
zz 10 (fk20 ((x1_0).toNat * 8)) <|
zz 11 (lk21 hy1_3 (toNatLt hy1_2)) <|
ww (p := x1_4 = x1_4) (rfl) <|
ww (p := rdT (layT (iv (x1_3a :: x1_3t))) (Nat.mul x1_4 1) 0 = some (iv (List.take x1_4 (List.drop 0 (x1_3a :: x1_3t))))) ((Nat.zero_mul 1 ▸ iv_rdSub _ 0 _ hy1_5)) <|
yy 14 (.app ⟨some (x1_4, (iv (List.take x1_4 (List.drop 0 (x1_3a :: x1_3t))))), [(i6 (y1_3_.1))], (iv ([(y1_3_.1)] ++ (List.take x1_4 (List.drop 0 (x1_3a :: x1_3t))))), (([(y1_3_.1)] ++ (List.take x1_4 (List.drop 0 (x1_3a :: x1_3t))))).length, true⟩) <|
ww (p := 0 < x1_4) (hy1_4) <|
ww (p := 1 < big) ((by decide)) <|
ww (p := 1 < Nat.add 1 x1_4) (hy1_7) <|
ww (p := rdT (layT [(i6 (y1_3_.1))]) (Nat.mul 1 1) 0 = some ([(i6 (y1_3_.1))])) (rfl) <|
ww (p := fits (Nat.add 1 x1_4) 8 = true) (fits_ok hy1_6 (by have := hy1_6; show (_ : Nat) + _ ≤ _; omega)) <|
ww (p := [(i6 (y1_3_.1))] ++ (iv (List.take x1_4 (List.drop 0 (x1_3a :: x1_3t)))) = (iv ([(y1_3_.1)] ++ (List.take x1_4 (List.drop 0 (x1_3a :: x1_3t)))))) (by simp [iv]) <|
ww (p := Nat.add 1 x1_4 = (([(y1_3_.1)] ++ (List.take x1_4 (List.drop 0 (x1_3a :: x1_3t))))).length) (by simp <;> (try simp only [List.length_cons] at *) <;> omega) <|
zz 18 (xk23 0 x1_2 hy1_8) <|
zz 19 (xivN hy1_10 hy1_9) <|
ww (iv_flat x1_1 3) <|
ww (iv_flat ([(y1_3_.1)] ++ (List.take x1_4 (List.drop 0 (x1_3a :: x1_3t)))) 3) <|
ee) (by kernel_rfl)
theorem q_viewportref16Pathq1_1_3 (n : Nat) {rnd : Option Nat} (x1_0 : Int) (x1_1 : List Int) (x1_2 : Nat) (x1_3a : Int) (x1_3t : List (Int)) (x1_4 x1_5 : Nat) (hy1_1 : x1_0 ≥ (0 : Int)) (hy1_2 : 0 ≤ x1_0 ∧ x1_0 < (((Args.B).length : Nat) : Int)) (y1_3_ : Int × Int × Int × Int × Int × Int × NL × Int) (hy1_3 : (some ((Args.B).getD (x1_0).toNat (0, 0, 0, 0, 0, 0, nl0, 0))) = some y1_3_) (hy1_4 : ¬ (0 < x1_4)) (hy1_5 : 0 ≤ x1_0 ∧ x1_0 < ((x1_2 : Nat) : Int)) (hy1_6 : (x1_0).toNat < (x1_1).length) (y1_7_ : Int) (hy1_7 : (some ((x1_1).getD (x1_0).toNat 0)) = some y1_7_) : Q_viewportref16Pathq1_1 rnd x1_1 x1_2 (x1_0, (x1_3a :: x1_3t), x1_4, x1_5) (.normal, S_viewportref16Pathq1_1 x1_1 x1_2 (y1_7_, [(y1_3_.1)], 1, 1)) :=
 runC2 hm (L := lT []) ⟨[0, 1, 5, 6], [(0, 0, true), (1, 2, false)], 2, 0⟩ (zz 3 (xdT hy1_1) <|
zz 9 (xk4 1 Args.cB hy1_2) <|
zz 10 (fk20 ((x1_0).toNat * 8)) <|
zz 11 (lk21 hy1_3 (toNatLt hy1_2)) <|
yy 14 (.app0) <|
ww (p := 0 = x1_4) ((by have := hy1_4; omega)) <|
ww (p := rdT (layT (iv (x1_3a :: x1_3t))) (Nat.mul x1_4 1) 0 = some []) (rdT_zero (by have := hy1_4; omega)) <|
ww (p := ∀ H : AH, appTop H 1 3 8 (0, []) (sN 2 0 1 1) = some ((sN 2 0 1 1), H)) (fun _ => rfl) <|
zz 18 (xk23 0 x1_2 hy1_5) <|
zz 19 (xivN hy1_7 hy1_6) <|
ww (iv_flat x1_1 3) <|
ee) (by kernel_rfl)
theorem q_viewportref16Pathq1_1_4 (n : Nat) {rnd : Option Nat} (x1_0 : Int) (x1_1 : List Int) (x1_2 : Nat) (x1_3a : Int) (x1_3t : List (Int)) (x1_4 x1_5 : Nat) (hy1_1 : ¬ (x1_0 ≥ (0 : Int))) : Q_viewportref16Pathq1_1 rnd x1_1 x1_2 (x1_0, (x1_3a :: x1_3t), x1_4, x1_5) (X_viewportref16Pathq1_1 x1_1 x1_2 ((x1_3a :: x1_3t), x1_4, x1_5)) :=
 runC2 hm (L := lT []) ⟨[6], [(0, 1, true)], 1, 0⟩ (zz 3 (xdF hy1_1) <|
ww (iv_flat (x1_3a :: x1_3t) 3) <|
ee) (by kernel_rfl)
theorem m_viewportref16Pathq1_1_ok (n : Nat) {rnd : Option Nat} (x1_1 : List Int) (x1_2 : Nat) (st : Int × List Int × Nat × Nat) (r : List Int × Nat × Nat) (h : m_viewportref16Pathq1_1 n x1_1 x1_2 st = some r) : CG P rnd (fnN P 10) 0 (codeOf P 10 [false, false, true, true, true, true]) (S_viewportref16Pathq1_1 x1_1 x1_2 st) (X_viewportref16Pathq1_1 x1_1 x1_2 r) :=
 CG.iter (b := codeOf P 10 [false, false, false, true, true, true, true]) (by kernel_rfl) (body := B_viewportref16Pathq1_1 n x1_1 x1_2) (S := S_viewportref16Pathq1_1 x1_1 x1_2) (X := X_viewportref16Pathq1_1 x1_1 x1_2)
  (fun s s' h => by
  obtain ⟨x1_0, x1_3, x1_4, x1_5⟩ := s
  unfold B_viewportref16Pathq1_1 at h
  dsimp only at h
  cases x1_3 with
  | nil =>
   dsimp only at h
   by_cases hy1_1 : x1_0 ≥ (0 : Int)
   ·rw [if_pos hy1_1] at h
    by_cases hy1_2 : 0 ≤ x1_0 ∧ x1_0 < (((Args.B).length : Nat) : Int)
    ·rw [if_pos hy1_2] at h
     obtain ⟨y1_3_, hy1_3, h⟩ := Option.bind_eq_some_iff.1 h
     by_cases hy1_4 : 0 ≤ x1_0 ∧ x1_0 < ((x1_2 : Nat) : Int)
     ·rw [if_pos hy1_4] at h
      by_cases hy1_5 : (x1_0).toNat < (x1_1).length
      ·rw [if_pos hy1_5] at h
       obtain ⟨y1_6_, hy1_6, h⟩ := Option.bind_eq_some_iff.1 h
       obtain rfl := Sum.inl.inj (Option.some.inj h); exact q_viewportref16Pathq1_1_0 n x1_0 x1_1 x1_2 x1_4 x1_5 hy1_1 hy1_2 y1_3_ hy1_3 hy1_4 hy1_5 y1_6_ hy1_6
      ·rw [if_neg hy1_5] at h; cases h
     ·rw [if_neg hy1_4] at h; cases h
    ·rw [if_neg hy1_2] at h; cases h
   ·rw [if_neg hy1_1] at h
    cases h
  | cons x1_3a x1_3t =>
   dsimp only at h
   by_cases hy1_1 : x1_0 ≥ (0 : Int)
   ·rw [if_pos hy1_1] at h
    by_cases hy1_2 : 0 ≤ x1_0 ∧ x1_0 < (((Args.B).length : Nat) : Int)
    ·rw [if_pos hy1_2] at h
     obtain ⟨y1_3_, hy1_3, h⟩ := Option.bind_eq_some_iff.1 h
     by_cases hy1_4 : 0 < x1_4
     ·rw [if_pos hy1_4] at h
      by_cases hy1_5 : 0 + x1_4 ≤ ((x1_3a :: x1_3t)).length
      ·rw [if_pos hy1_5] at h
       by_cases hy1_6 : (1 + x1_4) * 8 ≤ 140737488355328
       ·rw [if_pos hy1_6] at h
        by_cases hy1_7 : 1 < 1 + x1_4
        ·rw [if_pos hy1_7] at h
         by_cases hy1_8 : 0 ≤ x1_0 ∧ x1_0 < ((x1_2 : Nat) : Int)
         ·rw [if_pos hy1_8] at h
          by_cases hy1_9 : (x1_0).toNat < (x1_1).length
          ·rw [if_pos hy1_9] at h
           obtain ⟨y1_10_, hy1_10, h⟩ := Option.bind_eq_some_iff.1 h
           obtain rfl := Sum.inl.inj (Option.some.inj h); exact q_viewportref16Pathq1_1_2 n x1_0 x1_1 x1_2 x1_3a x1_3t x1_4 x1_5 hy1_1 hy1_2 y1_3_ hy1_3 hy1_4 hy1_5 hy1_6 hy1_7 hy1_8 hy1_9 y1_10_ hy1_10
          ·rw [if_neg hy1_9] at h; cases h
         ·rw [if_neg hy1_8] at h; cases h
        ·rw [if_neg hy1_7] at h; cases h
       ·rw [if_neg hy1_6] at h; cases h
      ·rw [if_neg hy1_5] at h; cases h
     ·rw [if_neg hy1_4] at h
      by_cases hy1_5 : 0 ≤ x1_0 ∧ x1_0 < ((x1_2 : Nat) : Int)
      ·rw [if_pos hy1_5] at h
       by_cases hy1_6 : (x1_0).toNat < (x1_1).length
       ·rw [if_pos hy1_6] at h
        obtain ⟨y1_7_, hy1_7, h⟩ := Option.bind_eq_some_iff.1 h
        obtain rfl := Sum.inl.inj (Option.some.inj h); exact q_viewportref16Pathq1_1_3 n x1_0 x1_1 x1_2 x1_3a x1_3t x1_4 x1_5 hy1_1 hy1_2 y1_3_ hy1_3 hy1_4 hy1_5 hy1_6 y1_7_ hy1_7
       ·rw [if_neg hy1_6] at h; cases h
      ·rw [if_neg hy1_5] at h; cases h
    ·rw [if_neg hy1_2] at h; cases h
   ·rw [if_neg hy1_1] at h
    cases h)
  (fun s r h => by
  obtain ⟨x1_0, x1_3, x1_4, x1_5⟩ := s
  unfold B_viewportref16Pathq1_1 at h
  dsimp only at h
  cases x1_3 with
  | nil =>
   dsimp only at h
   by_cases hy1_1 : x1_0 ≥ (0 : Int)
   ·rw [if_pos hy1_1] at h
    by_cases hy1_2 : 0 ≤ x1_0 ∧ x1_0 < (((Args.B).length : Nat) : Int)
    ·rw [if_pos hy1_2] at h
     obtain ⟨y1_3_, hy1_3, h⟩ := Option.bind_eq_some_iff.1 h
     by_cases hy1_4 : 0 ≤ x1_0 ∧ x1_0 < ((x1_2 : Nat) : Int)
     ·rw [if_pos hy1_4] at h
      by_cases hy1_5 : (x1_0).toNat < (x1_1).length
      ·rw [if_pos hy1_5] at h
       obtain ⟨y1_6_, hy1_6, h⟩ := Option.bind_eq_some_iff.1 h
       cases h
      ·rw [if_neg hy1_5] at h; cases h
     ·rw [if_neg hy1_4] at h; cases h
    ·rw [if_neg hy1_2] at h; cases h
   ·rw [if_neg hy1_1] at h
    obtain rfl := Sum.inr.inj (Option.some.inj h); exact q_viewportref16Pathq1_1_1 n x1_0 x1_1 x1_2 x1_4 x1_5 hy1_1
  | cons x1_3a x1_3t =>
   dsimp only at h
   by_cases hy1_1 : x1_0 ≥ (0 : Int)
   ·rw [if_pos hy1_1] at h
    by_cases hy1_2 : 0 ≤ x1_0 ∧ x1_0 < (((Args.B).length : Nat) : Int)
    ·rw [if_pos hy1_2] at h
     obtain ⟨y1_3_, hy1_3, h⟩ := Option.bind_eq_some_iff.1 h
     by_cases hy1_4 : 0 < x1_4
     ·rw [if_pos hy1_4] at h
      by_cases hy1_5 : 0 + x1_4 ≤ ((x1_3a :: x1_3t)).length
      ·rw [if_pos hy1_5] at h
       by_cases hy1_6 : (1 + x1_4) * 8 ≤ 140737488355328
       ·rw [if_pos hy1_6] at h
        by_cases hy1_7 : 1 < 1 + x1_4
        ·rw [if_pos hy1_7] at h
         by_cases hy1_8 : 0 ≤ x1_0 ∧ x1_0 < ((x1_2 : Nat) : Int)
         ·rw [if_pos hy1_8] at h
          by_cases hy1_9 : (x1_0).toNat < (x1_1).length
          ·rw [if_pos hy1_9] at h
           obtain ⟨y1_10_, hy1_10, h⟩ := Option.bind_eq_some_iff.1 h
           cases h
          ·rw [if_neg hy1_9] at h; cases h
         ·rw [if_neg hy1_8] at h; cases h
        ·rw [if_neg hy1_7] at h; cases h
       ·rw [if_neg hy1_6] at h; cases h
      ·rw [if_neg hy1_5] at h; cases h
     ·rw [if_neg hy1_4] at h
      by_cases hy1_5 : 0 ≤ x1_0 ∧ x1_0 < ((x1_2 : Nat) : Int)
      ·rw [if_pos hy1_5] at h
       by_cases hy1_6 : (x1_0).toNat < (x1_1).length
       ·rw [if_pos hy1_6] at h
        obtain ⟨y1_7_, hy1_7, h⟩ := Option.bind_eq_some_iff.1 h
        cases h
       ·rw [if_neg hy1_6] at h; cases h
      ·rw [if_neg hy1_5] at h; cases h
    ·rw [if_neg hy1_2] at h; cases h
   ·rw [if_neg hy1_1] at h
    obtain rfl := Sum.inr.inj (Option.some.inj h); exact q_viewportref16Pathq1_1_4 n x1_0 x1_1 x1_2 x1_3a x1_3t x1_4 x1_5 hy1_1)
  (fun r => by intro hx; cases hx) h
def m_viewportref16Pathq1 (n : Nat) (a0 : Int) : Option (List Int × Nat × Nat) :=
 (m_viewportref16isq1 n a0).bind fun c1_ =>
 if c1_ = true then
  (m_viewportref16Parentsq1 n).bind fun t => match t with
  | (c3_0, c3_1) =>
   (m_viewportref16Pathq1_1 n c3_0 c3_1 (a0, ([] : List Int), 0, 0)).bind fun t => match t with
   | (c4_0, c4_1, c4_2) =>
    match c4_0 with
    | [] =>
     none
    | c4_0a :: c4_0t =>
     some ((c4_0a :: c4_0t), c4_1, c4_2)
 else
  none
theorem p_viewportref16Pathq1_0 (n : Nat) (a0 : Int) (c1_ : Bool) (hc1 : m_viewportref16isq1 n a0 = some c1_) (hc2 : c1_ = true) (c3_0 : List Int) (c3_1 : Nat) (hc3 : m_viewportref16Parentsq1 n = some (c3_0, c3_1)) (c4_0a : Int) (c4_0t : List (Int)) (c4_1 c4_2 : Nat) (hc4 : m_viewportref16Pathq1_1 n c3_0 c3_1 (a0, ([] : List Int), 0, 0) = some ((c4_0a :: c4_0t), c4_1, c4_2)) : G_viewportref16Pathq1 a0 ((c4_0a :: c4_0t), c4_1, c4_2) :=
 runF2 hm (L := lT [(17, ⟨⟨[0, 1, 5, 6], [(0, 0, true)], 2, 0⟩, (X_viewportref16Pathq1_1 c3_0 c3_1 ((c4_0a :: c4_0t), c4_1, c4_2)).1, (X_viewportref16Pathq1_1 c3_0 c3_1 ((c4_0a :: c4_0t), c4_1, c4_2)).2⟩)]) ⟨[4], [(0, 0, true)], 1, 0⟩ (yy 6 (.call (C_viewportref16isq1 a0 c1_ [] [])) <|
ww (m_viewportref16isq1_ok n a0 c1_ hc1) <|
yy 7 (vf) <|
ww (p := (Value.bool (!c1_)) = (Value.bool false)) (vBn hc2) <|
yy 11 (.call (C_viewportref16Parentsq1  (c3_0, c3_1) [] [(0, 0, true)])) <|
ww (m_viewportref16Parentsq1_ok n  (c3_0, c3_1) hc3) <|
ww (iv_flat c3_0 3) <|
ww (p := U_viewportref16Pathq1_1 none c3_0 c3_1 (a0, ([] : List Int), 0, 0) ((c4_0a :: c4_0t), c4_1, c4_2)) (m_viewportref16Pathq1_1_ok n c3_0 c3_1 (a0, ([] : List Int), 0, 0) ((c4_0a :: c4_0t), c4_1, c4_2) hc4) <|
ww (iv_flat c3_0 3) <|
ww (iv_flat (c4_0a :: c4_0t) 3) <|
ee) (by kernel_rfl)
theorem m_viewportref16Pathq1_ok (n : Nat) (a0 : Int) (r : List Int × Nat × Nat) (h : m_viewportref16Pathq1 n a0 = some r) : Gv P (.func 10) (A_viewportref16Pathq1 a0) (H_viewportref16Pathq1 a0) (V_viewportref16Pathq1 a0 r) (R_viewportref16Pathq1 a0 r) := by
 unfold m_viewportref16Pathq1 at h
 obtain ⟨c1_, hc1, h⟩ := Option.bind_eq_some_iff.1 h
 by_cases hc2 : c1_ = true
 ·rw [if_pos hc2] at h
  obtain ⟨⟨c3_0, c3_1⟩, hc3, h⟩ := Option.bind_eq_some_iff.1 h
  dsimp only at h
  obtain ⟨⟨c4_0, c4_1, c4_2⟩, hc4, h⟩ := Option.bind_eq_some_iff.1 h
  dsimp only at h
  cases c4_0 with
  | nil =>
   dsimp only at h
   cases h
  | cons c4_0a c4_0t =>
   dsimp only at h
   obtain rfl := Option.some.inj h; exact p_viewportref16Pathq1_0 n a0 c1_ hc1 hc2 c3_0 c3_1 hc3 c4_0a c4_0t c4_1 c4_2 hc4
 ·rw [if_neg hc2] at h
  cases h

noncomputable def A_viewportlaw26StylesLeaf (g2 : Int) : List Value := [(sW 0 0 (Args.A).length Args.cA), (sW 1 0 (Args.B).length Args.cB), (i6 g2)]
noncomputable def H_viewportlaw26StylesLeaf (g2 : Int) : AH := ⟨sB [], 0, 0⟩
noncomputable def V_viewportlaw26StylesLeaf (g2 : Int) (r : Unit) : Value := match r with
 | _ => (bO true)
noncomputable def R_viewportlaw26StylesLeaf (g2 : Int) (r : Unit) : AH := match r with
 | _ => ⟨sB [], 0, 0⟩
noncomputable abbrev G_viewportlaw26StylesLeaf (g2 : Int) (r : Unit) : Prop := Gv P (.func 3) (A_viewportlaw26StylesLeaf g2) (H_viewportlaw26StylesLeaf g2) (V_viewportlaw26StylesLeaf g2 r) (R_viewportlaw26StylesLeaf g2 r)
noncomputable abbrev C_viewportlaw26StylesLeaf (g2 : Int) (r : Unit) (ins outs : BL) : CallA := ⟨0, ins, V_viewportlaw26StylesLeaf g2 r, R_viewportlaw26StylesLeaf g2 r, outs⟩
def m_viewportlaw26StylesLeaf (n : Nat) (g2 : Int) : Option (Unit) :=
 (m_viewportlaw26lives n).bind fun _ =>
 (m_viewportlaw26lightq1 n).bind fun c2_ =>
 if c2_ = true then
  (m_viewportref16Checkq1 n).bind fun c4_ =>
  if c4_ = (0 : Int) then
   (m_viewportkitPickq1 n g2 (((Args.B).length : Nat) : Int)).bind fun c6_ =>
   (m_stylesLeafq1 n c6_).bind fun c7_ =>
   if 0 ≤ c6_ ∧ c6_ < (((Args.B).length : Nat) : Int) then
    ((some ((Args.B).getD (c6_).toNat (0, 0, 0, 0, 0, 0, nl0, 0)))).bind fun c9_ =>
    if (c9_.2.1) = (3 : Int) then
     (m_viewportref16Pathq1 n c6_).bind fun t => match t with
     | (c11_0, c11_1, c11_2) =>
      ((some (w64 (((c11_1 : Nat) : Int) - (1 : Int))))).bind fun c12_ =>
      if 0 ≤ c12_ ∧ c12_ ≤ ((c11_1 : Nat) : Int) then
       if c11_1 ≤ c11_2 ∧ (c11_2 < big ∨ c11_2 = Nat.add big 1) then
        (m_stylesStyleq1 n (c9_.1) c11_0 ((c12_).toNat) c11_2).bind fun c15_ =>
        if c7_ = c15_ then
         some ()
        else
         none
       else none
      else none
    else
     if (c9_.2.1) = (5 : Int) then
      (m_viewportref16Pathq1 n c6_).bind fun t => match t with
      | (c12_0, c12_1, c12_2) =>
       ((some (w64 (((c12_1 : Nat) : Int) - (1 : Int))))).bind fun c13_ =>
       if 0 ≤ c13_ ∧ c13_ ≤ ((c12_1 : Nat) : Int) then
        if c12_1 ≤ c12_2 ∧ (c12_2 < big ∨ c12_2 = Nat.add big 1) then
         (m_stylesStyleq1 n (c9_.1) c12_0 ((c13_).toNat) c12_2).bind fun c16_ =>
         if c7_ = c16_ then
          some ()
         else
          none
        else none
       else none
     else
      if c7_ = (0 : Int) then
       some ()
      else
       none
   else none
  else
   some ()
 else
  some ()
theorem p_viewportlaw26StylesLeaf_0 (n : Nat) (g2 : Int) (hc1 : m_viewportlaw26lives n = some ()) (c2_ : Bool) (hc2 : m_viewportlaw26lightq1 n = some c2_) (hc3 : c2_ = true) (c4_ : Int) (hc4 : m_viewportref16Checkq1 n = some c4_) (hc5 : c4_ = (0 : Int)) (c6_ : Int) (hc6 : m_viewportkitPickq1 n g2 (((Args.B).length : Nat) : Int) = some c6_) (c7_ : Int) (hc7 : m_stylesLeafq1 n c6_ = some c7_) (hc8 : 0 ≤ c6_ ∧ c6_ < (((Args.B).length : Nat) : Int)) (c9_ : Int × Int × Int × Int × Int × Int × NL × Int) (hc9 : (some ((Args.B).getD (c6_).toNat (0, 0, 0, 0, 0, 0, nl0, 0))) = some c9_) (hc10 : (c9_.2.1) = (3 : Int)) (c11_0 : List Int) (c11_1 c11_2 : Nat) (hc11 : m_viewportref16Pathq1 n c6_ = some (c11_0, c11_1, c11_2)) (c12_ : Int) (hc12 : (some (w64 (((c11_1 : Nat) : Int) - (1 : Int)))) = some c12_) (hc13 : 0 ≤ c12_ ∧ c12_ ≤ ((c11_1 : Nat) : Int)) (hc14 : c11_1 ≤ c11_2 ∧ (c11_2 < big ∨ c11_2 = Nat.add big 1)) (c15_ : Int) (hc15 : m_stylesStyleq1 n (c9_.1) c11_0 ((c12_).toNat) c11_2 = some c15_) (hc16 : c7_ = c15_) : G_viewportlaw26StylesLeaf g2 () :=
 runF2 hm (L := lT []) ⟨[6], [], 0, 0⟩ (yy 4 (.call ⟨0, [], (Value.bool true), Ax.h0, []⟩) <|
ww (m_viewportlaw26lives_ok n  () hc1) <|
yy 11 (.call (C_viewportlaw26lightq1  c2_ [] [])) <|
ww (m_viewportlaw26lightq1_ok n  c2_ hc2) <|
yy 12 (vf) <|
ww (p := (Value.bool (!c2_)) = (Value.bool false)) (vBn hc3) <|
yy 15 (.call (C_viewportref16Checkq1  c4_ [] [])) <|
ww (m_viewportref16Checkq1_ok n  c4_ hc4) <|
zz 16 (xnF hc5) <|
yy 23 (.call (C_viewportkitPickq1 g2 (((Args.B).length : Nat) : Int) c6_ [] [])) <|
ww (m_viewportkitPickq1_ok n g2 (((Args.B).length : Nat) : Int) c6_ hc6) <|
yy 29 (.call (C_stylesLeafq1 c6_ c7_ [] [])) <|
ww (m_stylesLeafq1_ok n c6_ c7_ hc7) <|
zz 35 (xk4 1 Args.cB hc8) <|
zz 36 (fk6 ((c6_).toNat * 8)) <|
zz 37 (lk7 hc9 (toNatLt hc8)) <|
zz 38 (xnF hc10) <|
yy 51 (.call (C_viewportref16Pathq1 c6_ (c11_0, c11_1, c11_2) [] [(0, 0, true)])) <|
ww (m_viewportref16Pathq1_ok n c6_ (c11_0, c11_1, c11_2) hc11) <|
ww (iv_flat c11_0 3) <|
zz 58 (xk4 1 Args.cB hc8) <|
zz 59 (fk20 ((c6_).toNat * 8)) <|
zz 60 (lk21 hc9 (toNatLt hc8)) <|
zz 64 (xnm hc12) <|
yy 65 (.pur (sN 0 0 (c12_).toNat c11_2)) <|
ww (p := opSlice P 30 (sN 0 0 c11_1 c11_2) none (some (i6 c12_)) none Ax.h0 = some ((sN 0 0 (c12_).toNat c11_2), Ax.h0)) (slHiV (e := 3) (es := 1) (by kernel_rfl) (by kernel_rfl) rfl rfl hc13 hc14) <|
yy 66 (.call (C_stylesStyleq1 (c9_.1) c11_0 ((c12_).toNat) c11_2 c15_ [(0, 0, true)] [(0, 0, true)])) <|
ww (m_stylesStyleq1_ok n (c9_.1) c11_0 ((c12_).toNat) c11_2 c15_ hc15) <|
ww (iv_flat c11_0 3) <|
ww (iv_flat c11_0 3) <|
zz 67 (xeT hc16) <|
ee) (by kernel_rfl)
theorem p_viewportlaw26StylesLeaf_1 (n : Nat) (g2 : Int) (hc1 : m_viewportlaw26lives n = some ()) (c2_ : Bool) (hc2 : m_viewportlaw26lightq1 n = some c2_) (hc3 : c2_ = true) (c4_ : Int) (hc4 : m_viewportref16Checkq1 n = some c4_) (hc5 : c4_ = (0 : Int)) (c6_ : Int) (hc6 : m_viewportkitPickq1 n g2 (((Args.B).length : Nat) : Int) = some c6_) (c7_ : Int) (hc7 : m_stylesLeafq1 n c6_ = some c7_) (hc8 : 0 ≤ c6_ ∧ c6_ < (((Args.B).length : Nat) : Int)) (c9_ : Int × Int × Int × Int × Int × Int × NL × Int) (hc9 : (some ((Args.B).getD (c6_).toNat (0, 0, 0, 0, 0, 0, nl0, 0))) = some c9_) (hc10 : ¬ ((c9_.2.1) = (3 : Int))) (hc11 : (c9_.2.1) = (5 : Int)) (c12_0 : List Int) (c12_1 c12_2 : Nat) (hc12 : m_viewportref16Pathq1 n c6_ = some (c12_0, c12_1, c12_2)) (c13_ : Int) (hc13 : (some (w64 (((c12_1 : Nat) : Int) - (1 : Int)))) = some c13_) (hc14 : 0 ≤ c13_ ∧ c13_ ≤ ((c12_1 : Nat) : Int)) (hc15 : c12_1 ≤ c12_2 ∧ (c12_2 < big ∨ c12_2 = Nat.add big 1)) (c16_ : Int) (hc16 : m_stylesStyleq1 n (c9_.1) c12_0 ((c13_).toNat) c12_2 = some c16_) (hc17 : c7_ = c16_) : G_viewportlaw26StylesLeaf g2 () :=
 runF2 hm (L := lT []) ⟨[6], [], 0, 0⟩ (yy 4 (.call ⟨0, [], (Value.bool true), Ax.h0, []⟩) <|
ww (m_viewportlaw26lives_ok n  () hc1) <|
yy 11 (.call (C_viewportlaw26lightq1  c2_ [] [])) <|
ww (m_viewportlaw26lightq1_ok n  c2_ hc2) <|
yy 12 (vf) <|
ww (p := (Value.bool (!c2_)) = (Value.bool false)) (vBn hc3) <|
yy 15 (.call (C_viewportref16Checkq1  c4_ [] [])) <|
ww (m_viewportref16Checkq1_ok n  c4_ hc4) <|
zz 16 (xnF hc5) <|
yy 23 (.call (C_viewportkitPickq1 g2 (((Args.B).length : Nat) : Int) c6_ [] [])) <|
ww (m_viewportkitPickq1_ok n g2 (((Args.B).length : Nat) : Int) c6_ hc6) <|
yy 29 (.call (C_stylesLeafq1 c6_ c7_ [] [])) <|
ww (m_stylesLeafq1_ok n c6_ c7_ hc7) <|
zz 35 (xk4 1 Args.cB hc8) <|
zz 36 (fk6 ((c6_).toNat * 8)) <|
zz 37 (lk7 hc9 (toNatLt hc8)) <|
zz 38 (xnT hc10) <|
zz 42 (xk4 1 Args.cB hc8) <|
zz 43 (fk6 ((c6_).toNat * 8)) <|
zz 44 (lk7 hc9 (toNatLt hc8)) <|
zz 45 (xnF hc11) <|
yy 51 (.call (C_viewportref16Pathq1 c6_ (c12_0, c12_1, c12_2) [] [(0, 0, true)])) <|
ww (m_viewportref16Pathq1_ok n c6_ (c12_0, c12_1, c12_2) hc12) <|
ww (iv_flat c12_0 3) <|
zz 58 (xk4 1 Args.cB hc8) <|
zz 59 (fk20 ((c6_).toNat * 8)) <|
zz 60 (lk21 hc9 (toNatLt hc8)) <|
zz 64 (xnm hc13) <|
yy 65 (.pur (sN 0 0 (c13_).toNat c12_2)) <|
ww (p := opSlice P 30 (sN 0 0 c12_1 c12_2) none (some (i6 c13_)) none Ax.h0 = some ((sN 0 0 (c13_).toNat c12_2), Ax.h0)) (slHiV (e := 3) (es := 1) (by kernel_rfl) (by kernel_rfl) rfl rfl hc14 hc15) <|
yy 66 (.call (C_stylesStyleq1 (c9_.1) c12_0 ((c13_).toNat) c12_2 c16_ [(0, 0, true)] [(0, 0, true)])) <|
ww (m_stylesStyleq1_ok n (c9_.1) c12_0 ((c13_).toNat) c12_2 c16_ hc16) <|
ww (iv_flat c12_0 3) <|
ww (iv_flat c12_0 3) <|
zz 67 (xeT hc17) <|
ee) (by kernel_rfl)
theorem p_viewportlaw26StylesLeaf_2 (n : Nat) (g2 : Int) (hc1 : m_viewportlaw26lives n = some ()) (c2_ : Bool) (hc2 : m_viewportlaw26lightq1 n = some c2_) (hc3 : c2_ = true) (c4_ : Int) (hc4 : m_viewportref16Checkq1 n = some c4_) (hc5 : c4_ = (0 : Int)) (c6_ : Int) (hc6 : m_viewportkitPickq1 n g2 (((Args.B).length : Nat) : Int) = some c6_) (c7_ : Int) (hc7 : m_stylesLeafq1 n c6_ = some c7_) (hc8 : 0 ≤ c6_ ∧ c6_ < (((Args.B).length : Nat) : Int)) (c9_ : Int × Int × Int × Int × Int × Int × NL × Int) (hc9 : (some ((Args.B).getD (c6_).toNat (0, 0, 0, 0, 0, 0, nl0, 0))) = some c9_) (hc10 : ¬ ((c9_.2.1) = (3 : Int))) (hc11 : ¬ ((c9_.2.1) = (5 : Int))) (hc12 : c7_ = (0 : Int)) : G_viewportlaw26StylesLeaf g2 () :=
 runF2 hm (L := lT []) ⟨[6], [], 0, 0⟩ (yy 4 (.call ⟨0, [], (Value.bool true), Ax.h0, []⟩) <|
ww (m_viewportlaw26lives_ok n  () hc1) <|
yy 11 (.call (C_viewportlaw26lightq1  c2_ [] [])) <|
ww (m_viewportlaw26lightq1_ok n  c2_ hc2) <|
yy 12 (vf) <|
ww (p := (Value.bool (!c2_)) = (Value.bool false)) (vBn hc3) <|
yy 15 (.call (C_viewportref16Checkq1  c4_ [] [])) <|
ww (m_viewportref16Checkq1_ok n  c4_ hc4) <|
zz 16 (xnF hc5) <|
yy 23 (.call (C_viewportkitPickq1 g2 (((Args.B).length : Nat) : Int) c6_ [] [])) <|
ww (m_viewportkitPickq1_ok n g2 (((Args.B).length : Nat) : Int) c6_ hc6) <|
yy 29 (.call (C_stylesLeafq1 c6_ c7_ [] [])) <|
ww (m_stylesLeafq1_ok n c6_ c7_ hc7) <|
zz 35 (xk4 1 Args.cB hc8) <|
zz 36 (fk6 ((c6_).toNat * 8)) <|
zz 37 (lk7 hc9 (toNatLt hc8)) <|
zz 38 (xnT hc10) <|
zz 42 (xk4 1 Args.cB hc8) <|
zz 43 (fk6 ((c6_).toNat * 8)) <|
zz 44 (lk7 hc9 (toNatLt hc8)) <|
zz 45 (xnT hc11) <|
zz 50 (xeT hc12) <|
ee) (by kernel_rfl)
theorem p_viewportlaw26StylesLeaf_3 (n : Nat) (g2 : Int) (hc1 : m_viewportlaw26lives n = some ()) (c2_ : Bool) (hc2 : m_viewportlaw26lightq1 n = some c2_) (hc3 : c2_ = true) (c4_ : Int) (hc4 : m_viewportref16Checkq1 n = some c4_) (hc5 : ¬ (c4_ = (0 : Int))) : G_viewportlaw26StylesLeaf g2 () :=
 runF2 hm (L := lT []) ⟨[6], [], 0, 0⟩ (yy 4 (.call ⟨0, [], (Value.bool true), Ax.h0, []⟩) <|
ww (m_viewportlaw26lives_ok n  () hc1) <|
yy 11 (.call (C_viewportlaw26lightq1  c2_ [] [])) <|
ww (m_viewportlaw26lightq1_ok n  c2_ hc2) <|
yy 12 (vf) <|
ww (p := (Value.bool (!c2_)) = (Value.bool false)) (vBn hc3) <|
yy 15 (.call (C_viewportref16Checkq1  c4_ [] [])) <|
ww (m_viewportref16Checkq1_ok n  c4_ hc4) <|
zz 16 (xnT hc5) <|
ee) (by kernel_rfl)
theorem p_viewportlaw26StylesLeaf_4 (n : Nat) (g2 : Int) (hc1 : m_viewportlaw26lives n = some ()) (c2_ : Bool) (hc2 : m_viewportlaw26lightq1 n = some c2_) (hc3 : ¬ (c2_ = true)) : G_viewportlaw26StylesLeaf g2 () :=
 runF2 hm (L := lT []) ⟨[6], [], 0, 0⟩ (yy 4 (.call ⟨0, [], (Value.bool true), Ax.h0, []⟩) <|
ww (m_viewportlaw26lives_ok n  () hc1) <|
yy 11 (.call (C_viewportlaw26lightq1  c2_ [] [])) <|
ww (m_viewportlaw26lightq1_ok n  c2_ hc2) <|
yy 12 (vt) <|
ww (p := (Value.bool (!c2_)) = (Value.bool true)) (vBn (Bool.eq_false_iff.2 hc3)) <|
ee) (by kernel_rfl)
theorem m_viewportlaw26StylesLeaf_ok (n : Nat) (g2 : Int) (r : Unit) (h : m_viewportlaw26StylesLeaf n g2 = some r) : Gv P (.func 3) (A_viewportlaw26StylesLeaf g2) (H_viewportlaw26StylesLeaf g2) (V_viewportlaw26StylesLeaf g2 r) (R_viewportlaw26StylesLeaf g2 r) := by
 unfold m_viewportlaw26StylesLeaf at h
 obtain ⟨_, hc1, h⟩ := Option.bind_eq_some_iff.1 h
 obtain ⟨c2_, hc2, h⟩ := Option.bind_eq_some_iff.1 h
 by_cases hc3 : c2_ = true
 ·rw [if_pos hc3] at h
  obtain ⟨c4_, hc4, h⟩ := Option.bind_eq_some_iff.1 h
  by_cases hc5 : c4_ = (0 : Int)
  ·rw [if_pos hc5] at h
   obtain ⟨c6_, hc6, h⟩ := Option.bind_eq_some_iff.1 h
   obtain ⟨c7_, hc7, h⟩ := Option.bind_eq_some_iff.1 h
   by_cases hc8 : 0 ≤ c6_ ∧ c6_ < (((Args.B).length : Nat) : Int)
   ·rw [if_pos hc8] at h
    obtain ⟨c9_, hc9, h⟩ := Option.bind_eq_some_iff.1 h
    by_cases hc10 : (c9_.2.1) = (3 : Int)
    ·rw [if_pos hc10] at h
     obtain ⟨⟨c11_0, c11_1, c11_2⟩, hc11, h⟩ := Option.bind_eq_some_iff.1 h
     dsimp only at h
     obtain ⟨c12_, hc12, h⟩ := Option.bind_eq_some_iff.1 h
     by_cases hc13 : 0 ≤ c12_ ∧ c12_ ≤ ((c11_1 : Nat) : Int)
     ·rw [if_pos hc13] at h
      by_cases hc14 : c11_1 ≤ c11_2 ∧ (c11_2 < big ∨ c11_2 = Nat.add big 1)
      ·rw [if_pos hc14] at h
       obtain ⟨c15_, hc15, h⟩ := Option.bind_eq_some_iff.1 h
       by_cases hc16 : c7_ = c15_
       ·rw [if_pos hc16] at h
        obtain rfl := Option.some.inj h; exact p_viewportlaw26StylesLeaf_0 n g2 hc1 c2_ hc2 hc3 c4_ hc4 hc5 c6_ hc6 c7_ hc7 hc8 c9_ hc9 hc10 c11_0 c11_1 c11_2 hc11 c12_ hc12 hc13 hc14 c15_ hc15 hc16
       ·rw [if_neg hc16] at h
        cases h
      ·rw [if_neg hc14] at h; cases h
     ·rw [if_neg hc13] at h; cases h
    ·rw [if_neg hc10] at h
     by_cases hc11 : (c9_.2.1) = (5 : Int)
     ·rw [if_pos hc11] at h
      obtain ⟨⟨c12_0, c12_1, c12_2⟩, hc12, h⟩ := Option.bind_eq_some_iff.1 h
      dsimp only at h
      obtain ⟨c13_, hc13, h⟩ := Option.bind_eq_some_iff.1 h
      by_cases hc14 : 0 ≤ c13_ ∧ c13_ ≤ ((c12_1 : Nat) : Int)
      ·rw [if_pos hc14] at h
       by_cases hc15 : c12_1 ≤ c12_2 ∧ (c12_2 < big ∨ c12_2 = Nat.add big 1)
       ·rw [if_pos hc15] at h
        obtain ⟨c16_, hc16, h⟩ := Option.bind_eq_some_iff.1 h
        by_cases hc17 : c7_ = c16_
        ·rw [if_pos hc17] at h
         obtain rfl := Option.some.inj h; exact p_viewportlaw26StylesLeaf_1 n g2 hc1 c2_ hc2 hc3 c4_ hc4 hc5 c6_ hc6 c7_ hc7 hc8 c9_ hc9 hc10 hc11 c12_0 c12_1 c12_2 hc12 c13_ hc13 hc14 hc15 c16_ hc16 hc17
        ·rw [if_neg hc17] at h
         cases h
       ·rw [if_neg hc15] at h; cases h
      ·rw [if_neg hc14] at h; cases h
     ·rw [if_neg hc11] at h
      by_cases hc12 : c7_ = (0 : Int)
      ·rw [if_pos hc12] at h
       obtain rfl := Option.some.inj h; exact p_viewportlaw26StylesLeaf_2 n g2 hc1 c2_ hc2 hc3 c4_ hc4 hc5 c6_ hc6 c7_ hc7 hc8 c9_ hc9 hc10 hc11 hc12
      ·rw [if_neg hc12] at h
       cases h
   ·rw [if_neg hc8] at h; cases h
  ·rw [if_neg hc5] at h
   obtain rfl := Option.some.inj h; exact p_viewportlaw26StylesLeaf_3 n g2 hc1 c2_ hc2 hc3 c4_ hc4 hc5
 ·rw [if_neg hc3] at h
  obtain rfl := Option.some.inj h; exact p_viewportlaw26StylesLeaf_4 n g2 hc1 c2_ hc2 hc3

end Go.Proofs.Ytiiionooieoniaa.stlw
