/-
  What functions do, told by pure functions. No condition.
-/
import Derived.Test.YtdloekmdhhfmoaaReuATold
set_option linter.unusedSimpArgs false
set_option linter.unusedVariables false
set_option linter.unusedSectionVars false
set_option linter.unnecessarySimpa false
namespace Go.Proofs.Ytdloekmdhhfmoaa.reuw
open Go Go.Proofs.Ytdloekmdhhfmoaa Ax
variable [Args]
noncomputable def A_treeCheckq1 : List Value := [(sW 0 0 (Args.A).length Args.cA)]
noncomputable def H_treeCheckq1 : AH := ⟨sB [], 0, 0⟩
noncomputable def V_treeCheckq1 (r : Int) : Value := match r with
  | o0 => (i6 o0)
noncomputable def R_treeCheckq1 (r : Int) : AH := match r with
  | o0 => ⟨sB [], 0, 0⟩
noncomputable abbrev G_treeCheckq1 (r : Int) : Prop := Gv P (.func 27) A_treeCheckq1 H_treeCheckq1 (V_treeCheckq1  r) (R_treeCheckq1  r)
noncomputable abbrev C_treeCheckq1 (r : Int) (ins outs : BL) : CallA := ⟨0, ins, V_treeCheckq1  r, R_treeCheckq1  r, outs⟩
noncomputable def S_treeCheckq1_1 (x1_0 : Int) (st : Int) : XSt := match st with
  | x1_1 => (sT 36 [(16, (sW 0 0 (Args.A).length Args.cA)), (17, (i6 x1_0)), (18, (i6 x1_1))], [], ⟨sB [], 0, 0⟩)
noncomputable def X_treeCheckq1_1 (x1_0 : Int) (r : (Unit) ⊕ (Unit)) : Ex × XSt := match r with
  | .inl _ => (.ret, (sT 36 [(2, (i6 (2 : Int)))], [], ⟨sB [], 0, 0⟩))
  | .inr _ => (.exit 0, (sT 36 [], [], ⟨sB [], 0, 0⟩))
noncomputable abbrev Q_treeCheckq1_1 (rnd : Option Nat) (x1_0 : Int) (st : Int) (c : Ex × XSt) : Prop := CG P rnd (fnN P 27) 0 (codeOf P 27 [false, false, true, false, true, true, true]) (S_treeCheckq1_1 x1_0 st) c
noncomputable abbrev U_treeCheckq1_1 (rd : Option Nat) (x1_0 : Int) (st : Int) (r : (Unit) ⊕ (Unit)) : Prop := CG P rd (fnN P 27) 0 (codeOf P 27 [false, true, false, true, true, true]) (S_treeCheckq1_1 x1_0 st) (X_treeCheckq1_1 x1_0 r)
def B_treeCheckq1_1 (n : Nat) (x1_0 : Int) (st : Int) : Option ((Int) ⊕ ((Unit) ⊕ (Unit))) := match st with
  | x1_1 =>
    if x1_1 < x1_0 then
      if 0 ≤ x1_1 ∧ x1_1 < (((Args.A).length : Nat) : Int) then
        ((some ((Args.A).getD (x1_1).toNat (0, 0, 0, 0, 0, 0, nl0, 0)))).bind fun y1_3_ =>
        (m_treesoundq1 n (y1_3_.1) (y1_3_.2.1) (y1_3_.2.2.1) (y1_3_.2.2.2.1) (y1_3_.2.2.2.2.1) (y1_3_.2.2.2.2.2.1) (y1_3_.2.2.2.2.2.2.1) (y1_3_.2.2.2.2.2.2.2)).bind fun y1_4_ =>
        if y1_4_ = true then
          if (y1_3_.2.1) = (1 : Int) then
            if x1_1 > (0 : Int) then
              some (.inr (.inl ()))
            else
              some (.inl (w64 (x1_1 + (1 : Int))))
          else
            some (.inl (w64 (x1_1 + (1 : Int))))
        else
          some (.inr (.inl ()))
      else none
    else
      some (.inr (.inr ()))
def m_treeCheckq1_1 (n : Nat) (x1_0 : Int) (st : Int) : Option ((Unit) ⊕ (Unit)) := iterM (B_treeCheckq1_1 n x1_0) n st
set_option maxRecDepth 100000 in
theorem q_treeCheckq1_1_0 (n : Nat) {rnd : Option Nat} (x1_0 x1_1 : Int) (hy1_1 : x1_1 < x1_0) (hy1_2 : 0 ≤ x1_1 ∧ x1_1 < (((Args.A).length : Nat) : Int)) (y1_3_ : Int × Int × Int × Int × Int × Int × NL × Int) (hy1_3 : (some ((Args.A).getD (x1_1).toNat (0, 0, 0, 0, 0, 0, nl0, 0))) = some y1_3_) (y1_4_ : Bool) (hy1_4 : m_treesoundq1 n (y1_3_.1) (y1_3_.2.1) (y1_3_.2.2.1) (y1_3_.2.2.2.1) (y1_3_.2.2.2.2.1) (y1_3_.2.2.2.2.2.1) (y1_3_.2.2.2.2.2.2.1) (y1_3_.2.2.2.2.2.2.2) = some y1_4_) (hy1_5 : y1_4_ = true) (hy1_6 : (y1_3_.2.1) = (1 : Int)) (hy1_7 : x1_1 > (0 : Int)) : Q_treeCheckq1_1 rnd x1_0 x1_1 (X_treeCheckq1_1 x1_0 (.inl ())) :=
  runC2 hm (L := lT []) ⟨[2], [], 0, 0⟩ (zz 1 (xdT hy1_1) <|
zz 8 (xk1 0 Args.cA hy1_2) <|
zz 9 (lk2 hy1_3 (toNatLt hy1_2)) <|
yy 15 (.call (C_treesoundq1 (y1_3_.1) (y1_3_.2.1) (y1_3_.2.2.1) (y1_3_.2.2.2.1) (y1_3_.2.2.2.2.1) (y1_3_.2.2.2.2.2.1) (y1_3_.2.2.2.2.2.2.1) (y1_3_.2.2.2.2.2.2.2) y1_4_ [] [])) <|
ww (m_treesoundq1_ok n (y1_3_.1) (y1_3_.2.1) (y1_3_.2.2.1) (y1_3_.2.2.2.1) (y1_3_.2.2.2.2.1) (y1_3_.2.2.2.2.2.1) (y1_3_.2.2.2.2.2.2.1) (y1_3_.2.2.2.2.2.2.2) y1_4_ hy1_4) <|
yy 16 (vf) <|
ww (p := (Value.bool (!y1_4_)) = (Value.bool false)) (vBn hy1_5) <|
zz 20 (xeT hy1_6) <|
zz 23 (xdT hy1_7) <|
ee) (by kernel_rfl)
set_option maxRecDepth 100000 in
theorem q_treeCheckq1_1_1 (n : Nat) {rnd : Option Nat} (x1_0 x1_1 : Int) (hy1_1 : x1_1 < x1_0) (hy1_2 : 0 ≤ x1_1 ∧ x1_1 < (((Args.A).length : Nat) : Int)) (y1_3_ : Int × Int × Int × Int × Int × Int × NL × Int) (hy1_3 : (some ((Args.A).getD (x1_1).toNat (0, 0, 0, 0, 0, 0, nl0, 0))) = some y1_3_) (y1_4_ : Bool) (hy1_4 : m_treesoundq1 n (y1_3_.1) (y1_3_.2.1) (y1_3_.2.2.1) (y1_3_.2.2.2.1) (y1_3_.2.2.2.2.1) (y1_3_.2.2.2.2.2.1) (y1_3_.2.2.2.2.2.2.1) (y1_3_.2.2.2.2.2.2.2) = some y1_4_) (hy1_5 : y1_4_ = true) (hy1_6 : (y1_3_.2.1) = (1 : Int)) (hy1_7 : ¬ (x1_1 > (0 : Int))) : Q_treeCheckq1_1 rnd x1_0 x1_1 (.normal, S_treeCheckq1_1 x1_0 (w64 (x1_1 + (1 : Int)))) :=
  runC2 hm (L := lT []) ⟨[16, 17, 18], [], 0, 0⟩ (zz 1 (xdT hy1_1) <|
zz 8 (xk1 0 Args.cA hy1_2) <|
zz 9 (lk2 hy1_3 (toNatLt hy1_2)) <|
yy 15 (.call (C_treesoundq1 (y1_3_.1) (y1_3_.2.1) (y1_3_.2.2.1) (y1_3_.2.2.2.1) (y1_3_.2.2.2.2.1) (y1_3_.2.2.2.2.2.1) (y1_3_.2.2.2.2.2.2.1) (y1_3_.2.2.2.2.2.2.2) y1_4_ [] [])) <|
ww (m_treesoundq1_ok n (y1_3_.1) (y1_3_.2.1) (y1_3_.2.2.1) (y1_3_.2.2.2.1) (y1_3_.2.2.2.2.1) (y1_3_.2.2.2.2.2.1) (y1_3_.2.2.2.2.2.2.1) (y1_3_.2.2.2.2.2.2.2) y1_4_ hy1_4) <|
yy 16 (vf) <|
ww (p := (Value.bool (!y1_4_)) = (Value.bool false)) (vBn hy1_5) <|
zz 20 (xeT hy1_6) <|
zz 23 (xdF hy1_7) <|
ee) (by kernel_rfl)
set_option maxRecDepth 100000 in
theorem q_treeCheckq1_1_2 (n : Nat) {rnd : Option Nat} (x1_0 x1_1 : Int) (hy1_1 : x1_1 < x1_0) (hy1_2 : 0 ≤ x1_1 ∧ x1_1 < (((Args.A).length : Nat) : Int)) (y1_3_ : Int × Int × Int × Int × Int × Int × NL × Int) (hy1_3 : (some ((Args.A).getD (x1_1).toNat (0, 0, 0, 0, 0, 0, nl0, 0))) = some y1_3_) (y1_4_ : Bool) (hy1_4 : m_treesoundq1 n (y1_3_.1) (y1_3_.2.1) (y1_3_.2.2.1) (y1_3_.2.2.2.1) (y1_3_.2.2.2.2.1) (y1_3_.2.2.2.2.2.1) (y1_3_.2.2.2.2.2.2.1) (y1_3_.2.2.2.2.2.2.2) = some y1_4_) (hy1_5 : y1_4_ = true) (hy1_6 : ¬ ((y1_3_.2.1) = (1 : Int))) : Q_treeCheckq1_1 rnd x1_0 x1_1 (.normal, S_treeCheckq1_1 x1_0 (w64 (x1_1 + (1 : Int)))) :=
  runC2 hm (L := lT []) ⟨[16, 17, 18], [], 0, 0⟩ (zz 1 (xdT hy1_1) <|
zz 8 (xk1 0 Args.cA hy1_2) <|
zz 9 (lk2 hy1_3 (toNatLt hy1_2)) <|
yy 15 (.call (C_treesoundq1 (y1_3_.1) (y1_3_.2.1) (y1_3_.2.2.1) (y1_3_.2.2.2.1) (y1_3_.2.2.2.2.1) (y1_3_.2.2.2.2.2.1) (y1_3_.2.2.2.2.2.2.1) (y1_3_.2.2.2.2.2.2.2) y1_4_ [] [])) <|
ww (m_treesoundq1_ok n (y1_3_.1) (y1_3_.2.1) (y1_3_.2.2.1) (y1_3_.2.2.2.1) (y1_3_.2.2.2.2.1) (y1_3_.2.2.2.2.2.1) (y1_3_.2.2.2.2.2.2.1) (y1_3_.2.2.2.2.2.2.2) y1_4_ hy1_4) <|
yy 16 (vf) <|
ww (p := (Value.bool (!y1_4_)) = (Value.bool false)) (vBn hy1_5) <|
zz 20 (xeF hy1_6) <|
ee) (by kernel_rfl)
set_option maxRecDepth 100000 in
theorem q_treeCheckq1_1_3 (n : Nat) {rnd : Option Nat} (x1_0 x1_1 : Int) (hy1_1 : x1_1 < x1_0) (hy1_2 : 0 ≤ x1_1 ∧ x1_1 < (((Args.A).length : Nat) : Int)) (y1_3_ : Int × Int × Int × Int × Int × Int × NL × Int) (hy1_3 : (some ((Args.A).getD (x1_1).toNat (0, 0, 0, 0, 0, 0, nl0, 0))) = some y1_3_) (y1_4_ : Bool) (hy1_4 : m_treesoundq1 n (y1_3_.1) (y1_3_.2.1) (y1_3_.2.2.1) (y1_3_.2.2.2.1) (y1_3_.2.2.2.2.1) (y1_3_.2.2.2.2.2.1) (y1_3_.2.2.2.2.2.2.1) (y1_3_.2.2.2.2.2.2.2) = some y1_4_) (hy1_5 : ¬ (y1_4_ = true)) : Q_treeCheckq1_1 rnd x1_0 x1_1 (X_treeCheckq1_1 x1_0 (.inl ())) :=
  runC2 hm (L := lT []) ⟨[2], [], 0, 0⟩ (zz 1 (xdT hy1_1) <|
zz 8 (xk1 0 Args.cA hy1_2) <|
zz 9 (lk2 hy1_3 (toNatLt hy1_2)) <|
yy 15 (.call (C_treesoundq1 (y1_3_.1) (y1_3_.2.1) (y1_3_.2.2.1) (y1_3_.2.2.2.1) (y1_3_.2.2.2.2.1) (y1_3_.2.2.2.2.2.1) (y1_3_.2.2.2.2.2.2.1) (y1_3_.2.2.2.2.2.2.2) y1_4_ [] [])) <|
ww (m_treesoundq1_ok n (y1_3_.1) (y1_3_.2.1) (y1_3_.2.2.1) (y1_3_.2.2.2.1) (y1_3_.2.2.2.2.1) (y1_3_.2.2.2.2.2.1) (y1_3_.2.2.2.2.2.2.1) (y1_3_.2.2.2.2.2.2.2) y1_4_ hy1_4) <|
yy 16 (vt) <|
ww (p := (Value.bool (!y1_4_)) = (Value.bool true)) (vBn (Bool.eq_false_iff.2 hy1_5)) <|
ee) (by kernel_rfl)
set_option maxRecDepth 100000 in
theorem q_treeCheckq1_1_4 (n : Nat) {rnd : Option Nat} (x1_0 x1_1 : Int) (hy1_1 : ¬ (x1_1 < x1_0)) : Q_treeCheckq1_1 rnd x1_0 x1_1 (X_treeCheckq1_1 x1_0 (.inr ())) :=
  runC2 hm (L := lT []) ⟨[], [], 0, 0⟩ (zz 1 (xdF hy1_1) <|
ee) (by kernel_rfl)
theorem m_treeCheckq1_1_ok (n : Nat) {rnd : Option Nat} (x1_0 : Int) (st : Int) (r : (Unit) ⊕ (Unit)) (h : m_treeCheckq1_1 n x1_0 st = some r) : CG P rnd (fnN P 27) 0 (codeOf P 27 [false, true, false, true, true, true]) (S_treeCheckq1_1 x1_0 st) (X_treeCheckq1_1 x1_0 r) :=
  CG.iter (b := codeOf P 27 [false, false, true, false, true, true, true]) (by kernel_rfl) (body := B_treeCheckq1_1 n x1_0) (S := S_treeCheckq1_1 x1_0) (X := X_treeCheckq1_1 x1_0)
    (fun x1_1 s' h => by
    unfold B_treeCheckq1_1 at h
    dsimp only at h
    by_cases hy1_1 : x1_1 < x1_0
    · rw [if_pos hy1_1] at h
      by_cases hy1_2 : 0 ≤ x1_1 ∧ x1_1 < (((Args.A).length : Nat) : Int)
      · rw [if_pos hy1_2] at h
        obtain ⟨y1_3_, hy1_3, h⟩ := Option.bind_eq_some_iff.1 h
        obtain ⟨y1_4_, hy1_4, h⟩ := Option.bind_eq_some_iff.1 h
        by_cases hy1_5 : y1_4_ = true
        · rw [if_pos hy1_5] at h
          by_cases hy1_6 : (y1_3_.2.1) = (1 : Int)
          · rw [if_pos hy1_6] at h
            by_cases hy1_7 : x1_1 > (0 : Int)
            · rw [if_pos hy1_7] at h
              cases h
            · rw [if_neg hy1_7] at h
              obtain rfl := Sum.inl.inj (Option.some.inj h); exact q_treeCheckq1_1_1 n x1_0 x1_1 hy1_1 hy1_2 y1_3_ hy1_3 y1_4_ hy1_4 hy1_5 hy1_6 hy1_7
          · rw [if_neg hy1_6] at h
            obtain rfl := Sum.inl.inj (Option.some.inj h); exact q_treeCheckq1_1_2 n x1_0 x1_1 hy1_1 hy1_2 y1_3_ hy1_3 y1_4_ hy1_4 hy1_5 hy1_6
        · rw [if_neg hy1_5] at h
          cases h
      · rw [if_neg hy1_2] at h; cases h
    · rw [if_neg hy1_1] at h
      cases h)
    (fun x1_1 r h => by
    unfold B_treeCheckq1_1 at h
    dsimp only at h
    by_cases hy1_1 : x1_1 < x1_0
    · rw [if_pos hy1_1] at h
      by_cases hy1_2 : 0 ≤ x1_1 ∧ x1_1 < (((Args.A).length : Nat) : Int)
      · rw [if_pos hy1_2] at h
        obtain ⟨y1_3_, hy1_3, h⟩ := Option.bind_eq_some_iff.1 h
        obtain ⟨y1_4_, hy1_4, h⟩ := Option.bind_eq_some_iff.1 h
        by_cases hy1_5 : y1_4_ = true
        · rw [if_pos hy1_5] at h
          by_cases hy1_6 : (y1_3_.2.1) = (1 : Int)
          · rw [if_pos hy1_6] at h
            by_cases hy1_7 : x1_1 > (0 : Int)
            · rw [if_pos hy1_7] at h
              obtain rfl := Sum.inr.inj (Option.some.inj h); exact q_treeCheckq1_1_0 n x1_0 x1_1 hy1_1 hy1_2 y1_3_ hy1_3 y1_4_ hy1_4 hy1_5 hy1_6 hy1_7
            · rw [if_neg hy1_7] at h
              cases h
          · rw [if_neg hy1_6] at h
            cases h
        · rw [if_neg hy1_5] at h
          obtain rfl := Sum.inr.inj (Option.some.inj h); exact q_treeCheckq1_1_3 n x1_0 x1_1 hy1_1 hy1_2 y1_3_ hy1_3 y1_4_ hy1_4 hy1_5
      · rw [if_neg hy1_2] at h; cases h
    · rw [if_neg hy1_1] at h
      obtain rfl := Sum.inr.inj (Option.some.inj h); exact q_treeCheckq1_1_4 n x1_0 x1_1 hy1_1)
    (fun r => by intro hx; rcases r with _ | _ <;> cases hx) h
def m_treeCheckq1 (n : Nat) : Option (Int) :=
  if (((Args.A).length : Nat) : Int) > (524288 : Int) then
    some 3
  else
    if (((Args.A).length : Nat) : Int) = (0 : Int) then
      some 2
    else
      (m_treeinOrderq1 n).bind fun c3_ =>
      if c3_ = true then
        match m_treeCheckq1_1 n (((Args.A).length : Nat) : Int) 0 with
        | none => none
        | some (.inl _) =>
          some 2
        | some (.inr _) =>
          some 0
      else
        some 2
set_option maxRecDepth 100000 in
theorem p_treeCheckq1_0 (n : Nat) (hc1 : (((Args.A).length : Nat) : Int) > (524288 : Int)) : G_treeCheckq1  3 :=
  runF2 hm (L := lT []) ⟨[2], [], 0, 0⟩ (zz 6 (xdT hc1) <|
ee) (by kernel_rfl)
set_option maxRecDepth 100000 in
theorem p_treeCheckq1_1 (n : Nat) (hc1 : ¬ ((((Args.A).length : Nat) : Int) > (524288 : Int))) (hc2 : (((Args.A).length : Nat) : Int) = (0 : Int)) : G_treeCheckq1  2 :=
  runF2 hm (L := lT []) ⟨[2], [], 0, 0⟩ (zz 6 (xdF hc1) <|
zz 12 (xeT hc2) <|
ee) (by kernel_rfl)
set_option maxRecDepth 100000 in
theorem p_treeCheckq1_2 (n : Nat) (hc1 : ¬ ((((Args.A).length : Nat) : Int) > (524288 : Int))) (hc2 : ¬ ((((Args.A).length : Nat) : Int) = (0 : Int))) (c3_ : Bool) (hc3 : m_treeinOrderq1 n = some c3_) (hc4 : c3_ = true) (hc5 : m_treeCheckq1_1 n (((Args.A).length : Nat) : Int) 0 = some (.inl ())) : G_treeCheckq1  2 :=
  runF2 hm (L := lT [(25, ⟨⟨[16, 17, 18], [], 0, 0⟩, (X_treeCheckq1_1 (((Args.A).length : Nat) : Int) (.inl ())).1, (X_treeCheckq1_1 (((Args.A).length : Nat) : Int) (.inl ())).2⟩)]) ⟨[2], [], 0, 0⟩ (zz 6 (xdF hc1) <|
zz 12 (xeF hc2) <|
yy 15 (.call (C_treeinOrderq1  c3_ [] [])) <|
ww (m_treeinOrderq1_ok n  c3_ hc3) <|
yy 16 (vf) <|
ww (p := (Value.bool (!c3_)) = (Value.bool false)) (vBn hc4) <|
ww (p := U_treeCheckq1_1 none (((Args.A).length : Nat) : Int) 0 (.inl ())) (m_treeCheckq1_1_ok n (((Args.A).length : Nat) : Int) 0 (.inl ()) hc5) <|
ee) (by kernel_rfl)
set_option maxRecDepth 100000 in
theorem p_treeCheckq1_3 (n : Nat) (hc1 : ¬ ((((Args.A).length : Nat) : Int) > (524288 : Int))) (hc2 : ¬ ((((Args.A).length : Nat) : Int) = (0 : Int))) (c3_ : Bool) (hc3 : m_treeinOrderq1 n = some c3_) (hc4 : c3_ = true) (hc5 : m_treeCheckq1_1 n (((Args.A).length : Nat) : Int) 0 = some (.inr ())) : G_treeCheckq1  0 :=
  runF2 hm (L := lT [(25, ⟨⟨[16, 17, 18], [], 0, 0⟩, (X_treeCheckq1_1 (((Args.A).length : Nat) : Int) (.inr ())).1, (X_treeCheckq1_1 (((Args.A).length : Nat) : Int) (.inr ())).2⟩)]) ⟨[2], [], 0, 0⟩ (zz 6 (xdF hc1) <|
zz 12 (xeF hc2) <|
yy 15 (.call (C_treeinOrderq1  c3_ [] [])) <|
ww (m_treeinOrderq1_ok n  c3_ hc3) <|
yy 16 (vf) <|
ww (p := (Value.bool (!c3_)) = (Value.bool false)) (vBn hc4) <|
ww (p := U_treeCheckq1_1 none (((Args.A).length : Nat) : Int) 0 (.inr ())) (m_treeCheckq1_1_ok n (((Args.A).length : Nat) : Int) 0 (.inr ()) hc5) <|
ee) (by kernel_rfl)
set_option maxRecDepth 100000 in
theorem p_treeCheckq1_4 (n : Nat) (hc1 : ¬ ((((Args.A).length : Nat) : Int) > (524288 : Int))) (hc2 : ¬ ((((Args.A).length : Nat) : Int) = (0 : Int))) (c3_ : Bool) (hc3 : m_treeinOrderq1 n = some c3_) (hc4 : ¬ (c3_ = true)) : G_treeCheckq1  2 :=
  runF2 hm (L := lT []) ⟨[2], [], 0, 0⟩ (zz 6 (xdF hc1) <|
zz 12 (xeF hc2) <|
yy 15 (.call (C_treeinOrderq1  c3_ [] [])) <|
ww (m_treeinOrderq1_ok n  c3_ hc3) <|
yy 16 (vt) <|
ww (p := (Value.bool (!c3_)) = (Value.bool true)) (vBn (Bool.eq_false_iff.2 hc4)) <|
ee) (by kernel_rfl)
theorem m_treeCheckq1_ok (n : Nat) (r : Int) (h : m_treeCheckq1 n = some r) : Gv P (.func 27) A_treeCheckq1 H_treeCheckq1 (V_treeCheckq1  r) (R_treeCheckq1  r) := by
  unfold m_treeCheckq1 at h
  by_cases hc1 : (((Args.A).length : Nat) : Int) > (524288 : Int)
  · rw [if_pos hc1] at h
    obtain rfl := Option.some.inj h; exact p_treeCheckq1_0 n hc1
  · rw [if_neg hc1] at h
    by_cases hc2 : (((Args.A).length : Nat) : Int) = (0 : Int)
    · rw [if_pos hc2] at h
      obtain rfl := Option.some.inj h; exact p_treeCheckq1_1 n hc1 hc2
    · rw [if_neg hc2] at h
      obtain ⟨c3_, hc3, h⟩ := Option.bind_eq_some_iff.1 h
      by_cases hc4 : c3_ = true
      · rw [if_pos hc4] at h
        rcases hc5 : m_treeCheckq1_1 n (((Args.A).length : Nat) : Int) 0 with _ | (⟨⟩ | ⟨⟩)
        · rw [hc5] at h; cases h
        · rw [hc5] at h
          dsimp only at h
          obtain rfl := Option.some.inj h; exact p_treeCheckq1_2 n hc1 hc2 c3_ hc3 hc4 hc5
        · rw [hc5] at h
          dsimp only at h
          obtain rfl := Option.some.inj h; exact p_treeCheckq1_3 n hc1 hc2 c3_ hc3 hc4 hc5
      · rw [if_neg hc4] at h
        obtain rfl := Option.some.inj h; exact p_treeCheckq1_4 n hc1 hc2 c3_ hc3 hc4

noncomputable def A_slicesBackwardapiPartq1 : List Value := [(sW 0 0 (Args.A).length Args.cA)]
noncomputable def H_slicesBackwardapiPartq1 : AH := ⟨sB [], 0, 0⟩
noncomputable def V_slicesBackwardapiPartq1 (r : Unit) : Value := match r with
  | _ => (Value.func (.func 33) #[] #[(pN 0 0)])
noncomputable def R_slicesBackwardapiPartq1 (r : Unit) : AH := match r with
  | _ => ⟨sB [(0, (some (.cells (layT [(sW 0 0 (Args.A).length Args.cA)]) 22)))], 1, 0⟩
noncomputable abbrev G_slicesBackwardapiPartq1 (r : Unit) : Prop := Gv P (.func 28) A_slicesBackwardapiPartq1 H_slicesBackwardapiPartq1 (V_slicesBackwardapiPartq1  r) (R_slicesBackwardapiPartq1  r)
noncomputable abbrev C_slicesBackwardapiPartq1 (r : Unit) (ins outs : BL) : CallA := ⟨0, ins, V_slicesBackwardapiPartq1  r, R_slicesBackwardapiPartq1  r, outs⟩
def m_slicesBackwardapiPartq1 (n : Nat) : Option (Unit) :=
  some ()
set_option maxRecDepth 100000 in
theorem p_slicesBackwardapiPartq1_0 (n : Nat)  : G_slicesBackwardapiPartq1  () :=
  runF2 hm (L := lT []) ⟨[2], [(0, 0, false)], 1, 0⟩ (ee) (by kernel_rfl)
theorem m_slicesBackwardapiPartq1_ok (n : Nat) (r : Unit) (h : m_slicesBackwardapiPartq1 n = some r) : Gv P (.func 28) A_slicesBackwardapiPartq1 H_slicesBackwardapiPartq1 (V_slicesBackwardapiPartq1  r) (R_slicesBackwardapiPartq1  r) := by
  unfold m_slicesBackwardapiPartq1 at h
  obtain rfl := Option.some.inj h; exact p_slicesBackwardapiPartq1_0 n

noncomputable def A_treeStale1q1 (a0 : Int) (a1 : List (Bool)) (a2 : Nat) (a3 : Nat) : List Value := [(i6 a0), (pN 0 0)]
noncomputable def H_treeStale1q1 (a0 : Int) (a1 : List (Bool)) (a2 : Nat) (a3 : Nat) : AH := ⟨sB [(0, (some (.cells (layT [(sN 1 0 a2 a3)]) 30))), (1, (some (.cells (layT (rows rw_b a1)) 4)))], 2, 2⟩
noncomputable def V_treeStale1q1 (a0 : Int) (a1 : List (Bool)) (a2 : Nat) (a3 : Nat) (r : Bool) : Value := match r with
  | o0 => (bO o0)
noncomputable def R_treeStale1q1 (a0 : Int) (a1 : List (Bool)) (a2 : Nat) (a3 : Nat) (r : Bool) : AH := match r with
  | o0 => ⟨sB [], 2, 2⟩
noncomputable abbrev G_treeStale1q1 (a0 : Int) (a1 : List (Bool)) (a2 : Nat) (a3 : Nat) (r : Bool) : Prop := Gv P (.func 30) (A_treeStale1q1 a0 a1 a2 a3) (H_treeStale1q1 a0 a1 a2 a3) (V_treeStale1q1 a0 a1 a2 a3 r) (R_treeStale1q1 a0 a1 a2 a3 r)
noncomputable abbrev C_treeStale1q1 (a0 : Int) (a1 : List (Bool)) (a2 : Nat) (a3 : Nat) (r : Bool) (ins outs : BL) : CallA := ⟨2, ins, V_treeStale1q1 a0 a1 a2 a3 r, R_treeStale1q1 a0 a1 a2 a3 r, outs⟩
def m_treeStale1q1 (n : Nat) (a0 : Int) (a1 : List (Bool)) (a2 : Nat) (a3 : Nat) : Option (Bool) :=
  if 0 ≤ a0 ∧ a0 < ((a2 : Nat) : Int) then
    if (a0).toNat < (a1).length then
      ((some ((a1).getD (a0).toNat (false)))).bind fun c3_ =>
      some c3_
    else none
  else none
set_option maxRecDepth 100000 in
theorem p_treeStale1q1_0 (n : Nat) (a0 : Int) (a1 : List (Bool)) (a2 a3 : Nat) (hc1 : 0 ≤ a0 ∧ a0 < ((a2 : Nat) : Int)) (hc2 : (a0).toNat < (a1).length) (c3_ : Bool) (hc3 : (some ((a1).getD (a0).toNat (false))) = some c3_) : G_treeStale1q1 a0 a1 a2 a3 c3_ :=
  runF2 hm (L := lT []) ⟨[3], [], 2, 2⟩ (zz 5 (xk17 1 a3 hc1) <|
zz 6 (ok18 hc3 (hc2)) <|
ee) (by kernel_rfl)
theorem m_treeStale1q1_ok (n : Nat) (a0 : Int) (a1 : List (Bool)) (a2 : Nat) (a3 : Nat) (r : Bool) (h : m_treeStale1q1 n a0 a1 a2 a3 = some r) : Gv P (.func 30) (A_treeStale1q1 a0 a1 a2 a3) (H_treeStale1q1 a0 a1 a2 a3) (V_treeStale1q1 a0 a1 a2 a3 r) (R_treeStale1q1 a0 a1 a2 a3 r) := by
  unfold m_treeStale1q1 at h
  by_cases hc1 : 0 ≤ a0 ∧ a0 < ((a2 : Nat) : Int)
  · rw [if_pos hc1] at h
    by_cases hc2 : (a0).toNat < (a1).length
    · rw [if_pos hc2] at h
      obtain ⟨c3_, hc3, h⟩ := Option.bind_eq_some_iff.1 h
      obtain rfl := Option.some.inj h; exact p_treeStale1q1_0 n a0 a1 a2 a3 hc1 hc2 c3_ hc3
    · rw [if_neg hc2] at h; cases h
  · rw [if_neg hc1] at h; cases h

noncomputable def A_slicesIndexFuncintintq1 (a0 : NL) (a1 : List (Bool)) (a2 : Nat) (a3 : Nat) : List Value := [(nlV a0), (Value.func (.func 30) #[] #[(pN 0 0)])]
noncomputable def H_slicesIndexFuncintintq1 (a0 : NL) (a1 : List (Bool)) (a2 : Nat) (a3 : Nat) : AH := ⟨sB [(0, (some (.cells (layT [(sN 1 0 a2 a3)]) 30))), (1, (some (.cells (layT (rows rw_b a1)) 4)))], 2, 2⟩
noncomputable def V_slicesIndexFuncintintq1 (a0 : NL) (a1 : List (Bool)) (a2 : Nat) (a3 : Nat) (r : Int) : Value := match r with
  | o0 => (i6 o0)
noncomputable def R_slicesIndexFuncintintq1 (a0 : NL) (a1 : List (Bool)) (a2 : Nat) (a3 : Nat) (r : Int) : AH := match r with
  | o0 => ⟨sB [], 2, 2⟩
noncomputable abbrev G_slicesIndexFuncintintq1 (a0 : NL) (a1 : List (Bool)) (a2 : Nat) (a3 : Nat) (r : Int) : Prop := Gv P (.func 34) (A_slicesIndexFuncintintq1 a0 a1 a2 a3) (H_slicesIndexFuncintintq1 a0 a1 a2 a3) (V_slicesIndexFuncintintq1 a0 a1 a2 a3 r) (R_slicesIndexFuncintintq1 a0 a1 a2 a3 r)
noncomputable abbrev C_slicesIndexFuncintintq1 (a0 : NL) (a1 : List (Bool)) (a2 : Nat) (a3 : Nat) (r : Int) (ins outs : BL) : CallA := ⟨2, ins, V_slicesIndexFuncintintq1 a0 a1 a2 a3 r, R_slicesIndexFuncintintq1 a0 a1 a2 a3 r, outs⟩
noncomputable def S_slicesIndexFuncintintq1_1 (x1_0 : List (Bool)) (x1_1 : Nat) (x1_2 : Nat) (x1_3 : NL) (x1_4 : Int) (st : Int) : XSt := match st with
  | x1_5 => (sT 19 [(0, (nlV x1_3)), (1, (Value.func (.func 30) #[] #[(pN 0 0)])), (7, (i6 x1_4)), (8, (i6 x1_5))], [], ⟨sB [(0, (some (.cells (layT [(sN 1 0 x1_1 x1_2)]) 30))), (1, (some (.cells (layT (rows rw_b x1_0)) 4)))], 2, 2⟩)
noncomputable def X_slicesIndexFuncintintq1_1 (x1_0 : List (Bool)) (x1_1 : Nat) (x1_2 : Nat) (x1_3 : NL) (x1_4 : Int) (r : (Int) ⊕ (Unit)) : Ex × XSt := match r with
  | .inl z1_0 => (.ret, (sT 19 [(4, (i6 z1_0))], [], ⟨sB [(0, (some (.cells (layT [(sN 1 0 x1_1 x1_2)]) 30))), (1, (some (.cells (layT (rows rw_b x1_0)) 4)))], 2, 2⟩))
  | .inr _ => (.exit 0, (sT 19 [], [], ⟨sB [(0, (some (.cells (layT [(sN 1 0 x1_1 x1_2)]) 30))), (1, (some (.cells (layT (rows rw_b x1_0)) 4)))], 2, 2⟩))
noncomputable abbrev Q_slicesIndexFuncintintq1_1 (rnd : Option Nat) (x1_0 : List (Bool)) (x1_1 : Nat) (x1_2 : Nat) (x1_3 : NL) (x1_4 : Int) (st : Int) (c : Ex × XSt) : Prop := CG P rnd (fnN P 34) 2 (codeOf P 34 [false, false, true, false, true]) (S_slicesIndexFuncintintq1_1 x1_0 x1_1 x1_2 x1_3 x1_4 st) c
noncomputable abbrev U_slicesIndexFuncintintq1_1 (rd : Option Nat) (x1_0 : List (Bool)) (x1_1 : Nat) (x1_2 : Nat) (x1_3 : NL) (x1_4 : Int) (st : Int) (r : (Int) ⊕ (Unit)) : Prop := CG P rd (fnN P 34) 2 (codeOf P 34 [false, true, false, true]) (S_slicesIndexFuncintintq1_1 x1_0 x1_1 x1_2 x1_3 x1_4 st) (X_slicesIndexFuncintintq1_1 x1_0 x1_1 x1_2 x1_3 x1_4 r)
def B_slicesIndexFuncintintq1_1 (n : Nat) (x1_0 : List (Bool)) (x1_1 : Nat) (x1_2 : Nat) (x1_3 : NL) (x1_4 : Int) (st : Int) : Option ((Int) ⊕ ((Int) ⊕ (Unit))) := match st with
  | x1_5 =>
    if x1_5 < x1_4 then
      if 0 ≤ x1_5 ∧ x1_5 < (((x1_3).l.length : Nat) : Int) then
        if (x1_5).toNat < ((x1_3).l).length then
          ((some (((x1_3).l).getD (x1_5).toNat 0))).bind fun y1_4_ =>
          (m_treeStale1q1 n y1_4_ x1_0 x1_1 x1_2).bind fun y1_5_ =>
          if y1_5_ = true then
            some (.inr (.inl x1_5))
          else
            some (.inl (w64 (x1_5 + (1 : Int))))
        else none
      else none
    else
      some (.inr (.inr ()))
def m_slicesIndexFuncintintq1_1 (n : Nat) (x1_0 : List (Bool)) (x1_1 : Nat) (x1_2 : Nat) (x1_3 : NL) (x1_4 : Int) (st : Int) : Option ((Int) ⊕ (Unit)) := iterM (B_slicesIndexFuncintintq1_1 n x1_0 x1_1 x1_2 x1_3 x1_4) n st
set_option maxRecDepth 100000 in
theorem q_slicesIndexFuncintintq1_1_0 (n : Nat) {rnd : Option Nat} (x1_0 : List (Bool)) (x1_1 x1_2 : Nat) (x1_3 : NL) (x1_4 x1_5 : Int) (hy1_1 : x1_5 < x1_4) (hy1_2 : 0 ≤ x1_5 ∧ x1_5 < (((x1_3).l.length : Nat) : Int)) (hy1_3 : (x1_5).toNat < ((x1_3).l).length) (y1_4_ : Int) (hy1_4 : (some (((x1_3).l).getD (x1_5).toNat 0)) = some y1_4_) (y1_5_ : Bool) (hy1_5 : m_treeStale1q1 n y1_4_ x1_0 x1_1 x1_2 = some y1_5_) (hy1_6 : y1_5_ = true) : Q_slicesIndexFuncintintq1_1 rnd x1_0 x1_1 x1_2 x1_3 x1_4 x1_5 (X_slicesIndexFuncintintq1_1 x1_0 x1_1 x1_2 x1_3 x1_4 (.inl x1_5)) :=
  runC2 hm (L := lT []) ⟨[4], [(0, 0, false), (1, 1, true)], 2, 2⟩ (zz 1 (xdT hy1_1) <|
zz 13 (xk9 (Nat.add (x1_3).num 64) (x1_3).cap hy1_2) <|
zz 14 (nk10 hy1_4 hy1_3) <|
yy 15 (.call (C_treeStale1q1 y1_4_ x1_0 x1_1 x1_2 y1_5_ [(0, 0, false), (1, 1, true)] [])) <|
ww (m_treeStale1q1_ok n y1_4_ x1_0 x1_1 x1_2 y1_5_ hy1_5) <|
ww (rows_flat rwf_b x1_0 4) <|
zz 16 (xbT hy1_6) <|
ww (rows_flat rwf_b x1_0 4) <|
ee) (by kernel_rfl)
set_option maxRecDepth 100000 in
theorem q_slicesIndexFuncintintq1_1_1 (n : Nat) {rnd : Option Nat} (x1_0 : List (Bool)) (x1_1 x1_2 : Nat) (x1_3 : NL) (x1_4 x1_5 : Int) (hy1_1 : x1_5 < x1_4) (hy1_2 : 0 ≤ x1_5 ∧ x1_5 < (((x1_3).l.length : Nat) : Int)) (hy1_3 : (x1_5).toNat < ((x1_3).l).length) (y1_4_ : Int) (hy1_4 : (some (((x1_3).l).getD (x1_5).toNat 0)) = some y1_4_) (y1_5_ : Bool) (hy1_5 : m_treeStale1q1 n y1_4_ x1_0 x1_1 x1_2 = some y1_5_) (hy1_6 : ¬ (y1_5_ = true)) : Q_slicesIndexFuncintintq1_1 rnd x1_0 x1_1 x1_2 x1_3 x1_4 x1_5 (.normal, S_slicesIndexFuncintintq1_1 x1_0 x1_1 x1_2 x1_3 x1_4 (w64 (x1_5 + (1 : Int)))) :=
  runC2 hm (L := lT []) ⟨[0, 1, 7, 8], [(0, 0, false), (1, 1, true)], 2, 2⟩ (zz 1 (xdT hy1_1) <|
zz 13 (xk9 (Nat.add (x1_3).num 64) (x1_3).cap hy1_2) <|
zz 14 (nk10 hy1_4 hy1_3) <|
yy 15 (.call (C_treeStale1q1 y1_4_ x1_0 x1_1 x1_2 y1_5_ [(0, 0, false), (1, 1, true)] [])) <|
ww (m_treeStale1q1_ok n y1_4_ x1_0 x1_1 x1_2 y1_5_ hy1_5) <|
ww (rows_flat rwf_b x1_0 4) <|
zz 16 (xbF hy1_6) <|
ww (rows_flat rwf_b x1_0 4) <|
ee) (by kernel_rfl)
set_option maxRecDepth 100000 in
theorem q_slicesIndexFuncintintq1_1_2 (n : Nat) {rnd : Option Nat} (x1_0 : List (Bool)) (x1_1 x1_2 : Nat) (x1_3 : NL) (x1_4 x1_5 : Int) (hy1_1 : ¬ (x1_5 < x1_4)) : Q_slicesIndexFuncintintq1_1 rnd x1_0 x1_1 x1_2 x1_3 x1_4 x1_5 (X_slicesIndexFuncintintq1_1 x1_0 x1_1 x1_2 x1_3 x1_4 (.inr ())) :=
  runC2 hm (L := lT []) ⟨[], [(0, 0, false), (1, 1, true)], 2, 2⟩ (zz 1 (xdF hy1_1) <|
ww (rows_flat rwf_b x1_0 4) <|
ee) (by kernel_rfl)
theorem m_slicesIndexFuncintintq1_1_ok (n : Nat) {rnd : Option Nat} (x1_0 : List (Bool)) (x1_1 : Nat) (x1_2 : Nat) (x1_3 : NL) (x1_4 : Int) (st : Int) (r : (Int) ⊕ (Unit)) (h : m_slicesIndexFuncintintq1_1 n x1_0 x1_1 x1_2 x1_3 x1_4 st = some r) : CG P rnd (fnN P 34) 2 (codeOf P 34 [false, true, false, true]) (S_slicesIndexFuncintintq1_1 x1_0 x1_1 x1_2 x1_3 x1_4 st) (X_slicesIndexFuncintintq1_1 x1_0 x1_1 x1_2 x1_3 x1_4 r) :=
  CG.iter (b := codeOf P 34 [false, false, true, false, true]) (by kernel_rfl) (body := B_slicesIndexFuncintintq1_1 n x1_0 x1_1 x1_2 x1_3 x1_4) (S := S_slicesIndexFuncintintq1_1 x1_0 x1_1 x1_2 x1_3 x1_4) (X := X_slicesIndexFuncintintq1_1 x1_0 x1_1 x1_2 x1_3 x1_4)
    (fun x1_5 s' h => by
    unfold B_slicesIndexFuncintintq1_1 at h
    dsimp only at h
    by_cases hy1_1 : x1_5 < x1_4
    · rw [if_pos hy1_1] at h
      by_cases hy1_2 : 0 ≤ x1_5 ∧ x1_5 < (((x1_3).l.length : Nat) : Int)
      · rw [if_pos hy1_2] at h
        by_cases hy1_3 : (x1_5).toNat < ((x1_3).l).length
        · rw [if_pos hy1_3] at h
          obtain ⟨y1_4_, hy1_4, h⟩ := Option.bind_eq_some_iff.1 h
          obtain ⟨y1_5_, hy1_5, h⟩ := Option.bind_eq_some_iff.1 h
          by_cases hy1_6 : y1_5_ = true
          · rw [if_pos hy1_6] at h
            cases h
          · rw [if_neg hy1_6] at h
            obtain rfl := Sum.inl.inj (Option.some.inj h); exact q_slicesIndexFuncintintq1_1_1 n x1_0 x1_1 x1_2 x1_3 x1_4 x1_5 hy1_1 hy1_2 hy1_3 y1_4_ hy1_4 y1_5_ hy1_5 hy1_6
        · rw [if_neg hy1_3] at h; cases h
      · rw [if_neg hy1_2] at h; cases h
    · rw [if_neg hy1_1] at h
      cases h)
    (fun x1_5 r h => by
    unfold B_slicesIndexFuncintintq1_1 at h
    dsimp only at h
    by_cases hy1_1 : x1_5 < x1_4
    · rw [if_pos hy1_1] at h
      by_cases hy1_2 : 0 ≤ x1_5 ∧ x1_5 < (((x1_3).l.length : Nat) : Int)
      · rw [if_pos hy1_2] at h
        by_cases hy1_3 : (x1_5).toNat < ((x1_3).l).length
        · rw [if_pos hy1_3] at h
          obtain ⟨y1_4_, hy1_4, h⟩ := Option.bind_eq_some_iff.1 h
          obtain ⟨y1_5_, hy1_5, h⟩ := Option.bind_eq_some_iff.1 h
          by_cases hy1_6 : y1_5_ = true
          · rw [if_pos hy1_6] at h
            obtain rfl := Sum.inr.inj (Option.some.inj h); exact q_slicesIndexFuncintintq1_1_0 n x1_0 x1_1 x1_2 x1_3 x1_4 x1_5 hy1_1 hy1_2 hy1_3 y1_4_ hy1_4 y1_5_ hy1_5 hy1_6
          · rw [if_neg hy1_6] at h
            cases h
        · rw [if_neg hy1_3] at h; cases h
      · rw [if_neg hy1_2] at h; cases h
    · rw [if_neg hy1_1] at h
      obtain rfl := Sum.inr.inj (Option.some.inj h); exact q_slicesIndexFuncintintq1_1_2 n x1_0 x1_1 x1_2 x1_3 x1_4 x1_5 hy1_1)
    (fun r => by intro hx; rcases r with _ | _ <;> cases hx) h
def m_slicesIndexFuncintintq1 (n : Nat) (a0 : NL) (a1 : List (Bool)) (a2 : Nat) (a3 : Nat) : Option (Int) :=
  match m_slicesIndexFuncintintq1_1 n a1 a2 a3 a0 (((a0).l.length : Nat) : Int) 0 with
  | none => none
  | some (.inl c1_) =>
    some c1_
  | some (.inr _) =>
    some (-1)
set_option maxRecDepth 100000 in
theorem p_slicesIndexFuncintintq1_0 (n : Nat) (a0 : NL) (a1 : List (Bool)) (a2 a3 : Nat) (c1_ : Int) (hc1 : m_slicesIndexFuncintintq1_1 n a1 a2 a3 a0 (((a0).l.length : Nat) : Int) 0 = some (.inl c1_)) : G_slicesIndexFuncintintq1 a0 a1 a2 a3 c1_ :=
  runF2 hm (L := lT [(8, ⟨⟨[0, 1, 7, 8], [(0, 0, false), (1, 1, true)], 2, 2⟩, (X_slicesIndexFuncintintq1_1 a1 a2 a3 a0 (((a0).l.length : Nat) : Int) (.inl c1_)).1, (X_slicesIndexFuncintintq1_1 a1 a2 a3 a0 (((a0).l.length : Nat) : Int) (.inl c1_)).2⟩)]) ⟨[4], [], 2, 2⟩ (ww (p := U_slicesIndexFuncintintq1_1 none a1 a2 a3 a0 (((a0).l.length : Nat) : Int) 0 (.inl c1_)) (m_slicesIndexFuncintintq1_1_ok n a1 a2 a3 a0 (((a0).l.length : Nat) : Int) 0 (.inl c1_) hc1) <|
ww (rows_flat rwf_b a1 4) <|
ee) (by kernel_rfl)
set_option maxRecDepth 100000 in
theorem p_slicesIndexFuncintintq1_1 (n : Nat) (a0 : NL) (a1 : List (Bool)) (a2 a3 : Nat) (hc1 : m_slicesIndexFuncintintq1_1 n a1 a2 a3 a0 (((a0).l.length : Nat) : Int) 0 = some (.inr ())) : G_slicesIndexFuncintintq1 a0 a1 a2 a3 (-1) :=
  runF2 hm (L := lT [(8, ⟨⟨[0, 1, 7, 8], [(0, 0, false), (1, 1, true)], 2, 2⟩, (X_slicesIndexFuncintintq1_1 a1 a2 a3 a0 (((a0).l.length : Nat) : Int) (.inr ())).1, (X_slicesIndexFuncintintq1_1 a1 a2 a3 a0 (((a0).l.length : Nat) : Int) (.inr ())).2⟩)]) ⟨[4], [], 2, 2⟩ (ww (p := U_slicesIndexFuncintintq1_1 none a1 a2 a3 a0 (((a0).l.length : Nat) : Int) 0 (.inr ())) (m_slicesIndexFuncintintq1_1_ok n a1 a2 a3 a0 (((a0).l.length : Nat) : Int) 0 (.inr ()) hc1) <|
ww (rows_flat rwf_b a1 4) <|
ee) (by kernel_rfl)
theorem m_slicesIndexFuncintintq1_ok (n : Nat) (a0 : NL) (a1 : List (Bool)) (a2 : Nat) (a3 : Nat) (r : Int) (h : m_slicesIndexFuncintintq1 n a0 a1 a2 a3 = some r) : Gv P (.func 34) (A_slicesIndexFuncintintq1 a0 a1 a2 a3) (H_slicesIndexFuncintintq1 a0 a1 a2 a3) (V_slicesIndexFuncintintq1 a0 a1 a2 a3 r) (R_slicesIndexFuncintintq1 a0 a1 a2 a3 r) := by
  unfold m_slicesIndexFuncintintq1 at h
  rcases hc1 : m_slicesIndexFuncintintq1_1 n a1 a2 a3 a0 (((a0).l.length : Nat) : Int) 0 with _ | (c1_ | ⟨⟩)
  · rw [hc1] at h; cases h
  · rw [hc1] at h
    dsimp only at h
    obtain rfl := Option.some.inj h; exact p_slicesIndexFuncintintq1_0 n a0 a1 a2 a3 c1_ hc1
  · rw [hc1] at h
    dsimp only at h
    obtain rfl := Option.some.inj h; exact p_slicesIndexFuncintintq1_1 n a0 a1 a2 a3 hc1

noncomputable def A_slicesContainsFuncintintq1 (a0 : NL) (a1 : List (Bool)) (a2 : Nat) (a3 : Nat) : List Value := [(nlV a0), (Value.func (.func 30) #[] #[(pN 0 0)])]
noncomputable def H_slicesContainsFuncintintq1 (a0 : NL) (a1 : List (Bool)) (a2 : Nat) (a3 : Nat) : AH := ⟨sB [(0, (some (.cells (layT [(sN 1 0 a2 a3)]) 30))), (1, (some (.cells (layT (rows rw_b a1)) 4)))], 2, 2⟩
noncomputable def V_slicesContainsFuncintintq1 (a0 : NL) (a1 : List (Bool)) (a2 : Nat) (a3 : Nat) (r : Bool) : Value := match r with
  | o0 => (bO o0)
noncomputable def R_slicesContainsFuncintintq1 (a0 : NL) (a1 : List (Bool)) (a2 : Nat) (a3 : Nat) (r : Bool) : AH := match r with
  | o0 => ⟨sB [], 2, 2⟩
noncomputable abbrev G_slicesContainsFuncintintq1 (a0 : NL) (a1 : List (Bool)) (a2 : Nat) (a3 : Nat) (r : Bool) : Prop := Gv P (.func 29) (A_slicesContainsFuncintintq1 a0 a1 a2 a3) (H_slicesContainsFuncintintq1 a0 a1 a2 a3) (V_slicesContainsFuncintintq1 a0 a1 a2 a3 r) (R_slicesContainsFuncintintq1 a0 a1 a2 a3 r)
noncomputable abbrev C_slicesContainsFuncintintq1 (a0 : NL) (a1 : List (Bool)) (a2 : Nat) (a3 : Nat) (r : Bool) (ins outs : BL) : CallA := ⟨2, ins, V_slicesContainsFuncintintq1 a0 a1 a2 a3 r, R_slicesContainsFuncintintq1 a0 a1 a2 a3 r, outs⟩
def m_slicesContainsFuncintintq1 (n : Nat) (a0 : NL) (a1 : List (Bool)) (a2 : Nat) (a3 : Nat) : Option (Bool) :=
  (m_slicesIndexFuncintintq1 n a0 a1 a2 a3).bind fun c1_ =>
  if c1_ ≥ (0 : Int) then
    some true
  else
    some false
set_option maxRecDepth 100000 in
theorem p_slicesContainsFuncintintq1_0 (n : Nat) (a0 : NL) (a1 : List (Bool)) (a2 a3 : Nat) (c1_ : Int) (hc1 : m_slicesIndexFuncintintq1 n a0 a1 a2 a3 = some c1_) (hc2 : c1_ ≥ (0 : Int)) : G_slicesContainsFuncintintq1 a0 a1 a2 a3 true :=
  runF2 hm (L := lT []) ⟨[4], [], 2, 2⟩ (yy 5 (.call (C_slicesIndexFuncintintq1 a0 a1 a2 a3 c1_ [(0, 0, false), (1, 1, true)] [])) <|
ww (m_slicesIndexFuncintintq1_ok n a0 a1 a2 a3 c1_ hc1) <|
ww (rows_flat rwf_b a1 4) <|
zz 6 (xdT hc2) <|
ee) (by kernel_rfl)
set_option maxRecDepth 100000 in
theorem p_slicesContainsFuncintintq1_1 (n : Nat) (a0 : NL) (a1 : List (Bool)) (a2 a3 : Nat) (c1_ : Int) (hc1 : m_slicesIndexFuncintintq1 n a0 a1 a2 a3 = some c1_) (hc2 : ¬ (c1_ ≥ (0 : Int))) : G_slicesContainsFuncintintq1 a0 a1 a2 a3 false :=
  runF2 hm (L := lT []) ⟨[4], [], 2, 2⟩ (yy 5 (.call (C_slicesIndexFuncintintq1 a0 a1 a2 a3 c1_ [(0, 0, false), (1, 1, true)] [])) <|
ww (m_slicesIndexFuncintintq1_ok n a0 a1 a2 a3 c1_ hc1) <|
ww (rows_flat rwf_b a1 4) <|
zz 6 (xdF hc2) <|
ee) (by kernel_rfl)
theorem m_slicesContainsFuncintintq1_ok (n : Nat) (a0 : NL) (a1 : List (Bool)) (a2 : Nat) (a3 : Nat) (r : Bool) (h : m_slicesContainsFuncintintq1 n a0 a1 a2 a3 = some r) : Gv P (.func 29) (A_slicesContainsFuncintintq1 a0 a1 a2 a3) (H_slicesContainsFuncintintq1 a0 a1 a2 a3) (V_slicesContainsFuncintintq1 a0 a1 a2 a3 r) (R_slicesContainsFuncintintq1 a0 a1 a2 a3 r) := by
  unfold m_slicesContainsFuncintintq1 at h
  obtain ⟨c1_, hc1, h⟩ := Option.bind_eq_some_iff.1 h
  by_cases hc2 : c1_ ≥ (0 : Int)
  · rw [if_pos hc2] at h
    obtain rfl := Option.some.inj h; exact p_slicesContainsFuncintintq1_0 n a0 a1 a2 a3 c1_ hc1 hc2
  · rw [if_neg hc2] at h
    obtain rfl := Option.some.inj h; exact p_slicesContainsFuncintintq1_1 n a0 a1 a2 a3 c1_ hc1 hc2

noncomputable def A_treeStale_111010y1 (a0 : List (Bool)) (a1 : Nat) (a2 : Nat) (a3 : Int) (a4 : Int) (a5 : Int) (a6 : Int) (a7 : Int) (a8 : Int) (a9 : Int) (a10 : NL) (a11 : Int) : List Value := [(i6 a3), (Value.agg #[(i6 a4), (i6 a5), (i6 a6), (i6 a7), (i6 a8), (i6 a9), (nlV a10), (Value.int .u64 a11)])]
noncomputable def H_treeStale_111010y1 (a0 : List (Bool)) (a1 : Nat) (a2 : Nat) (a3 : Int) (a4 : Int) (a5 : Int) (a6 : Int) (a7 : Int) (a8 : Int) (a9 : Int) (a10 : NL) (a11 : Int) : AH := ⟨sB [(0, (some (rblk P 24 [false, true, false, true, true, true] .ready none [(3, (pN 2 0)), (13, (Value.func (.func 33) #[] #[(pN 4 0)]))] 1))), (1, (some (.marks true))), (2, (some (.cells (layT [(sN 3 0 a1 a2)]) 30))), (3, (some (.cells (layT (rows rw_b a0)) 4))), (4, (some (.cells (layT [(sW 0 0 (Args.A).length Args.cA)]) 22)))], 5, 5⟩
noncomputable def V_treeStale_111010y1 (a0 : List (Bool)) (a1 : Nat) (a2 : Nat) (a3 : Int) (a4 : Int) (a5 : Int) (a6 : Int) (a7 : Int) (a8 : Int) (a9 : Int) (a10 : NL) (a11 : Int) (r : List (Bool)) : Value := match r with
  | o0 => (bO true)
noncomputable def R_treeStale_111010y1 (a0 : List (Bool)) (a1 : Nat) (a2 : Nat) (a3 : Int) (a4 : Int) (a5 : Int) (a6 : Int) (a7 : Int) (a8 : Int) (a9 : Int) (a10 : NL) (a11 : Int) (r : List (Bool)) : AH := match r with
  | o0 => ⟨sB [(0, (some (rblk P 24 [false, true, false, true, true, true] .ready none [(3, (pN 2 0)), (13, (Value.func (.func 33) #[] #[(pN 4 0)]))] 1))), (1, (some (.marks true))), (2, (some (.cells (layT [(sN 3 0 a1 a2)]) 30))), (3, (some (.cells (layT (rows rw_b o0)) 4))), (4, (some (.cells (layT [(sW 0 0 (Args.A).length Args.cA)]) 22)))], 5, 0⟩
noncomputable abbrev G_treeStale_111010y1 (a0 : List (Bool)) (a1 : Nat) (a2 : Nat) (a3 : Int) (a4 : Int) (a5 : Int) (a6 : Int) (a7 : Int) (a8 : Int) (a9 : Int) (a10 : NL) (a11 : Int) (r : List (Bool)) : Prop := Gv P (.yield 0) (A_treeStale_111010y1 a0 a1 a2 a3 a4 a5 a6 a7 a8 a9 a10 a11) (H_treeStale_111010y1 a0 a1 a2 a3 a4 a5 a6 a7 a8 a9 a10 a11) (V_treeStale_111010y1 a0 a1 a2 a3 a4 a5 a6 a7 a8 a9 a10 a11 r) (R_treeStale_111010y1 a0 a1 a2 a3 a4 a5 a6 a7 a8 a9 a10 a11 r)
noncomputable abbrev C_treeStale_111010y1 (a0 : List (Bool)) (a1 : Nat) (a2 : Nat) (a3 : Int) (a4 : Int) (a5 : Int) (a6 : Int) (a7 : Int) (a8 : Int) (a9 : Int) (a10 : NL) (a11 : Int) (r : List (Bool)) (ins outs : BL) : CallA := ⟨5, ins, V_treeStale_111010y1 a0 a1 a2 a3 a4 a5 a6 a7 a8 a9 a10 a11 r, R_treeStale_111010y1 a0 a1 a2 a3 a4 a5 a6 a7 a8 a9 a10 a11 r, outs⟩
def m_treeStale_111010y1 (n : Nat) (a0 : List (Bool)) (a1 : Nat) (a2 : Nat) (a3 : Int) (a4 : Int) (a5 : Int) (a6 : Int) (a7 : Int) (a8 : Int) (a9 : Int) (a10 : NL) (a11 : Int) : Option (List (Bool)) :=
  if a11 = (0 : Int) then
    (m_slicesContainsFuncintintq1 n a10 a0 a1 a2).bind fun c2_ =>
    if 0 ≤ a3 ∧ a3 < ((a1 : Nat) : Int) then
      if (a3).toNat < (a0).length then
        some ((a0).set (a3).toNat c2_)
      else none
    else none
  else
    if 0 ≤ a3 ∧ a3 < ((a1 : Nat) : Int) then
      if (a3).toNat < (a0).length then
        some ((a0).set (a3).toNat true)
      else none
    else none
set_option maxRecDepth 100000 in
theorem p_treeStale_111010y1_0 (n : Nat) (a0 : List (Bool)) (a1 a2 : Nat) (a3 a4 a5 a6 a7 a8 a9 : Int) (a10 : NL) (a11 : Int) (hc1 : a11 = (0 : Int)) (c2_ : Bool) (hc2 : m_slicesContainsFuncintintq1 n a10 a0 a1 a2 = some c2_) (hc3 : 0 ≤ a3 ∧ a3 < ((a1 : Nat) : Int)) (hc4 : (a3).toNat < (a0).length) : G_treeStale_111010y1 a0 a1 a2 a3 a4 a5 a6 a7 a8 a9 a10 a11 ((a0).set (a3).toNat c2_) :=
  runY_ok hm (A1 := aT []) (L1 := lT []) (A2 := aT [(5, vf), (10, .call (C_slicesContainsFuncintintq1 a10 a0 a1 a2 c2_ [(0, 2, false), (1, 3, true)] [])), (12, .pur (pN 3 ((a3).toNat * 1))), (13, .sto (layT (rows rw_b ((a0).set (a3).toNat c2_))))]) (L2 := lT []) (wk := ⟨[], [(0, 0, false), (1, 1, false), (2, 2, false), (3, 3, true), (4, 4, false)], 5, 0⟩)
    (ps := [nF a11 0,
 G_slicesContainsFuncintintq1 a10 a0 a1 a2 c2_,
 FlatB (.cells (layT (rows rw_b a0)) 4),
 xp17 3 a1 a2 a3,
 ∃ old, rdT (layT (rows rw_b a0)) 1 ((a3).toNat * 1) = some old,
 layL [(bO c2_)] ((a3).toNat * 1) (layT (rows rw_b a0)) = layT (rows rw_b ((a0).set (a3).toNat c2_)),
 FlatB (.cells (layT (rows rw_b ((a0).set (a3).toNat c2_))) 4)]) (by kernel_rfl) ⟨((xnF hc1).p), (m_slicesContainsFuncintintq1_ok n a10 a0 a1 a2 c2_ hc2), (rows_flat rwf_b a0 4), ((xk17 3 a2 hc3).p), (Exists.elim (rows_st rwf_b (false) (i := (a3).toNat) (j := 0) (l := [(bO c2_)]) c2_ ((a3).toNat * 1) rfl (hc4) (Nat.le_of_ble_eq_true rfl) rfl) fun o h => ⟨o, h.1⟩), (Exists.elim (rows_st rwf_b (false) (i := (a3).toNat) (j := 0) (l := [(bO c2_)]) c2_ ((a3).toNat * 1) rfl (hc4) (Nat.le_of_ble_eq_true rfl) rfl) fun o h => h.2), (rows_flat rwf_b ((a0).set (a3).toNat c2_) 4), trivial⟩
set_option maxRecDepth 100000 in
theorem p_treeStale_111010y1_1 (n : Nat) (a0 : List (Bool)) (a1 a2 : Nat) (a3 a4 a5 a6 a7 a8 a9 : Int) (a10 : NL) (a11 : Int) (hc1 : ¬ (a11 = (0 : Int))) (hc2 : 0 ≤ a3 ∧ a3 < ((a1 : Nat) : Int)) (hc3 : (a3).toNat < (a0).length) : G_treeStale_111010y1 a0 a1 a2 a3 a4 a5 a6 a7 a8 a9 a10 a11 ((a0).set (a3).toNat true) :=
  runY_ok hm (A1 := aT []) (L1 := lT []) (A2 := aT [(5, vt), (12, .pur (pN 3 ((a3).toNat * 1))), (13, .sto (layT (rows rw_b ((a0).set (a3).toNat true))))]) (L2 := lT []) (wk := ⟨[], [(0, 0, false), (1, 1, false), (2, 2, false), (3, 3, true), (4, 4, false)], 5, 0⟩)
    (ps := [nT a11 0,
 xp17 3 a1 a2 a3,
 ∃ old, rdT (layT (rows rw_b a0)) 1 ((a3).toNat * 1) = some old,
 layL [(bO true)] ((a3).toNat * 1) (layT (rows rw_b a0)) = layT (rows rw_b ((a0).set (a3).toNat true)),
 FlatB (.cells (layT (rows rw_b ((a0).set (a3).toNat true))) 4)]) (by kernel_rfl) ⟨((xnT hc1).p), ((xk17 3 a2 hc2).p), (Exists.elim (rows_st rwf_b (false) (i := (a3).toNat) (j := 0) (l := [(bO true)]) true ((a3).toNat * 1) rfl (hc3) (Nat.le_of_ble_eq_true rfl) rfl) fun o h => ⟨o, h.1⟩), (Exists.elim (rows_st rwf_b (false) (i := (a3).toNat) (j := 0) (l := [(bO true)]) true ((a3).toNat * 1) rfl (hc3) (Nat.le_of_ble_eq_true rfl) rfl) fun o h => h.2), (rows_flat rwf_b ((a0).set (a3).toNat true) 4), trivial⟩
theorem m_treeStale_111010y1_ok (n : Nat) (a0 : List (Bool)) (a1 : Nat) (a2 : Nat) (a3 : Int) (a4 : Int) (a5 : Int) (a6 : Int) (a7 : Int) (a8 : Int) (a9 : Int) (a10 : NL) (a11 : Int) (r : List (Bool)) (h : m_treeStale_111010y1 n a0 a1 a2 a3 a4 a5 a6 a7 a8 a9 a10 a11 = some r) : Gv P (.yield 0) (A_treeStale_111010y1 a0 a1 a2 a3 a4 a5 a6 a7 a8 a9 a10 a11) (H_treeStale_111010y1 a0 a1 a2 a3 a4 a5 a6 a7 a8 a9 a10 a11) (V_treeStale_111010y1 a0 a1 a2 a3 a4 a5 a6 a7 a8 a9 a10 a11 r) (R_treeStale_111010y1 a0 a1 a2 a3 a4 a5 a6 a7 a8 a9 a10 a11 r) := by
  unfold m_treeStale_111010y1 at h
  by_cases hc1 : a11 = (0 : Int)
  · rw [if_pos hc1] at h
    obtain ⟨c2_, hc2, h⟩ := Option.bind_eq_some_iff.1 h
    by_cases hc3 : 0 ≤ a3 ∧ a3 < ((a1 : Nat) : Int)
    · rw [if_pos hc3] at h
      by_cases hc4 : (a3).toNat < (a0).length
      · rw [if_pos hc4] at h
        obtain rfl := Option.some.inj h; exact p_treeStale_111010y1_0 n a0 a1 a2 a3 a4 a5 a6 a7 a8 a9 a10 a11 hc1 c2_ hc2 hc3 hc4
      · rw [if_neg hc4] at h; cases h
    · rw [if_neg hc3] at h; cases h
  · rw [if_neg hc1] at h
    by_cases hc2 : 0 ≤ a3 ∧ a3 < ((a1 : Nat) : Int)
    · rw [if_pos hc2] at h
      by_cases hc3 : (a3).toNat < (a0).length
      · rw [if_pos hc3] at h
        obtain rfl := Option.some.inj h; exact p_treeStale_111010y1_1 n a0 a1 a2 a3 a4 a5 a6 a7 a8 a9 a10 a11 hc1 hc2 hc3
      · rw [if_neg hc3] at h; cases h
    · rw [if_neg hc2] at h; cases h

noncomputable def A_slicesBackwardapiPart1q1 (a0 : List (Bool)) (a1 : Nat) (a2 : Nat) : List Value := [(Value.func (.yield 0) #[] #[]), (pN 4 0)]
noncomputable def H_slicesBackwardapiPart1q1 (a0 : List (Bool)) (a1 : Nat) (a2 : Nat) : AH := ⟨sB [(0, (some (rblk P 24 [false, true, false, true, true, true] .ready none [(3, (pN 2 0)), (13, (Value.func (.func 33) #[] #[(pN 4 0)]))] 1))), (1, (some (.marks true))), (2, (some (.cells (layT [(sN 3 0 a1 a2)]) 30))), (3, (some (.cells (layT (rows rw_b a0)) 4))), (4, (some (.cells (layT [(sW 0 0 (Args.A).length Args.cA)]) 22)))], 5, 5⟩
noncomputable def V_slicesBackwardapiPart1q1 (a0 : List (Bool)) (a1 : Nat) (a2 : Nat) (r : List (Bool)) : Value := match r with
  | o0 => (Value.tuple #[])
noncomputable def R_slicesBackwardapiPart1q1 (a0 : List (Bool)) (a1 : Nat) (a2 : Nat) (r : List (Bool)) : AH := match r with
  | o0 => ⟨sB [(0, (some (rblk P 24 [false, true, false, true, true, true] .ready none [(3, (pN 2 0)), (13, (Value.func (.func 33) #[] #[(pN 4 0)]))] 1))), (1, (some (.marks true))), (2, (some (.cells (layT [(sN 3 0 a1 a2)]) 30))), (3, (some (.cells (layT (rows rw_b o0)) 4))), (4, (some (.cells (layT [(sW 0 0 (Args.A).length Args.cA)]) 22)))], 5, 0⟩
noncomputable abbrev G_slicesBackwardapiPart1q1 (a0 : List (Bool)) (a1 : Nat) (a2 : Nat) (r : List (Bool)) : Prop := Gv P (.func 33) (A_slicesBackwardapiPart1q1 a0 a1 a2) (H_slicesBackwardapiPart1q1 a0 a1 a2) (V_slicesBackwardapiPart1q1 a0 a1 a2 r) (R_slicesBackwardapiPart1q1 a0 a1 a2 r)
noncomputable abbrev C_slicesBackwardapiPart1q1 (a0 : List (Bool)) (a1 : Nat) (a2 : Nat) (r : List (Bool)) (ins outs : BL) : CallA := ⟨5, ins, V_slicesBackwardapiPart1q1 a0 a1 a2 r, R_slicesBackwardapiPart1q1 a0 a1 a2 r, outs⟩
noncomputable def S_slicesBackwardapiPart1q1_1 (x1_1 : Nat) (x1_2 : Nat) (st : List (Bool) × Int) : XSt := match st with
  | (x1_0, x1_3) => (sT 19 [(0, (Value.func (.yield 0) #[] #[])), (1, (pN 4 0)), (3, (i6 x1_3))], [], ⟨sB [(0, (some (rblk P 24 [false, true, false, true, true, true] .ready none [(3, (pN 2 0)), (13, (Value.func (.func 33) #[] #[(pN 4 0)]))] 1))), (1, (some (.marks true))), (2, (some (.cells (layT [(sN 3 0 x1_1 x1_2)]) 30))), (3, (some (.cells (layT (rows rw_b x1_0)) 4))), (4, (some (.cells (layT [(sW 0 0 (Args.A).length Args.cA)]) 22)))], 5, 0⟩)
noncomputable def X_slicesBackwardapiPart1q1_1 (x1_1 : Nat) (x1_2 : Nat) (r : List (Bool)) : Ex × XSt := match r with
  | z1_0 => (.exit 0, (sT 19 [], [], ⟨sB [(0, (some (rblk P 24 [false, true, false, true, true, true] .ready none [(3, (pN 2 0)), (13, (Value.func (.func 33) #[] #[(pN 4 0)]))] 1))), (1, (some (.marks true))), (2, (some (.cells (layT [(sN 3 0 x1_1 x1_2)]) 30))), (3, (some (.cells (layT (rows rw_b z1_0)) 4))), (4, (some (.cells (layT [(sW 0 0 (Args.A).length Args.cA)]) 22)))], 5, 0⟩))
noncomputable abbrev Q_slicesBackwardapiPart1q1_1 (rnd : Option Nat) (x1_1 : Nat) (x1_2 : Nat) (st : List (Bool) × Int) (c : Ex × XSt) : Prop := CG P rnd (fnN P 33) 5 (codeOf P 33 [false, false, true]) (S_slicesBackwardapiPart1q1_1 x1_1 x1_2 st) c
noncomputable abbrev U_slicesBackwardapiPart1q1_1 (rd : Option Nat) (x1_1 : Nat) (x1_2 : Nat) (st : List (Bool) × Int) (r : List (Bool)) : Prop := CG P rd (fnN P 33) 5 (codeOf P 33 [false, true]) (S_slicesBackwardapiPart1q1_1 x1_1 x1_2 st) (X_slicesBackwardapiPart1q1_1 x1_1 x1_2 r)
def B_slicesBackwardapiPart1q1_1 (n : Nat) (x1_1 : Nat) (x1_2 : Nat) (st : List (Bool) × Int) : Option ((List (Bool) × Int) ⊕ (List (Bool))) := match st with
  | (x1_0, x1_3) =>
    if x1_3 ≥ (0 : Int) then
      if 0 ≤ x1_3 ∧ x1_3 < (((Args.A).length : Nat) : Int) then
        ((some ((Args.A).getD (x1_3).toNat (0, 0, 0, 0, 0, 0, nl0, 0)))).bind fun y1_3_ =>
        (m_treeStale_111010y1 n x1_0 x1_1 x1_2 x1_3 (y1_3_.1) (y1_3_.2.1) (y1_3_.2.2.1) (y1_3_.2.2.2.1) (y1_3_.2.2.2.2.1) (y1_3_.2.2.2.2.2.1) (y1_3_.2.2.2.2.2.2.1) (y1_3_.2.2.2.2.2.2.2)).bind fun y1_4_ =>
        some (.inl (y1_4_, (w64 (x1_3 - (1 : Int)))))
      else none
    else
      some (.inr x1_0)
def m_slicesBackwardapiPart1q1_1 (n : Nat) (x1_1 : Nat) (x1_2 : Nat) (st : List (Bool) × Int) : Option (List (Bool)) := iterM (B_slicesBackwardapiPart1q1_1 n x1_1 x1_2) n st
set_option maxRecDepth 100000 in
theorem q_slicesBackwardapiPart1q1_1_0 (n : Nat) {rnd : Option Nat} (x1_0 : List (Bool)) (x1_1 x1_2 : Nat) (x1_3 : Int) (hy1_1 : x1_3 ≥ (0 : Int)) (hy1_2 : 0 ≤ x1_3 ∧ x1_3 < (((Args.A).length : Nat) : Int)) (y1_3_ : Int × Int × Int × Int × Int × Int × NL × Int) (hy1_3 : (some ((Args.A).getD (x1_3).toNat (0, 0, 0, 0, 0, 0, nl0, 0))) = some y1_3_) (y1_4_ : List (Bool)) (hy1_4 : m_treeStale_111010y1 n x1_0 x1_1 x1_2 x1_3 (y1_3_.1) (y1_3_.2.1) (y1_3_.2.2.1) (y1_3_.2.2.2.1) (y1_3_.2.2.2.2.1) (y1_3_.2.2.2.2.2.1) (y1_3_.2.2.2.2.2.2.1) (y1_3_.2.2.2.2.2.2.2) = some y1_4_) : Q_slicesBackwardapiPart1q1_1 rnd x1_1 x1_2 (x1_0, x1_3) (.normal, S_slicesBackwardapiPart1q1_1 x1_1 x1_2 (y1_4_, (w64 (x1_3 - (1 : Int))))) :=
  runC2 hm (L := lT []) ⟨[0, 1, 3], [(0, 0, false), (1, 1, false), (2, 2, false), (3, 3, true), (4, 4, false)], 5, 0⟩ (zz 3 (xdT hy1_1) <|
zz 12 (xk1 0 Args.cA hy1_2) <|
zz 13 (lk2 hy1_3 (toNatLt hy1_2)) <|
yy 14 (.call (C_treeStale_111010y1 x1_0 x1_1 x1_2 x1_3 (y1_3_.1) (y1_3_.2.1) (y1_3_.2.2.1) (y1_3_.2.2.2.1) (y1_3_.2.2.2.2.1) (y1_3_.2.2.2.2.2.1) (y1_3_.2.2.2.2.2.2.1) (y1_3_.2.2.2.2.2.2.2) y1_4_ [(0, 0, false), (1, 1, false), (2, 2, false), (3, 3, true), (4, 4, false)] [(0, 0, false), (1, 1, false), (2, 2, false), (3, 3, true), (4, 4, false)])) <|
ww (m_treeStale_111010y1_ok n x1_0 x1_1 x1_2 x1_3 (y1_3_.1) (y1_3_.2.1) (y1_3_.2.2.1) (y1_3_.2.2.2.1) (y1_3_.2.2.2.2.1) (y1_3_.2.2.2.2.2.1) (y1_3_.2.2.2.2.2.2.1) (y1_3_.2.2.2.2.2.2.2) y1_4_ hy1_4) <|
ww (rows_flat rwf_b x1_0 4) <|
ww (rows_flat rwf_b y1_4_ 4) <|
ww (rows_flat rwf_b y1_4_ 4) <|
ee) (by kernel_rfl)
set_option maxRecDepth 100000 in
theorem q_slicesBackwardapiPart1q1_1_1 (n : Nat) {rnd : Option Nat} (x1_0 : List (Bool)) (x1_1 x1_2 : Nat) (x1_3 : Int) (hy1_1 : ¬ (x1_3 ≥ (0 : Int))) : Q_slicesBackwardapiPart1q1_1 rnd x1_1 x1_2 (x1_0, x1_3) (X_slicesBackwardapiPart1q1_1 x1_1 x1_2 x1_0) :=
  runC2 hm (L := lT []) ⟨[], [(0, 0, false), (1, 1, false), (2, 2, false), (3, 3, true), (4, 4, false)], 5, 0⟩ (zz 3 (xdF hy1_1) <|
ww (rows_flat rwf_b x1_0 4) <|
ee) (by kernel_rfl)
theorem m_slicesBackwardapiPart1q1_1_ok (n : Nat) {rnd : Option Nat} (x1_1 : Nat) (x1_2 : Nat) (st : List (Bool) × Int) (r : List (Bool)) (h : m_slicesBackwardapiPart1q1_1 n x1_1 x1_2 st = some r) : CG P rnd (fnN P 33) 5 (codeOf P 33 [false, true]) (S_slicesBackwardapiPart1q1_1 x1_1 x1_2 st) (X_slicesBackwardapiPart1q1_1 x1_1 x1_2 r) :=
  CG.iter (b := codeOf P 33 [false, false, true]) (by kernel_rfl) (body := B_slicesBackwardapiPart1q1_1 n x1_1 x1_2) (S := S_slicesBackwardapiPart1q1_1 x1_1 x1_2) (X := X_slicesBackwardapiPart1q1_1 x1_1 x1_2)
    (fun s s' h => by
    obtain ⟨x1_0, x1_3⟩ := s
    unfold B_slicesBackwardapiPart1q1_1 at h
    dsimp only at h
    by_cases hy1_1 : x1_3 ≥ (0 : Int)
    · rw [if_pos hy1_1] at h
      by_cases hy1_2 : 0 ≤ x1_3 ∧ x1_3 < (((Args.A).length : Nat) : Int)
      · rw [if_pos hy1_2] at h
        obtain ⟨y1_3_, hy1_3, h⟩ := Option.bind_eq_some_iff.1 h
        obtain ⟨y1_4_, hy1_4, h⟩ := Option.bind_eq_some_iff.1 h
        obtain rfl := Sum.inl.inj (Option.some.inj h); exact q_slicesBackwardapiPart1q1_1_0 n x1_0 x1_1 x1_2 x1_3 hy1_1 hy1_2 y1_3_ hy1_3 y1_4_ hy1_4
      · rw [if_neg hy1_2] at h; cases h
    · rw [if_neg hy1_1] at h
      cases h)
    (fun s r h => by
    obtain ⟨x1_0, x1_3⟩ := s
    unfold B_slicesBackwardapiPart1q1_1 at h
    dsimp only at h
    by_cases hy1_1 : x1_3 ≥ (0 : Int)
    · rw [if_pos hy1_1] at h
      by_cases hy1_2 : 0 ≤ x1_3 ∧ x1_3 < (((Args.A).length : Nat) : Int)
      · rw [if_pos hy1_2] at h
        obtain ⟨y1_3_, hy1_3, h⟩ := Option.bind_eq_some_iff.1 h
        obtain ⟨y1_4_, hy1_4, h⟩ := Option.bind_eq_some_iff.1 h
        cases h
      · rw [if_neg hy1_2] at h; cases h
    · rw [if_neg hy1_1] at h
      obtain rfl := Sum.inr.inj (Option.some.inj h); exact q_slicesBackwardapiPart1q1_1_1 n x1_0 x1_1 x1_2 x1_3 hy1_1)
    (fun r => by intro hx; cases hx) h
def m_slicesBackwardapiPart1q1 (n : Nat) (a0 : List (Bool)) (a1 : Nat) (a2 : Nat) : Option (List (Bool)) :=
  ((some (w64 ((((Args.A).length : Nat) : Int) - (1 : Int))))).bind fun c1_ =>
  (m_slicesBackwardapiPart1q1_1 n a1 a2 (a0, c1_)).bind fun c2_ =>
  some c2_
set_option maxRecDepth 100000 in
theorem p_slicesBackwardapiPart1q1_0 (n : Nat) (a0 : List (Bool)) (a1 a2 : Nat) (c1_ : Int) (hc1 : (some (w64 ((((Args.A).length : Nat) : Int) - (1 : Int)))) = some c1_) (c2_ : List (Bool)) (hc2 : m_slicesBackwardapiPart1q1_1 n a1 a2 (a0, c1_) = some c2_) : G_slicesBackwardapiPart1q1 a0 a1 a2 c2_ :=
  runF2 hm (L := lT [(6, ⟨⟨[0, 1, 3], [(0, 0, false), (1, 1, false), (2, 2, false), (3, 3, true), (4, 4, false)], 5, 0⟩, (X_slicesBackwardapiPart1q1_1 a1 a2 c2_).1, (X_slicesBackwardapiPart1q1_1 a1 a2 c2_).2⟩)]) ⟨[], [(0, 0, false), (1, 1, false), (2, 2, false), (3, 3, true), (4, 4, false)], 5, 0⟩ (zz 3 (xnm hc1) <|
ww (p := U_slicesBackwardapiPart1q1_1 none a1 a2 (a0, c1_) c2_) (m_slicesBackwardapiPart1q1_1_ok n a1 a2 (a0, c1_) c2_ hc2) <|
ww (rows_flat rwf_b a0 4) <|
ww (rows_flat rwf_b c2_ 4) <|
ee) (by kernel_rfl)
theorem m_slicesBackwardapiPart1q1_ok (n : Nat) (a0 : List (Bool)) (a1 : Nat) (a2 : Nat) (r : List (Bool)) (h : m_slicesBackwardapiPart1q1 n a0 a1 a2 = some r) : Gv P (.func 33) (A_slicesBackwardapiPart1q1 a0 a1 a2) (H_slicesBackwardapiPart1q1 a0 a1 a2) (V_slicesBackwardapiPart1q1 a0 a1 a2 r) (R_slicesBackwardapiPart1q1 a0 a1 a2 r) := by
  unfold m_slicesBackwardapiPart1q1 at h
  obtain ⟨c1_, hc1, h⟩ := Option.bind_eq_some_iff.1 h
  obtain ⟨c2_, hc2, h⟩ := Option.bind_eq_some_iff.1 h
  obtain rfl := Option.some.inj h; exact p_slicesBackwardapiPart1q1_0 n a0 a1 a2 c1_ hc1 c2_ hc2

noncomputable def A_treeStaleq1 : List Value := [(sW 0 0 (Args.A).length Args.cA)]
noncomputable def H_treeStaleq1 : AH := ⟨sB [], 0, 0⟩
noncomputable def V_treeStaleq1 (r : List (Bool) × Nat) : Value := match r with
  | (o0, o1) => (sN 1 0 o1 o1)
noncomputable def R_treeStaleq1 (r : List (Bool) × Nat) : AH := match r with
  | (o0, o1) => ⟨sB [(0, (some (.marks false))), (1, (some (.cells (layT (rows rw_b o0)) 4)))], 2, 0⟩
noncomputable abbrev G_treeStaleq1 (r : List (Bool) × Nat) : Prop := Gv P (.func 24) A_treeStaleq1 H_treeStaleq1 (V_treeStaleq1  r) (R_treeStaleq1  r)
noncomputable abbrev C_treeStaleq1 (r : List (Bool) × Nat) (ins outs : BL) : CallA := ⟨0, ins, V_treeStaleq1  r, R_treeStaleq1  r, outs⟩
def m_treeStaleq1 (n : Nat) : Option (List (Bool) × Nat) :=
  (m_treeCheckq1 n).bind fun c1_ =>
  if c1_ = (0 : Int) then
    if 0 ≤ (((Args.A).length : Nat) : Int) then
      if ((((Args.A).length : Nat) : Int)).toNat * 1 ≤ 140737488355328 then
        (m_slicesBackwardapiPartq1 n).bind fun _ =>
        (m_slicesBackwardapiPart1q1 n (List.replicate ((((Args.A).length : Nat) : Int)).toNat (false)) (((((Args.A).length : Nat) : Int)).toNat) (((((Args.A).length : Nat) : Int)).toNat)).bind fun c6_ =>
        some (c6_, (((((Args.A).length : Nat) : Int)).toNat))
      else none
    else none
  else
    none
set_option maxRecDepth 100000 in
theorem p_treeStaleq1_0 (n : Nat) (c1_ : Int) (hc1 : m_treeCheckq1 n = some c1_) (hc2 : c1_ = (0 : Int)) (hc3 : 0 ≤ (((Args.A).length : Nat) : Int)) (hc4 : ((((Args.A).length : Nat) : Int)).toNat * 1 ≤ 140737488355328) (hc5 : m_slicesBackwardapiPartq1 n = some ()) (c6_ : List (Bool)) (hc6 : m_slicesBackwardapiPart1q1 n (List.replicate ((((Args.A).length : Nat) : Int)).toNat (false)) (((((Args.A).length : Nat) : Int)).toNat) (((((Args.A).length : Nat) : Int)).toNat) = some c6_) : G_treeStaleq1  (c6_, (((((Args.A).length : Nat) : Int)).toNat)) :=
  runF2 hm (L := lT []) ⟨[2], [(0, 3, false), (1, 0, true)], 2, 0⟩ (yy 5 (.call (C_treeCheckq1  c1_ [] [])) <|
ww (m_treeCheckq1_ok n  c1_ hc1) <|
zz 6 (xnF hc2) <|
yy 11 (.mk ((((Args.A).length : Nat) : Int)).toNat (rows rw_b (List.replicate ((((Args.A).length : Nat) : Int)).toNat (false)))) <|
ww (p := natOf (i6 (((Args.A).length : Nat) : Int)) = some ((((Args.A).length : Nat) : Int)).toNat) (natOf_toNat hc3) <|
ww (p := natOf (i6 (((Args.A).length : Nat) : Int)) = some ((((Args.A).length : Nat) : Int)).toNat) (natOf_toNat hc3) <|
ww (p := fits ((((Args.A).length : Nat) : Int)).toNat 1 = true) (fits_ok hc4 (by omega)) <|
ww (p := isZ8 [(bO false)] = false) (rfl) <|
ww (p := reps [(bO false)] ((((Args.A).length : Nat) : Int)).toNat = (rows rw_b (List.replicate ((((Args.A).length : Nat) : Int)).toNat (false)))) (reps_rows rw_b (false) _ rfl _) <|
yy 17 (.call (C_slicesBackwardapiPartq1  () [] [(2, 0, false)])) <|
ww (m_slicesBackwardapiPartq1_ok n  () hc5) <|
yy 19 (.rng (C_slicesBackwardapiPart1q1 (List.replicate ((((Args.A).length : Nat) : Int)).toNat (false)) (((((Args.A).length : Nat) : Int)).toNat) (((((Args.A).length : Nat) : Int)).toNat) c6_ [(0, 4, false), (1, 3, false), (2, 1, false), (3, 0, true), (4, 2, false)] [(4, 0, false), (3, 1, false), (1, 2, false), (0, 3, true), (2, 4, false)]) [3, 13]) <|
ww (m_slicesBackwardapiPart1q1_ok n (List.replicate ((((Args.A).length : Nat) : Int)).toNat (false)) (((((Args.A).length : Nat) : Int)).toNat) (((((Args.A).length : Nat) : Int)).toNat) c6_ hc6) <|
ww (rows_flat rwf_b (List.replicate ((((Args.A).length : Nat) : Int)).toNat (false)) 4) <|
ww (rows_flat rwf_b c6_ 4) <|
ww (rows_flat rwf_b c6_ 4) <|
ee) (by kernel_rfl)
theorem m_treeStaleq1_ok (n : Nat) (r : List (Bool) × Nat) (h : m_treeStaleq1 n = some r) : Gv P (.func 24) A_treeStaleq1 H_treeStaleq1 (V_treeStaleq1  r) (R_treeStaleq1  r) := by
  unfold m_treeStaleq1 at h
  obtain ⟨c1_, hc1, h⟩ := Option.bind_eq_some_iff.1 h
  by_cases hc2 : c1_ = (0 : Int)
  · rw [if_pos hc2] at h
    by_cases hc3 : 0 ≤ (((Args.A).length : Nat) : Int)
    · rw [if_pos hc3] at h
      by_cases hc4 : ((((Args.A).length : Nat) : Int)).toNat * 1 ≤ 140737488355328
      · rw [if_pos hc4] at h
        obtain ⟨_, hc5, h⟩ := Option.bind_eq_some_iff.1 h
        obtain ⟨c6_, hc6, h⟩ := Option.bind_eq_some_iff.1 h
        obtain rfl := Option.some.inj h; exact p_treeStaleq1_0 n c1_ hc1 hc2 hc3 hc4 hc5 c6_ hc6
      · rw [if_neg hc4] at h; cases h
    · rw [if_neg hc3] at h; cases h
  · rw [if_neg hc2] at h
    cases h

noncomputable def A_reusereusableq1 (a0 : List (Bool)) (a1 : Nat) (a2 : Nat) (a3 : Int) : List Value := [(sW 0 0 (Args.A).length Args.cA), (sN 0 0 a1 a2), (i6 a3)]
noncomputable def H_reusereusableq1 (a0 : List (Bool)) (a1 : Nat) (a2 : Nat) (a3 : Int) : AH := ⟨sB [(0, (some (.cells (layT (rows rw_b a0)) 4)))], 1, 1⟩
noncomputable def V_reusereusableq1 (a0 : List (Bool)) (a1 : Nat) (a2 : Nat) (a3 : Int) (r : Bool) : Value := match r with
  | o0 => (bO o0)
noncomputable def R_reusereusableq1 (a0 : List (Bool)) (a1 : Nat) (a2 : Nat) (a3 : Int) (r : Bool) : AH := match r with
  | o0 => ⟨sB [], 1, 1⟩
noncomputable abbrev G_reusereusableq1 (a0 : List (Bool)) (a1 : Nat) (a2 : Nat) (a3 : Int) (r : Bool) : Prop := Gv P (.func 25) (A_reusereusableq1 a0 a1 a2 a3) (H_reusereusableq1 a0 a1 a2 a3) (V_reusereusableq1 a0 a1 a2 a3 r) (R_reusereusableq1 a0 a1 a2 a3 r)
noncomputable abbrev C_reusereusableq1 (a0 : List (Bool)) (a1 : Nat) (a2 : Nat) (a3 : Int) (r : Bool) (ins outs : BL) : CallA := ⟨1, ins, V_reusereusableq1 a0 a1 a2 a3 r, R_reusereusableq1 a0 a1 a2 a3 r, outs⟩
def m_reusereusableq1 (n : Nat) (a0 : List (Bool)) (a1 : Nat) (a2 : Nat) (a3 : Int) : Option (Bool) :=
  if 0 ≤ a3 ∧ a3 < (((Args.A).length : Nat) : Int) then
    ((some ((Args.A).getD (a3).toNat (0, 0, 0, 0, 0, 0, nl0, 0)))).bind fun c2_ =>
    if (c2_.2.1) = (2 : Int) then
      if 0 ≤ a3 ∧ a3 < ((a1 : Nat) : Int) then
        if (a3).toNat < (a0).length then
          ((some ((a0).getD (a3).toNat (false)))).bind fun c6_ =>
          if c6_ = true then
            some false
          else
            some true
        else none
      else none
    else
      some false
  else none
set_option maxRecDepth 100000 in
theorem p_reusereusableq1_0 (n : Nat) (a0 : List (Bool)) (a1 a2 : Nat) (a3 : Int) (hc1 : 0 ≤ a3 ∧ a3 < (((Args.A).length : Nat) : Int)) (c2_ : Int × Int × Int × Int × Int × Int × NL × Int) (hc2 : (some ((Args.A).getD (a3).toNat (0, 0, 0, 0, 0, 0, nl0, 0))) = some c2_) (hc3 : (c2_.2.1) = (2 : Int)) (hc4 : 0 ≤ a3 ∧ a3 < ((a1 : Nat) : Int)) (hc5 : (a3).toNat < (a0).length) (c6_ : Bool) (hc6 : (some ((a0).getD (a3).toNat (false))) = some c6_) (hc7 : c6_ = true) : G_reusereusableq1 a0 a1 a2 a3 false :=
  runF2 hm (L := lT []) ⟨[6], [], 1, 1⟩ (zz 5 (xk1 0 Args.cA hc1) <|
zz 6 (fk3 ((a3).toNat * 8)) <|
zz 7 (lk4 hc2 (toNatLt hc1)) <|
zz 8 (xeT hc3) <|
zz 12 (xk17 0 a2 hc4) <|
zz 13 (ok18 hc6 (hc5)) <|
yy 14 (vf) <|
ww (p := (Value.bool (!c6_)) = (Value.bool false)) (vBn hc7) <|
ee) (by kernel_rfl)
set_option maxRecDepth 100000 in
theorem p_reusereusableq1_1 (n : Nat) (a0 : List (Bool)) (a1 a2 : Nat) (a3 : Int) (hc1 : 0 ≤ a3 ∧ a3 < (((Args.A).length : Nat) : Int)) (c2_ : Int × Int × Int × Int × Int × Int × NL × Int) (hc2 : (some ((Args.A).getD (a3).toNat (0, 0, 0, 0, 0, 0, nl0, 0))) = some c2_) (hc3 : (c2_.2.1) = (2 : Int)) (hc4 : 0 ≤ a3 ∧ a3 < ((a1 : Nat) : Int)) (hc5 : (a3).toNat < (a0).length) (c6_ : Bool) (hc6 : (some ((a0).getD (a3).toNat (false))) = some c6_) (hc7 : ¬ (c6_ = true)) : G_reusereusableq1 a0 a1 a2 a3 true :=
  runF2 hm (L := lT []) ⟨[6], [], 1, 1⟩ (zz 5 (xk1 0 Args.cA hc1) <|
zz 6 (fk3 ((a3).toNat * 8)) <|
zz 7 (lk4 hc2 (toNatLt hc1)) <|
zz 8 (xeT hc3) <|
zz 12 (xk17 0 a2 hc4) <|
zz 13 (ok18 hc6 (hc5)) <|
yy 14 (vt) <|
ww (p := (Value.bool (!c6_)) = (Value.bool true)) (vBn (Bool.eq_false_iff.2 hc7)) <|
ee) (by kernel_rfl)
set_option maxRecDepth 100000 in
theorem p_reusereusableq1_2 (n : Nat) (a0 : List (Bool)) (a1 a2 : Nat) (a3 : Int) (hc1 : 0 ≤ a3 ∧ a3 < (((Args.A).length : Nat) : Int)) (c2_ : Int × Int × Int × Int × Int × Int × NL × Int) (hc2 : (some ((Args.A).getD (a3).toNat (0, 0, 0, 0, 0, 0, nl0, 0))) = some c2_) (hc3 : ¬ ((c2_.2.1) = (2 : Int))) : G_reusereusableq1 a0 a1 a2 a3 false :=
  runF2 hm (L := lT []) ⟨[6], [], 1, 1⟩ (zz 5 (xk1 0 Args.cA hc1) <|
zz 6 (fk3 ((a3).toNat * 8)) <|
zz 7 (lk4 hc2 (toNatLt hc1)) <|
zz 8 (xeF hc3) <|
ee) (by kernel_rfl)
theorem m_reusereusableq1_ok (n : Nat) (a0 : List (Bool)) (a1 : Nat) (a2 : Nat) (a3 : Int) (r : Bool) (h : m_reusereusableq1 n a0 a1 a2 a3 = some r) : Gv P (.func 25) (A_reusereusableq1 a0 a1 a2 a3) (H_reusereusableq1 a0 a1 a2 a3) (V_reusereusableq1 a0 a1 a2 a3 r) (R_reusereusableq1 a0 a1 a2 a3 r) := by
  unfold m_reusereusableq1 at h
  by_cases hc1 : 0 ≤ a3 ∧ a3 < (((Args.A).length : Nat) : Int)
  · rw [if_pos hc1] at h
    obtain ⟨c2_, hc2, h⟩ := Option.bind_eq_some_iff.1 h
    by_cases hc3 : (c2_.2.1) = (2 : Int)
    · rw [if_pos hc3] at h
      by_cases hc4 : 0 ≤ a3 ∧ a3 < ((a1 : Nat) : Int)
      · rw [if_pos hc4] at h
        by_cases hc5 : (a3).toNat < (a0).length
        · rw [if_pos hc5] at h
          obtain ⟨c6_, hc6, h⟩ := Option.bind_eq_some_iff.1 h
          by_cases hc7 : c6_ = true
          · rw [if_pos hc7] at h
            obtain rfl := Option.some.inj h; exact p_reusereusableq1_0 n a0 a1 a2 a3 hc1 c2_ hc2 hc3 hc4 hc5 c6_ hc6 hc7
          · rw [if_neg hc7] at h
            obtain rfl := Option.some.inj h; exact p_reusereusableq1_1 n a0 a1 a2 a3 hc1 c2_ hc2 hc3 hc4 hc5 c6_ hc6 hc7
        · rw [if_neg hc5] at h; cases h
      · rw [if_neg hc4] at h; cases h
    · rw [if_neg hc3] at h
      obtain rfl := Option.some.inj h; exact p_reusereusableq1_2 n a0 a1 a2 a3 hc1 c2_ hc2 hc3
  · rw [if_neg hc1] at h; cases h

noncomputable def A_slicesAppendSeqintint_1010y1 (a0 : Int) : List Value := [(i6 a0)]
noncomputable def H_slicesAppendSeqintint_1010y1 (a0 : Int) : AH := ⟨sB [(0, (some (rblk P 22 [false, true, false, true] .ready none [(2, (pN 2 0)), (6, (Value.func (.func 23) #[] #[(pN 3 0)]))] 1))), (1, (some (.marks true))), (2, (some (.cells (layT [(Value.slice none 0 0)]) 28))), (3, (some (.cells (layT [(sW 0 0 (Args.A).length Args.cA)]) 22)))], 4, 4⟩
noncomputable def V_slicesAppendSeqintint_1010y1 (a0 : Int) (r : Unit) : Value := match r with
  | _ => (bO true)
noncomputable def R_slicesAppendSeqintint_1010y1 (a0 : Int) (r : Unit) : AH := match r with
  | _ => ⟨sB [(0, (some (rblk P 22 [false, true, false, true] .ready none [(2, (pN 2 0)), (6, (Value.func (.func 23) #[] #[(pN 3 0)]))] 1))), (1, (some (.marks true))), (2, (some (.cells (layT [(sN 4 0 1 (Nat.add big 1))]) 28))), (3, (some (.cells (layT [(sW 0 0 (Args.A).length Args.cA)]) 22))), (4, (some (.cells (layT [(i6 a0)]) 3)))], 5, 0⟩
noncomputable abbrev G_slicesAppendSeqintint_1010y1 (a0 : Int) (r : Unit) : Prop := Gv P (.yield 0) (A_slicesAppendSeqintint_1010y1 a0) (H_slicesAppendSeqintint_1010y1 a0) (V_slicesAppendSeqintint_1010y1 a0 r) (R_slicesAppendSeqintint_1010y1 a0 r)
noncomputable abbrev C_slicesAppendSeqintint_1010y1 (a0 : Int) (r : Unit) (ins outs : BL) : CallA := ⟨4, ins, V_slicesAppendSeqintint_1010y1 a0 r, R_slicesAppendSeqintint_1010y1 a0 r, outs⟩
def m_slicesAppendSeqintint_1010y1 (n : Nat) (a0 : Int) : Option (Unit) :=
  some ()
set_option maxRecDepth 100000 in
theorem p_slicesAppendSeqintint_1010y1_0 (n : Nat) (a0 : Int) : G_slicesAppendSeqintint_1010y1 a0 () :=
  runY_ok hm (A1 := aT []) (L1 := lT []) (A2 := aT []) (L2 := lT []) (wk := ⟨[], [(0, 0, false), (1, 1, false), (2, 2, false), (3, 3, false), (4, 5, false)], 5, 0⟩)
    (ps := []) (by kernel_rfl) trivial
theorem m_slicesAppendSeqintint_1010y1_ok (n : Nat) (a0 : Int) (r : Unit) (h : m_slicesAppendSeqintint_1010y1 n a0 = some r) : Gv P (.yield 0) (A_slicesAppendSeqintint_1010y1 a0) (H_slicesAppendSeqintint_1010y1 a0) (V_slicesAppendSeqintint_1010y1 a0 r) (R_slicesAppendSeqintint_1010y1 a0 r) := by
  unfold m_slicesAppendSeqintint_1010y1 at h
  obtain rfl := Option.some.inj h; exact p_slicesAppendSeqintint_1010y1_0 n a0

noncomputable def A_partsEndq1 (a0 : Int) : List Value := [(sW 0 0 (Args.A).length Args.cA), (i6 a0)]
noncomputable def H_partsEndq1 (a0 : Int) : AH := ⟨sB [], 0, 0⟩
noncomputable def V_partsEndq1 (a0 : Int) (r : Int) : Value := match r with
  | o0 => (i6 o0)
noncomputable def R_partsEndq1 (a0 : Int) (r : Int) : AH := match r with
  | o0 => ⟨sB [], 0, 0⟩
noncomputable abbrev G_partsEndq1 (a0 : Int) (r : Int) : Prop := Gv P (.func 26) (A_partsEndq1 a0) (H_partsEndq1 a0) (V_partsEndq1 a0 r) (R_partsEndq1 a0 r)
noncomputable abbrev C_partsEndq1 (a0 : Int) (r : Int) (ins outs : BL) : CallA := ⟨0, ins, V_partsEndq1 a0 r, R_partsEndq1 a0 r, outs⟩
noncomputable def S_partsEndq1_1 (st : Int) : XSt := match st with
  | x1_0 => (sT 28 [(0, (sW 0 0 (Args.A).length Args.cA)), (1, (i6 x1_0))], [], ⟨sB [], 0, 0⟩)
noncomputable def X_partsEndq1_1 (r : Int) : Ex × XSt := match r with
  | z1_0 => (.exit 0, (sT 28 [(1, (i6 z1_0))], [], ⟨sB [], 0, 0⟩))
noncomputable abbrev Q_partsEndq1_1 (rnd : Option Nat) (st : Int) (c : Ex × XSt) : Prop := CG P rnd (fnN P 26) 0 (codeOf P 26 [false, false, false, true]) (S_partsEndq1_1 st) c
noncomputable abbrev U_partsEndq1_1 (rd : Option Nat) (st : Int) (r : Int) : Prop := CG P rd (fnN P 26) 0 (codeOf P 26 [false, false, true]) (S_partsEndq1_1 st) (X_partsEndq1_1 r)
def B_partsEndq1_1 (n : Nat) (st : Int) : Option ((Int) ⊕ (Int)) := match st with
  | x1_0 =>
    if 0 ≤ x1_0 ∧ x1_0 < (((Args.A).length : Nat) : Int) then
      ((some ((Args.A).getD (x1_0).toNat (0, 0, 0, 0, 0, 0, nl0, 0)))).bind fun y1_2_ =>
      if ((((y1_2_.2.2.2.2.2.2.1)).l.length : Nat) : Int) > (0 : Int) then
        ((some (w64 (((((y1_2_.2.2.2.2.2.2.1)).l.length : Nat) : Int) - (1 : Int))))).bind fun y1_4_ =>
        if 0 ≤ y1_4_ ∧ y1_4_ < ((((y1_2_.2.2.2.2.2.2.1)).l.length : Nat) : Int) then
          if (y1_4_).toNat < (((y1_2_.2.2.2.2.2.2.1)).l).length then
            ((some ((((y1_2_.2.2.2.2.2.2.1)).l).getD (y1_4_).toNat 0))).bind fun y1_7_ =>
            some (.inl y1_7_)
          else none
        else none
      else
        some (.inr x1_0)
    else none
def m_partsEndq1_1 (n : Nat) (st : Int) : Option (Int) := iterM (B_partsEndq1_1 n) n st
set_option maxRecDepth 100000 in
theorem q_partsEndq1_1_0 (n : Nat) {rnd : Option Nat} (x1_0 : Int) (hy1_1 : 0 ≤ x1_0 ∧ x1_0 < (((Args.A).length : Nat) : Int)) (y1_2_ : Int × Int × Int × Int × Int × Int × NL × Int) (hy1_2 : (some ((Args.A).getD (x1_0).toNat (0, 0, 0, 0, 0, 0, nl0, 0))) = some y1_2_) (hy1_3 : ((((y1_2_.2.2.2.2.2.2.1)).l.length : Nat) : Int) > (0 : Int)) (y1_4_ : Int) (hy1_4 : (some (w64 (((((y1_2_.2.2.2.2.2.2.1)).l.length : Nat) : Int) - (1 : Int)))) = some y1_4_) (hy1_5 : 0 ≤ y1_4_ ∧ y1_4_ < ((((y1_2_.2.2.2.2.2.2.1)).l.length : Nat) : Int)) (hy1_6 : (y1_4_).toNat < (((y1_2_.2.2.2.2.2.2.1)).l).length) (y1_7_ : Int) (hy1_7 : (some ((((y1_2_.2.2.2.2.2.2.1)).l).getD (y1_4_).toNat 0)) = some y1_7_) : Q_partsEndq1_1 rnd x1_0 (.normal, S_partsEndq1_1 y1_7_) :=
  runC2 hm (L := lT []) ⟨[0, 1], [], 0, 0⟩ (zz 4 (xk1 0 Args.cA hy1_1) <|
zz 5 (fk7 ((x1_0).toNat * 8)) <|
zz 6 (lk8 hy1_2 (toNatLt hy1_1)) <|
zz 8 (xdT hy1_3) <|
zz 13 (xk1 0 Args.cA hy1_1) <|
zz 14 (fk7 ((x1_0).toNat * 8)) <|
zz 15 (lk8 hy1_2 (toNatLt hy1_1)) <|
zz 18 (xk1 0 Args.cA hy1_1) <|
zz 19 (fk7 ((x1_0).toNat * 8)) <|
zz 20 (lk8 hy1_2 (toNatLt hy1_1)) <|
zz 22 (xnm hy1_4) <|
zz 23 (xk9 (Nat.add ((y1_2_.2.2.2.2.2.2.1)).num 64) ((y1_2_.2.2.2.2.2.2.1)).cap hy1_5) <|
zz 24 (nk10 hy1_7 hy1_6) <|
ee) (by kernel_rfl)
set_option maxRecDepth 100000 in
theorem q_partsEndq1_1_1 (n : Nat) {rnd : Option Nat} (x1_0 : Int) (hy1_1 : 0 ≤ x1_0 ∧ x1_0 < (((Args.A).length : Nat) : Int)) (y1_2_ : Int × Int × Int × Int × Int × Int × NL × Int) (hy1_2 : (some ((Args.A).getD (x1_0).toNat (0, 0, 0, 0, 0, 0, nl0, 0))) = some y1_2_) (hy1_3 : ¬ (((((y1_2_.2.2.2.2.2.2.1)).l.length : Nat) : Int) > (0 : Int))) : Q_partsEndq1_1 rnd x1_0 (X_partsEndq1_1 x1_0) :=
  runC2 hm (L := lT []) ⟨[1], [], 0, 0⟩ (zz 4 (xk1 0 Args.cA hy1_1) <|
zz 5 (fk7 ((x1_0).toNat * 8)) <|
zz 6 (lk8 hy1_2 (toNatLt hy1_1)) <|
zz 8 (xdF hy1_3) <|
ee) (by kernel_rfl)
theorem m_partsEndq1_1_ok (n : Nat) {rnd : Option Nat} (st : Int) (r : Int) (h : m_partsEndq1_1 n st = some r) : CG P rnd (fnN P 26) 0 (codeOf P 26 [false, false, true]) (S_partsEndq1_1 st) (X_partsEndq1_1 r) :=
  CG.iter (b := codeOf P 26 [false, false, false, true]) (by kernel_rfl) (body := B_partsEndq1_1 n) (S := S_partsEndq1_1) (X := X_partsEndq1_1)
    (fun x1_0 s' h => by
    unfold B_partsEndq1_1 at h
    dsimp only at h
    by_cases hy1_1 : 0 ≤ x1_0 ∧ x1_0 < (((Args.A).length : Nat) : Int)
    · rw [if_pos hy1_1] at h
      obtain ⟨y1_2_, hy1_2, h⟩ := Option.bind_eq_some_iff.1 h
      by_cases hy1_3 : ((((y1_2_.2.2.2.2.2.2.1)).l.length : Nat) : Int) > (0 : Int)
      · rw [if_pos hy1_3] at h
        obtain ⟨y1_4_, hy1_4, h⟩ := Option.bind_eq_some_iff.1 h
        by_cases hy1_5 : 0 ≤ y1_4_ ∧ y1_4_ < ((((y1_2_.2.2.2.2.2.2.1)).l.length : Nat) : Int)
        · rw [if_pos hy1_5] at h
          by_cases hy1_6 : (y1_4_).toNat < (((y1_2_.2.2.2.2.2.2.1)).l).length
          · rw [if_pos hy1_6] at h
            obtain ⟨y1_7_, hy1_7, h⟩ := Option.bind_eq_some_iff.1 h
            obtain rfl := Sum.inl.inj (Option.some.inj h); exact q_partsEndq1_1_0 n x1_0 hy1_1 y1_2_ hy1_2 hy1_3 y1_4_ hy1_4 hy1_5 hy1_6 y1_7_ hy1_7
          · rw [if_neg hy1_6] at h; cases h
        · rw [if_neg hy1_5] at h; cases h
      · rw [if_neg hy1_3] at h
        cases h
    · rw [if_neg hy1_1] at h; cases h)
    (fun x1_0 r h => by
    unfold B_partsEndq1_1 at h
    dsimp only at h
    by_cases hy1_1 : 0 ≤ x1_0 ∧ x1_0 < (((Args.A).length : Nat) : Int)
    · rw [if_pos hy1_1] at h
      obtain ⟨y1_2_, hy1_2, h⟩ := Option.bind_eq_some_iff.1 h
      by_cases hy1_3 : ((((y1_2_.2.2.2.2.2.2.1)).l.length : Nat) : Int) > (0 : Int)
      · rw [if_pos hy1_3] at h
        obtain ⟨y1_4_, hy1_4, h⟩ := Option.bind_eq_some_iff.1 h
        by_cases hy1_5 : 0 ≤ y1_4_ ∧ y1_4_ < ((((y1_2_.2.2.2.2.2.2.1)).l.length : Nat) : Int)
        · rw [if_pos hy1_5] at h
          by_cases hy1_6 : (y1_4_).toNat < (((y1_2_.2.2.2.2.2.2.1)).l).length
          · rw [if_pos hy1_6] at h
            obtain ⟨y1_7_, hy1_7, h⟩ := Option.bind_eq_some_iff.1 h
            cases h
          · rw [if_neg hy1_6] at h; cases h
        · rw [if_neg hy1_5] at h; cases h
      · rw [if_neg hy1_3] at h
        obtain rfl := Sum.inr.inj (Option.some.inj h); exact q_partsEndq1_1_1 n x1_0 hy1_1 y1_2_ hy1_2 hy1_3
    · rw [if_neg hy1_1] at h; cases h)
    (fun r => by intro hx; cases hx) h
def m_partsEndq1 (n : Nat) (a0 : Int) : Option (Int) :=
  (m_partsEndq1_1 n a0).bind fun c1_ =>
  some (w64 (c1_ + (1 : Int)))
set_option maxRecDepth 100000 in
theorem p_partsEndq1_0 (n : Nat) (a0 c1_ : Int) (hc1 : m_partsEndq1_1 n a0 = some c1_) : G_partsEndq1 a0 (w64 (c1_ + (1 : Int))) :=
  runF2 hm (L := lT [(4, ⟨⟨[0, 1], [], 0, 0⟩, (X_partsEndq1_1 c1_).1, (X_partsEndq1_1 c1_).2⟩)]) ⟨[4], [], 0, 0⟩ (ww (p := U_partsEndq1_1 none a0 c1_) (m_partsEndq1_1_ok n a0 c1_ hc1) <|
ee) (by kernel_rfl)
theorem m_partsEndq1_ok (n : Nat) (a0 : Int) (r : Int) (h : m_partsEndq1 n a0 = some r) : Gv P (.func 26) (A_partsEndq1 a0) (H_partsEndq1 a0) (V_partsEndq1 a0 r) (R_partsEndq1 a0 r) := by
  unfold m_partsEndq1 at h
  obtain ⟨c1_, hc1, h⟩ := Option.bind_eq_some_iff.1 h
  obtain rfl := Option.some.inj h; exact p_partsEndq1_0 n a0 c1_ hc1

noncomputable def A_slicesAppendSeqintint_1010y2 (a0 : List Int) (a1 : Int) : List Value := [(i6 a1)]
noncomputable def H_slicesAppendSeqintint_1010y2 (a0 : List Int) (a1 : Int) : AH := ⟨sB [(0, (some (rblk P 22 [false, true, false, true] .ready none [(2, (pN 2 0)), (6, (Value.func (.func 23) #[] #[(pN 4 0)]))] 1))), (1, (some (.marks true))), (2, (some (.cells (layT [(sN 3 0 (a0).length (Nat.add big 1))]) 28))), (3, (some (.cells (layT (iv a0)) 3))), (4, (some (.cells (layT [(sW 0 0 (Args.A).length Args.cA)]) 22)))], 5, 5⟩
noncomputable def V_slicesAppendSeqintint_1010y2 (a0 : List Int) (a1 : Int) (r : Unit) : Value := match r with
  | _ => (bO true)
noncomputable def R_slicesAppendSeqintint_1010y2 (a0 : List Int) (a1 : Int) (r : Unit) : AH := match r with
  | _ => ⟨sB [(0, (some (rblk P 22 [false, true, false, true] .ready none [(2, (pN 2 0)), (6, (Value.func (.func 23) #[] #[(pN 4 0)]))] 1))), (1, (some (.marks true))), (2, (some (.cells (layT [(sN 5 0 ((a0 ++ [a1])).length (Nat.add big 1))]) 28))), (4, (some (.cells (layT [(sW 0 0 (Args.A).length Args.cA)]) 22))), (5, (some (.cells (layT (iv (a0 ++ [a1]))) 3)))], 6, 0⟩
noncomputable abbrev G_slicesAppendSeqintint_1010y2 (a0 : List Int) (a1 : Int) (r : Unit) : Prop := Gv P (.yield 0) (A_slicesAppendSeqintint_1010y2 a0 a1) (H_slicesAppendSeqintint_1010y2 a0 a1) (V_slicesAppendSeqintint_1010y2 a0 a1 r) (R_slicesAppendSeqintint_1010y2 a0 a1 r)
noncomputable abbrev C_slicesAppendSeqintint_1010y2 (a0 : List Int) (a1 : Int) (r : Unit) (ins outs : BL) : CallA := ⟨5, ins, V_slicesAppendSeqintint_1010y2 a0 a1 r, R_slicesAppendSeqintint_1010y2 a0 a1 r, outs⟩
def m_slicesAppendSeqintint_1010y2 (n : Nat) (a0 : List Int) (a1 : Int) : Option (Unit) :=
  if ((a0).length + 1) * 8 ≤ 140737488355328 then
    some ()
  else none
set_option maxRecDepth 100000 in
theorem p_slicesAppendSeqintint_1010y2_0 (n : Nat) (a0 : List Int) (a1 : Int) (hc1 : ((a0).length + 1) * 8 ≤ 140737488355328) : G_slicesAppendSeqintint_1010y2 a0 a1 () :=
  runY_ok hm (A1 := aT []) (L1 := lT []) (A2 := aT [(4, .app ⟨none, iv a0, (iv (a0 ++ [a1])), ((a0 ++ [a1])).length, false⟩)]) (L2 := lT []) (wk := ⟨[], [(0, 0, false), (1, 1, false), (2, 2, false), (4, 4, false), (5, 6, true)], 6, 0⟩)
    (ps := [0 < 1,
 rdT (layT (iv a0)) (Nat.mul (a0).length 1) 0 = some (iv a0),
 fits (Nat.add (a0).length 1) 8 = true,
 allCells [(i6 a1)] = true,
 allCells (iv a0) = true,
 iv a0 ++ [(i6 a1)] = (iv (a0 ++ [a1])),
 Nat.add (a0).length 1 = ((a0 ++ [a1])).length,
 FlatB (.cells (layT (iv (a0 ++ [a1]))) 3)]) (by kernel_rfl) ⟨((by decide)), (iv_rd _), (fits_ok hc1 (by have := hc1; show (_ : Nat) + _ ≤ _; omega)), (rfl), (iv_cells _), (by simp [iv]), (by simp), (iv_flat (a0 ++ [a1]) 3), trivial⟩
theorem m_slicesAppendSeqintint_1010y2_ok (n : Nat) (a0 : List Int) (a1 : Int) (r : Unit) (h : m_slicesAppendSeqintint_1010y2 n a0 a1 = some r) : Gv P (.yield 0) (A_slicesAppendSeqintint_1010y2 a0 a1) (H_slicesAppendSeqintint_1010y2 a0 a1) (V_slicesAppendSeqintint_1010y2 a0 a1 r) (R_slicesAppendSeqintint_1010y2 a0 a1 r) := by
  unfold m_slicesAppendSeqintint_1010y2 at h
  by_cases hc1 : ((a0).length + 1) * 8 ≤ 140737488355328
  · rw [if_pos hc1] at h
    obtain rfl := Option.some.inj h; exact p_slicesAppendSeqintint_1010y2_0 n a0 a1 hc1
  · rw [if_neg hc1] at h; cases h

noncomputable def A_reusemaximal1q1 : List Value := [(Value.func (.yield 0) #[] #[]), (pN 3 0)]
noncomputable def H_reusemaximal1q1 : AH := ⟨sB [(0, (some (rblk P 22 [false, true, false, true] .ready none [(2, (pN 2 0)), (6, (Value.func (.func 23) #[] #[(pN 3 0)]))] 1))), (1, (some (.marks true))), (2, (some (.cells (layT [(Value.slice none 0 0)]) 28))), (3, (some (.cells (layT [(sW 0 0 (Args.A).length Args.cA)]) 22)))], 4, 4⟩
noncomputable def V_reusemaximal1q1 (r : List Int) : Value := match r with
  | o0 => (Value.tuple #[])
noncomputable def R_reusemaximal1q1 (r : List Int) : AH := match r with
  | o0 => ⟨sB [(0, (some (rblk P 22 [false, true, false, true] .ready none [(2, (pN 2 0)), (6, (Value.func (.func 23) #[] #[(pN 3 0)]))] 1))), (1, (some (.marks true))), (2, (some (.cells (layT [(slN o0 4)]) 28))), (3, (some (.cells (layT [(sW 0 0 (Args.A).length Args.cA)]) 22))), (4, (nblk o0 3))], 5, 0⟩
noncomputable abbrev G_reusemaximal1q1 (r : List Int) : Prop := Gv P (.func 23) A_reusemaximal1q1 H_reusemaximal1q1 (V_reusemaximal1q1  r) (R_reusemaximal1q1  r)
noncomputable abbrev C_reusemaximal1q1 (r : List Int) (ins outs : BL) : CallA := ⟨4, ins, V_reusemaximal1q1  r, R_reusemaximal1q1  r, outs⟩
noncomputable def S_reusemaximal1q1_1 (x1_1 : List (Bool)) (x1_2 : Nat) (st : List Int × Int) : XSt := match st with
  | (x1_0, x1_3) => (sT 26 [(0, (Value.func (.yield 0) #[] #[])), (1, (pN 3 0)), (3, (sN 5 0 x1_2 x1_2)), (4, (i6 x1_3))], [], ⟨sB [(0, (some (rblk P 22 [false, true, false, true] .ready none [(2, (pN 2 0)), (6, (Value.func (.func 23) #[] #[(pN 3 0)]))] 1))), (1, (some (.marks true))), (2, (some (.cells (layT [(slN x1_0 4)]) 28))), (3, (some (.cells (layT [(sW 0 0 (Args.A).length Args.cA)]) 22))), (4, (nblk x1_0 3)), (5, (some (.cells (layT (rows rw_b x1_1)) 4)))], 6, 0⟩)
noncomputable def X_reusemaximal1q1_1 (x1_1 : List (Bool)) (x1_2 : Nat) (r : List Int) : Ex × XSt := match r with
  | z1_0 => (.exit 0, (sT 26 [], [], ⟨sB [(0, (some (rblk P 22 [false, true, false, true] .ready none [(2, (pN 2 0)), (6, (Value.func (.func 23) #[] #[(pN 3 0)]))] 1))), (1, (some (.marks true))), (2, (some (.cells (layT [(slN z1_0 4)]) 28))), (3, (some (.cells (layT [(sW 0 0 (Args.A).length Args.cA)]) 22))), (4, (nblk z1_0 3))], 5, 0⟩))
noncomputable abbrev Q_reusemaximal1q1_1 (rnd : Option Nat) (x1_1 : List (Bool)) (x1_2 : Nat) (st : List Int × Int) (c : Ex × XSt) : Prop := CG P rnd (fnN P 23) 4 (codeOf P 23 [false, false, true, true]) (S_reusemaximal1q1_1 x1_1 x1_2 st) c
noncomputable abbrev U_reusemaximal1q1_1 (rd : Option Nat) (x1_1 : List (Bool)) (x1_2 : Nat) (st : List Int × Int) (r : List Int) : Prop := CG P rd (fnN P 23) 4 (codeOf P 23 [false, true, true]) (S_reusemaximal1q1_1 x1_1 x1_2 st) (X_reusemaximal1q1_1 x1_1 x1_2 r)
def B_reusemaximal1q1_1 (n : Nat) (x1_1 : List (Bool)) (x1_2 : Nat) (st : List Int × Int) : Option ((List Int × Int) ⊕ (List Int)) := match st with
  | (x1_0, x1_3) =>
    match x1_0 with
    | [] =>
      if x1_3 < ((x1_2 : Nat) : Int) then
        (m_reusereusableq1 n x1_1 x1_2 x1_2 x1_3).bind fun y1_2_ =>
        if y1_2_ = true then
          (m_slicesAppendSeqintint_1010y1 n x1_3).bind fun _ =>
          (m_partsEndq1 n x1_3).bind fun y1_5_ =>
          some (.inl ([x1_3], y1_5_))
        else
          some (.inl (([] : List Int), (w64 (x1_3 + (1 : Int)))))
      else
        some (.inr ([] : List Int))
    | x1_0a :: x1_0t =>
      if x1_3 < ((x1_2 : Nat) : Int) then
        (m_reusereusableq1 n x1_1 x1_2 x1_2 x1_3).bind fun y1_2_ =>
        if y1_2_ = true then
          (m_slicesAppendSeqintint_1010y2 n (x1_0a :: x1_0t) x1_3).bind fun _ =>
          (m_partsEndq1 n x1_3).bind fun y1_5_ =>
          some (.inl (((x1_0a :: x1_0t) ++ [x1_3]), y1_5_))
        else
          some (.inl ((x1_0a :: x1_0t), (w64 (x1_3 + (1 : Int)))))
      else
        some (.inr (x1_0a :: x1_0t))
def m_reusemaximal1q1_1 (n : Nat) (x1_1 : List (Bool)) (x1_2 : Nat) (st : List Int × Int) : Option (List Int) := iterM (B_reusemaximal1q1_1 n x1_1 x1_2) n st
set_option maxRecDepth 100000 in
theorem q_reusemaximal1q1_1_0 (n : Nat) {rnd : Option Nat} (x1_1 : List (Bool)) (x1_2 : Nat) (x1_3 : Int) (hy1_1 : x1_3 < ((x1_2 : Nat) : Int)) (y1_2_ : Bool) (hy1_2 : m_reusereusableq1 n x1_1 x1_2 x1_2 x1_3 = some y1_2_) (hy1_3 : y1_2_ = true) (hy1_4 : m_slicesAppendSeqintint_1010y1 n x1_3 = some ()) (y1_5_ : Int) (hy1_5 : m_partsEndq1 n x1_3 = some y1_5_) : Q_reusemaximal1q1_1 rnd x1_1 x1_2 (([] : List Int), x1_3) (.normal, S_reusemaximal1q1_1 x1_1 x1_2 ([x1_3], y1_5_)) :=
  runC2 hm (L := lT []) ⟨[0, 1, 3, 4], [(0, 0, false), (1, 1, false), (2, 2, false), (3, 3, false), (4, 6, false), (5, 5, true)], 6, 0⟩ (zz 5 (xdT hy1_1) <|
yy 17 (.call (C_reusereusableq1 x1_1 x1_2 x1_2 x1_3 y1_2_ [(0, 5, true)] [])) <|
ww (m_reusereusableq1_ok n x1_1 x1_2 x1_2 x1_3 y1_2_ hy1_2) <|
ww (rows_flat rwf_b x1_1 4) <|
zz 18 (xbT hy1_3) <|
yy 23 (.call (C_slicesAppendSeqintint_1010y1 x1_3 () [(0, 0, false), (1, 1, false), (2, 2, false), (3, 3, false)] [(0, 0, false), (1, 1, false), (2, 2, false), (3, 3, false), (6, 4, false)])) <|
ww (m_slicesAppendSeqintint_1010y1_ok n x1_3 () hy1_4) <|
yy 28 (.call (C_partsEndq1 x1_3 y1_5_ [] [])) <|
ww (m_partsEndq1_ok n x1_3 y1_5_ hy1_5) <|
ww (rows_flat rwf_b x1_1 4) <|
ee) (by kernel_rfl)
set_option maxRecDepth 100000 in
theorem q_reusemaximal1q1_1_1 (n : Nat) {rnd : Option Nat} (x1_1 : List (Bool)) (x1_2 : Nat) (x1_3 : Int) (hy1_1 : x1_3 < ((x1_2 : Nat) : Int)) (y1_2_ : Bool) (hy1_2 : m_reusereusableq1 n x1_1 x1_2 x1_2 x1_3 = some y1_2_) (hy1_3 : ¬ (y1_2_ = true)) : Q_reusemaximal1q1_1 rnd x1_1 x1_2 (([] : List Int), x1_3) (.normal, S_reusemaximal1q1_1 x1_1 x1_2 (([] : List Int), (w64 (x1_3 + (1 : Int))))) :=
  runC2 hm (L := lT []) ⟨[0, 1, 3, 4], [(0, 0, false), (1, 1, false), (2, 2, false), (3, 3, false), (5, 5, true)], 6, 0⟩ (zz 5 (xdT hy1_1) <|
yy 17 (.call (C_reusereusableq1 x1_1 x1_2 x1_2 x1_3 y1_2_ [(0, 5, true)] [])) <|
ww (m_reusereusableq1_ok n x1_1 x1_2 x1_2 x1_3 y1_2_ hy1_2) <|
ww (rows_flat rwf_b x1_1 4) <|
zz 18 (xbF hy1_3) <|
ww (rows_flat rwf_b x1_1 4) <|
ee) (by kernel_rfl)
set_option maxRecDepth 100000 in
theorem q_reusemaximal1q1_1_2 (n : Nat) {rnd : Option Nat} (x1_1 : List (Bool)) (x1_2 : Nat) (x1_3 : Int) (hy1_1 : ¬ (x1_3 < ((x1_2 : Nat) : Int))) : Q_reusemaximal1q1_1 rnd x1_1 x1_2 (([] : List Int), x1_3) (X_reusemaximal1q1_1 x1_1 x1_2 ([] : List Int)) :=
  runC2 hm (L := lT []) ⟨[], [(0, 0, false), (1, 1, false), (2, 2, false), (3, 3, false)], 5, 0⟩ (zz 5 (xdF hy1_1) <|
ee) (by kernel_rfl)
set_option maxRecDepth 100000 in
theorem q_reusemaximal1q1_1_3 (n : Nat) {rnd : Option Nat} (x1_0a : Int) (x1_0t : List (Int)) (x1_1 : List (Bool)) (x1_2 : Nat) (x1_3 : Int) (hy1_1 : x1_3 < ((x1_2 : Nat) : Int)) (y1_2_ : Bool) (hy1_2 : m_reusereusableq1 n x1_1 x1_2 x1_2 x1_3 = some y1_2_) (hy1_3 : y1_2_ = true) (hy1_4 : m_slicesAppendSeqintint_1010y2 n (x1_0a :: x1_0t) x1_3 = some ()) (y1_5_ : Int) (hy1_5 : m_partsEndq1 n x1_3 = some y1_5_) : Q_reusemaximal1q1_1 rnd x1_1 x1_2 ((x1_0a :: x1_0t), x1_3) (.normal, S_reusemaximal1q1_1 x1_1 x1_2 (((x1_0a :: x1_0t) ++ [x1_3]), y1_5_)) :=
  runC2 hm (L := lT []) ⟨[0, 1, 3, 4], [(0, 0, false), (1, 1, false), (2, 2, false), (3, 3, false), (4, 6, true), (5, 5, true)], 6, 0⟩ (zz 5 (xdT hy1_1) <|
yy 17 (.call (C_reusereusableq1 x1_1 x1_2 x1_2 x1_3 y1_2_ [(0, 5, true)] [])) <|
ww (m_reusereusableq1_ok n x1_1 x1_2 x1_2 x1_3 y1_2_ hy1_2) <|
ww (rows_flat rwf_b x1_1 4) <|
zz 18 (xbT hy1_3) <|
yy 23 (.call (C_slicesAppendSeqintint_1010y2 (x1_0a :: x1_0t) x1_3 () [(0, 0, false), (1, 1, false), (2, 2, false), (3, 4, true), (4, 3, false)] [(0, 0, false), (1, 1, false), (2, 2, false), (3, 4, false), (6, 5, true)])) <|
ww (m_slicesAppendSeqintint_1010y2_ok n (x1_0a :: x1_0t) x1_3 () hy1_4) <|
ww (iv_flat (x1_0a :: x1_0t) 3) <|
ww (iv_flat ((x1_0a :: x1_0t) ++ [x1_3]) 3) <|
yy 28 (.call (C_partsEndq1 x1_3 y1_5_ [] [])) <|
ww (m_partsEndq1_ok n x1_3 y1_5_ hy1_5) <|
ww (iv_flat ((x1_0a :: x1_0t) ++ [x1_3]) 3) <|
ww (rows_flat rwf_b x1_1 4) <|
ee) (by kernel_rfl)
set_option maxRecDepth 100000 in
theorem q_reusemaximal1q1_1_4 (n : Nat) {rnd : Option Nat} (x1_0a : Int) (x1_0t : List (Int)) (x1_1 : List (Bool)) (x1_2 : Nat) (x1_3 : Int) (hy1_1 : x1_3 < ((x1_2 : Nat) : Int)) (y1_2_ : Bool) (hy1_2 : m_reusereusableq1 n x1_1 x1_2 x1_2 x1_3 = some y1_2_) (hy1_3 : ¬ (y1_2_ = true)) : Q_reusemaximal1q1_1 rnd x1_1 x1_2 ((x1_0a :: x1_0t), x1_3) (.normal, S_reusemaximal1q1_1 x1_1 x1_2 ((x1_0a :: x1_0t), (w64 (x1_3 + (1 : Int))))) :=
  runC2 hm (L := lT []) ⟨[0, 1, 3, 4], [(0, 0, false), (1, 1, false), (2, 2, false), (3, 3, false), (4, 4, true), (5, 5, true)], 6, 0⟩ (zz 5 (xdT hy1_1) <|
yy 17 (.call (C_reusereusableq1 x1_1 x1_2 x1_2 x1_3 y1_2_ [(0, 5, true)] [])) <|
ww (m_reusereusableq1_ok n x1_1 x1_2 x1_2 x1_3 y1_2_ hy1_2) <|
ww (rows_flat rwf_b x1_1 4) <|
zz 18 (xbF hy1_3) <|
ww (iv_flat (x1_0a :: x1_0t) 3) <|
ww (rows_flat rwf_b x1_1 4) <|
ee) (by kernel_rfl)
set_option maxRecDepth 100000 in
theorem q_reusemaximal1q1_1_5 (n : Nat) {rnd : Option Nat} (x1_0a : Int) (x1_0t : List (Int)) (x1_1 : List (Bool)) (x1_2 : Nat) (x1_3 : Int) (hy1_1 : ¬ (x1_3 < ((x1_2 : Nat) : Int))) : Q_reusemaximal1q1_1 rnd x1_1 x1_2 ((x1_0a :: x1_0t), x1_3) (X_reusemaximal1q1_1 x1_1 x1_2 (x1_0a :: x1_0t)) :=
  runC2 hm (L := lT []) ⟨[], [(0, 0, false), (1, 1, false), (2, 2, false), (3, 3, false), (4, 4, true)], 5, 0⟩ (zz 5 (xdF hy1_1) <|
ww (iv_flat (x1_0a :: x1_0t) 3) <|
ee) (by kernel_rfl)
theorem m_reusemaximal1q1_1_ok (n : Nat) {rnd : Option Nat} (x1_1 : List (Bool)) (x1_2 : Nat) (st : List Int × Int) (r : List Int) (h : m_reusemaximal1q1_1 n x1_1 x1_2 st = some r) : CG P rnd (fnN P 23) 4 (codeOf P 23 [false, true, true]) (S_reusemaximal1q1_1 x1_1 x1_2 st) (X_reusemaximal1q1_1 x1_1 x1_2 r) :=
  CG.iter (b := codeOf P 23 [false, false, true, true]) (by kernel_rfl) (body := B_reusemaximal1q1_1 n x1_1 x1_2) (S := S_reusemaximal1q1_1 x1_1 x1_2) (X := X_reusemaximal1q1_1 x1_1 x1_2)
    (fun s s' h => by
    obtain ⟨x1_0, x1_3⟩ := s
    unfold B_reusemaximal1q1_1 at h
    dsimp only at h
    cases x1_0 with
    | nil =>
      dsimp only at h
      by_cases hy1_1 : x1_3 < ((x1_2 : Nat) : Int)
      · rw [if_pos hy1_1] at h
        obtain ⟨y1_2_, hy1_2, h⟩ := Option.bind_eq_some_iff.1 h
        by_cases hy1_3 : y1_2_ = true
        · rw [if_pos hy1_3] at h
          obtain ⟨_, hy1_4, h⟩ := Option.bind_eq_some_iff.1 h
          obtain ⟨y1_5_, hy1_5, h⟩ := Option.bind_eq_some_iff.1 h
          obtain rfl := Sum.inl.inj (Option.some.inj h); exact q_reusemaximal1q1_1_0 n x1_1 x1_2 x1_3 hy1_1 y1_2_ hy1_2 hy1_3 hy1_4 y1_5_ hy1_5
        · rw [if_neg hy1_3] at h
          obtain rfl := Sum.inl.inj (Option.some.inj h); exact q_reusemaximal1q1_1_1 n x1_1 x1_2 x1_3 hy1_1 y1_2_ hy1_2 hy1_3
      · rw [if_neg hy1_1] at h
        cases h
    | cons x1_0a x1_0t =>
      dsimp only at h
      by_cases hy1_1 : x1_3 < ((x1_2 : Nat) : Int)
      · rw [if_pos hy1_1] at h
        obtain ⟨y1_2_, hy1_2, h⟩ := Option.bind_eq_some_iff.1 h
        by_cases hy1_3 : y1_2_ = true
        · rw [if_pos hy1_3] at h
          obtain ⟨_, hy1_4, h⟩ := Option.bind_eq_some_iff.1 h
          obtain ⟨y1_5_, hy1_5, h⟩ := Option.bind_eq_some_iff.1 h
          obtain rfl := Sum.inl.inj (Option.some.inj h); exact q_reusemaximal1q1_1_3 n x1_0a x1_0t x1_1 x1_2 x1_3 hy1_1 y1_2_ hy1_2 hy1_3 hy1_4 y1_5_ hy1_5
        · rw [if_neg hy1_3] at h
          obtain rfl := Sum.inl.inj (Option.some.inj h); exact q_reusemaximal1q1_1_4 n x1_0a x1_0t x1_1 x1_2 x1_3 hy1_1 y1_2_ hy1_2 hy1_3
      · rw [if_neg hy1_1] at h
        cases h)
    (fun s r h => by
    obtain ⟨x1_0, x1_3⟩ := s
    unfold B_reusemaximal1q1_1 at h
    dsimp only at h
    cases x1_0 with
    | nil =>
      dsimp only at h
      by_cases hy1_1 : x1_3 < ((x1_2 : Nat) : Int)
      · rw [if_pos hy1_1] at h
        obtain ⟨y1_2_, hy1_2, h⟩ := Option.bind_eq_some_iff.1 h
        by_cases hy1_3 : y1_2_ = true
        · rw [if_pos hy1_3] at h
          obtain ⟨_, hy1_4, h⟩ := Option.bind_eq_some_iff.1 h
          obtain ⟨y1_5_, hy1_5, h⟩ := Option.bind_eq_some_iff.1 h
          cases h
        · rw [if_neg hy1_3] at h
          cases h
      · rw [if_neg hy1_1] at h
        obtain rfl := Sum.inr.inj (Option.some.inj h); exact q_reusemaximal1q1_1_2 n x1_1 x1_2 x1_3 hy1_1
    | cons x1_0a x1_0t =>
      dsimp only at h
      by_cases hy1_1 : x1_3 < ((x1_2 : Nat) : Int)
      · rw [if_pos hy1_1] at h
        obtain ⟨y1_2_, hy1_2, h⟩ := Option.bind_eq_some_iff.1 h
        by_cases hy1_3 : y1_2_ = true
        · rw [if_pos hy1_3] at h
          obtain ⟨_, hy1_4, h⟩ := Option.bind_eq_some_iff.1 h
          obtain ⟨y1_5_, hy1_5, h⟩ := Option.bind_eq_some_iff.1 h
          cases h
        · rw [if_neg hy1_3] at h
          cases h
      · rw [if_neg hy1_1] at h
        obtain rfl := Sum.inr.inj (Option.some.inj h); exact q_reusemaximal1q1_1_5 n x1_0a x1_0t x1_1 x1_2 x1_3 hy1_1)
    (fun r => by intro hx; cases hx) h
def m_reusemaximal1q1 (n : Nat) : Option (List Int) :=
  (m_treeStaleq1 n).bind fun t => match t with
  | (c1_0, c1_1) =>
    (m_reusemaximal1q1_1 n c1_0 c1_1 (([] : List Int), 0)).bind fun c2_ =>
    match c2_ with
    | [] =>
      some ([] : List Int)
    | c2_a :: c2_t =>
      some (c2_a :: c2_t)
set_option maxRecDepth 100000 in
theorem p_reusemaximal1q1_0 (n : Nat) (c1_0 : List (Bool)) (c1_1 : Nat) (hc1 : m_treeStaleq1 n = some (c1_0, c1_1)) (hc2 : m_reusemaximal1q1_1 n c1_0 c1_1 (([] : List Int), 0) = some []) : G_reusemaximal1q1  ([] : List Int) :=
  runF2 hm (L := lT [(7, ⟨⟨[0, 1, 3, 4], [(0, 0, false), (1, 1, false), (2, 2, false), (3, 3, false), (5, 5, true)], 6, 0⟩, (X_reusemaximal1q1_1 c1_0 c1_1 ([] : List Int)).1, (X_reusemaximal1q1_1 c1_0 c1_1 ([] : List Int)).2⟩)]) ⟨[], [(0, 0, false), (1, 1, false), (2, 2, false), (3, 3, false)], 5, 0⟩ (yy 2 (.call (C_treeStaleq1  (c1_0, c1_1) [] [(5, 1, true)])) <|
ww (m_treeStaleq1_ok n  (c1_0, c1_1) hc1) <|
ww (rows_flat rwf_b c1_0 4) <|
ww (p := U_reusemaximal1q1_1 none c1_0 c1_1 (([] : List Int), 0) ([] : List Int)) (m_reusemaximal1q1_1_ok n c1_0 c1_1 (([] : List Int), 0) ([] : List Int) hc2) <|
ww (rows_flat rwf_b c1_0 4) <|
ee) (by kernel_rfl)
set_option maxRecDepth 100000 in
theorem p_reusemaximal1q1_1 (n : Nat) (c1_0 : List (Bool)) (c1_1 : Nat) (hc1 : m_treeStaleq1 n = some (c1_0, c1_1)) (c2_a : Int) (c2_t : List (Int)) (hc2 : m_reusemaximal1q1_1 n c1_0 c1_1 (([] : List Int), 0) = some (c2_a :: c2_t)) : G_reusemaximal1q1  (c2_a :: c2_t) :=
  runF2 hm (L := lT [(7, ⟨⟨[0, 1, 3, 4], [(0, 0, false), (1, 1, false), (2, 2, false), (3, 3, false), (5, 5, true)], 6, 0⟩, (X_reusemaximal1q1_1 c1_0 c1_1 (c2_a :: c2_t)).1, (X_reusemaximal1q1_1 c1_0 c1_1 (c2_a :: c2_t)).2⟩)]) ⟨[], [(0, 0, false), (1, 1, false), (2, 2, false), (3, 3, false), (4, 4, true)], 5, 0⟩ (yy 2 (.call (C_treeStaleq1  (c1_0, c1_1) [] [(5, 1, true)])) <|
ww (m_treeStaleq1_ok n  (c1_0, c1_1) hc1) <|
ww (rows_flat rwf_b c1_0 4) <|
ww (p := U_reusemaximal1q1_1 none c1_0 c1_1 (([] : List Int), 0) (c2_a :: c2_t)) (m_reusemaximal1q1_1_ok n c1_0 c1_1 (([] : List Int), 0) (c2_a :: c2_t) hc2) <|
ww (rows_flat rwf_b c1_0 4) <|
ww (iv_flat (c2_a :: c2_t) 3) <|
ee) (by kernel_rfl)
theorem m_reusemaximal1q1_ok (n : Nat) (r : List Int) (h : m_reusemaximal1q1 n = some r) : Gv P (.func 23) A_reusemaximal1q1 H_reusemaximal1q1 (V_reusemaximal1q1  r) (R_reusemaximal1q1  r) := by
  unfold m_reusemaximal1q1 at h
  obtain ⟨⟨c1_0, c1_1⟩, hc1, h⟩ := Option.bind_eq_some_iff.1 h
  dsimp only at h
  obtain ⟨c2_, hc2, h⟩ := Option.bind_eq_some_iff.1 h
  cases c2_ with
  | nil =>
    dsimp only at h
    obtain rfl := Option.some.inj h; exact p_reusemaximal1q1_0 n c1_0 c1_1 hc1 hc2
  | cons c2_a c2_t =>
    dsimp only at h
    obtain rfl := Option.some.inj h; exact p_reusemaximal1q1_1 n c1_0 c1_1 hc1 c2_a c2_t hc2

noncomputable def A_slicesAppendSeqintintq1 : List Value := [(Value.slice none 0 0), (Value.func (.func 23) #[] #[(pN 0 0)])]
noncomputable def H_slicesAppendSeqintintq1 : AH := ⟨sB [(0, (some (.cells (layT [(sW 0 0 (Args.A).length Args.cA)]) 22)))], 1, 1⟩
noncomputable def V_slicesAppendSeqintintq1 (r : List Int) : Value := match r with
  | o0 => (slN o0 2)
noncomputable def R_slicesAppendSeqintintq1 (r : List Int) : AH := match r with
  | o0 => ⟨sB [(0, (some (.cells (layT [(sW 0 0 (Args.A).length Args.cA)]) 22))), (1, (some (.marks false))), (2, (nblk o0 3))], 3, 0⟩
noncomputable abbrev G_slicesAppendSeqintintq1 (r : List Int) : Prop := Gv P (.func 22) A_slicesAppendSeqintintq1 H_slicesAppendSeqintintq1 (V_slicesAppendSeqintintq1  r) (R_slicesAppendSeqintintq1  r)
noncomputable abbrev C_slicesAppendSeqintintq1 (r : List Int) (ins outs : BL) : CallA := ⟨1, ins, V_slicesAppendSeqintintq1  r, R_slicesAppendSeqintintq1  r, outs⟩
def m_slicesAppendSeqintintq1 (n : Nat) : Option (List Int) :=
  (m_reusemaximal1q1 n).bind fun c1_ =>
  match c1_ with
  | [] =>
    some ([] : List Int)
  | c1_a :: c1_t =>
    some (c1_a :: c1_t)
set_option maxRecDepth 100000 in
theorem p_slicesAppendSeqintintq1_0 (n : Nat) (hc1 : m_reusemaximal1q1 n = some []) : G_slicesAppendSeqintintq1  ([] : List Int) :=
  runF2 hm (L := lT []) ⟨[4], [(0, 0, false), (1, 2, false)], 3, 0⟩ (yy 7 (.rng (C_reusemaximal1q1  ([] : List Int) [(0, 3, false), (1, 2, false), (2, 1, false), (3, 0, false)] [(3, 0, false), (2, 1, false), (1, 2, false), (0, 3, false)]) [2, 6]) <|
ww (m_reusemaximal1q1_ok n  ([] : List Int) hc1) <|
ee) (by kernel_rfl)
set_option maxRecDepth 100000 in
theorem p_slicesAppendSeqintintq1_1 (n : Nat) (c1_a : Int) (c1_t : List (Int)) (hc1 : m_reusemaximal1q1 n = some (c1_a :: c1_t)) : G_slicesAppendSeqintintq1  (c1_a :: c1_t) :=
  runF2 hm (L := lT []) ⟨[4], [(0, 0, false), (1, 2, false), (2, 4, true)], 3, 0⟩ (yy 7 (.rng (C_reusemaximal1q1  (c1_a :: c1_t) [(0, 3, false), (1, 2, false), (2, 1, false), (3, 0, false)] [(3, 0, false), (2, 1, false), (1, 2, false), (0, 3, false), (4, 4, true)]) [2, 6]) <|
ww (m_reusemaximal1q1_ok n  (c1_a :: c1_t) hc1) <|
ww (iv_flat (c1_a :: c1_t) 3) <|
ww (iv_flat (c1_a :: c1_t) 3) <|
ee) (by kernel_rfl)
theorem m_slicesAppendSeqintintq1_ok (n : Nat) (r : List Int) (h : m_slicesAppendSeqintintq1 n = some r) : Gv P (.func 22) A_slicesAppendSeqintintq1 H_slicesAppendSeqintintq1 (V_slicesAppendSeqintintq1  r) (R_slicesAppendSeqintintq1  r) := by
  unfold m_slicesAppendSeqintintq1 at h
  obtain ⟨c1_, hc1, h⟩ := Option.bind_eq_some_iff.1 h
  cases c1_ with
  | nil =>
    dsimp only at h
    obtain rfl := Option.some.inj h; exact p_slicesAppendSeqintintq1_0 n hc1
  | cons c1_a c1_t =>
    dsimp only at h
    obtain rfl := Option.some.inj h; exact p_slicesAppendSeqintintq1_1 n c1_a c1_t hc1

noncomputable def A_slicesCollectintq1 : List Value := [(Value.func (.func 23) #[] #[(pN 0 0)])]
noncomputable def H_slicesCollectintq1 : AH := ⟨sB [(0, (some (.cells (layT [(sW 0 0 (Args.A).length Args.cA)]) 22)))], 1, 1⟩
noncomputable def V_slicesCollectintq1 (r : List Int) : Value := match r with
  | o0 => (slN o0 1)
noncomputable def R_slicesCollectintq1 (r : List Int) : AH := match r with
  | o0 => ⟨sB [(0, (some (.cells (layT [(sW 0 0 (Args.A).length Args.cA)]) 22))), (1, (nblk o0 3))], 2, 0⟩
noncomputable abbrev G_slicesCollectintq1 (r : List Int) : Prop := Gv P (.func 16) A_slicesCollectintq1 H_slicesCollectintq1 (V_slicesCollectintq1  r) (R_slicesCollectintq1  r)
noncomputable abbrev C_slicesCollectintq1 (r : List Int) (ins outs : BL) : CallA := ⟨1, ins, V_slicesCollectintq1  r, R_slicesCollectintq1  r, outs⟩
def m_slicesCollectintq1 (n : Nat) : Option (List Int) :=
  (m_slicesAppendSeqintintq1 n).bind fun c1_ =>
  match c1_ with
  | [] =>
    some ([] : List Int)
  | c1_a :: c1_t =>
    some (c1_a :: c1_t)
set_option maxRecDepth 100000 in
theorem p_slicesCollectintq1_0 (n : Nat) (hc1 : m_slicesAppendSeqintintq1 n = some []) : G_slicesCollectintq1  ([] : List Int) :=
  runF2 hm (L := lT []) ⟨[2], [(0, 0, false)], 2, 0⟩ (yy 4 (.call (C_slicesAppendSeqintintq1  ([] : List Int) [(0, 0, false)] [(0, 0, false)])) <|
ww (m_slicesAppendSeqintintq1_ok n  ([] : List Int) hc1) <|
ee) (by kernel_rfl)
set_option maxRecDepth 100000 in
theorem p_slicesCollectintq1_1 (n : Nat) (c1_a : Int) (c1_t : List (Int)) (hc1 : m_slicesAppendSeqintintq1 n = some (c1_a :: c1_t)) : G_slicesCollectintq1  (c1_a :: c1_t) :=
  runF2 hm (L := lT []) ⟨[2], [(0, 0, false), (1, 2, true)], 2, 0⟩ (yy 4 (.call (C_slicesAppendSeqintintq1  (c1_a :: c1_t) [(0, 0, false)] [(0, 0, false), (2, 2, true)])) <|
ww (m_slicesAppendSeqintintq1_ok n  (c1_a :: c1_t) hc1) <|
ww (iv_flat (c1_a :: c1_t) 3) <|
ww (iv_flat (c1_a :: c1_t) 3) <|
ee) (by kernel_rfl)
theorem m_slicesCollectintq1_ok (n : Nat) (r : List Int) (h : m_slicesCollectintq1 n = some r) : Gv P (.func 16) A_slicesCollectintq1 H_slicesCollectintq1 (V_slicesCollectintq1  r) (R_slicesCollectintq1  r) := by
  unfold m_slicesCollectintq1 at h
  obtain ⟨c1_, hc1, h⟩ := Option.bind_eq_some_iff.1 h
  cases c1_ with
  | nil =>
    dsimp only at h
    obtain rfl := Option.some.inj h; exact p_slicesCollectintq1_0 n hc1
  | cons c1_a c1_t =>
    dsimp only at h
    obtain rfl := Option.some.inj h; exact p_slicesCollectintq1_1 n c1_a c1_t hc1

noncomputable def A_reuseAllq1 : List Value := [(sW 0 0 (Args.A).length Args.cA)]
noncomputable def H_reuseAllq1 : AH := ⟨sB [], 0, 0⟩
noncomputable def V_reuseAllq1 (r : List Int) : Value := match r with
  | o0 => (slN o0 0)
noncomputable def R_reuseAllq1 (r : List Int) : AH := match r with
  | o0 => ⟨sB [(0, (nblk o0 3))], 1, 0⟩
noncomputable abbrev G_reuseAllq1 (r : List Int) : Prop := Gv P (.func 8) A_reuseAllq1 H_reuseAllq1 (V_reuseAllq1  r) (R_reuseAllq1  r)
noncomputable abbrev C_reuseAllq1 (r : List Int) (ins outs : BL) : CallA := ⟨0, ins, V_reuseAllq1  r, R_reuseAllq1  r, outs⟩
def m_reuseAllq1 (n : Nat) : Option (List Int) :=
  (m_reusemaximalq1 n).bind fun _ =>
  (m_slicesCollectintq1 n).bind fun c2_ =>
  match c2_ with
  | [] =>
    some ([] : List Int)
  | c2_a :: c2_t =>
    some (c2_a :: c2_t)
set_option maxRecDepth 100000 in
theorem p_reuseAllq1_0 (n : Nat) (hc1 : m_reusemaximalq1 n = some ()) (hc2 : m_slicesCollectintq1 n = some []) : G_reuseAllq1  ([] : List Int) :=
  runF2 hm (L := lT []) ⟨[2], [], 1, 0⟩ (yy 4 (.call (C_reusemaximalq1  () [] [(0, 0, false)])) <|
ww (m_reusemaximalq1_ok n  () hc1) <|
yy 5 (.call (C_slicesCollectintq1  ([] : List Int) [(0, 0, false)] [(0, 0, false)])) <|
ww (m_slicesCollectintq1_ok n  ([] : List Int) hc2) <|
ee) (by kernel_rfl)
set_option maxRecDepth 100000 in
theorem p_reuseAllq1_1 (n : Nat) (hc1 : m_reusemaximalq1 n = some ()) (c2_a : Int) (c2_t : List (Int)) (hc2 : m_slicesCollectintq1 n = some (c2_a :: c2_t)) : G_reuseAllq1  (c2_a :: c2_t) :=
  runF2 hm (L := lT []) ⟨[2], [(0, 1, true)], 1, 0⟩ (yy 4 (.call (C_reusemaximalq1  () [] [(0, 0, false)])) <|
ww (m_reusemaximalq1_ok n  () hc1) <|
yy 5 (.call (C_slicesCollectintq1  (c2_a :: c2_t) [(0, 0, false)] [(0, 0, false), (1, 1, true)])) <|
ww (m_slicesCollectintq1_ok n  (c2_a :: c2_t) hc2) <|
ww (iv_flat (c2_a :: c2_t) 3) <|
ww (iv_flat (c2_a :: c2_t) 3) <|
ee) (by kernel_rfl)
theorem m_reuseAllq1_ok (n : Nat) (r : List Int) (h : m_reuseAllq1 n = some r) : Gv P (.func 8) A_reuseAllq1 H_reuseAllq1 (V_reuseAllq1  r) (R_reuseAllq1  r) := by
  unfold m_reuseAllq1 at h
  obtain ⟨_, hc1, h⟩ := Option.bind_eq_some_iff.1 h
  obtain ⟨c2_, hc2, h⟩ := Option.bind_eq_some_iff.1 h
  cases c2_ with
  | nil =>
    dsimp only at h
    obtain rfl := Option.some.inj h; exact p_reuseAllq1_0 n hc1 hc2
  | cons c2_a c2_t =>
    dsimp only at h
    obtain rfl := Option.some.inj h; exact p_reuseAllq1_1 n hc1 c2_a c2_t hc2

noncomputable def A_viewportref16Staleq1 : List Value := [(sW 0 0 (Args.A).length Args.cA)]
noncomputable def H_viewportref16Staleq1 : AH := ⟨sB [], 0, 0⟩
noncomputable def V_viewportref16Staleq1 (r : List (Bool) × Nat) : Value := match r with
  | (o0, o1) => (sN 0 0 o1 o1)
noncomputable def R_viewportref16Staleq1 (r : List (Bool) × Nat) : AH := match r with
  | (o0, o1) => ⟨sB [(0, (some (.cells (layT (rows rw_b o0)) 4)))], 1, 0⟩
noncomputable abbrev G_viewportref16Staleq1 (r : List (Bool) × Nat) : Prop := Gv P (.func 9) A_viewportref16Staleq1 H_viewportref16Staleq1 (V_viewportref16Staleq1  r) (R_viewportref16Staleq1  r)
noncomputable abbrev C_viewportref16Staleq1 (r : List (Bool) × Nat) (ins outs : BL) : CallA := ⟨0, ins, V_viewportref16Staleq1  r, R_viewportref16Staleq1  r, outs⟩
noncomputable def S_viewportref16Staleq1_2 (x2_1 : Nat) (x2_2 : Int) (st : List (Bool) × Int) : XSt := match st with
  | (x2_0, x2_3) => (sT 59 [(0, (sW 0 0 (Args.A).length Args.cA)), (3, (sN 0 0 x2_1 x2_1)), (4, (i6 x2_2)), (5, (i6 x2_3))], [], ⟨sB [(0, (some (.cells (layT (rows rw_b x2_0)) 4)))], 1, 0⟩)
noncomputable def X_viewportref16Staleq1_2 (x2_1 : Nat) (x2_2 : Int) (r : List (Bool)) : Ex × XSt := match r with
  | z2_0 => (.exit 2, (sT 59 [(0, (sW 0 0 (Args.A).length Args.cA)), (3, (sN 0 0 x2_1 x2_1)), (4, (i6 x2_2))], [], ⟨sB [(0, (some (.cells (layT (rows rw_b z2_0)) 4)))], 1, 0⟩))
noncomputable abbrev Q_viewportref16Staleq1_2 (rnd : Option Nat) (x2_1 : Nat) (x2_2 : Int) (st : List (Bool) × Int) (c : Ex × XSt) : Prop := CG P rnd (fnN P 9) 0 (codeOf P 9 [false, false, true, true, false, false, true, false, false, true, false, true, true, true]) (S_viewportref16Staleq1_2 x2_1 x2_2 st) c
noncomputable abbrev U_viewportref16Staleq1_2 (rd : Option Nat) (x2_1 : Nat) (x2_2 : Int) (st : List (Bool) × Int) (r : List (Bool)) : Prop := CG P rd (fnN P 9) 0 (codeOf P 9 [false, true, true, false, false, true, false, false, true, false, true, true, true]) (S_viewportref16Staleq1_2 x2_1 x2_2 st) (X_viewportref16Staleq1_2 x2_1 x2_2 r)
def B_viewportref16Staleq1_2 (n : Nat) (x2_1 : Nat) (x2_2 : Int) (st : List (Bool) × Int) : Option ((List (Bool) × Int) ⊕ (List (Bool))) := match st with
  | (x2_0, x2_3) =>
    if 0 ≤ x2_2 ∧ x2_2 < (((Args.A).length : Nat) : Int) then
      ((some ((Args.A).getD (x2_2).toNat (0, 0, 0, 0, 0, 0, nl0, 0)))).bind fun y2_2_ =>
      if x2_3 < ((((y2_2_.2.2.2.2.2.2.1)).l.length : Nat) : Int) then
        if 0 ≤ x2_2 ∧ x2_2 < ((x2_1 : Nat) : Int) then
          if (x2_2).toNat < (x2_0).length then
            ((some ((x2_0).getD (x2_2).toNat (false)))).bind fun y2_6_ =>
            if y2_6_ = true then
              some (.inl (((x2_0).set (x2_2).toNat true), (w64 (x2_3 + (1 : Int)))))
            else
              if 0 ≤ x2_3 ∧ x2_3 < ((((y2_2_.2.2.2.2.2.2.1)).l.length : Nat) : Int) then
                if (x2_3).toNat < (((y2_2_.2.2.2.2.2.2.1)).l).length then
                  ((some ((((y2_2_.2.2.2.2.2.2.1)).l).getD (x2_3).toNat 0))).bind fun y2_10_ =>
                  if 0 ≤ y2_10_ ∧ y2_10_ < ((x2_1 : Nat) : Int) then
                    if (y2_10_).toNat < (x2_0).length then
                      ((some ((x2_0).getD (y2_10_).toNat (false)))).bind fun y2_13_ =>
                      some (.inl (((x2_0).set (x2_2).toNat y2_13_), (w64 (x2_3 + (1 : Int)))))
                    else none
                  else none
                else none
              else none
          else none
        else none
      else
        some (.inr x2_0)
    else none
def m_viewportref16Staleq1_2 (n : Nat) (x2_1 : Nat) (x2_2 : Int) (st : List (Bool) × Int) : Option (List (Bool)) := iterM (B_viewportref16Staleq1_2 n x2_1 x2_2) n st
set_option maxRecDepth 100000 in
theorem q_viewportref16Staleq1_2_0 (n : Nat) {rnd : Option Nat} (x2_0 : List (Bool)) (x2_1 : Nat) (x2_2 x2_3 : Int) (hy2_1 : 0 ≤ x2_2 ∧ x2_2 < (((Args.A).length : Nat) : Int)) (y2_2_ : Int × Int × Int × Int × Int × Int × NL × Int) (hy2_2 : (some ((Args.A).getD (x2_2).toNat (0, 0, 0, 0, 0, 0, nl0, 0))) = some y2_2_) (hy2_3 : x2_3 < ((((y2_2_.2.2.2.2.2.2.1)).l.length : Nat) : Int)) (hy2_4 : 0 ≤ x2_2 ∧ x2_2 < ((x2_1 : Nat) : Int)) (hy2_5 : (x2_2).toNat < (x2_0).length) (y2_6_ : Bool) (hy2_6 : (some ((x2_0).getD (x2_2).toNat (false))) = some y2_6_) (hy2_7 : y2_6_ = true) : Q_viewportref16Staleq1_2 rnd x2_1 x2_2 (x2_0, x2_3) (.normal, S_viewportref16Staleq1_2 x2_1 x2_2 (((x2_0).set (x2_2).toNat true), (w64 (x2_3 + (1 : Int))))) :=
  runC2 hm (L := lT []) ⟨[0, 3, 4, 5], [(0, 0, true)], 1, 0⟩ (zz 5 (xk1 0 Args.cA hy2_1) <|
zz 6 (fk7 ((x2_2).toNat * 8)) <|
zz 7 (lk8 hy2_2 (toNatLt hy2_1)) <|
zz 9 (xdT hy2_3) <|
zz 17 (xk17 0 x2_1 hy2_4) <|
zz 18 (ok18 hy2_6 (hy2_5)) <|
zz 19 (xbT hy2_7) <|
zz 32 (xk17 0 x2_1 hy2_4) <|
yy 33 (.sto (layT (rows rw_b ((x2_0).set (x2_2).toNat true)))) <|
ww (p := ∃ old, rdT (layT (rows rw_b x2_0)) 1 ((x2_2).toNat * 1) = some old) (Exists.elim (rows_st rwf_b (false) (i := (x2_2).toNat) (j := 0) (l := [(bO true)]) true ((x2_2).toNat * 1) rfl (hy2_5) (Nat.le_of_ble_eq_true rfl) rfl) fun o h => ⟨o, h.1⟩) <|
ww (p := layL [(bO true)] ((x2_2).toNat * 1) (layT (rows rw_b x2_0)) = layT (rows rw_b ((x2_0).set (x2_2).toNat true))) (Exists.elim (rows_st rwf_b (false) (i := (x2_2).toNat) (j := 0) (l := [(bO true)]) true ((x2_2).toNat * 1) rfl (hy2_5) (Nat.le_of_ble_eq_true rfl) rfl) fun o h => h.2) <|
ww (rows_flat rwf_b ((x2_0).set (x2_2).toNat true) 4) <|
ee) (by kernel_rfl)
set_option maxRecDepth 100000 in
theorem q_viewportref16Staleq1_2_1 (n : Nat) {rnd : Option Nat} (x2_0 : List (Bool)) (x2_1 : Nat) (x2_2 x2_3 : Int) (hy2_1 : 0 ≤ x2_2 ∧ x2_2 < (((Args.A).length : Nat) : Int)) (y2_2_ : Int × Int × Int × Int × Int × Int × NL × Int) (hy2_2 : (some ((Args.A).getD (x2_2).toNat (0, 0, 0, 0, 0, 0, nl0, 0))) = some y2_2_) (hy2_3 : x2_3 < ((((y2_2_.2.2.2.2.2.2.1)).l.length : Nat) : Int)) (hy2_4 : 0 ≤ x2_2 ∧ x2_2 < ((x2_1 : Nat) : Int)) (hy2_5 : (x2_2).toNat < (x2_0).length) (y2_6_ : Bool) (hy2_6 : (some ((x2_0).getD (x2_2).toNat (false))) = some y2_6_) (hy2_7 : ¬ (y2_6_ = true)) (hy2_8 : 0 ≤ x2_3 ∧ x2_3 < ((((y2_2_.2.2.2.2.2.2.1)).l.length : Nat) : Int)) (hy2_9 : (x2_3).toNat < (((y2_2_.2.2.2.2.2.2.1)).l).length) (y2_10_ : Int) (hy2_10 : (some ((((y2_2_.2.2.2.2.2.2.1)).l).getD (x2_3).toNat 0)) = some y2_10_) (hy2_11 : 0 ≤ y2_10_ ∧ y2_10_ < ((x2_1 : Nat) : Int)) (hy2_12 : (y2_10_).toNat < (x2_0).length) (y2_13_ : Bool) (hy2_13 : (some ((x2_0).getD (y2_10_).toNat (false))) = some y2_13_) : Q_viewportref16Staleq1_2 rnd x2_1 x2_2 (x2_0, x2_3) (.normal, S_viewportref16Staleq1_2 x2_1 x2_2 (((x2_0).set (x2_2).toNat y2_13_), (w64 (x2_3 + (1 : Int))))) :=
  runC2 hm (L := lT []) ⟨[0, 3, 4, 5], [(0, 0, true)], 1, 0⟩ (zz 5 (xk1 0 Args.cA hy2_1) <|
zz 6 (fk7 ((x2_2).toNat * 8)) <|
zz 7 (lk8 hy2_2 (toNatLt hy2_1)) <|
zz 9 (xdT hy2_3) <|
zz 17 (xk17 0 x2_1 hy2_4) <|
zz 18 (ok18 hy2_6 (hy2_5)) <|
zz 19 (xbF hy2_7) <|
zz 23 (xk1 0 Args.cA hy2_1) <|
zz 24 (fk7 ((x2_2).toNat * 8)) <|
zz 25 (lk8 hy2_2 (toNatLt hy2_1)) <|
zz 27 (xk9 (Nat.add ((y2_2_.2.2.2.2.2.2.1)).num 64) ((y2_2_.2.2.2.2.2.2.1)).cap hy2_8) <|
zz 28 (nk10 hy2_10 hy2_9) <|
zz 29 (xk17 0 x2_1 hy2_11) <|
zz 30 (ok18 hy2_13 (hy2_12)) <|
zz 32 (xk17 0 x2_1 hy2_4) <|
yy 33 (.sto (layT (rows rw_b ((x2_0).set (x2_2).toNat y2_13_)))) <|
ww (p := ∃ old, rdT (layT (rows rw_b x2_0)) 1 ((x2_2).toNat * 1) = some old) (Exists.elim (rows_st rwf_b (false) (i := (x2_2).toNat) (j := 0) (l := [(bO y2_13_)]) y2_13_ ((x2_2).toNat * 1) rfl (hy2_5) (Nat.le_of_ble_eq_true rfl) rfl) fun o h => ⟨o, h.1⟩) <|
ww (p := layL [(bO y2_13_)] ((x2_2).toNat * 1) (layT (rows rw_b x2_0)) = layT (rows rw_b ((x2_0).set (x2_2).toNat y2_13_))) (Exists.elim (rows_st rwf_b (false) (i := (x2_2).toNat) (j := 0) (l := [(bO y2_13_)]) y2_13_ ((x2_2).toNat * 1) rfl (hy2_5) (Nat.le_of_ble_eq_true rfl) rfl) fun o h => h.2) <|
ww (rows_flat rwf_b ((x2_0).set (x2_2).toNat y2_13_) 4) <|
ee) (by kernel_rfl)
set_option maxRecDepth 100000 in
theorem q_viewportref16Staleq1_2_2 (n : Nat) {rnd : Option Nat} (x2_0 : List (Bool)) (x2_1 : Nat) (x2_2 x2_3 : Int) (hy2_1 : 0 ≤ x2_2 ∧ x2_2 < (((Args.A).length : Nat) : Int)) (y2_2_ : Int × Int × Int × Int × Int × Int × NL × Int) (hy2_2 : (some ((Args.A).getD (x2_2).toNat (0, 0, 0, 0, 0, 0, nl0, 0))) = some y2_2_) (hy2_3 : ¬ (x2_3 < ((((y2_2_.2.2.2.2.2.2.1)).l.length : Nat) : Int))) : Q_viewportref16Staleq1_2 rnd x2_1 x2_2 (x2_0, x2_3) (X_viewportref16Staleq1_2 x2_1 x2_2 x2_0) :=
  runC2 hm (L := lT []) ⟨[0, 3, 4], [(0, 0, true)], 1, 0⟩ (zz 5 (xk1 0 Args.cA hy2_1) <|
zz 6 (fk7 ((x2_2).toNat * 8)) <|
zz 7 (lk8 hy2_2 (toNatLt hy2_1)) <|
zz 9 (xdF hy2_3) <|
ww (rows_flat rwf_b x2_0 4) <|
ee) (by kernel_rfl)
theorem m_viewportref16Staleq1_2_ok (n : Nat) {rnd : Option Nat} (x2_1 : Nat) (x2_2 : Int) (st : List (Bool) × Int) (r : List (Bool)) (h : m_viewportref16Staleq1_2 n x2_1 x2_2 st = some r) : CG P rnd (fnN P 9) 0 (codeOf P 9 [false, true, true, false, false, true, false, false, true, false, true, true, true]) (S_viewportref16Staleq1_2 x2_1 x2_2 st) (X_viewportref16Staleq1_2 x2_1 x2_2 r) :=
  CG.iter (b := codeOf P 9 [false, false, true, true, false, false, true, false, false, true, false, true, true, true]) (by kernel_rfl) (body := B_viewportref16Staleq1_2 n x2_1 x2_2) (S := S_viewportref16Staleq1_2 x2_1 x2_2) (X := X_viewportref16Staleq1_2 x2_1 x2_2)
    (fun s s' h => by
    obtain ⟨x2_0, x2_3⟩ := s
    unfold B_viewportref16Staleq1_2 at h
    dsimp only at h
    by_cases hy2_1 : 0 ≤ x2_2 ∧ x2_2 < (((Args.A).length : Nat) : Int)
    · rw [if_pos hy2_1] at h
      obtain ⟨y2_2_, hy2_2, h⟩ := Option.bind_eq_some_iff.1 h
      by_cases hy2_3 : x2_3 < ((((y2_2_.2.2.2.2.2.2.1)).l.length : Nat) : Int)
      · rw [if_pos hy2_3] at h
        by_cases hy2_4 : 0 ≤ x2_2 ∧ x2_2 < ((x2_1 : Nat) : Int)
        · rw [if_pos hy2_4] at h
          by_cases hy2_5 : (x2_2).toNat < (x2_0).length
          · rw [if_pos hy2_5] at h
            obtain ⟨y2_6_, hy2_6, h⟩ := Option.bind_eq_some_iff.1 h
            by_cases hy2_7 : y2_6_ = true
            · rw [if_pos hy2_7] at h
              obtain rfl := Sum.inl.inj (Option.some.inj h); exact q_viewportref16Staleq1_2_0 n x2_0 x2_1 x2_2 x2_3 hy2_1 y2_2_ hy2_2 hy2_3 hy2_4 hy2_5 y2_6_ hy2_6 hy2_7
            · rw [if_neg hy2_7] at h
              by_cases hy2_8 : 0 ≤ x2_3 ∧ x2_3 < ((((y2_2_.2.2.2.2.2.2.1)).l.length : Nat) : Int)
              · rw [if_pos hy2_8] at h
                by_cases hy2_9 : (x2_3).toNat < (((y2_2_.2.2.2.2.2.2.1)).l).length
                · rw [if_pos hy2_9] at h
                  obtain ⟨y2_10_, hy2_10, h⟩ := Option.bind_eq_some_iff.1 h
                  by_cases hy2_11 : 0 ≤ y2_10_ ∧ y2_10_ < ((x2_1 : Nat) : Int)
                  · rw [if_pos hy2_11] at h
                    by_cases hy2_12 : (y2_10_).toNat < (x2_0).length
                    · rw [if_pos hy2_12] at h
                      obtain ⟨y2_13_, hy2_13, h⟩ := Option.bind_eq_some_iff.1 h
                      obtain rfl := Sum.inl.inj (Option.some.inj h); exact q_viewportref16Staleq1_2_1 n x2_0 x2_1 x2_2 x2_3 hy2_1 y2_2_ hy2_2 hy2_3 hy2_4 hy2_5 y2_6_ hy2_6 hy2_7 hy2_8 hy2_9 y2_10_ hy2_10 hy2_11 hy2_12 y2_13_ hy2_13
                    · rw [if_neg hy2_12] at h; cases h
                  · rw [if_neg hy2_11] at h; cases h
                · rw [if_neg hy2_9] at h; cases h
              · rw [if_neg hy2_8] at h; cases h
          · rw [if_neg hy2_5] at h; cases h
        · rw [if_neg hy2_4] at h; cases h
      · rw [if_neg hy2_3] at h
        cases h
    · rw [if_neg hy2_1] at h; cases h)
    (fun s r h => by
    obtain ⟨x2_0, x2_3⟩ := s
    unfold B_viewportref16Staleq1_2 at h
    dsimp only at h
    by_cases hy2_1 : 0 ≤ x2_2 ∧ x2_2 < (((Args.A).length : Nat) : Int)
    · rw [if_pos hy2_1] at h
      obtain ⟨y2_2_, hy2_2, h⟩ := Option.bind_eq_some_iff.1 h
      by_cases hy2_3 : x2_3 < ((((y2_2_.2.2.2.2.2.2.1)).l.length : Nat) : Int)
      · rw [if_pos hy2_3] at h
        by_cases hy2_4 : 0 ≤ x2_2 ∧ x2_2 < ((x2_1 : Nat) : Int)
        · rw [if_pos hy2_4] at h
          by_cases hy2_5 : (x2_2).toNat < (x2_0).length
          · rw [if_pos hy2_5] at h
            obtain ⟨y2_6_, hy2_6, h⟩ := Option.bind_eq_some_iff.1 h
            by_cases hy2_7 : y2_6_ = true
            · rw [if_pos hy2_7] at h
              cases h
            · rw [if_neg hy2_7] at h
              by_cases hy2_8 : 0 ≤ x2_3 ∧ x2_3 < ((((y2_2_.2.2.2.2.2.2.1)).l.length : Nat) : Int)
              · rw [if_pos hy2_8] at h
                by_cases hy2_9 : (x2_3).toNat < (((y2_2_.2.2.2.2.2.2.1)).l).length
                · rw [if_pos hy2_9] at h
                  obtain ⟨y2_10_, hy2_10, h⟩ := Option.bind_eq_some_iff.1 h
                  by_cases hy2_11 : 0 ≤ y2_10_ ∧ y2_10_ < ((x2_1 : Nat) : Int)
                  · rw [if_pos hy2_11] at h
                    by_cases hy2_12 : (y2_10_).toNat < (x2_0).length
                    · rw [if_pos hy2_12] at h
                      obtain ⟨y2_13_, hy2_13, h⟩ := Option.bind_eq_some_iff.1 h
                      cases h
                    · rw [if_neg hy2_12] at h; cases h
                  · rw [if_neg hy2_11] at h; cases h
                · rw [if_neg hy2_9] at h; cases h
              · rw [if_neg hy2_8] at h; cases h
          · rw [if_neg hy2_5] at h; cases h
        · rw [if_neg hy2_4] at h; cases h
      · rw [if_neg hy2_3] at h
        obtain rfl := Sum.inr.inj (Option.some.inj h); exact q_viewportref16Staleq1_2_2 n x2_0 x2_1 x2_2 x2_3 hy2_1 y2_2_ hy2_2 hy2_3
    · rw [if_neg hy2_1] at h; cases h)
    (fun r => by intro hx; cases hx) h
noncomputable def S_viewportref16Staleq1_1 (x1_1 : Nat) (st : List (Bool) × Int) : XSt := match st with
  | (x1_0, x1_2) => (sT 59 [(0, (sW 0 0 (Args.A).length Args.cA)), (3, (sN 0 0 x1_1 x1_1)), (4, (i6 x1_2))], [], ⟨sB [(0, (some (.cells (layT (rows rw_b x1_0)) 4)))], 1, 0⟩)
noncomputable def X_viewportref16Staleq1_1 (x1_1 : Nat) (r : List (Bool)) : Ex × XSt := match r with
  | z1_0 => (.exit 0, (sT 59 [(3, (sN 0 0 x1_1 x1_1))], [], ⟨sB [(0, (some (.cells (layT (rows rw_b z1_0)) 4)))], 1, 0⟩))
noncomputable abbrev Q_viewportref16Staleq1_1 (rnd : Option Nat) (x1_1 : Nat) (st : List (Bool) × Int) (c : Ex × XSt) : Prop := CG P rnd (fnN P 9) 0 (codeOf P 9 [false, false, true, false, true, true, true]) (S_viewportref16Staleq1_1 x1_1 st) c
noncomputable abbrev U_viewportref16Staleq1_1 (rd : Option Nat) (x1_1 : Nat) (st : List (Bool) × Int) (r : List (Bool)) : Prop := CG P rd (fnN P 9) 0 (codeOf P 9 [false, true, false, true, true, true]) (S_viewportref16Staleq1_1 x1_1 st) (X_viewportref16Staleq1_1 x1_1 r)
def B_viewportref16Staleq1_1 (n : Nat) (x1_1 : Nat) (st : List (Bool) × Int) : Option ((List (Bool) × Int) ⊕ (List (Bool))) := match st with
  | (x1_0, x1_2) =>
    if x1_2 ≥ (0 : Int) then
      if 0 ≤ x1_2 ∧ x1_2 < (((Args.A).length : Nat) : Int) then
        ((some ((Args.A).getD (x1_2).toNat (0, 0, 0, 0, 0, 0, nl0, 0)))).bind fun y1_3_ =>
        if (y1_3_.2.2.2.2.2.2.2) = (0 : Int) then
          if 0 ≤ x1_2 ∧ x1_2 < ((x1_1 : Nat) : Int) then
            if (x1_2).toNat < (x1_0).length then
              (m_viewportref16Staleq1_2 n x1_1 x1_2 (((x1_0).set (x1_2).toNat false), 0)).bind fun y1_7_ =>
              some (.inl (y1_7_, (w64 (x1_2 - (1 : Int)))))
            else none
          else none
        else
          if 0 ≤ x1_2 ∧ x1_2 < ((x1_1 : Nat) : Int) then
            if (x1_2).toNat < (x1_0).length then
              (m_viewportref16Staleq1_2 n x1_1 x1_2 (((x1_0).set (x1_2).toNat true), 0)).bind fun y1_7_ =>
              some (.inl (y1_7_, (w64 (x1_2 - (1 : Int)))))
            else none
          else none
      else none
    else
      some (.inr x1_0)
def m_viewportref16Staleq1_1 (n : Nat) (x1_1 : Nat) (st : List (Bool) × Int) : Option (List (Bool)) := iterM (B_viewportref16Staleq1_1 n x1_1) n st
set_option maxRecDepth 100000 in
theorem q_viewportref16Staleq1_1_0 (n : Nat) {rnd : Option Nat} (x1_0 : List (Bool)) (x1_1 : Nat) (x1_2 : Int) (hy1_1 : x1_2 ≥ (0 : Int)) (hy1_2 : 0 ≤ x1_2 ∧ x1_2 < (((Args.A).length : Nat) : Int)) (y1_3_ : Int × Int × Int × Int × Int × Int × NL × Int) (hy1_3 : (some ((Args.A).getD (x1_2).toNat (0, 0, 0, 0, 0, 0, nl0, 0))) = some y1_3_) (hy1_4 : (y1_3_.2.2.2.2.2.2.2) = (0 : Int)) (hy1_5 : 0 ≤ x1_2 ∧ x1_2 < ((x1_1 : Nat) : Int)) (hy1_6 : (x1_2).toNat < (x1_0).length) (y1_7_ : List (Bool)) (hy1_7 : m_viewportref16Staleq1_2 n x1_1 x1_2 (((x1_0).set (x1_2).toNat false), 0) = some y1_7_) : Q_viewportref16Staleq1_1 rnd x1_1 (x1_0, x1_2) (.normal, S_viewportref16Staleq1_1 x1_1 (y1_7_, (w64 (x1_2 - (1 : Int))))) :=
  runC2 hm (L := lT [(21, ⟨⟨[0, 3, 4, 5], [(0, 0, true)], 1, 0⟩, (X_viewportref16Staleq1_2 x1_1 x1_2 y1_7_).1, (X_viewportref16Staleq1_2 x1_1 x1_2 y1_7_).2⟩)]) ⟨[0, 3, 4], [(0, 0, true)], 1, 0⟩ (zz 3 (xdT hy1_1) <|
zz 12 (xk1 0 Args.cA hy1_2) <|
zz 13 (fk19 ((x1_2).toNat * 8)) <|
zz 14 (lk20 hy1_3 (toNatLt hy1_2)) <|
zz 15 (xnF hy1_4) <|
zz 16 (xk17 0 x1_1 hy1_5) <|
yy 17 (.sto (layT (rows rw_b ((x1_0).set (x1_2).toNat false)))) <|
ww (p := ∃ old, rdT (layT (rows rw_b x1_0)) 1 ((x1_2).toNat * 1) = some old) (Exists.elim (rows_st rwf_b (false) (i := (x1_2).toNat) (j := 0) (l := [(bO false)]) false ((x1_2).toNat * 1) rfl (hy1_6) (Nat.le_of_ble_eq_true rfl) rfl) fun o h => ⟨o, h.1⟩) <|
ww (p := layL [(bO false)] ((x1_2).toNat * 1) (layT (rows rw_b x1_0)) = layT (rows rw_b ((x1_0).set (x1_2).toNat false))) (Exists.elim (rows_st rwf_b (false) (i := (x1_2).toNat) (j := 0) (l := [(bO false)]) false ((x1_2).toNat * 1) rfl (hy1_6) (Nat.le_of_ble_eq_true rfl) rfl) fun o h => h.2) <|
ww (p := U_viewportref16Staleq1_2 rnd x1_1 x1_2 (((x1_0).set (x1_2).toNat false), 0) y1_7_) (m_viewportref16Staleq1_2_ok n x1_1 x1_2 (((x1_0).set (x1_2).toNat false), 0) y1_7_ hy1_7) <|
ww (rows_flat rwf_b ((x1_0).set (x1_2).toNat false) 4) <|
ww (rows_flat rwf_b y1_7_ 4) <|
ee) (by kernel_rfl)
set_option maxRecDepth 100000 in
theorem q_viewportref16Staleq1_1_1 (n : Nat) {rnd : Option Nat} (x1_0 : List (Bool)) (x1_1 : Nat) (x1_2 : Int) (hy1_1 : x1_2 ≥ (0 : Int)) (hy1_2 : 0 ≤ x1_2 ∧ x1_2 < (((Args.A).length : Nat) : Int)) (y1_3_ : Int × Int × Int × Int × Int × Int × NL × Int) (hy1_3 : (some ((Args.A).getD (x1_2).toNat (0, 0, 0, 0, 0, 0, nl0, 0))) = some y1_3_) (hy1_4 : ¬ ((y1_3_.2.2.2.2.2.2.2) = (0 : Int))) (hy1_5 : 0 ≤ x1_2 ∧ x1_2 < ((x1_1 : Nat) : Int)) (hy1_6 : (x1_2).toNat < (x1_0).length) (y1_7_ : List (Bool)) (hy1_7 : m_viewportref16Staleq1_2 n x1_1 x1_2 (((x1_0).set (x1_2).toNat true), 0) = some y1_7_) : Q_viewportref16Staleq1_1 rnd x1_1 (x1_0, x1_2) (.normal, S_viewportref16Staleq1_1 x1_1 (y1_7_, (w64 (x1_2 - (1 : Int))))) :=
  runC2 hm (L := lT [(21, ⟨⟨[0, 3, 4, 5], [(0, 0, true)], 1, 0⟩, (X_viewportref16Staleq1_2 x1_1 x1_2 y1_7_).1, (X_viewportref16Staleq1_2 x1_1 x1_2 y1_7_).2⟩)]) ⟨[0, 3, 4], [(0, 0, true)], 1, 0⟩ (zz 3 (xdT hy1_1) <|
zz 12 (xk1 0 Args.cA hy1_2) <|
zz 13 (fk19 ((x1_2).toNat * 8)) <|
zz 14 (lk20 hy1_3 (toNatLt hy1_2)) <|
zz 15 (xnT hy1_4) <|
zz 16 (xk17 0 x1_1 hy1_5) <|
yy 17 (.sto (layT (rows rw_b ((x1_0).set (x1_2).toNat true)))) <|
ww (p := ∃ old, rdT (layT (rows rw_b x1_0)) 1 ((x1_2).toNat * 1) = some old) (Exists.elim (rows_st rwf_b (false) (i := (x1_2).toNat) (j := 0) (l := [(bO true)]) true ((x1_2).toNat * 1) rfl (hy1_6) (Nat.le_of_ble_eq_true rfl) rfl) fun o h => ⟨o, h.1⟩) <|
ww (p := layL [(bO true)] ((x1_2).toNat * 1) (layT (rows rw_b x1_0)) = layT (rows rw_b ((x1_0).set (x1_2).toNat true))) (Exists.elim (rows_st rwf_b (false) (i := (x1_2).toNat) (j := 0) (l := [(bO true)]) true ((x1_2).toNat * 1) rfl (hy1_6) (Nat.le_of_ble_eq_true rfl) rfl) fun o h => h.2) <|
ww (p := U_viewportref16Staleq1_2 rnd x1_1 x1_2 (((x1_0).set (x1_2).toNat true), 0) y1_7_) (m_viewportref16Staleq1_2_ok n x1_1 x1_2 (((x1_0).set (x1_2).toNat true), 0) y1_7_ hy1_7) <|
ww (rows_flat rwf_b ((x1_0).set (x1_2).toNat true) 4) <|
ww (rows_flat rwf_b y1_7_ 4) <|
ee) (by kernel_rfl)
set_option maxRecDepth 100000 in
theorem q_viewportref16Staleq1_1_2 (n : Nat) {rnd : Option Nat} (x1_0 : List (Bool)) (x1_1 : Nat) (x1_2 : Int) (hy1_1 : ¬ (x1_2 ≥ (0 : Int))) : Q_viewportref16Staleq1_1 rnd x1_1 (x1_0, x1_2) (X_viewportref16Staleq1_1 x1_1 x1_0) :=
  runC2 hm (L := lT []) ⟨[3], [(0, 0, true)], 1, 0⟩ (zz 3 (xdF hy1_1) <|
ww (rows_flat rwf_b x1_0 4) <|
ee) (by kernel_rfl)
theorem m_viewportref16Staleq1_1_ok (n : Nat) {rnd : Option Nat} (x1_1 : Nat) (st : List (Bool) × Int) (r : List (Bool)) (h : m_viewportref16Staleq1_1 n x1_1 st = some r) : CG P rnd (fnN P 9) 0 (codeOf P 9 [false, true, false, true, true, true]) (S_viewportref16Staleq1_1 x1_1 st) (X_viewportref16Staleq1_1 x1_1 r) :=
  CG.iter (b := codeOf P 9 [false, false, true, false, true, true, true]) (by kernel_rfl) (body := B_viewportref16Staleq1_1 n x1_1) (S := S_viewportref16Staleq1_1 x1_1) (X := X_viewportref16Staleq1_1 x1_1)
    (fun s s' h => by
    obtain ⟨x1_0, x1_2⟩ := s
    unfold B_viewportref16Staleq1_1 at h
    dsimp only at h
    by_cases hy1_1 : x1_2 ≥ (0 : Int)
    · rw [if_pos hy1_1] at h
      by_cases hy1_2 : 0 ≤ x1_2 ∧ x1_2 < (((Args.A).length : Nat) : Int)
      · rw [if_pos hy1_2] at h
        obtain ⟨y1_3_, hy1_3, h⟩ := Option.bind_eq_some_iff.1 h
        by_cases hy1_4 : (y1_3_.2.2.2.2.2.2.2) = (0 : Int)
        · rw [if_pos hy1_4] at h
          by_cases hy1_5 : 0 ≤ x1_2 ∧ x1_2 < ((x1_1 : Nat) : Int)
          · rw [if_pos hy1_5] at h
            by_cases hy1_6 : (x1_2).toNat < (x1_0).length
            · rw [if_pos hy1_6] at h
              obtain ⟨y1_7_, hy1_7, h⟩ := Option.bind_eq_some_iff.1 h
              obtain rfl := Sum.inl.inj (Option.some.inj h); exact q_viewportref16Staleq1_1_0 n x1_0 x1_1 x1_2 hy1_1 hy1_2 y1_3_ hy1_3 hy1_4 hy1_5 hy1_6 y1_7_ hy1_7
            · rw [if_neg hy1_6] at h; cases h
          · rw [if_neg hy1_5] at h; cases h
        · rw [if_neg hy1_4] at h
          by_cases hy1_5 : 0 ≤ x1_2 ∧ x1_2 < ((x1_1 : Nat) : Int)
          · rw [if_pos hy1_5] at h
            by_cases hy1_6 : (x1_2).toNat < (x1_0).length
            · rw [if_pos hy1_6] at h
              obtain ⟨y1_7_, hy1_7, h⟩ := Option.bind_eq_some_iff.1 h
              obtain rfl := Sum.inl.inj (Option.some.inj h); exact q_viewportref16Staleq1_1_1 n x1_0 x1_1 x1_2 hy1_1 hy1_2 y1_3_ hy1_3 hy1_4 hy1_5 hy1_6 y1_7_ hy1_7
            · rw [if_neg hy1_6] at h; cases h
          · rw [if_neg hy1_5] at h; cases h
      · rw [if_neg hy1_2] at h; cases h
    · rw [if_neg hy1_1] at h
      cases h)
    (fun s r h => by
    obtain ⟨x1_0, x1_2⟩ := s
    unfold B_viewportref16Staleq1_1 at h
    dsimp only at h
    by_cases hy1_1 : x1_2 ≥ (0 : Int)
    · rw [if_pos hy1_1] at h
      by_cases hy1_2 : 0 ≤ x1_2 ∧ x1_2 < (((Args.A).length : Nat) : Int)
      · rw [if_pos hy1_2] at h
        obtain ⟨y1_3_, hy1_3, h⟩ := Option.bind_eq_some_iff.1 h
        by_cases hy1_4 : (y1_3_.2.2.2.2.2.2.2) = (0 : Int)
        · rw [if_pos hy1_4] at h
          by_cases hy1_5 : 0 ≤ x1_2 ∧ x1_2 < ((x1_1 : Nat) : Int)
          · rw [if_pos hy1_5] at h
            by_cases hy1_6 : (x1_2).toNat < (x1_0).length
            · rw [if_pos hy1_6] at h
              obtain ⟨y1_7_, hy1_7, h⟩ := Option.bind_eq_some_iff.1 h
              cases h
            · rw [if_neg hy1_6] at h; cases h
          · rw [if_neg hy1_5] at h; cases h
        · rw [if_neg hy1_4] at h
          by_cases hy1_5 : 0 ≤ x1_2 ∧ x1_2 < ((x1_1 : Nat) : Int)
          · rw [if_pos hy1_5] at h
            by_cases hy1_6 : (x1_2).toNat < (x1_0).length
            · rw [if_pos hy1_6] at h
              obtain ⟨y1_7_, hy1_7, h⟩ := Option.bind_eq_some_iff.1 h
              cases h
            · rw [if_neg hy1_6] at h; cases h
          · rw [if_neg hy1_5] at h; cases h
      · rw [if_neg hy1_2] at h; cases h
    · rw [if_neg hy1_1] at h
      obtain rfl := Sum.inr.inj (Option.some.inj h); exact q_viewportref16Staleq1_1_2 n x1_0 x1_1 x1_2 hy1_1)
    (fun r => by intro hx; cases hx) h
def m_viewportref16Staleq1 (n : Nat) : Option (List (Bool) × Nat) :=
  (m_viewportref16Checkq1 n).bind fun c1_ =>
  if c1_ = (0 : Int) then
    if 0 ≤ (((Args.A).length : Nat) : Int) then
      if ((((Args.A).length : Nat) : Int)).toNat * 1 ≤ 140737488355328 then
        ((some (w64 ((((Args.A).length : Nat) : Int) - (1 : Int))))).bind fun c5_ =>
        (m_viewportref16Staleq1_1 n (((((Args.A).length : Nat) : Int)).toNat) ((List.replicate ((((Args.A).length : Nat) : Int)).toNat (false)), c5_)).bind fun c6_ =>
        some (c6_, (((((Args.A).length : Nat) : Int)).toNat))
      else none
    else none
  else
    none
set_option maxRecDepth 100000 in
theorem p_viewportref16Staleq1_0 (n : Nat) (c1_ : Int) (hc1 : m_viewportref16Checkq1 n = some c1_) (hc2 : c1_ = (0 : Int)) (hc3 : 0 ≤ (((Args.A).length : Nat) : Int)) (hc4 : ((((Args.A).length : Nat) : Int)).toNat * 1 ≤ 140737488355328) (c5_ : Int) (hc5 : (some (w64 ((((Args.A).length : Nat) : Int) - (1 : Int)))) = some c5_) (c6_ : List (Bool)) (hc6 : m_viewportref16Staleq1_1 n (((((Args.A).length : Nat) : Int)).toNat) ((List.replicate ((((Args.A).length : Nat) : Int)).toNat (false)), c5_) = some c6_) : G_viewportref16Staleq1  (c6_, (((((Args.A).length : Nat) : Int)).toNat)) :=
  runF2 hm (L := lT [(20, ⟨⟨[0, 3, 4], [(0, 0, true)], 1, 0⟩, (X_viewportref16Staleq1_1 (((((Args.A).length : Nat) : Int)).toNat) c6_).1, (X_viewportref16Staleq1_1 (((((Args.A).length : Nat) : Int)).toNat) c6_).2⟩)]) ⟨[2], [(0, 0, true)], 1, 0⟩ (yy 5 (.call (C_viewportref16Checkq1  c1_ [] [])) <|
ww (m_viewportref16Checkq1_ok n  c1_ hc1) <|
zz 6 (xnF hc2) <|
yy 11 (.mk ((((Args.A).length : Nat) : Int)).toNat (rows rw_b (List.replicate ((((Args.A).length : Nat) : Int)).toNat (false)))) <|
ww (p := natOf (i6 (((Args.A).length : Nat) : Int)) = some ((((Args.A).length : Nat) : Int)).toNat) (natOf_toNat hc3) <|
ww (p := natOf (i6 (((Args.A).length : Nat) : Int)) = some ((((Args.A).length : Nat) : Int)).toNat) (natOf_toNat hc3) <|
ww (p := fits ((((Args.A).length : Nat) : Int)).toNat 1 = true) (fits_ok hc4 (by omega)) <|
ww (p := isZ8 [(bO false)] = false) (rfl) <|
ww (p := reps [(bO false)] ((((Args.A).length : Nat) : Int)).toNat = (rows rw_b (List.replicate ((((Args.A).length : Nat) : Int)).toNat (false)))) (reps_rows rw_b (false) _ rfl _) <|
zz 17 (xnm hc5) <|
ww (p := U_viewportref16Staleq1_1 none (((((Args.A).length : Nat) : Int)).toNat) ((List.replicate ((((Args.A).length : Nat) : Int)).toNat (false)), c5_) c6_) (m_viewportref16Staleq1_1_ok n (((((Args.A).length : Nat) : Int)).toNat) ((List.replicate ((((Args.A).length : Nat) : Int)).toNat (false)), c5_) c6_ hc6) <|
ww (rows_flat rwf_b (List.replicate ((((Args.A).length : Nat) : Int)).toNat (false)) 4) <|
ww (rows_flat rwf_b c6_ 4) <|
ee) (by kernel_rfl)
theorem m_viewportref16Staleq1_ok (n : Nat) (r : List (Bool) × Nat) (h : m_viewportref16Staleq1 n = some r) : Gv P (.func 9) A_viewportref16Staleq1 H_viewportref16Staleq1 (V_viewportref16Staleq1  r) (R_viewportref16Staleq1  r) := by
  unfold m_viewportref16Staleq1 at h
  obtain ⟨c1_, hc1, h⟩ := Option.bind_eq_some_iff.1 h
  by_cases hc2 : c1_ = (0 : Int)
  · rw [if_pos hc2] at h
    by_cases hc3 : 0 ≤ (((Args.A).length : Nat) : Int)
    · rw [if_pos hc3] at h
      by_cases hc4 : ((((Args.A).length : Nat) : Int)).toNat * 1 ≤ 140737488355328
      · rw [if_pos hc4] at h
        obtain ⟨c5_, hc5, h⟩ := Option.bind_eq_some_iff.1 h
        obtain ⟨c6_, hc6, h⟩ := Option.bind_eq_some_iff.1 h
        obtain rfl := Option.some.inj h; exact p_viewportref16Staleq1_0 n c1_ hc1 hc2 hc3 hc4 c5_ hc5 c6_ hc6
      · rw [if_neg hc4] at h; cases h
    · rw [if_neg hc3] at h; cases h
  · rw [if_neg hc2] at h
    cases h

noncomputable def A_reuseBytes1q1 (a0 : Int) (a1 : Int) : List Value := [(i6 a0), (i6 a1), (pN 0 0)]
noncomputable def H_reuseBytes1q1 (a0 : Int) (a1 : Int) : AH := ⟨sB [(0, (some (.cells (layT [(sW 0 0 (Args.A).length Args.cA)]) 22)))], 1, 1⟩
noncomputable def V_reuseBytes1q1 (a0 : Int) (a1 : Int) (r : Int) : Value := match r with
  | o0 => (i6 o0)
noncomputable def R_reuseBytes1q1 (a0 : Int) (a1 : Int) (r : Int) : AH := match r with
  | o0 => ⟨sB [], 1, 1⟩
noncomputable abbrev G_reuseBytes1q1 (a0 : Int) (a1 : Int) (r : Int) : Prop := Gv P (.func 20) (A_reuseBytes1q1 a0 a1) (H_reuseBytes1q1 a0 a1) (V_reuseBytes1q1 a0 a1 r) (R_reuseBytes1q1 a0 a1 r)
noncomputable abbrev C_reuseBytes1q1 (a0 : Int) (a1 : Int) (r : Int) (ins outs : BL) : CallA := ⟨1, ins, V_reuseBytes1q1 a0 a1 r, R_reuseBytes1q1 a0 a1 r, outs⟩
def m_reuseBytes1q1 (n : Nat) (a0 : Int) (a1 : Int) : Option (Int) :=
  if 0 ≤ a1 ∧ a1 < (((Args.A).length : Nat) : Int) then
    ((some ((Args.A).getD (a1).toNat (0, 0, 0, 0, 0, 0, nl0, 0)))).bind fun c2_ =>
    ((some (w64 ((w64 (a0 + (c2_.2.2.2.2.1))) - (c2_.2.2.1))))).bind fun c3_ =>
    some c3_
  else none
set_option maxRecDepth 100000 in
theorem p_reuseBytes1q1_0 (n : Nat) (a0 a1 : Int) (hc1 : 0 ≤ a1 ∧ a1 < (((Args.A).length : Nat) : Int)) (c2_ : Int × Int × Int × Int × Int × Int × NL × Int) (hc2 : (some ((Args.A).getD (a1).toNat (0, 0, 0, 0, 0, 0, nl0, 0))) = some c2_) (c3_ : Int) (hc3 : (some (w64 ((w64 (a0 + (c2_.2.2.2.2.1))) - (c2_.2.2.1)))) = some c3_) : G_reuseBytes1q1 a0 a1 c3_ :=
  runF2 hm (L := lT []) ⟨[5], [], 1, 1⟩ (zz 6 (xk1 0 Args.cA hc1) <|
zz 7 (fk11 ((a1).toNat * 8)) <|
zz 8 (lk12 hc2 (toNatLt hc1)) <|
zz 12 (xk1 0 Args.cA hc1) <|
zz 13 (fk5 ((a1).toNat * 8)) <|
zz 14 (lk6 hc2 (toNatLt hc1)) <|
zz 15 (xnm hc3) <|
ee) (by kernel_rfl)
theorem m_reuseBytes1q1_ok (n : Nat) (a0 : Int) (a1 : Int) (r : Int) (h : m_reuseBytes1q1 n a0 a1 = some r) : Gv P (.func 20) (A_reuseBytes1q1 a0 a1) (H_reuseBytes1q1 a0 a1) (V_reuseBytes1q1 a0 a1 r) (R_reuseBytes1q1 a0 a1 r) := by
  unfold m_reuseBytes1q1 at h
  by_cases hc1 : 0 ≤ a1 ∧ a1 < (((Args.A).length : Nat) : Int)
  · rw [if_pos hc1] at h
    obtain ⟨c2_, hc2, h⟩ := Option.bind_eq_some_iff.1 h
    obtain ⟨c3_, hc3, h⟩ := Option.bind_eq_some_iff.1 h
    obtain rfl := Option.some.inj h; exact p_reuseBytes1q1_0 n a0 a1 hc1 c2_ hc2 c3_ hc3
  · rw [if_neg hc1] at h; cases h

noncomputable def A_foldOverintint_1010y1 (a0 : Int) (a1 : Int) : List Value := [(i6 a1)]
noncomputable def H_foldOverintint_1010y1 (a0 : Int) (a1 : Int) : AH := ⟨sB [(0, (some (rblk P 19 [false, true, false, true] .ready none [(4, (pN 2 0)), (5, (pN 3 0)), (8, (Value.func (.func 23) #[] #[(pN 5 0)]))] 1))), (1, (some (.marks true))), (2, (some (.cells (layT [(i6 a0)]) 3))), (3, (some (.cells (layT [(Value.func (.func 20) #[] #[(pN 4 0)])]) 27))), (4, (some (.cells (layT [(sW 0 0 (Args.A).length Args.cA)]) 22))), (5, (some (.cells (layT [(sW 0 0 (Args.A).length Args.cA)]) 22)))], 6, 6⟩
noncomputable def V_foldOverintint_1010y1 (a0 : Int) (a1 : Int) (r : Int) : Value := match r with
  | o0 => (bO true)
noncomputable def R_foldOverintint_1010y1 (a0 : Int) (a1 : Int) (r : Int) : AH := match r with
  | o0 => ⟨sB [(0, (some (rblk P 19 [false, true, false, true] .ready none [(4, (pN 2 0)), (5, (pN 3 0)), (8, (Value.func (.func 23) #[] #[(pN 5 0)]))] 1))), (1, (some (.marks true))), (2, (some (.cells (layT [(i6 o0)]) 3))), (3, (some (.cells (layT [(Value.func (.func 20) #[] #[(pN 4 0)])]) 27))), (4, (some (.cells (layT [(sW 0 0 (Args.A).length Args.cA)]) 22))), (5, (some (.cells (layT [(sW 0 0 (Args.A).length Args.cA)]) 22)))], 6, 0⟩
noncomputable abbrev G_foldOverintint_1010y1 (a0 : Int) (a1 : Int) (r : Int) : Prop := Gv P (.yield 0) (A_foldOverintint_1010y1 a0 a1) (H_foldOverintint_1010y1 a0 a1) (V_foldOverintint_1010y1 a0 a1 r) (R_foldOverintint_1010y1 a0 a1 r)
noncomputable abbrev C_foldOverintint_1010y1 (a0 : Int) (a1 : Int) (r : Int) (ins outs : BL) : CallA := ⟨6, ins, V_foldOverintint_1010y1 a0 a1 r, R_foldOverintint_1010y1 a0 a1 r, outs⟩
def m_foldOverintint_1010y1 (n : Nat) (a0 : Int) (a1 : Int) : Option (Int) :=
  (m_reuseBytes1q1 n a0 a1).bind fun c1_ =>
  some c1_
set_option maxRecDepth 100000 in
theorem p_foldOverintint_1010y1_0 (n : Nat) (a0 a1 c1_ : Int) (hc1 : m_reuseBytes1q1 n a0 a1 = some c1_) : G_foldOverintint_1010y1 a0 a1 c1_ :=
  runY_ok hm (A1 := aT []) (L1 := lT []) (A2 := aT [(4, .call (C_reuseBytes1q1 a0 a1 c1_ [(0, 4, false)] []))]) (L2 := lT []) (wk := ⟨[], [(0, 0, false), (1, 1, false), (2, 2, false), (3, 3, false), (4, 4, false), (5, 5, false)], 6, 0⟩)
    (ps := [G_reuseBytes1q1 a0 a1 c1_]) (by kernel_rfl) ⟨(m_reuseBytes1q1_ok n a0 a1 c1_ hc1), trivial⟩
theorem m_foldOverintint_1010y1_ok (n : Nat) (a0 : Int) (a1 : Int) (r : Int) (h : m_foldOverintint_1010y1 n a0 a1 = some r) : Gv P (.yield 0) (A_foldOverintint_1010y1 a0 a1) (H_foldOverintint_1010y1 a0 a1) (V_foldOverintint_1010y1 a0 a1 r) (R_foldOverintint_1010y1 a0 a1 r) := by
  unfold m_foldOverintint_1010y1 at h
  obtain ⟨c1_, hc1, h⟩ := Option.bind_eq_some_iff.1 h
  obtain rfl := Option.some.inj h; exact p_foldOverintint_1010y1_0 n a0 a1 c1_ hc1

noncomputable def A_reusemaximal1q2 (a0 : Int) : List Value := [(Value.func (.yield 0) #[] #[]), (pN 5 0)]
noncomputable def H_reusemaximal1q2 (a0 : Int) : AH := ⟨sB [(0, (some (rblk P 19 [false, true, false, true] .ready none [(4, (pN 2 0)), (5, (pN 3 0)), (8, (Value.func (.func 23) #[] #[(pN 5 0)]))] 1))), (1, (some (.marks true))), (2, (some (.cells (layT [(i6 a0)]) 3))), (3, (some (.cells (layT [(Value.func (.func 20) #[] #[(pN 4 0)])]) 27))), (4, (some (.cells (layT [(sW 0 0 (Args.A).length Args.cA)]) 22))), (5, (some (.cells (layT [(sW 0 0 (Args.A).length Args.cA)]) 22)))], 6, 6⟩
noncomputable def V_reusemaximal1q2 (a0 : Int) (r : Int) : Value := match r with
  | o0 => (Value.tuple #[])
noncomputable def R_reusemaximal1q2 (a0 : Int) (r : Int) : AH := match r with
  | o0 => ⟨sB [(0, (some (rblk P 19 [false, true, false, true] .ready none [(4, (pN 2 0)), (5, (pN 3 0)), (8, (Value.func (.func 23) #[] #[(pN 5 0)]))] 1))), (1, (some (.marks true))), (2, (some (.cells (layT [(i6 o0)]) 3))), (3, (some (.cells (layT [(Value.func (.func 20) #[] #[(pN 4 0)])]) 27))), (4, (some (.cells (layT [(sW 0 0 (Args.A).length Args.cA)]) 22))), (5, (some (.cells (layT [(sW 0 0 (Args.A).length Args.cA)]) 22)))], 6, 0⟩
noncomputable abbrev G_reusemaximal1q2 (a0 : Int) (r : Int) : Prop := Gv P (.func 23) (A_reusemaximal1q2 a0) (H_reusemaximal1q2 a0) (V_reusemaximal1q2 a0 r) (R_reusemaximal1q2 a0 r)
noncomputable abbrev C_reusemaximal1q2 (a0 : Int) (r : Int) (ins outs : BL) : CallA := ⟨6, ins, V_reusemaximal1q2 a0 r, R_reusemaximal1q2 a0 r, outs⟩
noncomputable def S_reusemaximal1q2_1 (x1_1 : List (Bool)) (x1_2 : Nat) (st : Int × Int) : XSt := match st with
  | (x1_0, x1_3) => (sT 26 [(0, (Value.func (.yield 0) #[] #[])), (1, (pN 5 0)), (3, (sN 6 0 x1_2 x1_2)), (4, (i6 x1_3))], [], ⟨sB [(0, (some (rblk P 19 [false, true, false, true] .ready none [(4, (pN 2 0)), (5, (pN 3 0)), (8, (Value.func (.func 23) #[] #[(pN 5 0)]))] 1))), (1, (some (.marks true))), (2, (some (.cells (layT [(i6 x1_0)]) 3))), (3, (some (.cells (layT [(Value.func (.func 20) #[] #[(pN 4 0)])]) 27))), (4, (some (.cells (layT [(sW 0 0 (Args.A).length Args.cA)]) 22))), (5, (some (.cells (layT [(sW 0 0 (Args.A).length Args.cA)]) 22))), (6, (some (.cells (layT (rows rw_b x1_1)) 4)))], 7, 0⟩)
noncomputable def X_reusemaximal1q2_1 (x1_1 : List (Bool)) (x1_2 : Nat) (r : Int) : Ex × XSt := match r with
  | z1_0 => (.exit 0, (sT 26 [], [], ⟨sB [(0, (some (rblk P 19 [false, true, false, true] .ready none [(4, (pN 2 0)), (5, (pN 3 0)), (8, (Value.func (.func 23) #[] #[(pN 5 0)]))] 1))), (1, (some (.marks true))), (2, (some (.cells (layT [(i6 z1_0)]) 3))), (3, (some (.cells (layT [(Value.func (.func 20) #[] #[(pN 4 0)])]) 27))), (4, (some (.cells (layT [(sW 0 0 (Args.A).length Args.cA)]) 22))), (5, (some (.cells (layT [(sW 0 0 (Args.A).length Args.cA)]) 22)))], 6, 0⟩))
noncomputable abbrev Q_reusemaximal1q2_1 (rnd : Option Nat) (x1_1 : List (Bool)) (x1_2 : Nat) (st : Int × Int) (c : Ex × XSt) : Prop := CG P rnd (fnN P 23) 6 (codeOf P 23 [false, false, true, true]) (S_reusemaximal1q2_1 x1_1 x1_2 st) c
noncomputable abbrev U_reusemaximal1q2_1 (rd : Option Nat) (x1_1 : List (Bool)) (x1_2 : Nat) (st : Int × Int) (r : Int) : Prop := CG P rd (fnN P 23) 6 (codeOf P 23 [false, true, true]) (S_reusemaximal1q2_1 x1_1 x1_2 st) (X_reusemaximal1q2_1 x1_1 x1_2 r)
def B_reusemaximal1q2_1 (n : Nat) (x1_1 : List (Bool)) (x1_2 : Nat) (st : Int × Int) : Option ((Int × Int) ⊕ (Int)) := match st with
  | (x1_0, x1_3) =>
    if x1_3 < ((x1_2 : Nat) : Int) then
      (m_reusereusableq1 n x1_1 x1_2 x1_2 x1_3).bind fun y1_2_ =>
      if y1_2_ = true then
        (m_foldOverintint_1010y1 n x1_0 x1_3).bind fun y1_4_ =>
        (m_partsEndq1 n x1_3).bind fun y1_5_ =>
        some (.inl (y1_4_, y1_5_))
      else
        some (.inl (x1_0, (w64 (x1_3 + (1 : Int)))))
    else
      some (.inr x1_0)
def m_reusemaximal1q2_1 (n : Nat) (x1_1 : List (Bool)) (x1_2 : Nat) (st : Int × Int) : Option (Int) := iterM (B_reusemaximal1q2_1 n x1_1 x1_2) n st
set_option maxRecDepth 100000 in
theorem q_reusemaximal1q2_1_0 (n : Nat) {rnd : Option Nat} (x1_0 : Int) (x1_1 : List (Bool)) (x1_2 : Nat) (x1_3 : Int) (hy1_1 : x1_3 < ((x1_2 : Nat) : Int)) (y1_2_ : Bool) (hy1_2 : m_reusereusableq1 n x1_1 x1_2 x1_2 x1_3 = some y1_2_) (hy1_3 : y1_2_ = true) (y1_4_ : Int) (hy1_4 : m_foldOverintint_1010y1 n x1_0 x1_3 = some y1_4_) (y1_5_ : Int) (hy1_5 : m_partsEndq1 n x1_3 = some y1_5_) : Q_reusemaximal1q2_1 rnd x1_1 x1_2 (x1_0, x1_3) (.normal, S_reusemaximal1q2_1 x1_1 x1_2 (y1_4_, y1_5_)) :=
  runC2 hm (L := lT []) ⟨[0, 1, 3, 4], [(0, 0, false), (1, 1, false), (2, 2, false), (3, 3, false), (4, 4, false), (5, 5, false), (6, 6, true)], 7, 0⟩ (zz 5 (xdT hy1_1) <|
yy 17 (.call (C_reusereusableq1 x1_1 x1_2 x1_2 x1_3 y1_2_ [(0, 6, true)] [])) <|
ww (m_reusereusableq1_ok n x1_1 x1_2 x1_2 x1_3 y1_2_ hy1_2) <|
ww (rows_flat rwf_b x1_1 4) <|
zz 18 (xbT hy1_3) <|
yy 23 (.call (C_foldOverintint_1010y1 x1_0 x1_3 y1_4_ [(0, 0, false), (1, 1, false), (2, 2, false), (3, 3, false), (4, 4, false), (5, 5, false)] [(0, 0, false), (1, 1, false), (2, 2, false), (3, 3, false), (4, 4, false), (5, 5, false)])) <|
ww (m_foldOverintint_1010y1_ok n x1_0 x1_3 y1_4_ hy1_4) <|
yy 28 (.call (C_partsEndq1 x1_3 y1_5_ [] [])) <|
ww (m_partsEndq1_ok n x1_3 y1_5_ hy1_5) <|
ww (rows_flat rwf_b x1_1 4) <|
ee) (by kernel_rfl)
set_option maxRecDepth 100000 in
theorem q_reusemaximal1q2_1_1 (n : Nat) {rnd : Option Nat} (x1_0 : Int) (x1_1 : List (Bool)) (x1_2 : Nat) (x1_3 : Int) (hy1_1 : x1_3 < ((x1_2 : Nat) : Int)) (y1_2_ : Bool) (hy1_2 : m_reusereusableq1 n x1_1 x1_2 x1_2 x1_3 = some y1_2_) (hy1_3 : ¬ (y1_2_ = true)) : Q_reusemaximal1q2_1 rnd x1_1 x1_2 (x1_0, x1_3) (.normal, S_reusemaximal1q2_1 x1_1 x1_2 (x1_0, (w64 (x1_3 + (1 : Int))))) :=
  runC2 hm (L := lT []) ⟨[0, 1, 3, 4], [(0, 0, false), (1, 1, false), (2, 2, false), (3, 3, false), (4, 4, false), (5, 5, false), (6, 6, true)], 7, 0⟩ (zz 5 (xdT hy1_1) <|
yy 17 (.call (C_reusereusableq1 x1_1 x1_2 x1_2 x1_3 y1_2_ [(0, 6, true)] [])) <|
ww (m_reusereusableq1_ok n x1_1 x1_2 x1_2 x1_3 y1_2_ hy1_2) <|
ww (rows_flat rwf_b x1_1 4) <|
zz 18 (xbF hy1_3) <|
ww (rows_flat rwf_b x1_1 4) <|
ee) (by kernel_rfl)
set_option maxRecDepth 100000 in
theorem q_reusemaximal1q2_1_2 (n : Nat) {rnd : Option Nat} (x1_0 : Int) (x1_1 : List (Bool)) (x1_2 : Nat) (x1_3 : Int) (hy1_1 : ¬ (x1_3 < ((x1_2 : Nat) : Int))) : Q_reusemaximal1q2_1 rnd x1_1 x1_2 (x1_0, x1_3) (X_reusemaximal1q2_1 x1_1 x1_2 x1_0) :=
  runC2 hm (L := lT []) ⟨[], [(0, 0, false), (1, 1, false), (2, 2, false), (3, 3, false), (4, 4, false), (5, 5, false)], 6, 0⟩ (zz 5 (xdF hy1_1) <|
ee) (by kernel_rfl)
theorem m_reusemaximal1q2_1_ok (n : Nat) {rnd : Option Nat} (x1_1 : List (Bool)) (x1_2 : Nat) (st : Int × Int) (r : Int) (h : m_reusemaximal1q2_1 n x1_1 x1_2 st = some r) : CG P rnd (fnN P 23) 6 (codeOf P 23 [false, true, true]) (S_reusemaximal1q2_1 x1_1 x1_2 st) (X_reusemaximal1q2_1 x1_1 x1_2 r) :=
  CG.iter (b := codeOf P 23 [false, false, true, true]) (by kernel_rfl) (body := B_reusemaximal1q2_1 n x1_1 x1_2) (S := S_reusemaximal1q2_1 x1_1 x1_2) (X := X_reusemaximal1q2_1 x1_1 x1_2)
    (fun s s' h => by
    obtain ⟨x1_0, x1_3⟩ := s
    unfold B_reusemaximal1q2_1 at h
    dsimp only at h
    by_cases hy1_1 : x1_3 < ((x1_2 : Nat) : Int)
    · rw [if_pos hy1_1] at h
      obtain ⟨y1_2_, hy1_2, h⟩ := Option.bind_eq_some_iff.1 h
      by_cases hy1_3 : y1_2_ = true
      · rw [if_pos hy1_3] at h
        obtain ⟨y1_4_, hy1_4, h⟩ := Option.bind_eq_some_iff.1 h
        obtain ⟨y1_5_, hy1_5, h⟩ := Option.bind_eq_some_iff.1 h
        obtain rfl := Sum.inl.inj (Option.some.inj h); exact q_reusemaximal1q2_1_0 n x1_0 x1_1 x1_2 x1_3 hy1_1 y1_2_ hy1_2 hy1_3 y1_4_ hy1_4 y1_5_ hy1_5
      · rw [if_neg hy1_3] at h
        obtain rfl := Sum.inl.inj (Option.some.inj h); exact q_reusemaximal1q2_1_1 n x1_0 x1_1 x1_2 x1_3 hy1_1 y1_2_ hy1_2 hy1_3
    · rw [if_neg hy1_1] at h
      cases h)
    (fun s r h => by
    obtain ⟨x1_0, x1_3⟩ := s
    unfold B_reusemaximal1q2_1 at h
    dsimp only at h
    by_cases hy1_1 : x1_3 < ((x1_2 : Nat) : Int)
    · rw [if_pos hy1_1] at h
      obtain ⟨y1_2_, hy1_2, h⟩ := Option.bind_eq_some_iff.1 h
      by_cases hy1_3 : y1_2_ = true
      · rw [if_pos hy1_3] at h
        obtain ⟨y1_4_, hy1_4, h⟩ := Option.bind_eq_some_iff.1 h
        obtain ⟨y1_5_, hy1_5, h⟩ := Option.bind_eq_some_iff.1 h
        cases h
      · rw [if_neg hy1_3] at h
        cases h
    · rw [if_neg hy1_1] at h
      obtain rfl := Sum.inr.inj (Option.some.inj h); exact q_reusemaximal1q2_1_2 n x1_0 x1_1 x1_2 x1_3 hy1_1)
    (fun r => by intro hx; cases hx) h
def m_reusemaximal1q2 (n : Nat) (a0 : Int) : Option (Int) :=
  (m_treeStaleq1 n).bind fun t => match t with
  | (c1_0, c1_1) =>
    (m_reusemaximal1q2_1 n c1_0 c1_1 (a0, 0)).bind fun c2_ =>
    some c2_
set_option maxRecDepth 100000 in
theorem p_reusemaximal1q2_0 (n : Nat) (a0 : Int) (c1_0 : List (Bool)) (c1_1 : Nat) (hc1 : m_treeStaleq1 n = some (c1_0, c1_1)) (c2_ : Int) (hc2 : m_reusemaximal1q2_1 n c1_0 c1_1 (a0, 0) = some c2_) : G_reusemaximal1q2 a0 c2_ :=
  runF2 hm (L := lT [(7, ⟨⟨[0, 1, 3, 4], [(0, 0, false), (1, 1, false), (2, 2, false), (3, 3, false), (4, 4, false), (5, 5, false), (6, 7, true)], 7, 0⟩, (X_reusemaximal1q2_1 c1_0 c1_1 c2_).1, (X_reusemaximal1q2_1 c1_0 c1_1 c2_).2⟩)]) ⟨[], [(0, 0, false), (1, 1, false), (2, 2, false), (3, 3, false), (4, 4, false), (5, 5, false)], 6, 0⟩ (yy 2 (.call (C_treeStaleq1  (c1_0, c1_1) [] [(7, 1, true)])) <|
ww (m_treeStaleq1_ok n  (c1_0, c1_1) hc1) <|
ww (rows_flat rwf_b c1_0 4) <|
ww (p := U_reusemaximal1q2_1 none c1_0 c1_1 (a0, 0) c2_) (m_reusemaximal1q2_1_ok n c1_0 c1_1 (a0, 0) c2_ hc2) <|
ww (rows_flat rwf_b c1_0 4) <|
ee) (by kernel_rfl)
theorem m_reusemaximal1q2_ok (n : Nat) (a0 : Int) (r : Int) (h : m_reusemaximal1q2 n a0 = some r) : Gv P (.func 23) (A_reusemaximal1q2 a0) (H_reusemaximal1q2 a0) (V_reusemaximal1q2 a0 r) (R_reusemaximal1q2 a0 r) := by
  unfold m_reusemaximal1q2 at h
  obtain ⟨⟨c1_0, c1_1⟩, hc1, h⟩ := Option.bind_eq_some_iff.1 h
  dsimp only at h
  obtain ⟨c2_, hc2, h⟩ := Option.bind_eq_some_iff.1 h
  obtain rfl := Option.some.inj h; exact p_reusemaximal1q2_0 n a0 c1_0 c1_1 hc1 c2_ hc2

noncomputable def A_foldOverintintq1 (a0 : Int) : List Value := [(Value.func (.func 23) #[] #[(pN 0 0)]), (i6 a0), (Value.func (.func 20) #[] #[(pN 1 0)])]
noncomputable def H_foldOverintintq1 (a0 : Int) : AH := ⟨sB [(0, (some (.cells (layT [(sW 0 0 (Args.A).length Args.cA)]) 22))), (1, (some (.cells (layT [(sW 0 0 (Args.A).length Args.cA)]) 22)))], 2, 2⟩
noncomputable def V_foldOverintintq1 (a0 : Int) (r : Int) : Value := match r with
  | o0 => (i6 o0)
noncomputable def R_foldOverintintq1 (a0 : Int) (r : Int) : AH := match r with
  | o0 => ⟨sB [(0, (some (.cells (layT [(sW 0 0 (Args.A).length Args.cA)]) 22))), (1, (some (.cells (layT [(sW 0 0 (Args.A).length Args.cA)]) 22))), (2, (some (.marks false)))], 3, 0⟩
noncomputable abbrev G_foldOverintintq1 (a0 : Int) (r : Int) : Prop := Gv P (.func 19) (A_foldOverintintq1 a0) (H_foldOverintintq1 a0) (V_foldOverintintq1 a0 r) (R_foldOverintintq1 a0 r)
noncomputable abbrev C_foldOverintintq1 (a0 : Int) (r : Int) (ins outs : BL) : CallA := ⟨2, ins, V_foldOverintintq1 a0 r, R_foldOverintintq1 a0 r, outs⟩
def m_foldOverintintq1 (n : Nat) (a0 : Int) : Option (Int) :=
  (m_reusemaximal1q2 n a0).bind fun c1_ =>
  some c1_
set_option maxRecDepth 100000 in
theorem p_foldOverintintq1_0 (n : Nat) (a0 c1_ : Int) (hc1 : m_reusemaximal1q2 n a0 = some c1_) : G_foldOverintintq1 a0 c1_ :=
  runF2 hm (L := lT []) ⟨[6], [(0, 0, false), (1, 1, false), (2, 4, false)], 3, 0⟩ (yy 8 (.rng (C_reusemaximal1q2 a0 c1_ [(0, 5, false), (1, 4, false), (2, 2, false), (3, 3, false), (4, 1, false), (5, 0, false)] [(5, 0, false), (4, 1, false), (2, 2, false), (3, 3, false), (1, 4, false), (0, 5, false)]) [4, 5, 8]) <|
ww (m_reusemaximal1q2_ok n a0 c1_ hc1) <|
ee) (by kernel_rfl)
theorem m_foldOverintintq1_ok (n : Nat) (a0 : Int) (r : Int) (h : m_foldOverintintq1 n a0 = some r) : Gv P (.func 19) (A_foldOverintintq1 a0) (H_foldOverintintq1 a0) (V_foldOverintintq1 a0 r) (R_foldOverintintq1 a0 r) := by
  unfold m_foldOverintintq1 at h
  obtain ⟨c1_, hc1, h⟩ := Option.bind_eq_some_iff.1 h
  obtain rfl := Option.some.inj h; exact p_foldOverintintq1_0 n a0 c1_ hc1

noncomputable def A_reuseBytesq1 : List Value := [(sW 0 0 (Args.A).length Args.cA)]
noncomputable def H_reuseBytesq1 : AH := ⟨sB [], 0, 0⟩
noncomputable def V_reuseBytesq1 (r : Int) : Value := match r with
  | o0 => (i6 o0)
noncomputable def R_reuseBytesq1 (r : Int) : AH := match r with
  | o0 => ⟨sB [], 0, 0⟩
noncomputable abbrev G_reuseBytesq1 (r : Int) : Prop := Gv P (.func 11) A_reuseBytesq1 H_reuseBytesq1 (V_reuseBytesq1  r) (R_reuseBytesq1  r)
noncomputable abbrev C_reuseBytesq1 (r : Int) (ins outs : BL) : CallA := ⟨0, ins, V_reuseBytesq1  r, R_reuseBytesq1  r, outs⟩
def m_reuseBytesq1 (n : Nat) : Option (Int) :=
  (m_reusemaximalq1 n).bind fun _ =>
  (m_foldOverintintq1 n 0).bind fun c2_ =>
  some c2_
set_option maxRecDepth 100000 in
theorem p_reuseBytesq1_0 (n : Nat) (hc1 : m_reusemaximalq1 n = some ()) (c2_ : Int) (hc2 : m_foldOverintintq1 n 0 = some c2_) : G_reuseBytesq1  c2_ :=
  runF2 hm (L := lT []) ⟨[2], [], 0, 0⟩ (yy 5 (.call (C_reusemaximalq1  () [] [(1, 0, false)])) <|
ww (m_reusemaximalq1_ok n  () hc1) <|
yy 7 (.call (C_foldOverintintq1 0 c2_ [(0, 1, false), (1, 0, false)] [(1, 0, false), (0, 1, false)])) <|
ww (m_foldOverintintq1_ok n 0 c2_ hc2) <|
ee) (by kernel_rfl)
theorem m_reuseBytesq1_ok (n : Nat) (r : Int) (h : m_reuseBytesq1 n = some r) : Gv P (.func 11) A_reuseBytesq1 H_reuseBytesq1 (V_reuseBytesq1  r) (R_reuseBytesq1  r) := by
  unfold m_reuseBytesq1 at h
  obtain ⟨_, hc1, h⟩ := Option.bind_eq_some_iff.1 h
  obtain ⟨c2_, hc2, h⟩ := Option.bind_eq_some_iff.1 h
  obtain rfl := Option.some.inj h; exact p_reuseBytesq1_0 n hc1 c2_ hc2

noncomputable def A_viewportref16isq1 (a0 : Int) : List Value := [(sW 0 0 (Args.A).length Args.cA), (i6 a0)]
noncomputable def H_viewportref16isq1 (a0 : Int) : AH := ⟨sB [], 0, 0⟩
noncomputable def V_viewportref16isq1 (a0 : Int) (r : Bool) : Value := match r with
  | o0 => (bO o0)
noncomputable def R_viewportref16isq1 (a0 : Int) (r : Bool) : AH := match r with
  | o0 => ⟨sB [], 0, 0⟩
noncomputable abbrev G_viewportref16isq1 (a0 : Int) (r : Bool) : Prop := Gv P (.func 18) (A_viewportref16isq1 a0) (H_viewportref16isq1 a0) (V_viewportref16isq1 a0 r) (R_viewportref16isq1 a0 r)
noncomputable abbrev C_viewportref16isq1 (a0 : Int) (r : Bool) (ins outs : BL) : CallA := ⟨0, ins, V_viewportref16isq1 a0 r, R_viewportref16isq1 a0 r, outs⟩
def m_viewportref16isq1 (n : Nat) (a0 : Int) : Option (Bool) :=
  (m_viewportref16Checkq1 n).bind fun c1_ =>
  if c1_ = (0 : Int) then
    if a0 ≥ (0 : Int) then
      if a0 < (((Args.A).length : Nat) : Int) then
        some true
      else
        some false
    else
      some false
  else
    some false
set_option maxRecDepth 100000 in
theorem p_viewportref16isq1_0 (n : Nat) (a0 c1_ : Int) (hc1 : m_viewportref16Checkq1 n = some c1_) (hc2 : c1_ = (0 : Int)) (hc3 : a0 ≥ (0 : Int)) (hc4 : a0 < (((Args.A).length : Nat) : Int)) : G_viewportref16isq1 a0 true :=
  runF2 hm (L := lT []) ⟨[4], [], 0, 0⟩ (yy 4 (.call (C_viewportref16Checkq1  c1_ [] [])) <|
ww (m_viewportref16Checkq1_ok n  c1_ hc1) <|
zz 5 (xeT hc2) <|
zz 8 (xdT hc3) <|
zz 14 (xdT hc4) <|
ee) (by kernel_rfl)
set_option maxRecDepth 100000 in
theorem p_viewportref16isq1_1 (n : Nat) (a0 c1_ : Int) (hc1 : m_viewportref16Checkq1 n = some c1_) (hc2 : c1_ = (0 : Int)) (hc3 : a0 ≥ (0 : Int)) (hc4 : ¬ (a0 < (((Args.A).length : Nat) : Int))) : G_viewportref16isq1 a0 false :=
  runF2 hm (L := lT []) ⟨[4], [], 0, 0⟩ (yy 4 (.call (C_viewportref16Checkq1  c1_ [] [])) <|
ww (m_viewportref16Checkq1_ok n  c1_ hc1) <|
zz 5 (xeT hc2) <|
zz 8 (xdT hc3) <|
zz 14 (xdF hc4) <|
ee) (by kernel_rfl)
set_option maxRecDepth 100000 in
theorem p_viewportref16isq1_2 (n : Nat) (a0 c1_ : Int) (hc1 : m_viewportref16Checkq1 n = some c1_) (hc2 : c1_ = (0 : Int)) (hc3 : ¬ (a0 ≥ (0 : Int))) : G_viewportref16isq1 a0 false :=
  runF2 hm (L := lT []) ⟨[4], [], 0, 0⟩ (yy 4 (.call (C_viewportref16Checkq1  c1_ [] [])) <|
ww (m_viewportref16Checkq1_ok n  c1_ hc1) <|
zz 5 (xeT hc2) <|
zz 8 (xdF hc3) <|
ee) (by kernel_rfl)
set_option maxRecDepth 100000 in
theorem p_viewportref16isq1_3 (n : Nat) (a0 c1_ : Int) (hc1 : m_viewportref16Checkq1 n = some c1_) (hc2 : ¬ (c1_ = (0 : Int))) : G_viewportref16isq1 a0 false :=
  runF2 hm (L := lT []) ⟨[4], [], 0, 0⟩ (yy 4 (.call (C_viewportref16Checkq1  c1_ [] [])) <|
ww (m_viewportref16Checkq1_ok n  c1_ hc1) <|
zz 5 (xeF hc2) <|
ee) (by kernel_rfl)
theorem m_viewportref16isq1_ok (n : Nat) (a0 : Int) (r : Bool) (h : m_viewportref16isq1 n a0 = some r) : Gv P (.func 18) (A_viewportref16isq1 a0) (H_viewportref16isq1 a0) (V_viewportref16isq1 a0 r) (R_viewportref16isq1 a0 r) := by
  unfold m_viewportref16isq1 at h
  obtain ⟨c1_, hc1, h⟩ := Option.bind_eq_some_iff.1 h
  by_cases hc2 : c1_ = (0 : Int)
  · rw [if_pos hc2] at h
    by_cases hc3 : a0 ≥ (0 : Int)
    · rw [if_pos hc3] at h
      by_cases hc4 : a0 < (((Args.A).length : Nat) : Int)
      · rw [if_pos hc4] at h
        obtain rfl := Option.some.inj h; exact p_viewportref16isq1_0 n a0 c1_ hc1 hc2 hc3 hc4
      · rw [if_neg hc4] at h
        obtain rfl := Option.some.inj h; exact p_viewportref16isq1_1 n a0 c1_ hc1 hc2 hc3 hc4
    · rw [if_neg hc3] at h
      obtain rfl := Option.some.inj h; exact p_viewportref16isq1_2 n a0 c1_ hc1 hc2 hc3
  · rw [if_neg hc2] at h
    obtain rfl := Option.some.inj h; exact p_viewportref16isq1_3 n a0 c1_ hc1 hc2

noncomputable def A_viewportref16Endq1 (a0 : Int) : List Value := [(sW 0 0 (Args.A).length Args.cA), (i6 a0)]
noncomputable def H_viewportref16Endq1 (a0 : Int) : AH := ⟨sB [], 0, 0⟩
noncomputable def V_viewportref16Endq1 (a0 : Int) (r : Int) : Value := match r with
  | o0 => (i6 o0)
noncomputable def R_viewportref16Endq1 (a0 : Int) (r : Int) : AH := match r with
  | o0 => ⟨sB [], 0, 0⟩
noncomputable abbrev G_viewportref16Endq1 (a0 : Int) (r : Int) : Prop := Gv P (.func 10) (A_viewportref16Endq1 a0) (H_viewportref16Endq1 a0) (V_viewportref16Endq1 a0 r) (R_viewportref16Endq1 a0 r)
noncomputable abbrev C_viewportref16Endq1 (a0 : Int) (r : Int) (ins outs : BL) : CallA := ⟨0, ins, V_viewportref16Endq1 a0 r, R_viewportref16Endq1 a0 r, outs⟩
def m_viewportref16Endq1 (n : Nat) (a0 : Int) : Option (Int) :=
  (m_viewportref16isq1 n a0).bind fun c1_ =>
  if c1_ = true then
    (m_viewportref16endq1 n a0).bind fun c3_ =>
    some c3_
  else
    some 0
set_option maxRecDepth 100000 in
theorem p_viewportref16Endq1_0 (n : Nat) (a0 : Int) (c1_ : Bool) (hc1 : m_viewportref16isq1 n a0 = some c1_) (hc2 : c1_ = true) (c3_ : Int) (hc3 : m_viewportref16endq1 n a0 = some c3_) : G_viewportref16Endq1 a0 c3_ :=
  runF2 hm (L := lT []) ⟨[4], [], 0, 0⟩ (yy 6 (.call (C_viewportref16isq1 a0 c1_ [] [])) <|
ww (m_viewportref16isq1_ok n a0 c1_ hc1) <|
yy 7 (vf) <|
ww (p := (Value.bool (!c1_)) = (Value.bool false)) (vBn hc2) <|
yy 12 (.call (C_viewportref16endq1 a0 c3_ [] [])) <|
ww (m_viewportref16endq1_ok n a0 c3_ hc3) <|
ee) (by kernel_rfl)
set_option maxRecDepth 100000 in
theorem p_viewportref16Endq1_1 (n : Nat) (a0 : Int) (c1_ : Bool) (hc1 : m_viewportref16isq1 n a0 = some c1_) (hc2 : ¬ (c1_ = true)) : G_viewportref16Endq1 a0 0 :=
  runF2 hm (L := lT []) ⟨[4], [], 0, 0⟩ (yy 6 (.call (C_viewportref16isq1 a0 c1_ [] [])) <|
ww (m_viewportref16isq1_ok n a0 c1_ hc1) <|
yy 7 (vt) <|
ww (p := (Value.bool (!c1_)) = (Value.bool true)) (vBn (Bool.eq_false_iff.2 hc2)) <|
ee) (by kernel_rfl)
theorem m_viewportref16Endq1_ok (n : Nat) (a0 : Int) (r : Int) (h : m_viewportref16Endq1 n a0 = some r) : Gv P (.func 10) (A_viewportref16Endq1 a0) (H_viewportref16Endq1 a0) (V_viewportref16Endq1 a0 r) (R_viewportref16Endq1 a0 r) := by
  unfold m_viewportref16Endq1 at h
  obtain ⟨c1_, hc1, h⟩ := Option.bind_eq_some_iff.1 h
  by_cases hc2 : c1_ = true
  · rw [if_pos hc2] at h
    obtain ⟨c3_, hc3, h⟩ := Option.bind_eq_some_iff.1 h
    obtain rfl := Option.some.inj h; exact p_viewportref16Endq1_0 n a0 c1_ hc1 hc2 c3_ hc3
  · rw [if_neg hc2] at h
    obtain rfl := Option.some.inj h; exact p_viewportref16Endq1_1 n a0 c1_ hc1 hc2

noncomputable def A_viewportlaw21ReuseApart (g1 : Int) : List Value := [(sW 0 0 (Args.A).length Args.cA), (i6 g1)]
noncomputable def H_viewportlaw21ReuseApart (g1 : Int) : AH := ⟨sB [], 0, 0⟩
noncomputable def V_viewportlaw21ReuseApart (g1 : Int) (r : Unit) : Value := match r with
  | _ => (bO true)
noncomputable def R_viewportlaw21ReuseApart (g1 : Int) (r : Unit) : AH := match r with
  | _ => ⟨sB [], 0, 0⟩
noncomputable abbrev G_viewportlaw21ReuseApart (g1 : Int) (r : Unit) : Prop := Gv P (.func 3) (A_viewportlaw21ReuseApart g1) (H_viewportlaw21ReuseApart g1) (V_viewportlaw21ReuseApart g1 r) (R_viewportlaw21ReuseApart g1 r)
noncomputable abbrev C_viewportlaw21ReuseApart (g1 : Int) (r : Unit) (ins outs : BL) : CallA := ⟨0, ins, V_viewportlaw21ReuseApart g1 r, R_viewportlaw21ReuseApart g1 r, outs⟩
noncomputable def S_viewportlaw21ReuseApart_1 (x1_0 : Int) (x1_2 : List (Bool)) (x1_3 : Nat) (st : List Int × Int × Int × Bool × Int) : XSt := match st with
  | (x1_1, x1_4, x1_5, x1_6, x1_7) => (sT 134 [(0, (sW 0 0 (Args.A).length Args.cA)), (1, (i6 x1_0)), (5, (slN x1_1 0)), (6, (sN 1 0 x1_3 x1_3)), (7, (i6 x1_4)), (8, (i6 x1_5)), (9, (bO x1_6)), (10, (i6 x1_7))], [], ⟨sB [(0, (nblk x1_1 3)), (1, (some (.cells (layT (rows rw_b x1_2)) 4)))], 2, 0⟩)
noncomputable def X_viewportlaw21ReuseApart_1 (x1_0 : Int) (x1_2 : List (Bool)) (x1_3 : Nat) (r : Int × Bool) : Ex × XSt := match r with
  | (z1_0, z1_1) => (.exit 0, (sT 134 [(0, (sW 0 0 (Args.A).length Args.cA)), (1, (i6 x1_0)), (6, (sN 0 0 x1_3 x1_3)), (8, (i6 z1_0)), (9, (bO z1_1))], [], ⟨sB [(0, (some (.cells (layT (rows rw_b x1_2)) 4)))], 1, 0⟩))
noncomputable abbrev Q_viewportlaw21ReuseApart_1 (rnd : Option Nat) (x1_0 : Int) (x1_2 : List (Bool)) (x1_3 : Nat) (st : List Int × Int × Int × Bool × Int) (c : Ex × XSt) : Prop := CG P rnd (fnN P 3) 0 (codeOf P 3 [false, false, true, false, true, true, true, true, true, true]) (S_viewportlaw21ReuseApart_1 x1_0 x1_2 x1_3 st) c
noncomputable abbrev U_viewportlaw21ReuseApart_1 (rd : Option Nat) (x1_0 : Int) (x1_2 : List (Bool)) (x1_3 : Nat) (st : List Int × Int × Int × Bool × Int) (r : Int × Bool) : Prop := CG P rd (fnN P 3) 0 (codeOf P 3 [false, true, false, true, true, true, true, true, true]) (S_viewportlaw21ReuseApart_1 x1_0 x1_2 x1_3 st) (X_viewportlaw21ReuseApart_1 x1_0 x1_2 x1_3 r)
def B_viewportlaw21ReuseApart_1 (n : Nat) (x1_0 : Int) (x1_2 : List (Bool)) (x1_3 : Nat) (st : List Int × Int × Int × Bool × Int) : Option ((List Int × Int × Int × Bool × Int) ⊕ (Int × Bool)) := match st with
  | (x1_1, x1_4, x1_5, x1_6, x1_7) =>
    match x1_1 with
    | [] =>
      if x1_7 < (0 : Int) then
        none
      else
        some (.inr (x1_5, x1_6))
    | x1_1a :: x1_1t =>
      if x1_7 < ((((x1_1a :: x1_1t)).length : Nat) : Int) then
        if 0 ≤ x1_7 ∧ x1_7 < ((((x1_1a :: x1_1t)).length : Nat) : Int) then
          ((some (((x1_1a :: x1_1t)).getD (x1_7).toNat 0))).bind fun y1_3_ =>
          if y1_3_ < x1_4 then
            none
          else
            if y1_3_ ≥ (((Args.A).length : Nat) : Int) then
              none
            else
              if 0 ≤ y1_3_ ∧ y1_3_ < ((x1_3 : Nat) : Int) then
                if (y1_3_).toNat < (x1_2).length then
                  ((some ((x1_2).getD (y1_3_).toNat (false)))).bind fun y1_8_ =>
                  if y1_8_ = true then
                    none
                  else
                    if 0 ≤ y1_3_ ∧ y1_3_ < (((Args.A).length : Nat) : Int) then
                      ((some ((Args.A).getD (y1_3_).toNat (0, 0, 0, 0, 0, 0, nl0, 0)))).bind fun y1_11_ =>
                      if (y1_11_.2.1) = (2 : Int) then
                        (m_viewportref16Endq1 n y1_3_).bind fun y1_13_ =>
                        ((some (w64 ((w64 (x1_5 + (y1_11_.2.2.2.2.1))) - (y1_11_.2.2.1))))).bind fun y1_14_ =>
                        if x1_6 = true then
                          some (.inl ((x1_1a :: x1_1t), y1_13_, y1_14_, true, (w64 (x1_7 + (1 : Int)))))
                        else
                          if y1_3_ ≤ x1_0 then
                            if x1_0 < y1_13_ then
                              some (.inl ((x1_1a :: x1_1t), y1_13_, y1_14_, true, (w64 (x1_7 + (1 : Int)))))
                            else
                              some (.inl ((x1_1a :: x1_1t), y1_13_, y1_14_, false, (w64 (x1_7 + (1 : Int)))))
                          else
                            some (.inl ((x1_1a :: x1_1t), y1_13_, y1_14_, false, (w64 (x1_7 + (1 : Int)))))
                      else
                        none
                    else none
                else none
              else none
        else none
      else
        some (.inr (x1_5, x1_6))
def m_viewportlaw21ReuseApart_1 (n : Nat) (x1_0 : Int) (x1_2 : List (Bool)) (x1_3 : Nat) (st : List Int × Int × Int × Bool × Int) : Option (Int × Bool) := iterM (B_viewportlaw21ReuseApart_1 n x1_0 x1_2 x1_3) n st
set_option maxRecDepth 100000 in
theorem q_viewportlaw21ReuseApart_1_0 (n : Nat) {rnd : Option Nat} (x1_0 : Int) (x1_2 : List (Bool)) (x1_3 : Nat) (x1_4 x1_5 : Int) (x1_6 : Bool) (x1_7 : Int) (hy1_1 : ¬ (x1_7 < (0 : Int))) : Q_viewportlaw21ReuseApart_1 rnd x1_0 x1_2 x1_3 (([] : List Int), x1_4, x1_5, x1_6, x1_7) (X_viewportlaw21ReuseApart_1 x1_0 x1_2 x1_3 (x1_5, x1_6)) :=
  runC2 hm (L := lT []) ⟨[0, 1, 6, 8, 9], [(0, 1, true)], 1, 0⟩ (zz 5 (xdF hy1_1) <|
ww (rows_flat rwf_b x1_2 4) <|
ee) (by kernel_rfl)
set_option maxRecDepth 100000 in
theorem q_viewportlaw21ReuseApart_1_1 (n : Nat) {rnd : Option Nat} (x1_0 x1_1a : Int) (x1_1t : List (Int)) (x1_2 : List (Bool)) (x1_3 : Nat) (x1_4 x1_5 : Int) (x1_6 : Bool) (x1_7 : Int) (hy1_1 : x1_7 < ((((x1_1a :: x1_1t)).length : Nat) : Int)) (hy1_2 : 0 ≤ x1_7 ∧ x1_7 < ((((x1_1a :: x1_1t)).length : Nat) : Int)) (y1_3_ : Int) (hy1_3 : (some (((x1_1a :: x1_1t)).getD (x1_7).toNat 0)) = some y1_3_) (hy1_4 : ¬ (y1_3_ < x1_4)) (hy1_5 : ¬ (y1_3_ ≥ (((Args.A).length : Nat) : Int))) (hy1_6 : 0 ≤ y1_3_ ∧ y1_3_ < ((x1_3 : Nat) : Int)) (hy1_7 : (y1_3_).toNat < (x1_2).length) (y1_8_ : Bool) (hy1_8 : (some ((x1_2).getD (y1_3_).toNat (false))) = some y1_8_) (hy1_9 : ¬ (y1_8_ = true)) (hy1_10 : 0 ≤ y1_3_ ∧ y1_3_ < (((Args.A).length : Nat) : Int)) (y1_11_ : Int × Int × Int × Int × Int × Int × NL × Int) (hy1_11 : (some ((Args.A).getD (y1_3_).toNat (0, 0, 0, 0, 0, 0, nl0, 0))) = some y1_11_) (hy1_12 : (y1_11_.2.1) = (2 : Int)) (y1_13_ : Int) (hy1_13 : m_viewportref16Endq1 n y1_3_ = some y1_13_) (y1_14_ : Int) (hy1_14 : (some (w64 ((w64 (x1_5 + (y1_11_.2.2.2.2.1))) - (y1_11_.2.2.1)))) = some y1_14_) (hy1_15 : x1_6 = true) : Q_viewportlaw21ReuseApart_1 rnd x1_0 x1_2 x1_3 ((x1_1a :: x1_1t), x1_4, x1_5, x1_6, x1_7) (.normal, S_viewportlaw21ReuseApart_1 x1_0 x1_2 x1_3 ((x1_1a :: x1_1t), y1_13_, y1_14_, true, (w64 (x1_7 + (1 : Int))))) :=
  runC2 hm (L := lT []) ⟨[0, 1, 5, 6, 7, 8, 9, 10], [(0, 0, true), (1, 1, true)], 2, 0⟩ (zz 5 (xdT hy1_1) <|
zz 13 (xk21 0 U1 hy1_2) <|
zz 14 (xivN hy1_3 (toNatLt hy1_2)) <|
zz 16 (xdF hy1_4) <|
zz 20 (xk21 0 U1 hy1_2) <|
zz 21 (xivN hy1_3 (toNatLt hy1_2)) <|
zz 24 (xdF hy1_5) <|
zz 30 (xk21 0 U1 hy1_2) <|
zz 31 (xivN hy1_3 (toNatLt hy1_2)) <|
zz 32 (xk17 1 x1_3 hy1_6) <|
zz 33 (ok18 hy1_8 (hy1_7)) <|
zz 35 (xbF hy1_9) <|
zz 39 (xk21 0 U1 hy1_2) <|
zz 40 (xivN hy1_3 (toNatLt hy1_2)) <|
zz 41 (xk1 0 Args.cA hy1_10) <|
zz 42 (fk3 ((y1_3_).toNat * 8)) <|
zz 43 (lk4 hy1_11 (toNatLt hy1_10)) <|
zz 44 (xnF hy1_12) <|
zz 51 (xk21 0 U1 hy1_2) <|
zz 52 (xivN hy1_3 (toNatLt hy1_2)) <|
yy 53 (.call (C_viewportref16Endq1 y1_3_ y1_13_ [] [])) <|
ww (m_viewportref16Endq1_ok n y1_3_ y1_13_ hy1_13) <|
zz 60 (xk21 0 U1 hy1_2) <|
zz 61 (xivN hy1_3 (toNatLt hy1_2)) <|
zz 62 (xk1 0 Args.cA hy1_10) <|
zz 63 (fk11 ((y1_3_).toNat * 8)) <|
zz 64 (lk12 hy1_11 (toNatLt hy1_10)) <|
zz 69 (xk21 0 U1 hy1_2) <|
zz 70 (xivN hy1_3 (toNatLt hy1_2)) <|
zz 71 (xk1 0 Args.cA hy1_10) <|
zz 72 (fk5 ((y1_3_).toNat * 8)) <|
zz 73 (lk6 hy1_11 (toNatLt hy1_10)) <|
zz 74 (xnm hy1_14) <|
zz 77 (xbT hy1_15) <|
ww (iv_flat (x1_1a :: x1_1t) 3) <|
ww (rows_flat rwf_b x1_2 4) <|
ee) (by kernel_rfl)
set_option maxRecDepth 100000 in
theorem q_viewportlaw21ReuseApart_1_2 (n : Nat) {rnd : Option Nat} (x1_0 x1_1a : Int) (x1_1t : List (Int)) (x1_2 : List (Bool)) (x1_3 : Nat) (x1_4 x1_5 : Int) (x1_6 : Bool) (x1_7 : Int) (hy1_1 : x1_7 < ((((x1_1a :: x1_1t)).length : Nat) : Int)) (hy1_2 : 0 ≤ x1_7 ∧ x1_7 < ((((x1_1a :: x1_1t)).length : Nat) : Int)) (y1_3_ : Int) (hy1_3 : (some (((x1_1a :: x1_1t)).getD (x1_7).toNat 0)) = some y1_3_) (hy1_4 : ¬ (y1_3_ < x1_4)) (hy1_5 : ¬ (y1_3_ ≥ (((Args.A).length : Nat) : Int))) (hy1_6 : 0 ≤ y1_3_ ∧ y1_3_ < ((x1_3 : Nat) : Int)) (hy1_7 : (y1_3_).toNat < (x1_2).length) (y1_8_ : Bool) (hy1_8 : (some ((x1_2).getD (y1_3_).toNat (false))) = some y1_8_) (hy1_9 : ¬ (y1_8_ = true)) (hy1_10 : 0 ≤ y1_3_ ∧ y1_3_ < (((Args.A).length : Nat) : Int)) (y1_11_ : Int × Int × Int × Int × Int × Int × NL × Int) (hy1_11 : (some ((Args.A).getD (y1_3_).toNat (0, 0, 0, 0, 0, 0, nl0, 0))) = some y1_11_) (hy1_12 : (y1_11_.2.1) = (2 : Int)) (y1_13_ : Int) (hy1_13 : m_viewportref16Endq1 n y1_3_ = some y1_13_) (y1_14_ : Int) (hy1_14 : (some (w64 ((w64 (x1_5 + (y1_11_.2.2.2.2.1))) - (y1_11_.2.2.1)))) = some y1_14_) (hy1_15 : ¬ (x1_6 = true)) (hy1_16 : y1_3_ ≤ x1_0) (hy1_17 : x1_0 < y1_13_) : Q_viewportlaw21ReuseApart_1 rnd x1_0 x1_2 x1_3 ((x1_1a :: x1_1t), x1_4, x1_5, x1_6, x1_7) (.normal, S_viewportlaw21ReuseApart_1 x1_0 x1_2 x1_3 ((x1_1a :: x1_1t), y1_13_, y1_14_, true, (w64 (x1_7 + (1 : Int))))) :=
  runC2 hm (L := lT []) ⟨[0, 1, 5, 6, 7, 8, 9, 10], [(0, 0, true), (1, 1, true)], 2, 0⟩ (zz 5 (xdT hy1_1) <|
zz 13 (xk21 0 U1 hy1_2) <|
zz 14 (xivN hy1_3 (toNatLt hy1_2)) <|
zz 16 (xdF hy1_4) <|
zz 20 (xk21 0 U1 hy1_2) <|
zz 21 (xivN hy1_3 (toNatLt hy1_2)) <|
zz 24 (xdF hy1_5) <|
zz 30 (xk21 0 U1 hy1_2) <|
zz 31 (xivN hy1_3 (toNatLt hy1_2)) <|
zz 32 (xk17 1 x1_3 hy1_6) <|
zz 33 (ok18 hy1_8 (hy1_7)) <|
zz 35 (xbF hy1_9) <|
zz 39 (xk21 0 U1 hy1_2) <|
zz 40 (xivN hy1_3 (toNatLt hy1_2)) <|
zz 41 (xk1 0 Args.cA hy1_10) <|
zz 42 (fk3 ((y1_3_).toNat * 8)) <|
zz 43 (lk4 hy1_11 (toNatLt hy1_10)) <|
zz 44 (xnF hy1_12) <|
zz 51 (xk21 0 U1 hy1_2) <|
zz 52 (xivN hy1_3 (toNatLt hy1_2)) <|
yy 53 (.call (C_viewportref16Endq1 y1_3_ y1_13_ [] [])) <|
ww (m_viewportref16Endq1_ok n y1_3_ y1_13_ hy1_13) <|
zz 60 (xk21 0 U1 hy1_2) <|
zz 61 (xivN hy1_3 (toNatLt hy1_2)) <|
zz 62 (xk1 0 Args.cA hy1_10) <|
zz 63 (fk11 ((y1_3_).toNat * 8)) <|
zz 64 (lk12 hy1_11 (toNatLt hy1_10)) <|
zz 69 (xk21 0 U1 hy1_2) <|
zz 70 (xivN hy1_3 (toNatLt hy1_2)) <|
zz 71 (xk1 0 Args.cA hy1_10) <|
zz 72 (fk5 ((y1_3_).toNat * 8)) <|
zz 73 (lk6 hy1_11 (toNatLt hy1_10)) <|
zz 74 (xnm hy1_14) <|
zz 77 (xbF hy1_15) <|
zz 80 (xk21 0 U1 hy1_2) <|
zz 81 (xivN hy1_3 (toNatLt hy1_2)) <|
zz 83 (xdT hy1_16) <|
zz 87 (xdT hy1_17) <|
ww (iv_flat (x1_1a :: x1_1t) 3) <|
ww (rows_flat rwf_b x1_2 4) <|
ee) (by kernel_rfl)
set_option maxRecDepth 100000 in
theorem q_viewportlaw21ReuseApart_1_3 (n : Nat) {rnd : Option Nat} (x1_0 x1_1a : Int) (x1_1t : List (Int)) (x1_2 : List (Bool)) (x1_3 : Nat) (x1_4 x1_5 : Int) (x1_6 : Bool) (x1_7 : Int) (hy1_1 : x1_7 < ((((x1_1a :: x1_1t)).length : Nat) : Int)) (hy1_2 : 0 ≤ x1_7 ∧ x1_7 < ((((x1_1a :: x1_1t)).length : Nat) : Int)) (y1_3_ : Int) (hy1_3 : (some (((x1_1a :: x1_1t)).getD (x1_7).toNat 0)) = some y1_3_) (hy1_4 : ¬ (y1_3_ < x1_4)) (hy1_5 : ¬ (y1_3_ ≥ (((Args.A).length : Nat) : Int))) (hy1_6 : 0 ≤ y1_3_ ∧ y1_3_ < ((x1_3 : Nat) : Int)) (hy1_7 : (y1_3_).toNat < (x1_2).length) (y1_8_ : Bool) (hy1_8 : (some ((x1_2).getD (y1_3_).toNat (false))) = some y1_8_) (hy1_9 : ¬ (y1_8_ = true)) (hy1_10 : 0 ≤ y1_3_ ∧ y1_3_ < (((Args.A).length : Nat) : Int)) (y1_11_ : Int × Int × Int × Int × Int × Int × NL × Int) (hy1_11 : (some ((Args.A).getD (y1_3_).toNat (0, 0, 0, 0, 0, 0, nl0, 0))) = some y1_11_) (hy1_12 : (y1_11_.2.1) = (2 : Int)) (y1_13_ : Int) (hy1_13 : m_viewportref16Endq1 n y1_3_ = some y1_13_) (y1_14_ : Int) (hy1_14 : (some (w64 ((w64 (x1_5 + (y1_11_.2.2.2.2.1))) - (y1_11_.2.2.1)))) = some y1_14_) (hy1_15 : ¬ (x1_6 = true)) (hy1_16 : y1_3_ ≤ x1_0) (hy1_17 : ¬ (x1_0 < y1_13_)) : Q_viewportlaw21ReuseApart_1 rnd x1_0 x1_2 x1_3 ((x1_1a :: x1_1t), x1_4, x1_5, x1_6, x1_7) (.normal, S_viewportlaw21ReuseApart_1 x1_0 x1_2 x1_3 ((x1_1a :: x1_1t), y1_13_, y1_14_, false, (w64 (x1_7 + (1 : Int))))) :=
  runC2 hm (L := lT []) ⟨[0, 1, 5, 6, 7, 8, 9, 10], [(0, 0, true), (1, 1, true)], 2, 0⟩ (zz 5 (xdT hy1_1) <|
zz 13 (xk21 0 U1 hy1_2) <|
zz 14 (xivN hy1_3 (toNatLt hy1_2)) <|
zz 16 (xdF hy1_4) <|
zz 20 (xk21 0 U1 hy1_2) <|
zz 21 (xivN hy1_3 (toNatLt hy1_2)) <|
zz 24 (xdF hy1_5) <|
zz 30 (xk21 0 U1 hy1_2) <|
zz 31 (xivN hy1_3 (toNatLt hy1_2)) <|
zz 32 (xk17 1 x1_3 hy1_6) <|
zz 33 (ok18 hy1_8 (hy1_7)) <|
zz 35 (xbF hy1_9) <|
zz 39 (xk21 0 U1 hy1_2) <|
zz 40 (xivN hy1_3 (toNatLt hy1_2)) <|
zz 41 (xk1 0 Args.cA hy1_10) <|
zz 42 (fk3 ((y1_3_).toNat * 8)) <|
zz 43 (lk4 hy1_11 (toNatLt hy1_10)) <|
zz 44 (xnF hy1_12) <|
zz 51 (xk21 0 U1 hy1_2) <|
zz 52 (xivN hy1_3 (toNatLt hy1_2)) <|
yy 53 (.call (C_viewportref16Endq1 y1_3_ y1_13_ [] [])) <|
ww (m_viewportref16Endq1_ok n y1_3_ y1_13_ hy1_13) <|
zz 60 (xk21 0 U1 hy1_2) <|
zz 61 (xivN hy1_3 (toNatLt hy1_2)) <|
zz 62 (xk1 0 Args.cA hy1_10) <|
zz 63 (fk11 ((y1_3_).toNat * 8)) <|
zz 64 (lk12 hy1_11 (toNatLt hy1_10)) <|
zz 69 (xk21 0 U1 hy1_2) <|
zz 70 (xivN hy1_3 (toNatLt hy1_2)) <|
zz 71 (xk1 0 Args.cA hy1_10) <|
zz 72 (fk5 ((y1_3_).toNat * 8)) <|
zz 73 (lk6 hy1_11 (toNatLt hy1_10)) <|
zz 74 (xnm hy1_14) <|
zz 77 (xbF hy1_15) <|
zz 80 (xk21 0 U1 hy1_2) <|
zz 81 (xivN hy1_3 (toNatLt hy1_2)) <|
zz 83 (xdT hy1_16) <|
zz 87 (xdF hy1_17) <|
ww (iv_flat (x1_1a :: x1_1t) 3) <|
ww (rows_flat rwf_b x1_2 4) <|
ee) (by kernel_rfl)
set_option maxRecDepth 100000 in
theorem q_viewportlaw21ReuseApart_1_4 (n : Nat) {rnd : Option Nat} (x1_0 x1_1a : Int) (x1_1t : List (Int)) (x1_2 : List (Bool)) (x1_3 : Nat) (x1_4 x1_5 : Int) (x1_6 : Bool) (x1_7 : Int) (hy1_1 : x1_7 < ((((x1_1a :: x1_1t)).length : Nat) : Int)) (hy1_2 : 0 ≤ x1_7 ∧ x1_7 < ((((x1_1a :: x1_1t)).length : Nat) : Int)) (y1_3_ : Int) (hy1_3 : (some (((x1_1a :: x1_1t)).getD (x1_7).toNat 0)) = some y1_3_) (hy1_4 : ¬ (y1_3_ < x1_4)) (hy1_5 : ¬ (y1_3_ ≥ (((Args.A).length : Nat) : Int))) (hy1_6 : 0 ≤ y1_3_ ∧ y1_3_ < ((x1_3 : Nat) : Int)) (hy1_7 : (y1_3_).toNat < (x1_2).length) (y1_8_ : Bool) (hy1_8 : (some ((x1_2).getD (y1_3_).toNat (false))) = some y1_8_) (hy1_9 : ¬ (y1_8_ = true)) (hy1_10 : 0 ≤ y1_3_ ∧ y1_3_ < (((Args.A).length : Nat) : Int)) (y1_11_ : Int × Int × Int × Int × Int × Int × NL × Int) (hy1_11 : (some ((Args.A).getD (y1_3_).toNat (0, 0, 0, 0, 0, 0, nl0, 0))) = some y1_11_) (hy1_12 : (y1_11_.2.1) = (2 : Int)) (y1_13_ : Int) (hy1_13 : m_viewportref16Endq1 n y1_3_ = some y1_13_) (y1_14_ : Int) (hy1_14 : (some (w64 ((w64 (x1_5 + (y1_11_.2.2.2.2.1))) - (y1_11_.2.2.1)))) = some y1_14_) (hy1_15 : ¬ (x1_6 = true)) (hy1_16 : ¬ (y1_3_ ≤ x1_0)) : Q_viewportlaw21ReuseApart_1 rnd x1_0 x1_2 x1_3 ((x1_1a :: x1_1t), x1_4, x1_5, x1_6, x1_7) (.normal, S_viewportlaw21ReuseApart_1 x1_0 x1_2 x1_3 ((x1_1a :: x1_1t), y1_13_, y1_14_, false, (w64 (x1_7 + (1 : Int))))) :=
  runC2 hm (L := lT []) ⟨[0, 1, 5, 6, 7, 8, 9, 10], [(0, 0, true), (1, 1, true)], 2, 0⟩ (zz 5 (xdT hy1_1) <|
zz 13 (xk21 0 U1 hy1_2) <|
zz 14 (xivN hy1_3 (toNatLt hy1_2)) <|
zz 16 (xdF hy1_4) <|
zz 20 (xk21 0 U1 hy1_2) <|
zz 21 (xivN hy1_3 (toNatLt hy1_2)) <|
zz 24 (xdF hy1_5) <|
zz 30 (xk21 0 U1 hy1_2) <|
zz 31 (xivN hy1_3 (toNatLt hy1_2)) <|
zz 32 (xk17 1 x1_3 hy1_6) <|
zz 33 (ok18 hy1_8 (hy1_7)) <|
zz 35 (xbF hy1_9) <|
zz 39 (xk21 0 U1 hy1_2) <|
zz 40 (xivN hy1_3 (toNatLt hy1_2)) <|
zz 41 (xk1 0 Args.cA hy1_10) <|
zz 42 (fk3 ((y1_3_).toNat * 8)) <|
zz 43 (lk4 hy1_11 (toNatLt hy1_10)) <|
zz 44 (xnF hy1_12) <|
zz 51 (xk21 0 U1 hy1_2) <|
zz 52 (xivN hy1_3 (toNatLt hy1_2)) <|
yy 53 (.call (C_viewportref16Endq1 y1_3_ y1_13_ [] [])) <|
ww (m_viewportref16Endq1_ok n y1_3_ y1_13_ hy1_13) <|
zz 60 (xk21 0 U1 hy1_2) <|
zz 61 (xivN hy1_3 (toNatLt hy1_2)) <|
zz 62 (xk1 0 Args.cA hy1_10) <|
zz 63 (fk11 ((y1_3_).toNat * 8)) <|
zz 64 (lk12 hy1_11 (toNatLt hy1_10)) <|
zz 69 (xk21 0 U1 hy1_2) <|
zz 70 (xivN hy1_3 (toNatLt hy1_2)) <|
zz 71 (xk1 0 Args.cA hy1_10) <|
zz 72 (fk5 ((y1_3_).toNat * 8)) <|
zz 73 (lk6 hy1_11 (toNatLt hy1_10)) <|
zz 74 (xnm hy1_14) <|
zz 77 (xbF hy1_15) <|
zz 80 (xk21 0 U1 hy1_2) <|
zz 81 (xivN hy1_3 (toNatLt hy1_2)) <|
zz 83 (xdF hy1_16) <|
ww (iv_flat (x1_1a :: x1_1t) 3) <|
ww (rows_flat rwf_b x1_2 4) <|
ee) (by kernel_rfl)
set_option maxRecDepth 100000 in
theorem q_viewportlaw21ReuseApart_1_5 (n : Nat) {rnd : Option Nat} (x1_0 x1_1a : Int) (x1_1t : List (Int)) (x1_2 : List (Bool)) (x1_3 : Nat) (x1_4 x1_5 : Int) (x1_6 : Bool) (x1_7 : Int) (hy1_1 : ¬ (x1_7 < ((((x1_1a :: x1_1t)).length : Nat) : Int))) : Q_viewportlaw21ReuseApart_1 rnd x1_0 x1_2 x1_3 ((x1_1a :: x1_1t), x1_4, x1_5, x1_6, x1_7) (X_viewportlaw21ReuseApart_1 x1_0 x1_2 x1_3 (x1_5, x1_6)) :=
  runC2 hm (L := lT []) ⟨[0, 1, 6, 8, 9], [(0, 1, true)], 1, 0⟩ (zz 5 (xdF hy1_1) <|
ww (rows_flat rwf_b x1_2 4) <|
ee) (by kernel_rfl)
theorem m_viewportlaw21ReuseApart_1_ok (n : Nat) {rnd : Option Nat} (x1_0 : Int) (x1_2 : List (Bool)) (x1_3 : Nat) (st : List Int × Int × Int × Bool × Int) (r : Int × Bool) (h : m_viewportlaw21ReuseApart_1 n x1_0 x1_2 x1_3 st = some r) : CG P rnd (fnN P 3) 0 (codeOf P 3 [false, true, false, true, true, true, true, true, true]) (S_viewportlaw21ReuseApart_1 x1_0 x1_2 x1_3 st) (X_viewportlaw21ReuseApart_1 x1_0 x1_2 x1_3 r) :=
  CG.iter (b := codeOf P 3 [false, false, true, false, true, true, true, true, true, true]) (by kernel_rfl) (body := B_viewportlaw21ReuseApart_1 n x1_0 x1_2 x1_3) (S := S_viewportlaw21ReuseApart_1 x1_0 x1_2 x1_3) (X := X_viewportlaw21ReuseApart_1 x1_0 x1_2 x1_3)
    (fun s s' h => by
    obtain ⟨x1_1, x1_4, x1_5, x1_6, x1_7⟩ := s
    unfold B_viewportlaw21ReuseApart_1 at h
    dsimp only at h
    cases x1_1 with
    | nil =>
      dsimp only at h
      by_cases hy1_1 : x1_7 < (0 : Int)
      · rw [if_pos hy1_1] at h
        cases h
      · rw [if_neg hy1_1] at h
        cases h
    | cons x1_1a x1_1t =>
      dsimp only at h
      by_cases hy1_1 : x1_7 < ((((x1_1a :: x1_1t)).length : Nat) : Int)
      · rw [if_pos hy1_1] at h
        by_cases hy1_2 : 0 ≤ x1_7 ∧ x1_7 < ((((x1_1a :: x1_1t)).length : Nat) : Int)
        · rw [if_pos hy1_2] at h
          obtain ⟨y1_3_, hy1_3, h⟩ := Option.bind_eq_some_iff.1 h
          by_cases hy1_4 : y1_3_ < x1_4
          · rw [if_pos hy1_4] at h
            cases h
          · rw [if_neg hy1_4] at h
            by_cases hy1_5 : y1_3_ ≥ (((Args.A).length : Nat) : Int)
            · rw [if_pos hy1_5] at h
              cases h
            · rw [if_neg hy1_5] at h
              by_cases hy1_6 : 0 ≤ y1_3_ ∧ y1_3_ < ((x1_3 : Nat) : Int)
              · rw [if_pos hy1_6] at h
                by_cases hy1_7 : (y1_3_).toNat < (x1_2).length
                · rw [if_pos hy1_7] at h
                  obtain ⟨y1_8_, hy1_8, h⟩ := Option.bind_eq_some_iff.1 h
                  by_cases hy1_9 : y1_8_ = true
                  · rw [if_pos hy1_9] at h
                    cases h
                  · rw [if_neg hy1_9] at h
                    by_cases hy1_10 : 0 ≤ y1_3_ ∧ y1_3_ < (((Args.A).length : Nat) : Int)
                    · rw [if_pos hy1_10] at h
                      obtain ⟨y1_11_, hy1_11, h⟩ := Option.bind_eq_some_iff.1 h
                      by_cases hy1_12 : (y1_11_.2.1) = (2 : Int)
                      · rw [if_pos hy1_12] at h
                        obtain ⟨y1_13_, hy1_13, h⟩ := Option.bind_eq_some_iff.1 h
                        obtain ⟨y1_14_, hy1_14, h⟩ := Option.bind_eq_some_iff.1 h
                        by_cases hy1_15 : x1_6 = true
                        · rw [if_pos hy1_15] at h
                          obtain rfl := Sum.inl.inj (Option.some.inj h); exact q_viewportlaw21ReuseApart_1_1 n x1_0 x1_1a x1_1t x1_2 x1_3 x1_4 x1_5 x1_6 x1_7 hy1_1 hy1_2 y1_3_ hy1_3 hy1_4 hy1_5 hy1_6 hy1_7 y1_8_ hy1_8 hy1_9 hy1_10 y1_11_ hy1_11 hy1_12 y1_13_ hy1_13 y1_14_ hy1_14 hy1_15
                        · rw [if_neg hy1_15] at h
                          by_cases hy1_16 : y1_3_ ≤ x1_0
                          · rw [if_pos hy1_16] at h
                            by_cases hy1_17 : x1_0 < y1_13_
                            · rw [if_pos hy1_17] at h
                              obtain rfl := Sum.inl.inj (Option.some.inj h); exact q_viewportlaw21ReuseApart_1_2 n x1_0 x1_1a x1_1t x1_2 x1_3 x1_4 x1_5 x1_6 x1_7 hy1_1 hy1_2 y1_3_ hy1_3 hy1_4 hy1_5 hy1_6 hy1_7 y1_8_ hy1_8 hy1_9 hy1_10 y1_11_ hy1_11 hy1_12 y1_13_ hy1_13 y1_14_ hy1_14 hy1_15 hy1_16 hy1_17
                            · rw [if_neg hy1_17] at h
                              obtain rfl := Sum.inl.inj (Option.some.inj h); exact q_viewportlaw21ReuseApart_1_3 n x1_0 x1_1a x1_1t x1_2 x1_3 x1_4 x1_5 x1_6 x1_7 hy1_1 hy1_2 y1_3_ hy1_3 hy1_4 hy1_5 hy1_6 hy1_7 y1_8_ hy1_8 hy1_9 hy1_10 y1_11_ hy1_11 hy1_12 y1_13_ hy1_13 y1_14_ hy1_14 hy1_15 hy1_16 hy1_17
                          · rw [if_neg hy1_16] at h
                            obtain rfl := Sum.inl.inj (Option.some.inj h); exact q_viewportlaw21ReuseApart_1_4 n x1_0 x1_1a x1_1t x1_2 x1_3 x1_4 x1_5 x1_6 x1_7 hy1_1 hy1_2 y1_3_ hy1_3 hy1_4 hy1_5 hy1_6 hy1_7 y1_8_ hy1_8 hy1_9 hy1_10 y1_11_ hy1_11 hy1_12 y1_13_ hy1_13 y1_14_ hy1_14 hy1_15 hy1_16
                      · rw [if_neg hy1_12] at h
                        cases h
                    · rw [if_neg hy1_10] at h; cases h
                · rw [if_neg hy1_7] at h; cases h
              · rw [if_neg hy1_6] at h; cases h
        · rw [if_neg hy1_2] at h; cases h
      · rw [if_neg hy1_1] at h
        cases h)
    (fun s r h => by
    obtain ⟨x1_1, x1_4, x1_5, x1_6, x1_7⟩ := s
    unfold B_viewportlaw21ReuseApart_1 at h
    dsimp only at h
    cases x1_1 with
    | nil =>
      dsimp only at h
      by_cases hy1_1 : x1_7 < (0 : Int)
      · rw [if_pos hy1_1] at h
        cases h
      · rw [if_neg hy1_1] at h
        obtain rfl := Sum.inr.inj (Option.some.inj h); exact q_viewportlaw21ReuseApart_1_0 n x1_0 x1_2 x1_3 x1_4 x1_5 x1_6 x1_7 hy1_1
    | cons x1_1a x1_1t =>
      dsimp only at h
      by_cases hy1_1 : x1_7 < ((((x1_1a :: x1_1t)).length : Nat) : Int)
      · rw [if_pos hy1_1] at h
        by_cases hy1_2 : 0 ≤ x1_7 ∧ x1_7 < ((((x1_1a :: x1_1t)).length : Nat) : Int)
        · rw [if_pos hy1_2] at h
          obtain ⟨y1_3_, hy1_3, h⟩ := Option.bind_eq_some_iff.1 h
          by_cases hy1_4 : y1_3_ < x1_4
          · rw [if_pos hy1_4] at h
            cases h
          · rw [if_neg hy1_4] at h
            by_cases hy1_5 : y1_3_ ≥ (((Args.A).length : Nat) : Int)
            · rw [if_pos hy1_5] at h
              cases h
            · rw [if_neg hy1_5] at h
              by_cases hy1_6 : 0 ≤ y1_3_ ∧ y1_3_ < ((x1_3 : Nat) : Int)
              · rw [if_pos hy1_6] at h
                by_cases hy1_7 : (y1_3_).toNat < (x1_2).length
                · rw [if_pos hy1_7] at h
                  obtain ⟨y1_8_, hy1_8, h⟩ := Option.bind_eq_some_iff.1 h
                  by_cases hy1_9 : y1_8_ = true
                  · rw [if_pos hy1_9] at h
                    cases h
                  · rw [if_neg hy1_9] at h
                    by_cases hy1_10 : 0 ≤ y1_3_ ∧ y1_3_ < (((Args.A).length : Nat) : Int)
                    · rw [if_pos hy1_10] at h
                      obtain ⟨y1_11_, hy1_11, h⟩ := Option.bind_eq_some_iff.1 h
                      by_cases hy1_12 : (y1_11_.2.1) = (2 : Int)
                      · rw [if_pos hy1_12] at h
                        obtain ⟨y1_13_, hy1_13, h⟩ := Option.bind_eq_some_iff.1 h
                        obtain ⟨y1_14_, hy1_14, h⟩ := Option.bind_eq_some_iff.1 h
                        by_cases hy1_15 : x1_6 = true
                        · rw [if_pos hy1_15] at h
                          cases h
                        · rw [if_neg hy1_15] at h
                          by_cases hy1_16 : y1_3_ ≤ x1_0
                          · rw [if_pos hy1_16] at h
                            by_cases hy1_17 : x1_0 < y1_13_
                            · rw [if_pos hy1_17] at h
                              cases h
                            · rw [if_neg hy1_17] at h
                              cases h
                          · rw [if_neg hy1_16] at h
                            cases h
                      · rw [if_neg hy1_12] at h
                        cases h
                    · rw [if_neg hy1_10] at h; cases h
                · rw [if_neg hy1_7] at h; cases h
              · rw [if_neg hy1_6] at h; cases h
        · rw [if_neg hy1_2] at h; cases h
      · rw [if_neg hy1_1] at h
        obtain rfl := Sum.inr.inj (Option.some.inj h); exact q_viewportlaw21ReuseApart_1_5 n x1_0 x1_1a x1_1t x1_2 x1_3 x1_4 x1_5 x1_6 x1_7 hy1_1)
    (fun r => by intro hx; cases hx) h
def m_viewportlaw21ReuseApart (n : Nat) (g1 : Int) : Option (Unit) :=
  (m_viewportlaw21lives n).bind fun _ =>
  (m_viewportkitLightPartsq1 n 120).bind fun c2_ =>
  if c2_ = true then
    (m_viewportref16Checkq1 n).bind fun c4_ =>
    if c4_ = (0 : Int) then
      (m_viewportkitPickq1 n g1 (((Args.A).length : Nat) : Int)).bind fun c6_ =>
      (m_reuseAllq1 n).bind fun c7_ =>
      match c7_ with
      | [] =>
        (m_viewportref16Staleq1 n).bind fun t => match t with
        | (c8_0, c8_1) =>
          (m_viewportlaw21ReuseApart_1 n c6_ c8_0 c8_1 (([] : List Int), 0, 0, false, 0)).bind fun t => match t with
          | (c9_0, c9_1) =>
            if 0 ≤ c6_ ∧ c6_ < (((Args.A).length : Nat) : Int) then
              ((some ((Args.A).getD (c6_).toNat (0, 0, 0, 0, 0, 0, nl0, 0)))).bind fun c11_ =>
              if (c11_.2.1) = (2 : Int) then
                if 0 ≤ c6_ ∧ c6_ < ((c8_1 : Nat) : Int) then
                  if (c6_).toNat < (c8_0).length then
                    ((some ((c8_0).getD (c6_).toNat (false)))).bind fun c15_ =>
                    if c15_ = true then
                      (m_reuseBytesq1 n).bind fun c17_ =>
                      if c17_ = c9_0 then
                        some ()
                      else
                        none
                    else
                      if c9_1 = true then
                        (m_reuseBytesq1 n).bind fun c18_ =>
                        if c18_ = c9_0 then
                          some ()
                        else
                          none
                      else
                        none
                  else none
                else none
              else
                (m_reuseBytesq1 n).bind fun c13_ =>
                if c13_ = c9_0 then
                  some ()
                else
                  none
            else none
      | c7_a :: c7_t =>
        (m_viewportref16Staleq1 n).bind fun t => match t with
        | (c8_0, c8_1) =>
          (m_viewportlaw21ReuseApart_1 n c6_ c8_0 c8_1 ((c7_a :: c7_t), 0, 0, false, 0)).bind fun t => match t with
          | (c9_0, c9_1) =>
            if 0 ≤ c6_ ∧ c6_ < (((Args.A).length : Nat) : Int) then
              ((some ((Args.A).getD (c6_).toNat (0, 0, 0, 0, 0, 0, nl0, 0)))).bind fun c11_ =>
              if (c11_.2.1) = (2 : Int) then
                if 0 ≤ c6_ ∧ c6_ < ((c8_1 : Nat) : Int) then
                  if (c6_).toNat < (c8_0).length then
                    ((some ((c8_0).getD (c6_).toNat (false)))).bind fun c15_ =>
                    if c15_ = true then
                      (m_reuseBytesq1 n).bind fun c17_ =>
                      if c17_ = c9_0 then
                        some ()
                      else
                        none
                    else
                      if c9_1 = true then
                        (m_reuseBytesq1 n).bind fun c18_ =>
                        if c18_ = c9_0 then
                          some ()
                        else
                          none
                      else
                        none
                  else none
                else none
              else
                (m_reuseBytesq1 n).bind fun c13_ =>
                if c13_ = c9_0 then
                  some ()
                else
                  none
            else none
    else
      some ()
  else
    some ()
set_option maxRecDepth 100000 in
theorem p_viewportlaw21ReuseApart_0 (n : Nat) (g1 : Int) (hc1 : m_viewportlaw21lives n = some ()) (c2_ : Bool) (hc2 : m_viewportkitLightPartsq1 n 120 = some c2_) (hc3 : c2_ = true) (c4_ : Int) (hc4 : m_viewportref16Checkq1 n = some c4_) (hc5 : c4_ = (0 : Int)) (c6_ : Int) (hc6 : m_viewportkitPickq1 n g1 (((Args.A).length : Nat) : Int) = some c6_) (hc7 : m_reuseAllq1 n = some []) (c8_0 : List (Bool)) (c8_1 : Nat) (hc8 : m_viewportref16Staleq1 n = some (c8_0, c8_1)) (c9_0 : Int) (c9_1 : Bool) (hc9 : m_viewportlaw21ReuseApart_1 n c6_ c8_0 c8_1 (([] : List Int), 0, 0, false, 0) = some (c9_0, c9_1)) (hc10 : 0 ≤ c6_ ∧ c6_ < (((Args.A).length : Nat) : Int)) (c11_ : Int × Int × Int × Int × Int × Int × NL × Int) (hc11 : (some ((Args.A).getD (c6_).toNat (0, 0, 0, 0, 0, 0, nl0, 0))) = some c11_) (hc12 : (c11_.2.1) = (2 : Int)) (hc13 : 0 ≤ c6_ ∧ c6_ < ((c8_1 : Nat) : Int)) (hc14 : (c6_).toNat < (c8_0).length) (c15_ : Bool) (hc15 : (some ((c8_0).getD (c6_).toNat (false))) = some c15_) (hc16 : c15_ = true) (c17_ : Int) (hc17 : m_reuseBytesq1 n = some c17_) (hc18 : c17_ = c9_0) : G_viewportlaw21ReuseApart g1 () :=
  runF2 hm (L := lT [(39, ⟨⟨[0, 1, 5, 6, 7, 8, 9, 10], [(1, 1, true)], 2, 0⟩, (X_viewportlaw21ReuseApart_1 c6_ c8_0 c8_1 (c9_0, c9_1)).1, (X_viewportlaw21ReuseApart_1 c6_ c8_0 c8_1 (c9_0, c9_1)).2⟩)]) ⟨[4], [], 0, 0⟩ (yy 4 (.call ⟨0, [], (Value.bool true), Ax.h0, []⟩) <|
ww (m_viewportlaw21lives_ok n  () hc1) <|
yy 10 (.call (C_viewportkitLightPartsq1 120 c2_ [] [])) <|
ww (m_viewportkitLightPartsq1_ok n 120 c2_ hc2) <|
yy 11 (vf) <|
ww (p := (Value.bool (!c2_)) = (Value.bool false)) (vBn hc3) <|
yy 14 (.call (C_viewportref16Checkq1  c4_ [] [])) <|
ww (m_viewportref16Checkq1_ok n  c4_ hc4) <|
zz 15 (xnF hc5) <|
yy 22 (.call (C_viewportkitPickq1 g1 (((Args.A).length : Nat) : Int) c6_ [] [])) <|
ww (m_viewportkitPickq1_ok n g1 (((Args.A).length : Nat) : Int) c6_ hc6) <|
yy 26 (.call (C_reuseAllq1  ([] : List Int) [] [])) <|
ww (m_reuseAllq1_ok n  ([] : List Int) hc7) <|
yy 28 (.call (C_viewportref16Staleq1  (c8_0, c8_1) [] [(1, 0, true)])) <|
ww (m_viewportref16Staleq1_ok n  (c8_0, c8_1) hc8) <|
ww (rows_flat rwf_b c8_0 4) <|
ww (p := U_viewportlaw21ReuseApart_1 none c6_ c8_0 c8_1 (([] : List Int), 0, 0, false, 0) (c9_0, c9_1)) (m_viewportlaw21ReuseApart_1_ok n c6_ c8_0 c8_1 (([] : List Int), 0, 0, false, 0) (c9_0, c9_1) hc9) <|
ww (rows_flat rwf_b c8_0 4) <|
zz 43 (xk1 0 Args.cA hc10) <|
zz 44 (fk3 ((c6_).toNat * 8)) <|
zz 45 (lk4 hc11 (toNatLt hc10)) <|
zz 46 (xeT hc12) <|
zz 50 (xk17 0 c8_1 hc13) <|
zz 51 (ok18 hc15 (hc14)) <|
yy 52 (vf) <|
ww (p := (Value.bool (!c15_)) = (Value.bool false)) (vBn hc16) <|
yy 63 (.call (C_reuseBytesq1  c17_ [] [])) <|
ww (m_reuseBytesq1_ok n  c17_ hc17) <|
zz 65 (xeT hc18) <|
ee) (by kernel_rfl)
set_option maxRecDepth 100000 in
theorem p_viewportlaw21ReuseApart_1 (n : Nat) (g1 : Int) (hc1 : m_viewportlaw21lives n = some ()) (c2_ : Bool) (hc2 : m_viewportkitLightPartsq1 n 120 = some c2_) (hc3 : c2_ = true) (c4_ : Int) (hc4 : m_viewportref16Checkq1 n = some c4_) (hc5 : c4_ = (0 : Int)) (c6_ : Int) (hc6 : m_viewportkitPickq1 n g1 (((Args.A).length : Nat) : Int) = some c6_) (hc7 : m_reuseAllq1 n = some []) (c8_0 : List (Bool)) (c8_1 : Nat) (hc8 : m_viewportref16Staleq1 n = some (c8_0, c8_1)) (c9_0 : Int) (c9_1 : Bool) (hc9 : m_viewportlaw21ReuseApart_1 n c6_ c8_0 c8_1 (([] : List Int), 0, 0, false, 0) = some (c9_0, c9_1)) (hc10 : 0 ≤ c6_ ∧ c6_ < (((Args.A).length : Nat) : Int)) (c11_ : Int × Int × Int × Int × Int × Int × NL × Int) (hc11 : (some ((Args.A).getD (c6_).toNat (0, 0, 0, 0, 0, 0, nl0, 0))) = some c11_) (hc12 : (c11_.2.1) = (2 : Int)) (hc13 : 0 ≤ c6_ ∧ c6_ < ((c8_1 : Nat) : Int)) (hc14 : (c6_).toNat < (c8_0).length) (c15_ : Bool) (hc15 : (some ((c8_0).getD (c6_).toNat (false))) = some c15_) (hc16 : ¬ (c15_ = true)) (hc17 : c9_1 = true) (c18_ : Int) (hc18 : m_reuseBytesq1 n = some c18_) (hc19 : c18_ = c9_0) : G_viewportlaw21ReuseApart g1 () :=
  runF2 hm (L := lT [(39, ⟨⟨[0, 1, 5, 6, 7, 8, 9, 10], [(1, 1, true)], 2, 0⟩, (X_viewportlaw21ReuseApart_1 c6_ c8_0 c8_1 (c9_0, c9_1)).1, (X_viewportlaw21ReuseApart_1 c6_ c8_0 c8_1 (c9_0, c9_1)).2⟩)]) ⟨[4], [], 0, 0⟩ (yy 4 (.call ⟨0, [], (Value.bool true), Ax.h0, []⟩) <|
ww (m_viewportlaw21lives_ok n  () hc1) <|
yy 10 (.call (C_viewportkitLightPartsq1 120 c2_ [] [])) <|
ww (m_viewportkitLightPartsq1_ok n 120 c2_ hc2) <|
yy 11 (vf) <|
ww (p := (Value.bool (!c2_)) = (Value.bool false)) (vBn hc3) <|
yy 14 (.call (C_viewportref16Checkq1  c4_ [] [])) <|
ww (m_viewportref16Checkq1_ok n  c4_ hc4) <|
zz 15 (xnF hc5) <|
yy 22 (.call (C_viewportkitPickq1 g1 (((Args.A).length : Nat) : Int) c6_ [] [])) <|
ww (m_viewportkitPickq1_ok n g1 (((Args.A).length : Nat) : Int) c6_ hc6) <|
yy 26 (.call (C_reuseAllq1  ([] : List Int) [] [])) <|
ww (m_reuseAllq1_ok n  ([] : List Int) hc7) <|
yy 28 (.call (C_viewportref16Staleq1  (c8_0, c8_1) [] [(1, 0, true)])) <|
ww (m_viewportref16Staleq1_ok n  (c8_0, c8_1) hc8) <|
ww (rows_flat rwf_b c8_0 4) <|
ww (p := U_viewportlaw21ReuseApart_1 none c6_ c8_0 c8_1 (([] : List Int), 0, 0, false, 0) (c9_0, c9_1)) (m_viewportlaw21ReuseApart_1_ok n c6_ c8_0 c8_1 (([] : List Int), 0, 0, false, 0) (c9_0, c9_1) hc9) <|
ww (rows_flat rwf_b c8_0 4) <|
zz 43 (xk1 0 Args.cA hc10) <|
zz 44 (fk3 ((c6_).toNat * 8)) <|
zz 45 (lk4 hc11 (toNatLt hc10)) <|
zz 46 (xeT hc12) <|
zz 50 (xk17 0 c8_1 hc13) <|
zz 51 (ok18 hc15 (hc14)) <|
yy 52 (vt) <|
ww (p := (Value.bool (!c15_)) = (Value.bool true)) (vBn (Bool.eq_false_iff.2 hc16)) <|
zz 61 (xbT hc17) <|
yy 63 (.call (C_reuseBytesq1  c18_ [] [])) <|
ww (m_reuseBytesq1_ok n  c18_ hc18) <|
zz 65 (xeT hc19) <|
ee) (by kernel_rfl)
set_option maxRecDepth 100000 in
theorem p_viewportlaw21ReuseApart_2 (n : Nat) (g1 : Int) (hc1 : m_viewportlaw21lives n = some ()) (c2_ : Bool) (hc2 : m_viewportkitLightPartsq1 n 120 = some c2_) (hc3 : c2_ = true) (c4_ : Int) (hc4 : m_viewportref16Checkq1 n = some c4_) (hc5 : c4_ = (0 : Int)) (c6_ : Int) (hc6 : m_viewportkitPickq1 n g1 (((Args.A).length : Nat) : Int) = some c6_) (hc7 : m_reuseAllq1 n = some []) (c8_0 : List (Bool)) (c8_1 : Nat) (hc8 : m_viewportref16Staleq1 n = some (c8_0, c8_1)) (c9_0 : Int) (c9_1 : Bool) (hc9 : m_viewportlaw21ReuseApart_1 n c6_ c8_0 c8_1 (([] : List Int), 0, 0, false, 0) = some (c9_0, c9_1)) (hc10 : 0 ≤ c6_ ∧ c6_ < (((Args.A).length : Nat) : Int)) (c11_ : Int × Int × Int × Int × Int × Int × NL × Int) (hc11 : (some ((Args.A).getD (c6_).toNat (0, 0, 0, 0, 0, 0, nl0, 0))) = some c11_) (hc12 : ¬ ((c11_.2.1) = (2 : Int))) (c13_ : Int) (hc13 : m_reuseBytesq1 n = some c13_) (hc14 : c13_ = c9_0) : G_viewportlaw21ReuseApart g1 () :=
  runF2 hm (L := lT [(39, ⟨⟨[0, 1, 5, 6, 7, 8, 9, 10], [(1, 1, true)], 2, 0⟩, (X_viewportlaw21ReuseApart_1 c6_ c8_0 c8_1 (c9_0, c9_1)).1, (X_viewportlaw21ReuseApart_1 c6_ c8_0 c8_1 (c9_0, c9_1)).2⟩)]) ⟨[4], [], 0, 0⟩ (yy 4 (.call ⟨0, [], (Value.bool true), Ax.h0, []⟩) <|
ww (m_viewportlaw21lives_ok n  () hc1) <|
yy 10 (.call (C_viewportkitLightPartsq1 120 c2_ [] [])) <|
ww (m_viewportkitLightPartsq1_ok n 120 c2_ hc2) <|
yy 11 (vf) <|
ww (p := (Value.bool (!c2_)) = (Value.bool false)) (vBn hc3) <|
yy 14 (.call (C_viewportref16Checkq1  c4_ [] [])) <|
ww (m_viewportref16Checkq1_ok n  c4_ hc4) <|
zz 15 (xnF hc5) <|
yy 22 (.call (C_viewportkitPickq1 g1 (((Args.A).length : Nat) : Int) c6_ [] [])) <|
ww (m_viewportkitPickq1_ok n g1 (((Args.A).length : Nat) : Int) c6_ hc6) <|
yy 26 (.call (C_reuseAllq1  ([] : List Int) [] [])) <|
ww (m_reuseAllq1_ok n  ([] : List Int) hc7) <|
yy 28 (.call (C_viewportref16Staleq1  (c8_0, c8_1) [] [(1, 0, true)])) <|
ww (m_viewportref16Staleq1_ok n  (c8_0, c8_1) hc8) <|
ww (rows_flat rwf_b c8_0 4) <|
ww (p := U_viewportlaw21ReuseApart_1 none c6_ c8_0 c8_1 (([] : List Int), 0, 0, false, 0) (c9_0, c9_1)) (m_viewportlaw21ReuseApart_1_ok n c6_ c8_0 c8_1 (([] : List Int), 0, 0, false, 0) (c9_0, c9_1) hc9) <|
ww (rows_flat rwf_b c8_0 4) <|
zz 43 (xk1 0 Args.cA hc10) <|
zz 44 (fk3 ((c6_).toNat * 8)) <|
zz 45 (lk4 hc11 (toNatLt hc10)) <|
zz 46 (xeF hc12) <|
yy 63 (.call (C_reuseBytesq1  c13_ [] [])) <|
ww (m_reuseBytesq1_ok n  c13_ hc13) <|
zz 65 (xeT hc14) <|
ee) (by kernel_rfl)
set_option maxRecDepth 100000 in
theorem p_viewportlaw21ReuseApart_3 (n : Nat) (g1 : Int) (hc1 : m_viewportlaw21lives n = some ()) (c2_ : Bool) (hc2 : m_viewportkitLightPartsq1 n 120 = some c2_) (hc3 : c2_ = true) (c4_ : Int) (hc4 : m_viewportref16Checkq1 n = some c4_) (hc5 : c4_ = (0 : Int)) (c6_ : Int) (hc6 : m_viewportkitPickq1 n g1 (((Args.A).length : Nat) : Int) = some c6_) (c7_a : Int) (c7_t : List (Int)) (hc7 : m_reuseAllq1 n = some (c7_a :: c7_t)) (c8_0 : List (Bool)) (c8_1 : Nat) (hc8 : m_viewportref16Staleq1 n = some (c8_0, c8_1)) (c9_0 : Int) (c9_1 : Bool) (hc9 : m_viewportlaw21ReuseApart_1 n c6_ c8_0 c8_1 ((c7_a :: c7_t), 0, 0, false, 0) = some (c9_0, c9_1)) (hc10 : 0 ≤ c6_ ∧ c6_ < (((Args.A).length : Nat) : Int)) (c11_ : Int × Int × Int × Int × Int × Int × NL × Int) (hc11 : (some ((Args.A).getD (c6_).toNat (0, 0, 0, 0, 0, 0, nl0, 0))) = some c11_) (hc12 : (c11_.2.1) = (2 : Int)) (hc13 : 0 ≤ c6_ ∧ c6_ < ((c8_1 : Nat) : Int)) (hc14 : (c6_).toNat < (c8_0).length) (c15_ : Bool) (hc15 : (some ((c8_0).getD (c6_).toNat (false))) = some c15_) (hc16 : c15_ = true) (c17_ : Int) (hc17 : m_reuseBytesq1 n = some c17_) (hc18 : c17_ = c9_0) : G_viewportlaw21ReuseApart g1 () :=
  runF2 hm (L := lT [(39, ⟨⟨[0, 1, 5, 6, 7, 8, 9, 10], [(0, 0, true), (1, 1, true)], 2, 0⟩, (X_viewportlaw21ReuseApart_1 c6_ c8_0 c8_1 (c9_0, c9_1)).1, (X_viewportlaw21ReuseApart_1 c6_ c8_0 c8_1 (c9_0, c9_1)).2⟩)]) ⟨[4], [], 0, 0⟩ (yy 4 (.call ⟨0, [], (Value.bool true), Ax.h0, []⟩) <|
ww (m_viewportlaw21lives_ok n  () hc1) <|
yy 10 (.call (C_viewportkitLightPartsq1 120 c2_ [] [])) <|
ww (m_viewportkitLightPartsq1_ok n 120 c2_ hc2) <|
yy 11 (vf) <|
ww (p := (Value.bool (!c2_)) = (Value.bool false)) (vBn hc3) <|
yy 14 (.call (C_viewportref16Checkq1  c4_ [] [])) <|
ww (m_viewportref16Checkq1_ok n  c4_ hc4) <|
zz 15 (xnF hc5) <|
yy 22 (.call (C_viewportkitPickq1 g1 (((Args.A).length : Nat) : Int) c6_ [] [])) <|
ww (m_viewportkitPickq1_ok n g1 (((Args.A).length : Nat) : Int) c6_ hc6) <|
yy 26 (.call (C_reuseAllq1  (c7_a :: c7_t) [] [(0, 0, true)])) <|
ww (m_reuseAllq1_ok n  (c7_a :: c7_t) hc7) <|
ww (iv_flat (c7_a :: c7_t) 3) <|
yy 28 (.call (C_viewportref16Staleq1  (c8_0, c8_1) [] [(1, 0, true)])) <|
ww (m_viewportref16Staleq1_ok n  (c8_0, c8_1) hc8) <|
ww (rows_flat rwf_b c8_0 4) <|
ww (p := U_viewportlaw21ReuseApart_1 none c6_ c8_0 c8_1 ((c7_a :: c7_t), 0, 0, false, 0) (c9_0, c9_1)) (m_viewportlaw21ReuseApart_1_ok n c6_ c8_0 c8_1 ((c7_a :: c7_t), 0, 0, false, 0) (c9_0, c9_1) hc9) <|
ww (iv_flat (c7_a :: c7_t) 3) <|
ww (rows_flat rwf_b c8_0 4) <|
zz 43 (xk1 0 Args.cA hc10) <|
zz 44 (fk3 ((c6_).toNat * 8)) <|
zz 45 (lk4 hc11 (toNatLt hc10)) <|
zz 46 (xeT hc12) <|
zz 50 (xk17 0 c8_1 hc13) <|
zz 51 (ok18 hc15 (hc14)) <|
yy 52 (vf) <|
ww (p := (Value.bool (!c15_)) = (Value.bool false)) (vBn hc16) <|
yy 63 (.call (C_reuseBytesq1  c17_ [] [])) <|
ww (m_reuseBytesq1_ok n  c17_ hc17) <|
zz 65 (xeT hc18) <|
ee) (by kernel_rfl)
set_option maxRecDepth 100000 in
theorem p_viewportlaw21ReuseApart_4 (n : Nat) (g1 : Int) (hc1 : m_viewportlaw21lives n = some ()) (c2_ : Bool) (hc2 : m_viewportkitLightPartsq1 n 120 = some c2_) (hc3 : c2_ = true) (c4_ : Int) (hc4 : m_viewportref16Checkq1 n = some c4_) (hc5 : c4_ = (0 : Int)) (c6_ : Int) (hc6 : m_viewportkitPickq1 n g1 (((Args.A).length : Nat) : Int) = some c6_) (c7_a : Int) (c7_t : List (Int)) (hc7 : m_reuseAllq1 n = some (c7_a :: c7_t)) (c8_0 : List (Bool)) (c8_1 : Nat) (hc8 : m_viewportref16Staleq1 n = some (c8_0, c8_1)) (c9_0 : Int) (c9_1 : Bool) (hc9 : m_viewportlaw21ReuseApart_1 n c6_ c8_0 c8_1 ((c7_a :: c7_t), 0, 0, false, 0) = some (c9_0, c9_1)) (hc10 : 0 ≤ c6_ ∧ c6_ < (((Args.A).length : Nat) : Int)) (c11_ : Int × Int × Int × Int × Int × Int × NL × Int) (hc11 : (some ((Args.A).getD (c6_).toNat (0, 0, 0, 0, 0, 0, nl0, 0))) = some c11_) (hc12 : (c11_.2.1) = (2 : Int)) (hc13 : 0 ≤ c6_ ∧ c6_ < ((c8_1 : Nat) : Int)) (hc14 : (c6_).toNat < (c8_0).length) (c15_ : Bool) (hc15 : (some ((c8_0).getD (c6_).toNat (false))) = some c15_) (hc16 : ¬ (c15_ = true)) (hc17 : c9_1 = true) (c18_ : Int) (hc18 : m_reuseBytesq1 n = some c18_) (hc19 : c18_ = c9_0) : G_viewportlaw21ReuseApart g1 () :=
  runF2 hm (L := lT [(39, ⟨⟨[0, 1, 5, 6, 7, 8, 9, 10], [(0, 0, true), (1, 1, true)], 2, 0⟩, (X_viewportlaw21ReuseApart_1 c6_ c8_0 c8_1 (c9_0, c9_1)).1, (X_viewportlaw21ReuseApart_1 c6_ c8_0 c8_1 (c9_0, c9_1)).2⟩)]) ⟨[4], [], 0, 0⟩ (yy 4 (.call ⟨0, [], (Value.bool true), Ax.h0, []⟩) <|
ww (m_viewportlaw21lives_ok n  () hc1) <|
yy 10 (.call (C_viewportkitLightPartsq1 120 c2_ [] [])) <|
ww (m_viewportkitLightPartsq1_ok n 120 c2_ hc2) <|
yy 11 (vf) <|
ww (p := (Value.bool (!c2_)) = (Value.bool false)) (vBn hc3) <|
yy 14 (.call (C_viewportref16Checkq1  c4_ [] [])) <|
ww (m_viewportref16Checkq1_ok n  c4_ hc4) <|
zz 15 (xnF hc5) <|
yy 22 (.call (C_viewportkitPickq1 g1 (((Args.A).length : Nat) : Int) c6_ [] [])) <|
ww (m_viewportkitPickq1_ok n g1 (((Args.A).length : Nat) : Int) c6_ hc6) <|
yy 26 (.call (C_reuseAllq1  (c7_a :: c7_t) [] [(0, 0, true)])) <|
ww (m_reuseAllq1_ok n  (c7_a :: c7_t) hc7) <|
ww (iv_flat (c7_a :: c7_t) 3) <|
yy 28 (.call (C_viewportref16Staleq1  (c8_0, c8_1) [] [(1, 0, true)])) <|
ww (m_viewportref16Staleq1_ok n  (c8_0, c8_1) hc8) <|
ww (rows_flat rwf_b c8_0 4) <|
ww (p := U_viewportlaw21ReuseApart_1 none c6_ c8_0 c8_1 ((c7_a :: c7_t), 0, 0, false, 0) (c9_0, c9_1)) (m_viewportlaw21ReuseApart_1_ok n c6_ c8_0 c8_1 ((c7_a :: c7_t), 0, 0, false, 0) (c9_0, c9_1) hc9) <|
ww (iv_flat (c7_a :: c7_t) 3) <|
ww (rows_flat rwf_b c8_0 4) <|
zz 43 (xk1 0 Args.cA hc10) <|
zz 44 (fk3 ((c6_).toNat * 8)) <|
zz 45 (lk4 hc11 (toNatLt hc10)) <|
zz 46 (xeT hc12) <|
zz 50 (xk17 0 c8_1 hc13) <|
zz 51 (ok18 hc15 (hc14)) <|
yy 52 (vt) <|
ww (p := (Value.bool (!c15_)) = (Value.bool true)) (vBn (Bool.eq_false_iff.2 hc16)) <|
zz 61 (xbT hc17) <|
yy 63 (.call (C_reuseBytesq1  c18_ [] [])) <|
ww (m_reuseBytesq1_ok n  c18_ hc18) <|
zz 65 (xeT hc19) <|
ee) (by kernel_rfl)
set_option maxRecDepth 100000 in
theorem p_viewportlaw21ReuseApart_5 (n : Nat) (g1 : Int) (hc1 : m_viewportlaw21lives n = some ()) (c2_ : Bool) (hc2 : m_viewportkitLightPartsq1 n 120 = some c2_) (hc3 : c2_ = true) (c4_ : Int) (hc4 : m_viewportref16Checkq1 n = some c4_) (hc5 : c4_ = (0 : Int)) (c6_ : Int) (hc6 : m_viewportkitPickq1 n g1 (((Args.A).length : Nat) : Int) = some c6_) (c7_a : Int) (c7_t : List (Int)) (hc7 : m_reuseAllq1 n = some (c7_a :: c7_t)) (c8_0 : List (Bool)) (c8_1 : Nat) (hc8 : m_viewportref16Staleq1 n = some (c8_0, c8_1)) (c9_0 : Int) (c9_1 : Bool) (hc9 : m_viewportlaw21ReuseApart_1 n c6_ c8_0 c8_1 ((c7_a :: c7_t), 0, 0, false, 0) = some (c9_0, c9_1)) (hc10 : 0 ≤ c6_ ∧ c6_ < (((Args.A).length : Nat) : Int)) (c11_ : Int × Int × Int × Int × Int × Int × NL × Int) (hc11 : (some ((Args.A).getD (c6_).toNat (0, 0, 0, 0, 0, 0, nl0, 0))) = some c11_) (hc12 : ¬ ((c11_.2.1) = (2 : Int))) (c13_ : Int) (hc13 : m_reuseBytesq1 n = some c13_) (hc14 : c13_ = c9_0) : G_viewportlaw21ReuseApart g1 () :=
  runF2 hm (L := lT [(39, ⟨⟨[0, 1, 5, 6, 7, 8, 9, 10], [(0, 0, true), (1, 1, true)], 2, 0⟩, (X_viewportlaw21ReuseApart_1 c6_ c8_0 c8_1 (c9_0, c9_1)).1, (X_viewportlaw21ReuseApart_1 c6_ c8_0 c8_1 (c9_0, c9_1)).2⟩)]) ⟨[4], [], 0, 0⟩ (yy 4 (.call ⟨0, [], (Value.bool true), Ax.h0, []⟩) <|
ww (m_viewportlaw21lives_ok n  () hc1) <|
yy 10 (.call (C_viewportkitLightPartsq1 120 c2_ [] [])) <|
ww (m_viewportkitLightPartsq1_ok n 120 c2_ hc2) <|
yy 11 (vf) <|
ww (p := (Value.bool (!c2_)) = (Value.bool false)) (vBn hc3) <|
yy 14 (.call (C_viewportref16Checkq1  c4_ [] [])) <|
ww (m_viewportref16Checkq1_ok n  c4_ hc4) <|
zz 15 (xnF hc5) <|
yy 22 (.call (C_viewportkitPickq1 g1 (((Args.A).length : Nat) : Int) c6_ [] [])) <|
ww (m_viewportkitPickq1_ok n g1 (((Args.A).length : Nat) : Int) c6_ hc6) <|
yy 26 (.call (C_reuseAllq1  (c7_a :: c7_t) [] [(0, 0, true)])) <|
ww (m_reuseAllq1_ok n  (c7_a :: c7_t) hc7) <|
ww (iv_flat (c7_a :: c7_t) 3) <|
yy 28 (.call (C_viewportref16Staleq1  (c8_0, c8_1) [] [(1, 0, true)])) <|
ww (m_viewportref16Staleq1_ok n  (c8_0, c8_1) hc8) <|
ww (rows_flat rwf_b c8_0 4) <|
ww (p := U_viewportlaw21ReuseApart_1 none c6_ c8_0 c8_1 ((c7_a :: c7_t), 0, 0, false, 0) (c9_0, c9_1)) (m_viewportlaw21ReuseApart_1_ok n c6_ c8_0 c8_1 ((c7_a :: c7_t), 0, 0, false, 0) (c9_0, c9_1) hc9) <|
ww (iv_flat (c7_a :: c7_t) 3) <|
ww (rows_flat rwf_b c8_0 4) <|
zz 43 (xk1 0 Args.cA hc10) <|
zz 44 (fk3 ((c6_).toNat * 8)) <|
zz 45 (lk4 hc11 (toNatLt hc10)) <|
zz 46 (xeF hc12) <|
yy 63 (.call (C_reuseBytesq1  c13_ [] [])) <|
ww (m_reuseBytesq1_ok n  c13_ hc13) <|
zz 65 (xeT hc14) <|
ee) (by kernel_rfl)
set_option maxRecDepth 100000 in
theorem p_viewportlaw21ReuseApart_6 (n : Nat) (g1 : Int) (hc1 : m_viewportlaw21lives n = some ()) (c2_ : Bool) (hc2 : m_viewportkitLightPartsq1 n 120 = some c2_) (hc3 : c2_ = true) (c4_ : Int) (hc4 : m_viewportref16Checkq1 n = some c4_) (hc5 : ¬ (c4_ = (0 : Int))) : G_viewportlaw21ReuseApart g1 () :=
  runF2 hm (L := lT []) ⟨[4], [], 0, 0⟩ (yy 4 (.call ⟨0, [], (Value.bool true), Ax.h0, []⟩) <|
ww (m_viewportlaw21lives_ok n  () hc1) <|
yy 10 (.call (C_viewportkitLightPartsq1 120 c2_ [] [])) <|
ww (m_viewportkitLightPartsq1_ok n 120 c2_ hc2) <|
yy 11 (vf) <|
ww (p := (Value.bool (!c2_)) = (Value.bool false)) (vBn hc3) <|
yy 14 (.call (C_viewportref16Checkq1  c4_ [] [])) <|
ww (m_viewportref16Checkq1_ok n  c4_ hc4) <|
zz 15 (xnT hc5) <|
ee) (by kernel_rfl)
set_option maxRecDepth 100000 in
theorem p_viewportlaw21ReuseApart_7 (n : Nat) (g1 : Int) (hc1 : m_viewportlaw21lives n = some ()) (c2_ : Bool) (hc2 : m_viewportkitLightPartsq1 n 120 = some c2_) (hc3 : ¬ (c2_ = true)) : G_viewportlaw21ReuseApart g1 () :=
  runF2 hm (L := lT []) ⟨[4], [], 0, 0⟩ (yy 4 (.call ⟨0, [], (Value.bool true), Ax.h0, []⟩) <|
ww (m_viewportlaw21lives_ok n  () hc1) <|
yy 10 (.call (C_viewportkitLightPartsq1 120 c2_ [] [])) <|
ww (m_viewportkitLightPartsq1_ok n 120 c2_ hc2) <|
yy 11 (vt) <|
ww (p := (Value.bool (!c2_)) = (Value.bool true)) (vBn (Bool.eq_false_iff.2 hc3)) <|
ee) (by kernel_rfl)
theorem m_viewportlaw21ReuseApart_ok (n : Nat) (g1 : Int) (r : Unit) (h : m_viewportlaw21ReuseApart n g1 = some r) : Gv P (.func 3) (A_viewportlaw21ReuseApart g1) (H_viewportlaw21ReuseApart g1) (V_viewportlaw21ReuseApart g1 r) (R_viewportlaw21ReuseApart g1 r) := by
  unfold m_viewportlaw21ReuseApart at h
  obtain ⟨_, hc1, h⟩ := Option.bind_eq_some_iff.1 h
  obtain ⟨c2_, hc2, h⟩ := Option.bind_eq_some_iff.1 h
  by_cases hc3 : c2_ = true
  · rw [if_pos hc3] at h
    obtain ⟨c4_, hc4, h⟩ := Option.bind_eq_some_iff.1 h
    by_cases hc5 : c4_ = (0 : Int)
    · rw [if_pos hc5] at h
      obtain ⟨c6_, hc6, h⟩ := Option.bind_eq_some_iff.1 h
      obtain ⟨c7_, hc7, h⟩ := Option.bind_eq_some_iff.1 h
      cases c7_ with
      | nil =>
        dsimp only at h
        obtain ⟨⟨c8_0, c8_1⟩, hc8, h⟩ := Option.bind_eq_some_iff.1 h
        dsimp only at h
        obtain ⟨⟨c9_0, c9_1⟩, hc9, h⟩ := Option.bind_eq_some_iff.1 h
        dsimp only at h
        by_cases hc10 : 0 ≤ c6_ ∧ c6_ < (((Args.A).length : Nat) : Int)
        · rw [if_pos hc10] at h
          obtain ⟨c11_, hc11, h⟩ := Option.bind_eq_some_iff.1 h
          by_cases hc12 : (c11_.2.1) = (2 : Int)
          · rw [if_pos hc12] at h
            by_cases hc13 : 0 ≤ c6_ ∧ c6_ < ((c8_1 : Nat) : Int)
            · rw [if_pos hc13] at h
              by_cases hc14 : (c6_).toNat < (c8_0).length
              · rw [if_pos hc14] at h
                obtain ⟨c15_, hc15, h⟩ := Option.bind_eq_some_iff.1 h
                by_cases hc16 : c15_ = true
                · rw [if_pos hc16] at h
                  obtain ⟨c17_, hc17, h⟩ := Option.bind_eq_some_iff.1 h
                  by_cases hc18 : c17_ = c9_0
                  · rw [if_pos hc18] at h
                    obtain rfl := Option.some.inj h; exact p_viewportlaw21ReuseApart_0 n g1 hc1 c2_ hc2 hc3 c4_ hc4 hc5 c6_ hc6 hc7 c8_0 c8_1 hc8 c9_0 c9_1 hc9 hc10 c11_ hc11 hc12 hc13 hc14 c15_ hc15 hc16 c17_ hc17 hc18
                  · rw [if_neg hc18] at h
                    cases h
                · rw [if_neg hc16] at h
                  by_cases hc17 : c9_1 = true
                  · rw [if_pos hc17] at h
                    obtain ⟨c18_, hc18, h⟩ := Option.bind_eq_some_iff.1 h
                    by_cases hc19 : c18_ = c9_0
                    · rw [if_pos hc19] at h
                      obtain rfl := Option.some.inj h; exact p_viewportlaw21ReuseApart_1 n g1 hc1 c2_ hc2 hc3 c4_ hc4 hc5 c6_ hc6 hc7 c8_0 c8_1 hc8 c9_0 c9_1 hc9 hc10 c11_ hc11 hc12 hc13 hc14 c15_ hc15 hc16 hc17 c18_ hc18 hc19
                    · rw [if_neg hc19] at h
                      cases h
                  · rw [if_neg hc17] at h
                    cases h
              · rw [if_neg hc14] at h; cases h
            · rw [if_neg hc13] at h; cases h
          · rw [if_neg hc12] at h
            obtain ⟨c13_, hc13, h⟩ := Option.bind_eq_some_iff.1 h
            by_cases hc14 : c13_ = c9_0
            · rw [if_pos hc14] at h
              obtain rfl := Option.some.inj h; exact p_viewportlaw21ReuseApart_2 n g1 hc1 c2_ hc2 hc3 c4_ hc4 hc5 c6_ hc6 hc7 c8_0 c8_1 hc8 c9_0 c9_1 hc9 hc10 c11_ hc11 hc12 c13_ hc13 hc14
            · rw [if_neg hc14] at h
              cases h
        · rw [if_neg hc10] at h; cases h
      | cons c7_a c7_t =>
        dsimp only at h
        obtain ⟨⟨c8_0, c8_1⟩, hc8, h⟩ := Option.bind_eq_some_iff.1 h
        dsimp only at h
        obtain ⟨⟨c9_0, c9_1⟩, hc9, h⟩ := Option.bind_eq_some_iff.1 h
        dsimp only at h
        by_cases hc10 : 0 ≤ c6_ ∧ c6_ < (((Args.A).length : Nat) : Int)
        · rw [if_pos hc10] at h
          obtain ⟨c11_, hc11, h⟩ := Option.bind_eq_some_iff.1 h
          by_cases hc12 : (c11_.2.1) = (2 : Int)
          · rw [if_pos hc12] at h
            by_cases hc13 : 0 ≤ c6_ ∧ c6_ < ((c8_1 : Nat) : Int)
            · rw [if_pos hc13] at h
              by_cases hc14 : (c6_).toNat < (c8_0).length
              · rw [if_pos hc14] at h
                obtain ⟨c15_, hc15, h⟩ := Option.bind_eq_some_iff.1 h
                by_cases hc16 : c15_ = true
                · rw [if_pos hc16] at h
                  obtain ⟨c17_, hc17, h⟩ := Option.bind_eq_some_iff.1 h
                  by_cases hc18 : c17_ = c9_0
                  · rw [if_pos hc18] at h
                    obtain rfl := Option.some.inj h; exact p_viewportlaw21ReuseApart_3 n g1 hc1 c2_ hc2 hc3 c4_ hc4 hc5 c6_ hc6 c7_a c7_t hc7 c8_0 c8_1 hc8 c9_0 c9_1 hc9 hc10 c11_ hc11 hc12 hc13 hc14 c15_ hc15 hc16 c17_ hc17 hc18
                  · rw [if_neg hc18] at h
                    cases h
                · rw [if_neg hc16] at h
                  by_cases hc17 : c9_1 = true
                  · rw [if_pos hc17] at h
                    obtain ⟨c18_, hc18, h⟩ := Option.bind_eq_some_iff.1 h
                    by_cases hc19 : c18_ = c9_0
                    · rw [if_pos hc19] at h
                      obtain rfl := Option.some.inj h; exact p_viewportlaw21ReuseApart_4 n g1 hc1 c2_ hc2 hc3 c4_ hc4 hc5 c6_ hc6 c7_a c7_t hc7 c8_0 c8_1 hc8 c9_0 c9_1 hc9 hc10 c11_ hc11 hc12 hc13 hc14 c15_ hc15 hc16 hc17 c18_ hc18 hc19
                    · rw [if_neg hc19] at h
                      cases h
                  · rw [if_neg hc17] at h
                    cases h
              · rw [if_neg hc14] at h; cases h
            · rw [if_neg hc13] at h; cases h
          · rw [if_neg hc12] at h
            obtain ⟨c13_, hc13, h⟩ := Option.bind_eq_some_iff.1 h
            by_cases hc14 : c13_ = c9_0
            · rw [if_pos hc14] at h
              obtain rfl := Option.some.inj h; exact p_viewportlaw21ReuseApart_5 n g1 hc1 c2_ hc2 hc3 c4_ hc4 hc5 c6_ hc6 c7_a c7_t hc7 c8_0 c8_1 hc8 c9_0 c9_1 hc9 hc10 c11_ hc11 hc12 c13_ hc13 hc14
            · rw [if_neg hc14] at h
              cases h
        · rw [if_neg hc10] at h; cases h
    · rw [if_neg hc5] at h
      obtain rfl := Option.some.inj h; exact p_viewportlaw21ReuseApart_6 n g1 hc1 c2_ hc2 hc3 c4_ hc4 hc5
  · rw [if_neg hc3] at h
    obtain rfl := Option.some.inj h; exact p_viewportlaw21ReuseApart_7 n g1 hc1 c2_ hc2 hc3

end Go.Proofs.Ytdloekmdhhfmoaa.reuw
