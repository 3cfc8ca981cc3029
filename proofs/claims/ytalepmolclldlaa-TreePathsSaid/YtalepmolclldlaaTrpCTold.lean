/-
  What functions do, told by pure functions. No condition.
-/
import Derived.Test.YtalepmolclldlaaTrpBTold
set_option linter.unusedSimpArgs false
set_option linter.unusedVariables false
set_option linter.unusedSectionVars false
set_option linter.unnecessarySimpa false
set_option maxRecDepth 100000
noncomputable section
namespace Go.Proofs.Ytalepmolclldlaa.trp
open Go Go.Proofs.Ytalepmolclldlaa Ax
variable [Args]
def A_V (g1 : Int) : List Value := [(sW 0 0 (Args.A).length Args.cA), (i6 g1)]
def H_V (g1 : Int) : AH := ⟨sB [], 0, 0⟩
def V_V (g1 : Int) (r : Unit) : Value := match r with
 | _ => (bO true)
def R_V (g1 : Int) (r : Unit) : AH := match r with
 | _ => ⟨sB [], 0, 0⟩
abbrev G_V (g1 : Int) (r : Unit) : Prop := Gv P (.func 3) (A_V g1) (H_V g1) (V_V g1 r) (R_V g1 r)
abbrev C_V (g1 : Int) (r : Unit) (ins outs : BL) : CallA := ⟨0, ins, V_V g1 r, R_V g1 r, outs⟩
def S_V_1 (x1_0 : Int) (x1_1 : Bool) (st : Bool × List Int × Int) : XSt := match st with
 | (x1_2, x1_3, x1_4) => (sT 197 [(0, (sW 0 0 (Args.A).length Args.cA)), (1, (i6 x1_0)), (7, (bO x1_1)), (8, (bO x1_2)), (9, (slN x1_3 0)), (10, (i6 x1_4))], [], ⟨sB [(0, (nblk x1_3 3))], 1, 0⟩)
def X_V_1 (x1_0 : Int) (x1_1 : Bool) (r : Bool) : Ex × XSt := match r with
 | z1_0 => (.exit 0, (sT 197 [(0, (sW 0 0 (Args.A).length Args.cA)), (1, (i6 x1_0)), (7, (bO x1_1)), (8, (bO z1_0))], [], ⟨sB [], 0, 0⟩))
abbrev Q_V_1 (rnd : Option Nat) (x1_0 : Int) (x1_1 : Bool) (st : Bool × List Int × Int) (c : Ex × XSt) : Prop := CG P rnd (fnN P 3) 0 (codeOf P 3 [false, false, true, false, true, true, true, true, true, true, true, true, true, true, true, true]) (S_V_1 x1_0 x1_1 st) c
abbrev U_V_1 (rd : Option Nat) (x1_0 : Int) (x1_1 : Bool) (st : Bool × List Int × Int) (r : Bool) : Prop := CG P rd (fnN P 3) 0 (codeOf P 3 [false, true, false, true, true, true, true, true, true, true, true, true, true, true, true]) (S_V_1 x1_0 x1_1 st) (X_V_1 x1_0 x1_1 r)
def B_V_1 (n : Nat) (x1_0 : Int) (x1_1 : Bool) (st : Bool × List Int × Int) : Option ((Bool × List Int × Int) ⊕ (Bool)) := match st with
 | (x1_2, x1_3, x1_4) =>
  match x1_3 with
  | [] =>
   if x1_4 < (0 : Int) then
    if x1_2 = true then
     some (.inl (true, ([] : List Int), (w64 (x1_4 + (1 : Int)))))
    else
     none
   else
    some (.inr x1_2)
  | x1_3a :: x1_3t =>
   if x1_4 < ((((x1_3a :: x1_3t)).length : Nat) : Int) then
    if x1_2 = true then
     some (.inl (true, (x1_3a :: x1_3t), (w64 (x1_4 + (1 : Int)))))
    else
     if 0 ≤ x1_4 ∧ x1_4 < ((((x1_3a :: x1_3t)).length : Nat) : Int) then
      ((some (((x1_3a :: x1_3t)).getD (x1_4).toNat 0))).bind fun y1_4_ =>
      if y1_4_ = x1_0 then
       some (.inl (true, (x1_3a :: x1_3t), (w64 (x1_4 + (1 : Int)))))
      else
       some (.inl (false, (x1_3a :: x1_3t), (w64 (x1_4 + (1 : Int)))))
     else none
   else
    some (.inr x1_2)
def m_V_1 (n : Nat) (x1_0 : Int) (x1_1 : Bool) (st : Bool × List Int × Int) : Option (Bool) := iterM (B_V_1 n x1_0 x1_1) n st
theorem q_V_1_0 (n : Nat) {rnd : Option Nat} (x1_0 : Int) (x1_1 x1_2 : Bool) (x1_4 : Int) (hy1_1 : x1_4 < (0 : Int)) (hy1_2 : x1_2 = true) : Q_V_1 rnd x1_0 x1_1 (x1_2, ([] : List Int), x1_4) (.normal, S_V_1 x1_0 x1_1 (true, ([] : List Int), (w64 (x1_4 + (1 : Int))))) :=
 runC2 hm (L := lT []) ⟨[0, 1, 7, 8, 9, 10], [], 1, 0⟩ (zz 5 (xdT hy1_1) <|
zz 10 (xbT hy1_2) <|
ee) (by kernel_rfl)
theorem q_V_1_1 (n : Nat) {rnd : Option Nat} (x1_0 : Int) (x1_1 x1_2 : Bool) (x1_4 : Int) (hy1_1 : ¬ (x1_4 < (0 : Int))) : Q_V_1 rnd x1_0 x1_1 (x1_2, ([] : List Int), x1_4) (X_V_1 x1_0 x1_1 x1_2) :=
 runC2 hm (L := lT []) ⟨[0, 1, 7, 8], [], 0, 0⟩ (zz 5 (xdF hy1_1) <|
ee) (by kernel_rfl)
theorem q_V_1_2 (n : Nat) {rnd : Option Nat} (x1_0 : Int) (x1_1 x1_2 : Bool) (x1_3a : Int) (x1_3t : List (Int)) (x1_4 : Int) (hy1_1 : x1_4 < ((((x1_3a :: x1_3t)).length : Nat) : Int)) (hy1_2 : x1_2 = true) : Q_V_1 rnd x1_0 x1_1 (x1_2, (x1_3a :: x1_3t), x1_4) (.normal, S_V_1 x1_0 x1_1 (true, (x1_3a :: x1_3t), (w64 (x1_4 + (1 : Int))))) :=
 runC2 hm (L := lT []) ⟨[0, 1, 7, 8, 9, 10], [(0, 0, true)], 1, 0⟩ (zz 5 (xdT hy1_1) <|
zz 10 (xbT hy1_2) <|
ww (iv_flat (x1_3a :: x1_3t) 3) <|
ee) (by kernel_rfl)
theorem q_V_1_3 (n : Nat) {rnd : Option Nat} (x1_0 : Int) (x1_1 x1_2 : Bool) (x1_3a : Int) (x1_3t : List (Int)) (x1_4 : Int) (hy1_1 : x1_4 < ((((x1_3a :: x1_3t)).length : Nat) : Int)) (hy1_2 : ¬ (x1_2 = true)) (hy1_3 : 0 ≤ x1_4 ∧ x1_4 < ((((x1_3a :: x1_3t)).length : Nat) : Int)) (y1_4_ : Int) (hy1_4 : (some (((x1_3a :: x1_3t)).getD (x1_4).toNat 0)) = some y1_4_) (hy1_5 : y1_4_ = x1_0) : Q_V_1 rnd x1_0 x1_1 (x1_2, (x1_3a :: x1_3t), x1_4) (.normal, S_V_1 x1_0 x1_1 (true, (x1_3a :: x1_3t), (w64 (x1_4 + (1 : Int))))) :=
 runC2 hm (L := lT []) ⟨[0, 1, 7, 8, 9, 10], [(0, 0, true)], 1, 0⟩ (zz 5 (xdT hy1_1) <|
zz 10 (xbF hy1_2) <|
zz 13 (xk9 0 U1 hy1_3) <|
zz 14 (xivN hy1_4 (toNatLt hy1_3)) <|
zz 16 (xeT hy1_5) <|
ww (iv_flat (x1_3a :: x1_3t) 3) <|
ee) (by kernel_rfl)
theorem q_V_1_4 (n : Nat) {rnd : Option Nat} (x1_0 : Int) (x1_1 x1_2 : Bool) (x1_3a : Int) (x1_3t : List (Int)) (x1_4 : Int) (hy1_1 : x1_4 < ((((x1_3a :: x1_3t)).length : Nat) : Int)) (hy1_2 : ¬ (x1_2 = true)) (hy1_3 : 0 ≤ x1_4 ∧ x1_4 < ((((x1_3a :: x1_3t)).length : Nat) : Int)) (y1_4_ : Int) (hy1_4 : (some (((x1_3a :: x1_3t)).getD (x1_4).toNat 0)) = some y1_4_) (hy1_5 : ¬ (y1_4_ = x1_0)) : Q_V_1 rnd x1_0 x1_1 (x1_2, (x1_3a :: x1_3t), x1_4) (.normal, S_V_1 x1_0 x1_1 (false, (x1_3a :: x1_3t), (w64 (x1_4 + (1 : Int))))) :=
 runC2 hm (L := lT []) ⟨[0, 1, 7, 8, 9, 10], [(0, 0, true)], 1, 0⟩ (zz 5 (xdT hy1_1) <|
zz 10 (xbF hy1_2) <|
zz 13 (xk9 0 U1 hy1_3) <|
zz 14 (xivN hy1_4 (toNatLt hy1_3)) <|
zz 16 (xeF hy1_5) <|
ww (iv_flat (x1_3a :: x1_3t) 3) <|
ee) (by kernel_rfl)
theorem q_V_1_5 (n : Nat) {rnd : Option Nat} (x1_0 : Int) (x1_1 x1_2 : Bool) (x1_3a : Int) (x1_3t : List (Int)) (x1_4 : Int) (hy1_1 : ¬ (x1_4 < ((((x1_3a :: x1_3t)).length : Nat) : Int))) : Q_V_1 rnd x1_0 x1_1 (x1_2, (x1_3a :: x1_3t), x1_4) (X_V_1 x1_0 x1_1 x1_2) :=
 runC2 hm (L := lT []) ⟨[0, 1, 7, 8], [], 0, 0⟩ (zz 5 (xdF hy1_1) <|
ee) (by kernel_rfl)
theorem m_V_1_ok (n : Nat) {rnd : Option Nat} (x1_0 : Int) (x1_1 : Bool) (st : Bool × List Int × Int) (r : Bool) (h : m_V_1 n x1_0 x1_1 st = some r) : CG P rnd (fnN P 3) 0 (codeOf P 3 [false, true, false, true, true, true, true, true, true, true, true, true, true, true, true]) (S_V_1 x1_0 x1_1 st) (X_V_1 x1_0 x1_1 r) :=
 CG.iter (b := codeOf P 3 [false, false, true, false, true, true, true, true, true, true, true, true, true, true, true, true]) (by kernel_rfl) (body := B_V_1 n x1_0 x1_1) (S := S_V_1 x1_0 x1_1) (X := X_V_1 x1_0 x1_1)
  (fun s s' h => by
  obtain ⟨x1_2, x1_3, x1_4⟩ := s
  unfold B_V_1 at h
  dsimp only at h
  cases x1_3 with
  | nil =>
   dsimp only at h
   by_cases hy1_1 : x1_4 < (0 : Int)
   ·rw [if_pos hy1_1] at h
    by_cases hy1_2 : x1_2 = true
    ·rw [if_pos hy1_2] at h
     obtain rfl := Sum.inl.inj (oI h); exact q_V_1_0 n x1_0 x1_1 x1_2 x1_4 hy1_1 hy1_2
    ·rw [if_neg hy1_2] at h
     cases h
   ·rw [if_neg hy1_1] at h
    cases h
  | cons x1_3a x1_3t =>
   dsimp only at h
   by_cases hy1_1 : x1_4 < ((((x1_3a :: x1_3t)).length : Nat) : Int)
   ·rw [if_pos hy1_1] at h
    by_cases hy1_2 : x1_2 = true
    ·rw [if_pos hy1_2] at h
     obtain rfl := Sum.inl.inj (oI h); exact q_V_1_2 n x1_0 x1_1 x1_2 x1_3a x1_3t x1_4 hy1_1 hy1_2
    ·rw [if_neg hy1_2] at h
     by_cases hy1_3 : 0 ≤ x1_4 ∧ x1_4 < ((((x1_3a :: x1_3t)).length : Nat) : Int)
     ·rw [if_pos hy1_3] at h
      obtain ⟨y1_4_, hy1_4, h⟩ := Option.bind_eq_some_iff.1 h
      by_cases hy1_5 : y1_4_ = x1_0
      ·rw [if_pos hy1_5] at h
       obtain rfl := Sum.inl.inj (oI h); exact q_V_1_3 n x1_0 x1_1 x1_2 x1_3a x1_3t x1_4 hy1_1 hy1_2 hy1_3 y1_4_ hy1_4 hy1_5
      ·rw [if_neg hy1_5] at h
       obtain rfl := Sum.inl.inj (oI h); exact q_V_1_4 n x1_0 x1_1 x1_2 x1_3a x1_3t x1_4 hy1_1 hy1_2 hy1_3 y1_4_ hy1_4 hy1_5
     ·rw [if_neg hy1_3] at h; cases h
   ·rw [if_neg hy1_1] at h
    cases h)
  (fun s r h => by
  obtain ⟨x1_2, x1_3, x1_4⟩ := s
  unfold B_V_1 at h
  dsimp only at h
  cases x1_3 with
  | nil =>
   dsimp only at h
   by_cases hy1_1 : x1_4 < (0 : Int)
   ·rw [if_pos hy1_1] at h
    by_cases hy1_2 : x1_2 = true
    ·rw [if_pos hy1_2] at h
     cases h
    ·rw [if_neg hy1_2] at h
     cases h
   ·rw [if_neg hy1_1] at h
    obtain rfl := Sum.inr.inj (oI h); exact q_V_1_1 n x1_0 x1_1 x1_2 x1_4 hy1_1
  | cons x1_3a x1_3t =>
   dsimp only at h
   by_cases hy1_1 : x1_4 < ((((x1_3a :: x1_3t)).length : Nat) : Int)
   ·rw [if_pos hy1_1] at h
    by_cases hy1_2 : x1_2 = true
    ·rw [if_pos hy1_2] at h
     cases h
    ·rw [if_neg hy1_2] at h
     by_cases hy1_3 : 0 ≤ x1_4 ∧ x1_4 < ((((x1_3a :: x1_3t)).length : Nat) : Int)
     ·rw [if_pos hy1_3] at h
      obtain ⟨y1_4_, hy1_4, h⟩ := Option.bind_eq_some_iff.1 h
      by_cases hy1_5 : y1_4_ = x1_0
      ·rw [if_pos hy1_5] at h
       cases h
      ·rw [if_neg hy1_5] at h
       cases h
     ·rw [if_neg hy1_3] at h; cases h
   ·rw [if_neg hy1_1] at h
    obtain rfl := Sum.inr.inj (oI h); exact q_V_1_5 n x1_0 x1_1 x1_2 x1_3a x1_3t x1_4 hy1_1)
  (fun r => by intro hx; cases hx) h
def m_V (n : Nat) (g1 : Int) : Option (Unit) :=
 (m_viewportlaw16lives n).bind fun _ =>
 (m_liq1 n 0 0 0).bind fun c2_ =>
 if c2_ = true then
  (m_tCq1 n).bind fun c4_ =>
  if c4_ = (0 : Int) then
   if (Args.A.length : Int) = (0 : Int) then
    none
   else
    (m_pKq1 n g1 (Args.A.length : Int)).bind fun c7_ =>
    (m_tPq1 n).bind fun t => match t with
    | (c8_0, c8_1) =>
     (m_pAq1 n c7_).bind fun t => match t with
     | (c9_0, c9_1) =>
      if ((c8_1 : Nat) : Int) = (Args.A.length : Int) then
       if (c9_0.length : Int) = (0 : Int) then
        none
       else
        ((some (w64 ((c9_0.length : Int) - (1 : Int))))).bind fun c12_ =>
        if 0 ≤ c12_ ∧ c12_ < (c9_0.length : Int) then
         ((some ((c9_0).getD (c12_).toNat 0))).bind fun c14_ =>
         if 0 ≤ c7_ ∧ c7_ < (Args.A.length : Int) then
          ((some ((Args.A).getD (c7_).toNat (0, 0, 0, 0, 0, 0, nl0, 0)))).bind fun c16_ =>
          if c14_ = (c16_.1) then
           if 0 ≤ (0 : Int) ∧ (0 : Int) < ((c8_1 : Nat) : Int) then
            if ((0 : Int)).toNat < (c8_0).length then
             ((some ((c8_0).getD ((0 : Int)).toNat 0))).bind fun c20_ =>
             if c20_ = (-1 : Int) then
              if c7_ > (0 : Int) then
               if 0 ≤ c7_ ∧ c7_ < ((c8_1 : Nat) : Int) then
                if (c7_).toNat < (c8_0).length then
                 ((some ((c8_0).getD (c7_).toNat 0))).bind fun c25_ =>
                 if c25_ < (0 : Int) then
                  none
                 else
                  if c25_ ≥ c7_ then
                   none
                  else
                   (m_pAq1 n c25_).bind fun t => match t with
                   | (c28_0, c28_1) =>
                    if 0 ≤ c12_ ∧ c12_ ≤ (c9_0.length : Int) then
                     if (c9_0).length ≤ c9_1 ∧ (c9_1 < big ∨ c9_1 = Nat.add big 1) then
                      (m_sIq1 n c28_0 c28_1 c9_0 ((c12_).toNat) c9_1).bind fun c31_ =>
                      if c31_ = true then
                       (m_tEq1 n c7_).bind fun c33_ =>
                       (m_tEq1 n c25_).bind fun c34_ =>
                       if c33_ > c34_ then
                        none
                       else
                        if (c16_.2.1) = (1 : Int) then
                         (m_lVq1 n).bind fun c37_ =>
                         match c37_ with
                         | [] =>
                          (m_V_1 n c7_ true (false, ([] : List Int), 0)).bind fun c38_ =>
                          (m_tFq1 n (c16_.1) (c16_.2.2.1)).bind fun t => match t with
                          | (c39_0, c39_1) =>
                           if c38_ = true then
                            if true = true then
                             none
                            else
                             some ()
                           else
                            if true = true then
                             if c39_1 = true then
                              if c39_0 ≤ c7_ then
                               if 0 ≤ c39_0 ∧ c39_0 < (Args.A.length : Int) then
                                ((some ((Args.A).getD (c39_0).toNat (0, 0, 0, 0, 0, 0, nl0, 0)))).bind fun c45_ =>
                                if (c45_.1) = (c16_.1) then
                                 if (c45_.2.2.1) = (c16_.2.2.1) then
                                  some ()
                                 else
                                  none
                                else
                                 none
                               else none
                              else
                               none
                             else
                              none
                            else
                             none
                         | c37_a :: c37_t =>
                          (m_V_1 n c7_ true (false, (c37_a :: c37_t), 0)).bind fun c38_ =>
                          (m_tFq1 n (c16_.1) (c16_.2.2.1)).bind fun t => match t with
                          | (c39_0, c39_1) =>
                           if c38_ = true then
                            if true = true then
                             none
                            else
                             some ()
                           else
                            if true = true then
                             if c39_1 = true then
                              if c39_0 ≤ c7_ then
                               if 0 ≤ c39_0 ∧ c39_0 < (Args.A.length : Int) then
                                ((some ((Args.A).getD (c39_0).toNat (0, 0, 0, 0, 0, 0, nl0, 0)))).bind fun c45_ =>
                                if (c45_.1) = (c16_.1) then
                                 if (c45_.2.2.1) = (c16_.2.2.1) then
                                  some ()
                                 else
                                  none
                                else
                                 none
                               else none
                              else
                               none
                             else
                              none
                            else
                             none
                        else
                         if (c16_.2.1) = (2 : Int) then
                          (m_lVq1 n).bind fun c38_ =>
                          match c38_ with
                          | [] =>
                           (m_V_1 n c7_ true (false, ([] : List Int), 0)).bind fun c39_ =>
                           (m_tFq1 n (c16_.1) (c16_.2.2.1)).bind fun t => match t with
                           | (c40_0, c40_1) =>
                            if c39_ = true then
                             if true = true then
                              none
                             else
                              some ()
                            else
                             if true = true then
                              if c40_1 = true then
                               if c40_0 ≤ c7_ then
                                if 0 ≤ c40_0 ∧ c40_0 < (Args.A.length : Int) then
                                 ((some ((Args.A).getD (c40_0).toNat (0, 0, 0, 0, 0, 0, nl0, 0)))).bind fun c46_ =>
                                 if (c46_.1) = (c16_.1) then
                                  if (c46_.2.2.1) = (c16_.2.2.1) then
                                   some ()
                                  else
                                   none
                                 else
                                  none
                                else none
                               else
                                none
                              else
                               none
                             else
                              none
                          | c38_a :: c38_t =>
                           (m_V_1 n c7_ true (false, (c38_a :: c38_t), 0)).bind fun c39_ =>
                           (m_tFq1 n (c16_.1) (c16_.2.2.1)).bind fun t => match t with
                           | (c40_0, c40_1) =>
                            if c39_ = true then
                             if true = true then
                              none
                             else
                              some ()
                            else
                             if true = true then
                              if c40_1 = true then
                               if c40_0 ≤ c7_ then
                                if 0 ≤ c40_0 ∧ c40_0 < (Args.A.length : Int) then
                                 ((some ((Args.A).getD (c40_0).toNat (0, 0, 0, 0, 0, 0, nl0, 0)))).bind fun c46_ =>
                                 if (c46_.1) = (c16_.1) then
                                  if (c46_.2.2.1) = (c16_.2.2.1) then
                                   some ()
                                  else
                                   none
                                 else
                                  none
                                else none
                               else
                                none
                              else
                               none
                             else
                              none
                         else
                          (m_lVq1 n).bind fun c38_ =>
                          match c38_ with
                          | [] =>
                           (m_V_1 n c7_ false (false, ([] : List Int), 0)).bind fun c39_ =>
                           (m_tFq1 n (c16_.1) (c16_.2.2.1)).bind fun t => match t with
                           | (c40_0, c40_1) =>
                            if c39_ = true then
                             if false = true then
                              none
                             else
                              some ()
                            else
                             if false = true then
                              if c40_1 = true then
                               if c40_0 ≤ c7_ then
                                if 0 ≤ c40_0 ∧ c40_0 < (Args.A.length : Int) then
                                 ((some ((Args.A).getD (c40_0).toNat (0, 0, 0, 0, 0, 0, nl0, 0)))).bind fun c46_ =>
                                 if (c46_.1) = (c16_.1) then
                                  if (c46_.2.2.1) = (c16_.2.2.1) then
                                   some ()
                                  else
                                   none
                                 else
                                  none
                                else none
                               else
                                none
                              else
                               none
                             else
                              none
                          | c38_a :: c38_t =>
                           (m_V_1 n c7_ false (false, (c38_a :: c38_t), 0)).bind fun c39_ =>
                           (m_tFq1 n (c16_.1) (c16_.2.2.1)).bind fun t => match t with
                           | (c40_0, c40_1) =>
                            if c39_ = true then
                             if false = true then
                              none
                             else
                              some ()
                            else
                             if false = true then
                              if c40_1 = true then
                               if c40_0 ≤ c7_ then
                                if 0 ≤ c40_0 ∧ c40_0 < (Args.A.length : Int) then
                                 ((some ((Args.A).getD (c40_0).toNat (0, 0, 0, 0, 0, 0, nl0, 0)))).bind fun c46_ =>
                                 if (c46_.1) = (c16_.1) then
                                  if (c46_.2.2.1) = (c16_.2.2.1) then
                                   some ()
                                  else
                                   none
                                 else
                                  none
                                else none
                               else
                                none
                              else
                               none
                             else
                              none
                      else
                       none
                     else none
                    else none
                else none
               else none
              else
               if (c16_.2.1) = (1 : Int) then
                (m_lVq1 n).bind fun c24_ =>
                match c24_ with
                | [] =>
                 (m_V_1 n c7_ true (false, ([] : List Int), 0)).bind fun c25_ =>
                 (m_tFq1 n (c16_.1) (c16_.2.2.1)).bind fun t => match t with
                 | (c26_0, c26_1) =>
                  if c25_ = true then
                   if true = true then
                    none
                   else
                    some ()
                  else
                   if true = true then
                    if c26_1 = true then
                     if c26_0 ≤ c7_ then
                      if 0 ≤ c26_0 ∧ c26_0 < (Args.A.length : Int) then
                       ((some ((Args.A).getD (c26_0).toNat (0, 0, 0, 0, 0, 0, nl0, 0)))).bind fun c32_ =>
                       if (c32_.1) = (c16_.1) then
                        if (c32_.2.2.1) = (c16_.2.2.1) then
                         some ()
                        else
                         none
                       else
                        none
                      else none
                     else
                      none
                    else
                     none
                   else
                    none
                | c24_a :: c24_t =>
                 (m_V_1 n c7_ true (false, (c24_a :: c24_t), 0)).bind fun c25_ =>
                 (m_tFq1 n (c16_.1) (c16_.2.2.1)).bind fun t => match t with
                 | (c26_0, c26_1) =>
                  if c25_ = true then
                   if true = true then
                    none
                   else
                    some ()
                  else
                   if true = true then
                    if c26_1 = true then
                     if c26_0 ≤ c7_ then
                      if 0 ≤ c26_0 ∧ c26_0 < (Args.A.length : Int) then
                       ((some ((Args.A).getD (c26_0).toNat (0, 0, 0, 0, 0, 0, nl0, 0)))).bind fun c32_ =>
                       if (c32_.1) = (c16_.1) then
                        if (c32_.2.2.1) = (c16_.2.2.1) then
                         some ()
                        else
                         none
                       else
                        none
                      else none
                     else
                      none
                    else
                     none
                   else
                    none
               else
                if (c16_.2.1) = (2 : Int) then
                 (m_lVq1 n).bind fun c25_ =>
                 match c25_ with
                 | [] =>
                  (m_V_1 n c7_ true (false, ([] : List Int), 0)).bind fun c26_ =>
                  (m_tFq1 n (c16_.1) (c16_.2.2.1)).bind fun t => match t with
                  | (c27_0, c27_1) =>
                   if c26_ = true then
                    if true = true then
                     none
                    else
                     some ()
                   else
                    if true = true then
                     if c27_1 = true then
                      if c27_0 ≤ c7_ then
                       if 0 ≤ c27_0 ∧ c27_0 < (Args.A.length : Int) then
                        ((some ((Args.A).getD (c27_0).toNat (0, 0, 0, 0, 0, 0, nl0, 0)))).bind fun c33_ =>
                        if (c33_.1) = (c16_.1) then
                         if (c33_.2.2.1) = (c16_.2.2.1) then
                          some ()
                         else
                          none
                        else
                         none
                       else none
                      else
                       none
                     else
                      none
                    else
                     none
                 | c25_a :: c25_t =>
                  (m_V_1 n c7_ true (false, (c25_a :: c25_t), 0)).bind fun c26_ =>
                  (m_tFq1 n (c16_.1) (c16_.2.2.1)).bind fun t => match t with
                  | (c27_0, c27_1) =>
                   if c26_ = true then
                    if true = true then
                     none
                    else
                     some ()
                   else
                    if true = true then
                     if c27_1 = true then
                      if c27_0 ≤ c7_ then
                       if 0 ≤ c27_0 ∧ c27_0 < (Args.A.length : Int) then
                        ((some ((Args.A).getD (c27_0).toNat (0, 0, 0, 0, 0, 0, nl0, 0)))).bind fun c33_ =>
                        if (c33_.1) = (c16_.1) then
                         if (c33_.2.2.1) = (c16_.2.2.1) then
                          some ()
                         else
                          none
                        else
                         none
                       else none
                      else
                       none
                     else
                      none
                    else
                     none
                else
                 (m_lVq1 n).bind fun c25_ =>
                 match c25_ with
                 | [] =>
                  (m_V_1 n c7_ false (false, ([] : List Int), 0)).bind fun c26_ =>
                  (m_tFq1 n (c16_.1) (c16_.2.2.1)).bind fun t => match t with
                  | (c27_0, c27_1) =>
                   if c26_ = true then
                    if false = true then
                     none
                    else
                     some ()
                   else
                    if false = true then
                     if c27_1 = true then
                      if c27_0 ≤ c7_ then
                       if 0 ≤ c27_0 ∧ c27_0 < (Args.A.length : Int) then
                        ((some ((Args.A).getD (c27_0).toNat (0, 0, 0, 0, 0, 0, nl0, 0)))).bind fun c33_ =>
                        if (c33_.1) = (c16_.1) then
                         if (c33_.2.2.1) = (c16_.2.2.1) then
                          some ()
                         else
                          none
                        else
                         none
                       else none
                      else
                       none
                     else
                      none
                    else
                     none
                 | c25_a :: c25_t =>
                  (m_V_1 n c7_ false (false, (c25_a :: c25_t), 0)).bind fun c26_ =>
                  (m_tFq1 n (c16_.1) (c16_.2.2.1)).bind fun t => match t with
                  | (c27_0, c27_1) =>
                   if c26_ = true then
                    if false = true then
                     none
                    else
                     some ()
                   else
                    if false = true then
                     if c27_1 = true then
                      if c27_0 ≤ c7_ then
                       if 0 ≤ c27_0 ∧ c27_0 < (Args.A.length : Int) then
                        ((some ((Args.A).getD (c27_0).toNat (0, 0, 0, 0, 0, 0, nl0, 0)))).bind fun c33_ =>
                        if (c33_.1) = (c16_.1) then
                         if (c33_.2.2.1) = (c16_.2.2.1) then
                          some ()
                         else
                          none
                        else
                         none
                       else none
                      else
                       none
                     else
                      none
                    else
                     none
             else
              none
            else none
           else none
          else
           none
         else none
        else none
      else
       none
  else
   some ()
 else
  some ()
theorem m_V_ok (n : Nat) (g1 : Int) (r : Unit) (h : m_V n g1 = some r) : Gv P (.func 3) (A_V g1) (H_V g1) (V_V g1 r) (R_V g1 r) := by
 unfold m_V at h
 obtain ⟨_, hc1, h⟩ := Option.bind_eq_some_iff.1 h
 obtain ⟨c2_, hc2, h⟩ := Option.bind_eq_some_iff.1 h
 by_cases hc3 : c2_ = true
 ·rw [if_pos hc3] at h
  obtain ⟨c4_, hc4, h⟩ := Option.bind_eq_some_iff.1 h
  by_cases hc5 : c4_ = (0 : Int)
  ·rw [if_pos hc5] at h
   by_cases hc6 : (Args.A.length : Int) = (0 : Int)
   ·rw [if_pos hc6] at h
    cases h
   ·rw [if_neg hc6] at h
    obtain ⟨c7_, hc7, h⟩ := Option.bind_eq_some_iff.1 h
    obtain ⟨⟨c8_0, c8_1⟩, hc8, h⟩ := Option.bind_eq_some_iff.1 h
    dsimp only at h
    obtain ⟨⟨c9_0, c9_1⟩, hc9, h⟩ := Option.bind_eq_some_iff.1 h
    dsimp only at h
    by_cases hc10 : ((c8_1 : Nat) : Int) = (Args.A.length : Int)
    ·rw [if_pos hc10] at h
     by_cases hc11 : (c9_0.length : Int) = (0 : Int)
     ·rw [if_pos hc11] at h
      cases h
     ·rw [if_neg hc11] at h
      obtain ⟨c12_, hc12, h⟩ := Option.bind_eq_some_iff.1 h
      by_cases hc13 : 0 ≤ c12_ ∧ c12_ < (c9_0.length : Int)
      ·rw [if_pos hc13] at h
       obtain ⟨c14_, hc14, h⟩ := Option.bind_eq_some_iff.1 h
       by_cases hc15 : 0 ≤ c7_ ∧ c7_ < (Args.A.length : Int)
       ·rw [if_pos hc15] at h
        obtain ⟨c16_, hc16, h⟩ := Option.bind_eq_some_iff.1 h
        by_cases hc17 : c14_ = (c16_.1)
        ·rw [if_pos hc17] at h
         by_cases hc18 : 0 ≤ (0 : Int) ∧ (0 : Int) < ((c8_1 : Nat) : Int)
         ·rw [if_pos hc18] at h
          by_cases hc19 : ((0 : Int)).toNat < (c8_0).length
          ·rw [if_pos hc19] at h
           obtain ⟨c20_, hc20, h⟩ := Option.bind_eq_some_iff.1 h
           by_cases hc21 : c20_ = (-1 : Int)
           ·rw [if_pos hc21] at h
            by_cases hc22 : c7_ > (0 : Int)
            ·rw [if_pos hc22] at h
             by_cases hc23 : 0 ≤ c7_ ∧ c7_ < ((c8_1 : Nat) : Int)
             ·rw [if_pos hc23] at h
              by_cases hc24 : (c7_).toNat < (c8_0).length
              ·rw [if_pos hc24] at h
               obtain ⟨c25_, hc25, h⟩ := Option.bind_eq_some_iff.1 h
               by_cases hc26 : c25_ < (0 : Int)
               ·rw [if_pos hc26] at h
                cases h
               ·rw [if_neg hc26] at h
                by_cases hc27 : c25_ ≥ c7_
                ·rw [if_pos hc27] at h
                 cases h
                ·rw [if_neg hc27] at h
                 obtain ⟨⟨c28_0, c28_1⟩, hc28, h⟩ := Option.bind_eq_some_iff.1 h
                 dsimp only at h
                 by_cases hc29 : 0 ≤ c12_ ∧ c12_ ≤ (c9_0.length : Int)
                 ·rw [if_pos hc29] at h
                  by_cases hc30 : (c9_0).length ≤ c9_1 ∧ (c9_1 < big ∨ c9_1 = Nat.add big 1)
                  ·rw [if_pos hc30] at h
                   obtain ⟨c31_, hc31, h⟩ := Option.bind_eq_some_iff.1 h
                   by_cases hc32 : c31_ = true
                   ·rw [if_pos hc32] at h
                    obtain ⟨c33_, hc33, h⟩ := Option.bind_eq_some_iff.1 h
                    obtain ⟨c34_, hc34, h⟩ := Option.bind_eq_some_iff.1 h
                    by_cases hc35 : c33_ > c34_
                    ·rw [if_pos hc35] at h
                     cases h
                    ·rw [if_neg hc35] at h
                     by_cases hc36 : (c16_.2.1) = (1 : Int)
                     ·rw [if_pos hc36] at h
                      obtain ⟨c37_, hc37, h⟩ := Option.bind_eq_some_iff.1 h
                      cases c37_ with
                      | nil =>
                       dsimp only at h
                       obtain ⟨c38_, hc38, h⟩ := Option.bind_eq_some_iff.1 h
                       obtain ⟨⟨c39_0, c39_1⟩, hc39, h⟩ := Option.bind_eq_some_iff.1 h
                       dsimp only at h
                       by_cases hc40 : c38_ = true
                       ·rw [if_pos hc40] at h
                        by_cases hc41 : true = true
                        ·rw [if_pos hc41] at h
                         cases h
                        ·rw [if_neg hc41] at h
                         obtain rfl := oI h; exact (runF2 hm (L := lT [(146, ⟨⟨[0, 1, 7, 8, 9, 10], [], 1, 0⟩, (X_V_1 c7_ true c38_).1, (X_V_1 c7_ true c38_).2⟩)]) ⟨[4], [], 0, 0⟩ (yy 4 (.call ⟨0, [], (Value.bool true), Ax.h0, []⟩) <|
ww (m_viewportlaw16lives_ok n  () hc1) <|
yy 11 (.call (C_liq1 0 0 0 c2_ [] [])) <|
ww (m_liq1_ok n 0 0 0 c2_ hc2) <|
yy 12 (vf) <|
ww (p := (Value.bool (!c2_)) = (Value.bool false)) (vBn hc3) <|
yy 15 (.call (C_tCq1  c4_ [] [])) <|
ww (m_tCq1_ok n  c4_ hc4) <|
zz 16 (xnF hc5) <|
zz 23 (xeF hc6) <|
yy 29 (.call (C_pKq1 g1 (Args.A.length : Int) c7_ [] [])) <|
ww (m_pKq1_ok n g1 (Args.A.length : Int) c7_ hc7) <|
yy 33 (.call (C_tPq1  (c8_0, c8_1) [] [(0, 0, true)])) <|
ww (m_tPq1_ok n  (c8_0, c8_1) hc8) <|
ww (iv_flat c8_0 3) <|
yy 38 (.call (C_pAq1 c7_ (c9_0, c9_1) [] [(1, 0, true)])) <|
ww (m_pAq1_ok n c7_ (c9_0, c9_1) hc9) <|
ww (iv_flat c9_0 3) <|
zz 46 (xnF hc10) <|
zz 50 (xeF hc11) <|
zz 56 (xnm hc12) <|
zz 57 (xk9 1 c9_1 hc13) <|
zz 58 (xivN hc14 (toNatLt hc13)) <|
zz 61 (xk1 0 Args.cA hc15) <|
zz 62 (fk10 ((c7_).toNat * 8)) <|
zz 63 (lk11 hc16 (toNatLt hc15)) <|
zz 64 (xnF hc17) <|
zz 68 (xk9 0 c8_1 hc18) <|
zz 69 (xivN hc20 hc19) <|
zz 70 (xnF hc21) <|
zz 76 (xdT hc22) <|
zz 80 (xk9 0 c8_1 hc23) <|
zz 81 (xivN hc25 hc24) <|
zz 82 (xdF hc26) <|
zz 86 (xk9 0 c8_1 hc23) <|
zz 87 (xivN hc25 hc24) <|
zz 89 (xdF hc27) <|
zz 95 (xk9 0 c8_1 hc23) <|
zz 96 (xivN hc25 hc24) <|
yy 97 (.call (C_pAq1 c25_ (c28_0, c28_1) [] [(2, 0, true)])) <|
ww (m_pAq1_ok n c25_ (c28_0, c28_1) hc28) <|
ww (iv_flat c28_0 3) <|
zz 101 (xnm hc12) <|
yy 102 (.pur (sN 1 0 (c12_).toNat c9_1)) <|
ww (p := opSlice P 30 (sN 1 0 (c9_0).length c9_1) none (some (i6 c12_)) none Ax.h0 = some ((sN 1 0 (c12_).toNat c9_1), Ax.h0)) (slHiV (e := 3) (es := 1) (by kernel_rfl) (by kernel_rfl) rfl rfl hc29 hc30) <|
yy 103 (.call (C_sIq1 c28_0 c28_1 c9_0 ((c12_).toNat) c9_1 c31_ [(0, 2, true), (1, 1, true)] [])) <|
ww (m_sIq1_ok n c28_0 c28_1 c9_0 ((c12_).toNat) c9_1 c31_ hc31) <|
ww (iv_flat c28_0 3) <|
ww (iv_flat c9_0 3) <|
yy 104 (vf) <|
ww (p := (Value.bool (!c31_)) = (Value.bool false)) (vBn hc32) <|
yy 109 (.call (C_tEq1 c7_ c33_ [] [])) <|
ww (m_tEq1_ok n c7_ c33_ hc33) <|
zz 113 (xk9 0 c8_1 hc23) <|
zz 114 (xivN hc25 hc24) <|
yy 115 (.call (C_tEq1 c25_ c34_ [] [])) <|
ww (m_tEq1_ok n c25_ c34_ hc34) <|
zz 116 (xdF hc35) <|
zz 123 (xk1 0 Args.cA hc15) <|
zz 124 (fk14 ((c7_).toNat * 8)) <|
zz 125 (lk15 hc16 (toNatLt hc15)) <|
zz 126 (xeT hc36) <|
yy 140 (.call (C_lVq1  ([] : List Int) [] [])) <|
ww (m_lVq1_ok n  ([] : List Int) hc37) <|
ww (p := U_V_1 none c7_ true (false, ([] : List Int), 0) c38_) (m_V_1_ok n c7_ true (false, ([] : List Int), 0) c38_ hc38) <|
zz 151 (xk1 0 Args.cA hc15) <|
zz 152 (fk10 ((c7_).toNat * 8)) <|
zz 153 (lk11 hc16 (toNatLt hc15)) <|
zz 156 (xk1 0 Args.cA hc15) <|
zz 157 (fk16 ((c7_).toNat * 8)) <|
zz 158 (lk17 hc16 (toNatLt hc15)) <|
yy 159 (.call (C_tFq1 (c16_.1) (c16_.2.2.1) (c39_0, c39_1) [] [(1, 1, false), (2, 2, false)])) <|
ww (m_tFq1_ok n (c16_.1) (c16_.2.2.1) (c39_0, c39_1) hc39) <|
yy 168 (vt) <|
ww (p := (Value.bool (!(c38_ == true))) = (Value.bool true)) (vNeB hc40 (Bool.eq_false_iff.2 hc41)) <|
yy 171 (vt) <|
ww (p := (Value.bool (!true)) = (Value.bool true)) (vBn (Bool.eq_false_iff.2 hc41)) ee) (by kernel_rfl))
                       ·rw [if_neg hc40] at h
                        by_cases hc41 : true = true
                        ·rw [if_pos hc41] at h
                         by_cases hc42 : c39_1 = true
                         ·rw [if_pos hc42] at h
                          by_cases hc43 : c39_0 ≤ c7_
                          ·rw [if_pos hc43] at h
                           by_cases hc44 : 0 ≤ c39_0 ∧ c39_0 < (Args.A.length : Int)
                           ·rw [if_pos hc44] at h
                            obtain ⟨c45_, hc45, h⟩ := Option.bind_eq_some_iff.1 h
                            by_cases hc46 : (c45_.1) = (c16_.1)
                            ·rw [if_pos hc46] at h
                             by_cases hc47 : (c45_.2.2.1) = (c16_.2.2.1)
                             ·rw [if_pos hc47] at h
                              obtain rfl := oI h; exact (runF2 hm (L := lT [(146, ⟨⟨[0, 1, 7, 8, 9, 10], [], 1, 0⟩, (X_V_1 c7_ true c38_).1, (X_V_1 c7_ true c38_).2⟩)]) ⟨[4], [], 0, 0⟩ (yy 4 (.call ⟨0, [], (Value.bool true), Ax.h0, []⟩) <|
ww (m_viewportlaw16lives_ok n  () hc1) <|
yy 11 (.call (C_liq1 0 0 0 c2_ [] [])) <|
ww (m_liq1_ok n 0 0 0 c2_ hc2) <|
yy 12 (vf) <|
ww (p := (Value.bool (!c2_)) = (Value.bool false)) (vBn hc3) <|
yy 15 (.call (C_tCq1  c4_ [] [])) <|
ww (m_tCq1_ok n  c4_ hc4) <|
zz 16 (xnF hc5) <|
zz 23 (xeF hc6) <|
yy 29 (.call (C_pKq1 g1 (Args.A.length : Int) c7_ [] [])) <|
ww (m_pKq1_ok n g1 (Args.A.length : Int) c7_ hc7) <|
yy 33 (.call (C_tPq1  (c8_0, c8_1) [] [(0, 0, true)])) <|
ww (m_tPq1_ok n  (c8_0, c8_1) hc8) <|
ww (iv_flat c8_0 3) <|
yy 38 (.call (C_pAq1 c7_ (c9_0, c9_1) [] [(1, 0, true)])) <|
ww (m_pAq1_ok n c7_ (c9_0, c9_1) hc9) <|
ww (iv_flat c9_0 3) <|
zz 46 (xnF hc10) <|
zz 50 (xeF hc11) <|
zz 56 (xnm hc12) <|
zz 57 (xk9 1 c9_1 hc13) <|
zz 58 (xivN hc14 (toNatLt hc13)) <|
zz 61 (xk1 0 Args.cA hc15) <|
zz 62 (fk10 ((c7_).toNat * 8)) <|
zz 63 (lk11 hc16 (toNatLt hc15)) <|
zz 64 (xnF hc17) <|
zz 68 (xk9 0 c8_1 hc18) <|
zz 69 (xivN hc20 hc19) <|
zz 70 (xnF hc21) <|
zz 76 (xdT hc22) <|
zz 80 (xk9 0 c8_1 hc23) <|
zz 81 (xivN hc25 hc24) <|
zz 82 (xdF hc26) <|
zz 86 (xk9 0 c8_1 hc23) <|
zz 87 (xivN hc25 hc24) <|
zz 89 (xdF hc27) <|
zz 95 (xk9 0 c8_1 hc23) <|
zz 96 (xivN hc25 hc24) <|
yy 97 (.call (C_pAq1 c25_ (c28_0, c28_1) [] [(2, 0, true)])) <|
ww (m_pAq1_ok n c25_ (c28_0, c28_1) hc28) <|
ww (iv_flat c28_0 3) <|
zz 101 (xnm hc12) <|
yy 102 (.pur (sN 1 0 (c12_).toNat c9_1)) <|
ww (p := opSlice P 30 (sN 1 0 (c9_0).length c9_1) none (some (i6 c12_)) none Ax.h0 = some ((sN 1 0 (c12_).toNat c9_1), Ax.h0)) (slHiV (e := 3) (es := 1) (by kernel_rfl) (by kernel_rfl) rfl rfl hc29 hc30) <|
yy 103 (.call (C_sIq1 c28_0 c28_1 c9_0 ((c12_).toNat) c9_1 c31_ [(0, 2, true), (1, 1, true)] [])) <|
ww (m_sIq1_ok n c28_0 c28_1 c9_0 ((c12_).toNat) c9_1 c31_ hc31) <|
ww (iv_flat c28_0 3) <|
ww (iv_flat c9_0 3) <|
yy 104 (vf) <|
ww (p := (Value.bool (!c31_)) = (Value.bool false)) (vBn hc32) <|
yy 109 (.call (C_tEq1 c7_ c33_ [] [])) <|
ww (m_tEq1_ok n c7_ c33_ hc33) <|
zz 113 (xk9 0 c8_1 hc23) <|
zz 114 (xivN hc25 hc24) <|
yy 115 (.call (C_tEq1 c25_ c34_ [] [])) <|
ww (m_tEq1_ok n c25_ c34_ hc34) <|
zz 116 (xdF hc35) <|
zz 123 (xk1 0 Args.cA hc15) <|
zz 124 (fk14 ((c7_).toNat * 8)) <|
zz 125 (lk15 hc16 (toNatLt hc15)) <|
zz 126 (xeT hc36) <|
yy 140 (.call (C_lVq1  ([] : List Int) [] [])) <|
ww (m_lVq1_ok n  ([] : List Int) hc37) <|
ww (p := U_V_1 none c7_ true (false, ([] : List Int), 0) c38_) (m_V_1_ok n c7_ true (false, ([] : List Int), 0) c38_ hc38) <|
zz 151 (xk1 0 Args.cA hc15) <|
zz 152 (fk10 ((c7_).toNat * 8)) <|
zz 153 (lk11 hc16 (toNatLt hc15)) <|
zz 156 (xk1 0 Args.cA hc15) <|
zz 157 (fk16 ((c7_).toNat * 8)) <|
zz 158 (lk17 hc16 (toNatLt hc15)) <|
yy 159 (.call (C_tFq1 (c16_.1) (c16_.2.2.1) (c39_0, c39_1) [] [(1, 1, false), (2, 2, false)])) <|
ww (m_tFq1_ok n (c16_.1) (c16_.2.2.1) (c39_0, c39_1) hc39) <|
yy 168 (vt) <|
ww (p := (Value.bool (!(c38_ == true))) = (Value.bool true)) (vNeB (Bool.eq_false_iff.2 hc40) hc41) <|
yy 171 (vf) <|
ww (p := (Value.bool (!true)) = (Value.bool false)) (vBn hc41) <|
zz 174 (xbT hc42) <|
zz 177 (xdT hc43) <|
zz 182 (xk1 0 Args.cA hc44) <|
zz 183 (fk10 ((c39_0).toNat * 8)) <|
zz 184 (lk11 hc45 (toNatLt hc44)) <|
zz 187 (xk1 0 Args.cA hc15) <|
zz 188 (fk10 ((c7_).toNat * 8)) <|
zz 189 (lk11 hc16 (toNatLt hc15)) <|
zz 190 (xeT hc46) <|
zz 195 (xk1 0 Args.cA hc44) <|
zz 196 (fk16 ((c39_0).toNat * 8)) <|
zz 197 (lk17 hc45 (toNatLt hc44)) <|
zz 200 (xk1 0 Args.cA hc15) <|
zz 201 (fk16 ((c7_).toNat * 8)) <|
zz 202 (lk17 hc16 (toNatLt hc15)) <|
zz 203 (xeT hc47) ee) (by kernel_rfl))
                             ·rw [if_neg hc47] at h
                              cases h
                            ·rw [if_neg hc46] at h
                             cases h
                           ·rw [if_neg hc44] at h; cases h
                          ·rw [if_neg hc43] at h
                           cases h
                         ·rw [if_neg hc42] at h
                          cases h
                        ·rw [if_neg hc41] at h
                         cases h
                      | cons c37_a c37_t =>
                       dsimp only at h
                       obtain ⟨c38_, hc38, h⟩ := Option.bind_eq_some_iff.1 h
                       obtain ⟨⟨c39_0, c39_1⟩, hc39, h⟩ := Option.bind_eq_some_iff.1 h
                       dsimp only at h
                       by_cases hc40 : c38_ = true
                       ·rw [if_pos hc40] at h
                        by_cases hc41 : true = true
                        ·rw [if_pos hc41] at h
                         cases h
                        ·rw [if_neg hc41] at h
                         obtain rfl := oI h; exact (runF2 hm (L := lT [(146, ⟨⟨[0, 1, 7, 8, 9, 10], [(0, 4, true)], 1, 0⟩, (X_V_1 c7_ true c38_).1, (X_V_1 c7_ true c38_).2⟩)]) ⟨[4], [], 0, 0⟩ (yy 4 (.call ⟨0, [], (Value.bool true), Ax.h0, []⟩) <|
ww (m_viewportlaw16lives_ok n  () hc1) <|
yy 11 (.call (C_liq1 0 0 0 c2_ [] [])) <|
ww (m_liq1_ok n 0 0 0 c2_ hc2) <|
yy 12 (vf) <|
ww (p := (Value.bool (!c2_)) = (Value.bool false)) (vBn hc3) <|
yy 15 (.call (C_tCq1  c4_ [] [])) <|
ww (m_tCq1_ok n  c4_ hc4) <|
zz 16 (xnF hc5) <|
zz 23 (xeF hc6) <|
yy 29 (.call (C_pKq1 g1 (Args.A.length : Int) c7_ [] [])) <|
ww (m_pKq1_ok n g1 (Args.A.length : Int) c7_ hc7) <|
yy 33 (.call (C_tPq1  (c8_0, c8_1) [] [(0, 0, true)])) <|
ww (m_tPq1_ok n  (c8_0, c8_1) hc8) <|
ww (iv_flat c8_0 3) <|
yy 38 (.call (C_pAq1 c7_ (c9_0, c9_1) [] [(1, 0, true)])) <|
ww (m_pAq1_ok n c7_ (c9_0, c9_1) hc9) <|
ww (iv_flat c9_0 3) <|
zz 46 (xnF hc10) <|
zz 50 (xeF hc11) <|
zz 56 (xnm hc12) <|
zz 57 (xk9 1 c9_1 hc13) <|
zz 58 (xivN hc14 (toNatLt hc13)) <|
zz 61 (xk1 0 Args.cA hc15) <|
zz 62 (fk10 ((c7_).toNat * 8)) <|
zz 63 (lk11 hc16 (toNatLt hc15)) <|
zz 64 (xnF hc17) <|
zz 68 (xk9 0 c8_1 hc18) <|
zz 69 (xivN hc20 hc19) <|
zz 70 (xnF hc21) <|
zz 76 (xdT hc22) <|
zz 80 (xk9 0 c8_1 hc23) <|
zz 81 (xivN hc25 hc24) <|
zz 82 (xdF hc26) <|
zz 86 (xk9 0 c8_1 hc23) <|
zz 87 (xivN hc25 hc24) <|
zz 89 (xdF hc27) <|
zz 95 (xk9 0 c8_1 hc23) <|
zz 96 (xivN hc25 hc24) <|
yy 97 (.call (C_pAq1 c25_ (c28_0, c28_1) [] [(2, 0, true)])) <|
ww (m_pAq1_ok n c25_ (c28_0, c28_1) hc28) <|
ww (iv_flat c28_0 3) <|
zz 101 (xnm hc12) <|
yy 102 (.pur (sN 1 0 (c12_).toNat c9_1)) <|
ww (p := opSlice P 30 (sN 1 0 (c9_0).length c9_1) none (some (i6 c12_)) none Ax.h0 = some ((sN 1 0 (c12_).toNat c9_1), Ax.h0)) (slHiV (e := 3) (es := 1) (by kernel_rfl) (by kernel_rfl) rfl rfl hc29 hc30) <|
yy 103 (.call (C_sIq1 c28_0 c28_1 c9_0 ((c12_).toNat) c9_1 c31_ [(0, 2, true), (1, 1, true)] [])) <|
ww (m_sIq1_ok n c28_0 c28_1 c9_0 ((c12_).toNat) c9_1 c31_ hc31) <|
ww (iv_flat c28_0 3) <|
ww (iv_flat c9_0 3) <|
yy 104 (vf) <|
ww (p := (Value.bool (!c31_)) = (Value.bool false)) (vBn hc32) <|
yy 109 (.call (C_tEq1 c7_ c33_ [] [])) <|
ww (m_tEq1_ok n c7_ c33_ hc33) <|
zz 113 (xk9 0 c8_1 hc23) <|
zz 114 (xivN hc25 hc24) <|
yy 115 (.call (C_tEq1 c25_ c34_ [] [])) <|
ww (m_tEq1_ok n c25_ c34_ hc34) <|
zz 116 (xdF hc35) <|
zz 123 (xk1 0 Args.cA hc15) <|
zz 124 (fk14 ((c7_).toNat * 8)) <|
zz 125 (lk15 hc16 (toNatLt hc15)) <|
zz 126 (xeT hc36) <|
yy 140 (.call (C_lVq1  (c37_a :: c37_t) [] [(4, 1, true)])) <|
ww (m_lVq1_ok n  (c37_a :: c37_t) hc37) <|
ww (iv_flat (c37_a :: c37_t) 3) <|
ww (p := U_V_1 none c7_ true (false, (c37_a :: c37_t), 0) c38_) (m_V_1_ok n c7_ true (false, (c37_a :: c37_t), 0) c38_ hc38) <|
ww (iv_flat (c37_a :: c37_t) 3) <|
zz 151 (xk1 0 Args.cA hc15) <|
zz 152 (fk10 ((c7_).toNat * 8)) <|
zz 153 (lk11 hc16 (toNatLt hc15)) <|
zz 156 (xk1 0 Args.cA hc15) <|
zz 157 (fk16 ((c7_).toNat * 8)) <|
zz 158 (lk17 hc16 (toNatLt hc15)) <|
yy 159 (.call (C_tFq1 (c16_.1) (c16_.2.2.1) (c39_0, c39_1) [] [(1, 1, false), (2, 2, false)])) <|
ww (m_tFq1_ok n (c16_.1) (c16_.2.2.1) (c39_0, c39_1) hc39) <|
yy 168 (vt) <|
ww (p := (Value.bool (!(c38_ == true))) = (Value.bool true)) (vNeB hc40 (Bool.eq_false_iff.2 hc41)) <|
yy 171 (vt) <|
ww (p := (Value.bool (!true)) = (Value.bool true)) (vBn (Bool.eq_false_iff.2 hc41)) ee) (by kernel_rfl))
                       ·rw [if_neg hc40] at h
                        by_cases hc41 : true = true
                        ·rw [if_pos hc41] at h
                         by_cases hc42 : c39_1 = true
                         ·rw [if_pos hc42] at h
                          by_cases hc43 : c39_0 ≤ c7_
                          ·rw [if_pos hc43] at h
                           by_cases hc44 : 0 ≤ c39_0 ∧ c39_0 < (Args.A.length : Int)
                           ·rw [if_pos hc44] at h
                            obtain ⟨c45_, hc45, h⟩ := Option.bind_eq_some_iff.1 h
                            by_cases hc46 : (c45_.1) = (c16_.1)
                            ·rw [if_pos hc46] at h
                             by_cases hc47 : (c45_.2.2.1) = (c16_.2.2.1)
                             ·rw [if_pos hc47] at h
                              obtain rfl := oI h; exact (runF2 hm (L := lT [(146, ⟨⟨[0, 1, 7, 8, 9, 10], [(0, 4, true)], 1, 0⟩, (X_V_1 c7_ true c38_).1, (X_V_1 c7_ true c38_).2⟩)]) ⟨[4], [], 0, 0⟩ (yy 4 (.call ⟨0, [], (Value.bool true), Ax.h0, []⟩) <|
ww (m_viewportlaw16lives_ok n  () hc1) <|
yy 11 (.call (C_liq1 0 0 0 c2_ [] [])) <|
ww (m_liq1_ok n 0 0 0 c2_ hc2) <|
yy 12 (vf) <|
ww (p := (Value.bool (!c2_)) = (Value.bool false)) (vBn hc3) <|
yy 15 (.call (C_tCq1  c4_ [] [])) <|
ww (m_tCq1_ok n  c4_ hc4) <|
zz 16 (xnF hc5) <|
zz 23 (xeF hc6) <|
yy 29 (.call (C_pKq1 g1 (Args.A.length : Int) c7_ [] [])) <|
ww (m_pKq1_ok n g1 (Args.A.length : Int) c7_ hc7) <|
yy 33 (.call (C_tPq1  (c8_0, c8_1) [] [(0, 0, true)])) <|
ww (m_tPq1_ok n  (c8_0, c8_1) hc8) <|
ww (iv_flat c8_0 3) <|
yy 38 (.call (C_pAq1 c7_ (c9_0, c9_1) [] [(1, 0, true)])) <|
ww (m_pAq1_ok n c7_ (c9_0, c9_1) hc9) <|
ww (iv_flat c9_0 3) <|
zz 46 (xnF hc10) <|
zz 50 (xeF hc11) <|
zz 56 (xnm hc12) <|
zz 57 (xk9 1 c9_1 hc13) <|
zz 58 (xivN hc14 (toNatLt hc13)) <|
zz 61 (xk1 0 Args.cA hc15) <|
zz 62 (fk10 ((c7_).toNat * 8)) <|
zz 63 (lk11 hc16 (toNatLt hc15)) <|
zz 64 (xnF hc17) <|
zz 68 (xk9 0 c8_1 hc18) <|
zz 69 (xivN hc20 hc19) <|
zz 70 (xnF hc21) <|
zz 76 (xdT hc22) <|
zz 80 (xk9 0 c8_1 hc23) <|
zz 81 (xivN hc25 hc24) <|
zz 82 (xdF hc26) <|
zz 86 (xk9 0 c8_1 hc23) <|
zz 87 (xivN hc25 hc24) <|
zz 89 (xdF hc27) <|
zz 95 (xk9 0 c8_1 hc23) <|
zz 96 (xivN hc25 hc24) <|
yy 97 (.call (C_pAq1 c25_ (c28_0, c28_1) [] [(2, 0, true)])) <|
ww (m_pAq1_ok n c25_ (c28_0, c28_1) hc28) <|
ww (iv_flat c28_0 3) <|
zz 101 (xnm hc12) <|
yy 102 (.pur (sN 1 0 (c12_).toNat c9_1)) <|
ww (p := opSlice P 30 (sN 1 0 (c9_0).length c9_1) none (some (i6 c12_)) none Ax.h0 = some ((sN 1 0 (c12_).toNat c9_1), Ax.h0)) (slHiV (e := 3) (es := 1) (by kernel_rfl) (by kernel_rfl) rfl rfl hc29 hc30) <|
yy 103 (.call (C_sIq1 c28_0 c28_1 c9_0 ((c12_).toNat) c9_1 c31_ [(0, 2, true), (1, 1, true)] [])) <|
ww (m_sIq1_ok n c28_0 c28_1 c9_0 ((c12_).toNat) c9_1 c31_ hc31) <|
ww (iv_flat c28_0 3) <|
ww (iv_flat c9_0 3) <|
yy 104 (vf) <|
ww (p := (Value.bool (!c31_)) = (Value.bool false)) (vBn hc32) <|
yy 109 (.call (C_tEq1 c7_ c33_ [] [])) <|
ww (m_tEq1_ok n c7_ c33_ hc33) <|
zz 113 (xk9 0 c8_1 hc23) <|
zz 114 (xivN hc25 hc24) <|
yy 115 (.call (C_tEq1 c25_ c34_ [] [])) <|
ww (m_tEq1_ok n c25_ c34_ hc34) <|
zz 116 (xdF hc35) <|
zz 123 (xk1 0 Args.cA hc15) <|
zz 124 (fk14 ((c7_).toNat * 8)) <|
zz 125 (lk15 hc16 (toNatLt hc15)) <|
zz 126 (xeT hc36) <|
yy 140 (.call (C_lVq1  (c37_a :: c37_t) [] [(4, 1, true)])) <|
ww (m_lVq1_ok n  (c37_a :: c37_t) hc37) <|
ww (iv_flat (c37_a :: c37_t) 3) <|
ww (p := U_V_1 none c7_ true (false, (c37_a :: c37_t), 0) c38_) (m_V_1_ok n c7_ true (false, (c37_a :: c37_t), 0) c38_ hc38) <|
ww (iv_flat (c37_a :: c37_t) 3) <|
zz 151 (xk1 0 Args.cA hc15) <|
zz 152 (fk10 ((c7_).toNat * 8)) <|
zz 153 (lk11 hc16 (toNatLt hc15)) <|
zz 156 (xk1 0 Args.cA hc15) <|
zz 157 (fk16 ((c7_).toNat * 8)) <|
zz 158 (lk17 hc16 (toNatLt hc15)) <|
yy 159 (.call (C_tFq1 (c16_.1) (c16_.2.2.1) (c39_0, c39_1) [] [(1, 1, false), (2, 2, false)])) <|
ww (m_tFq1_ok n (c16_.1) (c16_.2.2.1) (c39_0, c39_1) hc39) <|
yy 168 (vt) <|
ww (p := (Value.bool (!(c38_ == true))) = (Value.bool true)) (vNeB (Bool.eq_false_iff.2 hc40) hc41) <|
yy 171 (vf) <|
ww (p := (Value.bool (!true)) = (Value.bool false)) (vBn hc41) <|
zz 174 (xbT hc42) <|
zz 177 (xdT hc43) <|
zz 182 (xk1 0 Args.cA hc44) <|
zz 183 (fk10 ((c39_0).toNat * 8)) <|
zz 184 (lk11 hc45 (toNatLt hc44)) <|
zz 187 (xk1 0 Args.cA hc15) <|
zz 188 (fk10 ((c7_).toNat * 8)) <|
zz 189 (lk11 hc16 (toNatLt hc15)) <|
zz 190 (xeT hc46) <|
zz 195 (xk1 0 Args.cA hc44) <|
zz 196 (fk16 ((c39_0).toNat * 8)) <|
zz 197 (lk17 hc45 (toNatLt hc44)) <|
zz 200 (xk1 0 Args.cA hc15) <|
zz 201 (fk16 ((c7_).toNat * 8)) <|
zz 202 (lk17 hc16 (toNatLt hc15)) <|
zz 203 (xeT hc47) ee) (by kernel_rfl))
                             ·rw [if_neg hc47] at h
                              cases h
                            ·rw [if_neg hc46] at h
                             cases h
                           ·rw [if_neg hc44] at h; cases h
                          ·rw [if_neg hc43] at h
                           cases h
                         ·rw [if_neg hc42] at h
                          cases h
                        ·rw [if_neg hc41] at h
                         cases h
                     ·rw [if_neg hc36] at h
                      by_cases hc37 : (c16_.2.1) = (2 : Int)
                      ·rw [if_pos hc37] at h
                       obtain ⟨c38_, hc38, h⟩ := Option.bind_eq_some_iff.1 h
                       cases c38_ with
                       | nil =>
                        dsimp only at h
                        obtain ⟨c39_, hc39, h⟩ := Option.bind_eq_some_iff.1 h
                        obtain ⟨⟨c40_0, c40_1⟩, hc40, h⟩ := Option.bind_eq_some_iff.1 h
                        dsimp only at h
                        by_cases hc41 : c39_ = true
                        ·rw [if_pos hc41] at h
                         by_cases hc42 : true = true
                         ·rw [if_pos hc42] at h
                          cases h
                         ·rw [if_neg hc42] at h
                          obtain rfl := oI h; exact (runF2 hm (L := lT [(146, ⟨⟨[0, 1, 7, 8, 9, 10], [], 1, 0⟩, (X_V_1 c7_ true c39_).1, (X_V_1 c7_ true c39_).2⟩)]) ⟨[4], [], 0, 0⟩ (yy 4 (.call ⟨0, [], (Value.bool true), Ax.h0, []⟩) <|
ww (m_viewportlaw16lives_ok n  () hc1) <|
yy 11 (.call (C_liq1 0 0 0 c2_ [] [])) <|
ww (m_liq1_ok n 0 0 0 c2_ hc2) <|
yy 12 (vf) <|
ww (p := (Value.bool (!c2_)) = (Value.bool false)) (vBn hc3) <|
yy 15 (.call (C_tCq1  c4_ [] [])) <|
ww (m_tCq1_ok n  c4_ hc4) <|
zz 16 (xnF hc5) <|
zz 23 (xeF hc6) <|
yy 29 (.call (C_pKq1 g1 (Args.A.length : Int) c7_ [] [])) <|
ww (m_pKq1_ok n g1 (Args.A.length : Int) c7_ hc7) <|
yy 33 (.call (C_tPq1  (c8_0, c8_1) [] [(0, 0, true)])) <|
ww (m_tPq1_ok n  (c8_0, c8_1) hc8) <|
ww (iv_flat c8_0 3) <|
yy 38 (.call (C_pAq1 c7_ (c9_0, c9_1) [] [(1, 0, true)])) <|
ww (m_pAq1_ok n c7_ (c9_0, c9_1) hc9) <|
ww (iv_flat c9_0 3) <|
zz 46 (xnF hc10) <|
zz 50 (xeF hc11) <|
zz 56 (xnm hc12) <|
zz 57 (xk9 1 c9_1 hc13) <|
zz 58 (xivN hc14 (toNatLt hc13)) <|
zz 61 (xk1 0 Args.cA hc15) <|
zz 62 (fk10 ((c7_).toNat * 8)) <|
zz 63 (lk11 hc16 (toNatLt hc15)) <|
zz 64 (xnF hc17) <|
zz 68 (xk9 0 c8_1 hc18) <|
zz 69 (xivN hc20 hc19) <|
zz 70 (xnF hc21) <|
zz 76 (xdT hc22) <|
zz 80 (xk9 0 c8_1 hc23) <|
zz 81 (xivN hc25 hc24) <|
zz 82 (xdF hc26) <|
zz 86 (xk9 0 c8_1 hc23) <|
zz 87 (xivN hc25 hc24) <|
zz 89 (xdF hc27) <|
zz 95 (xk9 0 c8_1 hc23) <|
zz 96 (xivN hc25 hc24) <|
yy 97 (.call (C_pAq1 c25_ (c28_0, c28_1) [] [(2, 0, true)])) <|
ww (m_pAq1_ok n c25_ (c28_0, c28_1) hc28) <|
ww (iv_flat c28_0 3) <|
zz 101 (xnm hc12) <|
yy 102 (.pur (sN 1 0 (c12_).toNat c9_1)) <|
ww (p := opSlice P 30 (sN 1 0 (c9_0).length c9_1) none (some (i6 c12_)) none Ax.h0 = some ((sN 1 0 (c12_).toNat c9_1), Ax.h0)) (slHiV (e := 3) (es := 1) (by kernel_rfl) (by kernel_rfl) rfl rfl hc29 hc30) <|
yy 103 (.call (C_sIq1 c28_0 c28_1 c9_0 ((c12_).toNat) c9_1 c31_ [(0, 2, true), (1, 1, true)] [])) <|
ww (m_sIq1_ok n c28_0 c28_1 c9_0 ((c12_).toNat) c9_1 c31_ hc31) <|
ww (iv_flat c28_0 3) <|
ww (iv_flat c9_0 3) <|
yy 104 (vf) <|
ww (p := (Value.bool (!c31_)) = (Value.bool false)) (vBn hc32) <|
yy 109 (.call (C_tEq1 c7_ c33_ [] [])) <|
ww (m_tEq1_ok n c7_ c33_ hc33) <|
zz 113 (xk9 0 c8_1 hc23) <|
zz 114 (xivN hc25 hc24) <|
yy 115 (.call (C_tEq1 c25_ c34_ [] [])) <|
ww (m_tEq1_ok n c25_ c34_ hc34) <|
zz 116 (xdF hc35) <|
zz 123 (xk1 0 Args.cA hc15) <|
zz 124 (fk14 ((c7_).toNat * 8)) <|
zz 125 (lk15 hc16 (toNatLt hc15)) <|
zz 126 (xeF hc36) <|
zz 130 (xk1 0 Args.cA hc15) <|
zz 131 (fk14 ((c7_).toNat * 8)) <|
zz 132 (lk15 hc16 (toNatLt hc15)) <|
zz 133 (xeT hc37) <|
yy 140 (.call (C_lVq1  ([] : List Int) [] [])) <|
ww (m_lVq1_ok n  ([] : List Int) hc38) <|
ww (p := U_V_1 none c7_ true (false, ([] : List Int), 0) c39_) (m_V_1_ok n c7_ true (false, ([] : List Int), 0) c39_ hc39) <|
zz 151 (xk1 0 Args.cA hc15) <|
zz 152 (fk10 ((c7_).toNat * 8)) <|
zz 153 (lk11 hc16 (toNatLt hc15)) <|
zz 156 (xk1 0 Args.cA hc15) <|
zz 157 (fk16 ((c7_).toNat * 8)) <|
zz 158 (lk17 hc16 (toNatLt hc15)) <|
yy 159 (.call (C_tFq1 (c16_.1) (c16_.2.2.1) (c40_0, c40_1) [] [(1, 1, false), (2, 2, false)])) <|
ww (m_tFq1_ok n (c16_.1) (c16_.2.2.1) (c40_0, c40_1) hc40) <|
yy 168 (vt) <|
ww (p := (Value.bool (!(c39_ == true))) = (Value.bool true)) (vNeB hc41 (Bool.eq_false_iff.2 hc42)) <|
yy 171 (vt) <|
ww (p := (Value.bool (!true)) = (Value.bool true)) (vBn (Bool.eq_false_iff.2 hc42)) ee) (by kernel_rfl))
                        ·rw [if_neg hc41] at h
                         by_cases hc42 : true = true
                         ·rw [if_pos hc42] at h
                          by_cases hc43 : c40_1 = true
                          ·rw [if_pos hc43] at h
                           by_cases hc44 : c40_0 ≤ c7_
                           ·rw [if_pos hc44] at h
                            by_cases hc45 : 0 ≤ c40_0 ∧ c40_0 < (Args.A.length : Int)
                            ·rw [if_pos hc45] at h
                             obtain ⟨c46_, hc46, h⟩ := Option.bind_eq_some_iff.1 h
                             by_cases hc47 : (c46_.1) = (c16_.1)
                             ·rw [if_pos hc47] at h
                              by_cases hc48 : (c46_.2.2.1) = (c16_.2.2.1)
                              ·rw [if_pos hc48] at h
                               obtain rfl := oI h; exact (runF2 hm (L := lT [(146, ⟨⟨[0, 1, 7, 8, 9, 10], [], 1, 0⟩, (X_V_1 c7_ true c39_).1, (X_V_1 c7_ true c39_).2⟩)]) ⟨[4], [], 0, 0⟩ (yy 4 (.call ⟨0, [], (Value.bool true), Ax.h0, []⟩) <|
ww (m_viewportlaw16lives_ok n  () hc1) <|
yy 11 (.call (C_liq1 0 0 0 c2_ [] [])) <|
ww (m_liq1_ok n 0 0 0 c2_ hc2) <|
yy 12 (vf) <|
ww (p := (Value.bool (!c2_)) = (Value.bool false)) (vBn hc3) <|
yy 15 (.call (C_tCq1  c4_ [] [])) <|
ww (m_tCq1_ok n  c4_ hc4) <|
zz 16 (xnF hc5) <|
zz 23 (xeF hc6) <|
yy 29 (.call (C_pKq1 g1 (Args.A.length : Int) c7_ [] [])) <|
ww (m_pKq1_ok n g1 (Args.A.length : Int) c7_ hc7) <|
yy 33 (.call (C_tPq1  (c8_0, c8_1) [] [(0, 0, true)])) <|
ww (m_tPq1_ok n  (c8_0, c8_1) hc8) <|
ww (iv_flat c8_0 3) <|
yy 38 (.call (C_pAq1 c7_ (c9_0, c9_1) [] [(1, 0, true)])) <|
ww (m_pAq1_ok n c7_ (c9_0, c9_1) hc9) <|
ww (iv_flat c9_0 3) <|
zz 46 (xnF hc10) <|
zz 50 (xeF hc11) <|
zz 56 (xnm hc12) <|
zz 57 (xk9 1 c9_1 hc13) <|
zz 58 (xivN hc14 (toNatLt hc13)) <|
zz 61 (xk1 0 Args.cA hc15) <|
zz 62 (fk10 ((c7_).toNat * 8)) <|
zz 63 (lk11 hc16 (toNatLt hc15)) <|
zz 64 (xnF hc17) <|
zz 68 (xk9 0 c8_1 hc18) <|
zz 69 (xivN hc20 hc19) <|
zz 70 (xnF hc21) <|
zz 76 (xdT hc22) <|
zz 80 (xk9 0 c8_1 hc23) <|
zz 81 (xivN hc25 hc24) <|
zz 82 (xdF hc26) <|
zz 86 (xk9 0 c8_1 hc23) <|
zz 87 (xivN hc25 hc24) <|
zz 89 (xdF hc27) <|
zz 95 (xk9 0 c8_1 hc23) <|
zz 96 (xivN hc25 hc24) <|
yy 97 (.call (C_pAq1 c25_ (c28_0, c28_1) [] [(2, 0, true)])) <|
ww (m_pAq1_ok n c25_ (c28_0, c28_1) hc28) <|
ww (iv_flat c28_0 3) <|
zz 101 (xnm hc12) <|
yy 102 (.pur (sN 1 0 (c12_).toNat c9_1)) <|
ww (p := opSlice P 30 (sN 1 0 (c9_0).length c9_1) none (some (i6 c12_)) none Ax.h0 = some ((sN 1 0 (c12_).toNat c9_1), Ax.h0)) (slHiV (e := 3) (es := 1) (by kernel_rfl) (by kernel_rfl) rfl rfl hc29 hc30) <|
yy 103 (.call (C_sIq1 c28_0 c28_1 c9_0 ((c12_).toNat) c9_1 c31_ [(0, 2, true), (1, 1, true)] [])) <|
ww (m_sIq1_ok n c28_0 c28_1 c9_0 ((c12_).toNat) c9_1 c31_ hc31) <|
ww (iv_flat c28_0 3) <|
ww (iv_flat c9_0 3) <|
yy 104 (vf) <|
ww (p := (Value.bool (!c31_)) = (Value.bool false)) (vBn hc32) <|
yy 109 (.call (C_tEq1 c7_ c33_ [] [])) <|
ww (m_tEq1_ok n c7_ c33_ hc33) <|
zz 113 (xk9 0 c8_1 hc23) <|
zz 114 (xivN hc25 hc24) <|
yy 115 (.call (C_tEq1 c25_ c34_ [] [])) <|
ww (m_tEq1_ok n c25_ c34_ hc34) <|
zz 116 (xdF hc35) <|
zz 123 (xk1 0 Args.cA hc15) <|
zz 124 (fk14 ((c7_).toNat * 8)) <|
zz 125 (lk15 hc16 (toNatLt hc15)) <|
zz 126 (xeF hc36) <|
zz 130 (xk1 0 Args.cA hc15) <|
zz 131 (fk14 ((c7_).toNat * 8)) <|
zz 132 (lk15 hc16 (toNatLt hc15)) <|
zz 133 (xeT hc37) <|
yy 140 (.call (C_lVq1  ([] : List Int) [] [])) <|
ww (m_lVq1_ok n  ([] : List Int) hc38) <|
ww (p := U_V_1 none c7_ true (false, ([] : List Int), 0) c39_) (m_V_1_ok n c7_ true (false, ([] : List Int), 0) c39_ hc39) <|
zz 151 (xk1 0 Args.cA hc15) <|
zz 152 (fk10 ((c7_).toNat * 8)) <|
zz 153 (lk11 hc16 (toNatLt hc15)) <|
zz 156 (xk1 0 Args.cA hc15) <|
zz 157 (fk16 ((c7_).toNat * 8)) <|
zz 158 (lk17 hc16 (toNatLt hc15)) <|
yy 159 (.call (C_tFq1 (c16_.1) (c16_.2.2.1) (c40_0, c40_1) [] [(1, 1, false), (2, 2, false)])) <|
ww (m_tFq1_ok n (c16_.1) (c16_.2.2.1) (c40_0, c40_1) hc40) <|
yy 168 (vt) <|
ww (p := (Value.bool (!(c39_ == true))) = (Value.bool true)) (vNeB (Bool.eq_false_iff.2 hc41) hc42) <|
yy 171 (vf) <|
ww (p := (Value.bool (!true)) = (Value.bool false)) (vBn hc42) <|
zz 174 (xbT hc43) <|
zz 177 (xdT hc44) <|
zz 182 (xk1 0 Args.cA hc45) <|
zz 183 (fk10 ((c40_0).toNat * 8)) <|
zz 184 (lk11 hc46 (toNatLt hc45)) <|
zz 187 (xk1 0 Args.cA hc15) <|
zz 188 (fk10 ((c7_).toNat * 8)) <|
zz 189 (lk11 hc16 (toNatLt hc15)) <|
zz 190 (xeT hc47) <|
zz 195 (xk1 0 Args.cA hc45) <|
zz 196 (fk16 ((c40_0).toNat * 8)) <|
zz 197 (lk17 hc46 (toNatLt hc45)) <|
zz 200 (xk1 0 Args.cA hc15) <|
zz 201 (fk16 ((c7_).toNat * 8)) <|
zz 202 (lk17 hc16 (toNatLt hc15)) <|
zz 203 (xeT hc48) ee) (by kernel_rfl))
                              ·rw [if_neg hc48] at h
                               cases h
                             ·rw [if_neg hc47] at h
                              cases h
                            ·rw [if_neg hc45] at h; cases h
                           ·rw [if_neg hc44] at h
                            cases h
                          ·rw [if_neg hc43] at h
                           cases h
                         ·rw [if_neg hc42] at h
                          cases h
                       | cons c38_a c38_t =>
                        dsimp only at h
                        obtain ⟨c39_, hc39, h⟩ := Option.bind_eq_some_iff.1 h
                        obtain ⟨⟨c40_0, c40_1⟩, hc40, h⟩ := Option.bind_eq_some_iff.1 h
                        dsimp only at h
                        by_cases hc41 : c39_ = true
                        ·rw [if_pos hc41] at h
                         by_cases hc42 : true = true
                         ·rw [if_pos hc42] at h
                          cases h
                         ·rw [if_neg hc42] at h
                          obtain rfl := oI h; exact (runF2 hm (L := lT [(146, ⟨⟨[0, 1, 7, 8, 9, 10], [(0, 4, true)], 1, 0⟩, (X_V_1 c7_ true c39_).1, (X_V_1 c7_ true c39_).2⟩)]) ⟨[4], [], 0, 0⟩ (yy 4 (.call ⟨0, [], (Value.bool true), Ax.h0, []⟩) <|
ww (m_viewportlaw16lives_ok n  () hc1) <|
yy 11 (.call (C_liq1 0 0 0 c2_ [] [])) <|
ww (m_liq1_ok n 0 0 0 c2_ hc2) <|
yy 12 (vf) <|
ww (p := (Value.bool (!c2_)) = (Value.bool false)) (vBn hc3) <|
yy 15 (.call (C_tCq1  c4_ [] [])) <|
ww (m_tCq1_ok n  c4_ hc4) <|
zz 16 (xnF hc5) <|
zz 23 (xeF hc6) <|
yy 29 (.call (C_pKq1 g1 (Args.A.length : Int) c7_ [] [])) <|
ww (m_pKq1_ok n g1 (Args.A.length : Int) c7_ hc7) <|
yy 33 (.call (C_tPq1  (c8_0, c8_1) [] [(0, 0, true)])) <|
ww (m_tPq1_ok n  (c8_0, c8_1) hc8) <|
ww (iv_flat c8_0 3) <|
yy 38 (.call (C_pAq1 c7_ (c9_0, c9_1) [] [(1, 0, true)])) <|
ww (m_pAq1_ok n c7_ (c9_0, c9_1) hc9) <|
ww (iv_flat c9_0 3) <|
zz 46 (xnF hc10) <|
zz 50 (xeF hc11) <|
zz 56 (xnm hc12) <|
zz 57 (xk9 1 c9_1 hc13) <|
zz 58 (xivN hc14 (toNatLt hc13)) <|
zz 61 (xk1 0 Args.cA hc15) <|
zz 62 (fk10 ((c7_).toNat * 8)) <|
zz 63 (lk11 hc16 (toNatLt hc15)) <|
zz 64 (xnF hc17) <|
zz 68 (xk9 0 c8_1 hc18) <|
zz 69 (xivN hc20 hc19) <|
zz 70 (xnF hc21) <|
zz 76 (xdT hc22) <|
zz 80 (xk9 0 c8_1 hc23) <|
zz 81 (xivN hc25 hc24) <|
zz 82 (xdF hc26) <|
zz 86 (xk9 0 c8_1 hc23) <|
zz 87 (xivN hc25 hc24) <|
zz 89 (xdF hc27) <|
zz 95 (xk9 0 c8_1 hc23) <|
zz 96 (xivN hc25 hc24) <|
yy 97 (.call (C_pAq1 c25_ (c28_0, c28_1) [] [(2, 0, true)])) <|
ww (m_pAq1_ok n c25_ (c28_0, c28_1) hc28) <|
ww (iv_flat c28_0 3) <|
zz 101 (xnm hc12) <|
yy 102 (.pur (sN 1 0 (c12_).toNat c9_1)) <|
ww (p := opSlice P 30 (sN 1 0 (c9_0).length c9_1) none (some (i6 c12_)) none Ax.h0 = some ((sN 1 0 (c12_).toNat c9_1), Ax.h0)) (slHiV (e := 3) (es := 1) (by kernel_rfl) (by kernel_rfl) rfl rfl hc29 hc30) <|
yy 103 (.call (C_sIq1 c28_0 c28_1 c9_0 ((c12_).toNat) c9_1 c31_ [(0, 2, true), (1, 1, true)] [])) <|
ww (m_sIq1_ok n c28_0 c28_1 c9_0 ((c12_).toNat) c9_1 c31_ hc31) <|
ww (iv_flat c28_0 3) <|
ww (iv_flat c9_0 3) <|
yy 104 (vf) <|
ww (p := (Value.bool (!c31_)) = (Value.bool false)) (vBn hc32) <|
yy 109 (.call (C_tEq1 c7_ c33_ [] [])) <|
ww (m_tEq1_ok n c7_ c33_ hc33) <|
zz 113 (xk9 0 c8_1 hc23) <|
zz 114 (xivN hc25 hc24) <|
yy 115 (.call (C_tEq1 c25_ c34_ [] [])) <|
ww (m_tEq1_ok n c25_ c34_ hc34) <|
zz 116 (xdF hc35) <|
zz 123 (xk1 0 Args.cA hc15) <|
zz 124 (fk14 ((c7_).toNat * 8)) <|
zz 125 (lk15 hc16 (toNatLt hc15)) <|
zz 126 (xeF hc36) <|
zz 130 (xk1 0 Args.cA hc15) <|
zz 131 (fk14 ((c7_).toNat * 8)) <|
zz 132 (lk15 hc16 (toNatLt hc15)) <|
zz 133 (xeT hc37) <|
yy 140 (.call (C_lVq1  (c38_a :: c38_t) [] [(4, 1, true)])) <|
ww (m_lVq1_ok n  (c38_a :: c38_t) hc38) <|
ww (iv_flat (c38_a :: c38_t) 3) <|
ww (p := U_V_1 none c7_ true (false, (c38_a :: c38_t), 0) c39_) (m_V_1_ok n c7_ true (false, (c38_a :: c38_t), 0) c39_ hc39) <|
ww (iv_flat (c38_a :: c38_t) 3) <|
zz 151 (xk1 0 Args.cA hc15) <|
zz 152 (fk10 ((c7_).toNat * 8)) <|
zz 153 (lk11 hc16 (toNatLt hc15)) <|
zz 156 (xk1 0 Args.cA hc15) <|
zz 157 (fk16 ((c7_).toNat * 8)) <|
zz 158 (lk17 hc16 (toNatLt hc15)) <|
yy 159 (.call (C_tFq1 (c16_.1) (c16_.2.2.1) (c40_0, c40_1) [] [(1, 1, false), (2, 2, false)])) <|
ww (m_tFq1_ok n (c16_.1) (c16_.2.2.1) (c40_0, c40_1) hc40) <|
yy 168 (vt) <|
ww (p := (Value.bool (!(c39_ == true))) = (Value.bool true)) (vNeB hc41 (Bool.eq_false_iff.2 hc42)) <|
yy 171 (vt) <|
ww (p := (Value.bool (!true)) = (Value.bool true)) (vBn (Bool.eq_false_iff.2 hc42)) ee) (by kernel_rfl))
                        ·rw [if_neg hc41] at h
                         by_cases hc42 : true = true
                         ·rw [if_pos hc42] at h
                          by_cases hc43 : c40_1 = true
                          ·rw [if_pos hc43] at h
                           by_cases hc44 : c40_0 ≤ c7_
                           ·rw [if_pos hc44] at h
                            by_cases hc45 : 0 ≤ c40_0 ∧ c40_0 < (Args.A.length : Int)
                            ·rw [if_pos hc45] at h
                             obtain ⟨c46_, hc46, h⟩ := Option.bind_eq_some_iff.1 h
                             by_cases hc47 : (c46_.1) = (c16_.1)
                             ·rw [if_pos hc47] at h
                              by_cases hc48 : (c46_.2.2.1) = (c16_.2.2.1)
                              ·rw [if_pos hc48] at h
                               obtain rfl := oI h; exact (runF2 hm (L := lT [(146, ⟨⟨[0, 1, 7, 8, 9, 10], [(0, 4, true)], 1, 0⟩, (X_V_1 c7_ true c39_).1, (X_V_1 c7_ true c39_).2⟩)]) ⟨[4], [], 0, 0⟩ (yy 4 (.call ⟨0, [], (Value.bool true), Ax.h0, []⟩) <|
ww (m_viewportlaw16lives_ok n  () hc1) <|
yy 11 (.call (C_liq1 0 0 0 c2_ [] [])) <|
ww (m_liq1_ok n 0 0 0 c2_ hc2) <|
yy 12 (vf) <|
ww (p := (Value.bool (!c2_)) = (Value.bool false)) (vBn hc3) <|
yy 15 (.call (C_tCq1  c4_ [] [])) <|
ww (m_tCq1_ok n  c4_ hc4) <|
zz 16 (xnF hc5) <|
zz 23 (xeF hc6) <|
yy 29 (.call (C_pKq1 g1 (Args.A.length : Int) c7_ [] [])) <|
ww (m_pKq1_ok n g1 (Args.A.length : Int) c7_ hc7) <|
yy 33 (.call (C_tPq1  (c8_0, c8_1) [] [(0, 0, true)])) <|
ww (m_tPq1_ok n  (c8_0, c8_1) hc8) <|
ww (iv_flat c8_0 3) <|
yy 38 (.call (C_pAq1 c7_ (c9_0, c9_1) [] [(1, 0, true)])) <|
ww (m_pAq1_ok n c7_ (c9_0, c9_1) hc9) <|
ww (iv_flat c9_0 3) <|
zz 46 (xnF hc10) <|
zz 50 (xeF hc11) <|
zz 56 (xnm hc12) <|
zz 57 (xk9 1 c9_1 hc13) <|
zz 58 (xivN hc14 (toNatLt hc13)) <|
zz 61 (xk1 0 Args.cA hc15) <|
zz 62 (fk10 ((c7_).toNat * 8)) <|
zz 63 (lk11 hc16 (toNatLt hc15)) <|
zz 64 (xnF hc17) <|
zz 68 (xk9 0 c8_1 hc18) <|
zz 69 (xivN hc20 hc19) <|
zz 70 (xnF hc21) <|
zz 76 (xdT hc22) <|
zz 80 (xk9 0 c8_1 hc23) <|
zz 81 (xivN hc25 hc24) <|
zz 82 (xdF hc26) <|
zz 86 (xk9 0 c8_1 hc23) <|
zz 87 (xivN hc25 hc24) <|
zz 89 (xdF hc27) <|
zz 95 (xk9 0 c8_1 hc23) <|
zz 96 (xivN hc25 hc24) <|
yy 97 (.call (C_pAq1 c25_ (c28_0, c28_1) [] [(2, 0, true)])) <|
ww (m_pAq1_ok n c25_ (c28_0, c28_1) hc28) <|
ww (iv_flat c28_0 3) <|
zz 101 (xnm hc12) <|
yy 102 (.pur (sN 1 0 (c12_).toNat c9_1)) <|
ww (p := opSlice P 30 (sN 1 0 (c9_0).length c9_1) none (some (i6 c12_)) none Ax.h0 = some ((sN 1 0 (c12_).toNat c9_1), Ax.h0)) (slHiV (e := 3) (es := 1) (by kernel_rfl) (by kernel_rfl) rfl rfl hc29 hc30) <|
yy 103 (.call (C_sIq1 c28_0 c28_1 c9_0 ((c12_).toNat) c9_1 c31_ [(0, 2, true), (1, 1, true)] [])) <|
ww (m_sIq1_ok n c28_0 c28_1 c9_0 ((c12_).toNat) c9_1 c31_ hc31) <|
ww (iv_flat c28_0 3) <|
ww (iv_flat c9_0 3) <|
yy 104 (vf) <|
ww (p := (Value.bool (!c31_)) = (Value.bool false)) (vBn hc32) <|
yy 109 (.call (C_tEq1 c7_ c33_ [] [])) <|
ww (m_tEq1_ok n c7_ c33_ hc33) <|
zz 113 (xk9 0 c8_1 hc23) <|
zz 114 (xivN hc25 hc24) <|
yy 115 (.call (C_tEq1 c25_ c34_ [] [])) <|
ww (m_tEq1_ok n c25_ c34_ hc34) <|
zz 116 (xdF hc35) <|
zz 123 (xk1 0 Args.cA hc15) <|
zz 124 (fk14 ((c7_).toNat * 8)) <|
zz 125 (lk15 hc16 (toNatLt hc15)) <|
zz 126 (xeF hc36) <|
zz 130 (xk1 0 Args.cA hc15) <|
zz 131 (fk14 ((c7_).toNat * 8)) <|
zz 132 (lk15 hc16 (toNatLt hc15)) <|
zz 133 (xeT hc37) <|
yy 140 (.call (C_lVq1  (c38_a :: c38_t) [] [(4, 1, true)])) <|
ww (m_lVq1_ok n  (c38_a :: c38_t) hc38) <|
ww (iv_flat (c38_a :: c38_t) 3) <|
ww (p := U_V_1 none c7_ true (false, (c38_a :: c38_t), 0) c39_) (m_V_1_ok n c7_ true (false, (c38_a :: c38_t), 0) c39_ hc39) <|
ww (iv_flat (c38_a :: c38_t) 3) <|
zz 151 (xk1 0 Args.cA hc15) <|
zz 152 (fk10 ((c7_).toNat * 8)) <|
zz 153 (lk11 hc16 (toNatLt hc15)) <|
zz 156 (xk1 0 Args.cA hc15) <|
zz 157 (fk16 ((c7_).toNat * 8)) <|
zz 158 (lk17 hc16 (toNatLt hc15)) <|
yy 159 (.call (C_tFq1 (c16_.1) (c16_.2.2.1) (c40_0, c40_1) [] [(1, 1, false), (2, 2, false)])) <|
ww (m_tFq1_ok n (c16_.1) (c16_.2.2.1) (c40_0, c40_1) hc40) <|
yy 168 (vt) <|
ww (p := (Value.bool (!(c39_ == true))) = (Value.bool true)) (vNeB (Bool.eq_false_iff.2 hc41) hc42) <|
yy 171 (vf) <|
ww (p := (Value.bool (!true)) = (Value.bool false)) (vBn hc42) <|
zz 174 (xbT hc43) <|
zz 177 (xdT hc44) <|
zz 182 (xk1 0 Args.cA hc45) <|
zz 183 (fk10 ((c40_0).toNat * 8)) <|
zz 184 (lk11 hc46 (toNatLt hc45)) <|
zz 187 (xk1 0 Args.cA hc15) <|
zz 188 (fk10 ((c7_).toNat * 8)) <|
zz 189 (lk11 hc16 (toNatLt hc15)) <|
zz 190 (xeT hc47) <|
zz 195 (xk1 0 Args.cA hc45) <|
zz 196 (fk16 ((c40_0).toNat * 8)) <|
zz 197 (lk17 hc46 (toNatLt hc45)) <|
zz 200 (xk1 0 Args.cA hc15) <|
zz 201 (fk16 ((c7_).toNat * 8)) <|
zz 202 (lk17 hc16 (toNatLt hc15)) <|
zz 203 (xeT hc48) ee) (by kernel_rfl))
                              ·rw [if_neg hc48] at h
                               cases h
                             ·rw [if_neg hc47] at h
                              cases h
                            ·rw [if_neg hc45] at h; cases h
                           ·rw [if_neg hc44] at h
                            cases h
                          ·rw [if_neg hc43] at h
                           cases h
                         ·rw [if_neg hc42] at h
                          cases h
                      ·rw [if_neg hc37] at h
                       obtain ⟨c38_, hc38, h⟩ := Option.bind_eq_some_iff.1 h
                       cases c38_ with
                       | nil =>
                        dsimp only at h
                        obtain ⟨c39_, hc39, h⟩ := Option.bind_eq_some_iff.1 h
                        obtain ⟨⟨c40_0, c40_1⟩, hc40, h⟩ := Option.bind_eq_some_iff.1 h
                        dsimp only at h
                        by_cases hc41 : c39_ = true
                        ·rw [if_pos hc41] at h
                         by_cases hc42 : false = true
                         ·rw [if_pos hc42] at h
                          cases h
                         ·rw [if_neg hc42] at h
                          obtain rfl := oI h; exact (runF2 hm (L := lT [(146, ⟨⟨[0, 1, 7, 8, 9, 10], [], 1, 0⟩, (X_V_1 c7_ false c39_).1, (X_V_1 c7_ false c39_).2⟩)]) ⟨[4], [], 0, 0⟩ (yy 4 (.call ⟨0, [], (Value.bool true), Ax.h0, []⟩) <|
ww (m_viewportlaw16lives_ok n  () hc1) <|
yy 11 (.call (C_liq1 0 0 0 c2_ [] [])) <|
ww (m_liq1_ok n 0 0 0 c2_ hc2) <|
yy 12 (vf) <|
ww (p := (Value.bool (!c2_)) = (Value.bool false)) (vBn hc3) <|
yy 15 (.call (C_tCq1  c4_ [] [])) <|
ww (m_tCq1_ok n  c4_ hc4) <|
zz 16 (xnF hc5) <|
zz 23 (xeF hc6) <|
yy 29 (.call (C_pKq1 g1 (Args.A.length : Int) c7_ [] [])) <|
ww (m_pKq1_ok n g1 (Args.A.length : Int) c7_ hc7) <|
yy 33 (.call (C_tPq1  (c8_0, c8_1) [] [(0, 0, true)])) <|
ww (m_tPq1_ok n  (c8_0, c8_1) hc8) <|
ww (iv_flat c8_0 3) <|
yy 38 (.call (C_pAq1 c7_ (c9_0, c9_1) [] [(1, 0, true)])) <|
ww (m_pAq1_ok n c7_ (c9_0, c9_1) hc9) <|
ww (iv_flat c9_0 3) <|
zz 46 (xnF hc10) <|
zz 50 (xeF hc11) <|
zz 56 (xnm hc12) <|
zz 57 (xk9 1 c9_1 hc13) <|
zz 58 (xivN hc14 (toNatLt hc13)) <|
zz 61 (xk1 0 Args.cA hc15) <|
zz 62 (fk10 ((c7_).toNat * 8)) <|
zz 63 (lk11 hc16 (toNatLt hc15)) <|
zz 64 (xnF hc17) <|
zz 68 (xk9 0 c8_1 hc18) <|
zz 69 (xivN hc20 hc19) <|
zz 70 (xnF hc21) <|
zz 76 (xdT hc22) <|
zz 80 (xk9 0 c8_1 hc23) <|
zz 81 (xivN hc25 hc24) <|
zz 82 (xdF hc26) <|
zz 86 (xk9 0 c8_1 hc23) <|
zz 87 (xivN hc25 hc24) <|
zz 89 (xdF hc27) <|
zz 95 (xk9 0 c8_1 hc23) <|
zz 96 (xivN hc25 hc24) <|
yy 97 (.call (C_pAq1 c25_ (c28_0, c28_1) [] [(2, 0, true)])) <|
ww (m_pAq1_ok n c25_ (c28_0, c28_1) hc28) <|
ww (iv_flat c28_0 3) <|
zz 101 (xnm hc12) <|
yy 102 (.pur (sN 1 0 (c12_).toNat c9_1)) <|
ww (p := opSlice P 30 (sN 1 0 (c9_0).length c9_1) none (some (i6 c12_)) none Ax.h0 = some ((sN 1 0 (c12_).toNat c9_1), Ax.h0)) (slHiV (e := 3) (es := 1) (by kernel_rfl) (by kernel_rfl) rfl rfl hc29 hc30) <|
yy 103 (.call (C_sIq1 c28_0 c28_1 c9_0 ((c12_).toNat) c9_1 c31_ [(0, 2, true), (1, 1, true)] [])) <|
ww (m_sIq1_ok n c28_0 c28_1 c9_0 ((c12_).toNat) c9_1 c31_ hc31) <|
ww (iv_flat c28_0 3) <|
ww (iv_flat c9_0 3) <|
yy 104 (vf) <|
ww (p := (Value.bool (!c31_)) = (Value.bool false)) (vBn hc32) <|
yy 109 (.call (C_tEq1 c7_ c33_ [] [])) <|
ww (m_tEq1_ok n c7_ c33_ hc33) <|
zz 113 (xk9 0 c8_1 hc23) <|
zz 114 (xivN hc25 hc24) <|
yy 115 (.call (C_tEq1 c25_ c34_ [] [])) <|
ww (m_tEq1_ok n c25_ c34_ hc34) <|
zz 116 (xdF hc35) <|
zz 123 (xk1 0 Args.cA hc15) <|
zz 124 (fk14 ((c7_).toNat * 8)) <|
zz 125 (lk15 hc16 (toNatLt hc15)) <|
zz 126 (xeF hc36) <|
zz 130 (xk1 0 Args.cA hc15) <|
zz 131 (fk14 ((c7_).toNat * 8)) <|
zz 132 (lk15 hc16 (toNatLt hc15)) <|
zz 133 (xeF hc37) <|
yy 140 (.call (C_lVq1  ([] : List Int) [] [])) <|
ww (m_lVq1_ok n  ([] : List Int) hc38) <|
ww (p := U_V_1 none c7_ false (false, ([] : List Int), 0) c39_) (m_V_1_ok n c7_ false (false, ([] : List Int), 0) c39_ hc39) <|
zz 151 (xk1 0 Args.cA hc15) <|
zz 152 (fk10 ((c7_).toNat * 8)) <|
zz 153 (lk11 hc16 (toNatLt hc15)) <|
zz 156 (xk1 0 Args.cA hc15) <|
zz 157 (fk16 ((c7_).toNat * 8)) <|
zz 158 (lk17 hc16 (toNatLt hc15)) <|
yy 159 (.call (C_tFq1 (c16_.1) (c16_.2.2.1) (c40_0, c40_1) [] [(1, 1, false), (2, 2, false)])) <|
ww (m_tFq1_ok n (c16_.1) (c16_.2.2.1) (c40_0, c40_1) hc40) <|
yy 168 (vt) <|
ww (p := (Value.bool (!(c39_ == false))) = (Value.bool true)) (vNeB hc41 (Bool.eq_false_iff.2 hc42)) <|
yy 171 (vt) <|
ww (p := (Value.bool (!false)) = (Value.bool true)) (vBn (Bool.eq_false_iff.2 hc42)) ee) (by kernel_rfl))
                        ·rw [if_neg hc41] at h
                         by_cases hc42 : false = true
                         ·rw [if_pos hc42] at h
                          by_cases hc43 : c40_1 = true
                          ·rw [if_pos hc43] at h
                           by_cases hc44 : c40_0 ≤ c7_
                           ·rw [if_pos hc44] at h
                            by_cases hc45 : 0 ≤ c40_0 ∧ c40_0 < (Args.A.length : Int)
                            ·rw [if_pos hc45] at h
                             obtain ⟨c46_, hc46, h⟩ := Option.bind_eq_some_iff.1 h
                             by_cases hc47 : (c46_.1) = (c16_.1)
                             ·rw [if_pos hc47] at h
                              by_cases hc48 : (c46_.2.2.1) = (c16_.2.2.1)
                              ·rw [if_pos hc48] at h
                               obtain rfl := oI h; exact (runF2 hm (L := lT [(146, ⟨⟨[0, 1, 7, 8, 9, 10], [], 1, 0⟩, (X_V_1 c7_ false c39_).1, (X_V_1 c7_ false c39_).2⟩)]) ⟨[4], [], 0, 0⟩ (yy 4 (.call ⟨0, [], (Value.bool true), Ax.h0, []⟩) <|
ww (m_viewportlaw16lives_ok n  () hc1) <|
yy 11 (.call (C_liq1 0 0 0 c2_ [] [])) <|
ww (m_liq1_ok n 0 0 0 c2_ hc2) <|
yy 12 (vf) <|
ww (p := (Value.bool (!c2_)) = (Value.bool false)) (vBn hc3) <|
yy 15 (.call (C_tCq1  c4_ [] [])) <|
ww (m_tCq1_ok n  c4_ hc4) <|
zz 16 (xnF hc5) <|
zz 23 (xeF hc6) <|
yy 29 (.call (C_pKq1 g1 (Args.A.length : Int) c7_ [] [])) <|
ww (m_pKq1_ok n g1 (Args.A.length : Int) c7_ hc7) <|
yy 33 (.call (C_tPq1  (c8_0, c8_1) [] [(0, 0, true)])) <|
ww (m_tPq1_ok n  (c8_0, c8_1) hc8) <|
ww (iv_flat c8_0 3) <|
yy 38 (.call (C_pAq1 c7_ (c9_0, c9_1) [] [(1, 0, true)])) <|
ww (m_pAq1_ok n c7_ (c9_0, c9_1) hc9) <|
ww (iv_flat c9_0 3) <|
zz 46 (xnF hc10) <|
zz 50 (xeF hc11) <|
zz 56 (xnm hc12) <|
zz 57 (xk9 1 c9_1 hc13) <|
zz 58 (xivN hc14 (toNatLt hc13)) <|
zz 61 (xk1 0 Args.cA hc15) <|
zz 62 (fk10 ((c7_).toNat * 8)) <|
zz 63 (lk11 hc16 (toNatLt hc15)) <|
zz 64 (xnF hc17) <|
zz 68 (xk9 0 c8_1 hc18) <|
zz 69 (xivN hc20 hc19) <|
zz 70 (xnF hc21) <|
zz 76 (xdT hc22) <|
zz 80 (xk9 0 c8_1 hc23) <|
zz 81 (xivN hc25 hc24) <|
zz 82 (xdF hc26) <|
zz 86 (xk9 0 c8_1 hc23) <|
zz 87 (xivN hc25 hc24) <|
zz 89 (xdF hc27) <|
zz 95 (xk9 0 c8_1 hc23) <|
zz 96 (xivN hc25 hc24) <|
yy 97 (.call (C_pAq1 c25_ (c28_0, c28_1) [] [(2, 0, true)])) <|
ww (m_pAq1_ok n c25_ (c28_0, c28_1) hc28) <|
ww (iv_flat c28_0 3) <|
zz 101 (xnm hc12) <|
yy 102 (.pur (sN 1 0 (c12_).toNat c9_1)) <|
ww (p := opSlice P 30 (sN 1 0 (c9_0).length c9_1) none (some (i6 c12_)) none Ax.h0 = some ((sN 1 0 (c12_).toNat c9_1), Ax.h0)) (slHiV (e := 3) (es := 1) (by kernel_rfl) (by kernel_rfl) rfl rfl hc29 hc30) <|
yy 103 (.call (C_sIq1 c28_0 c28_1 c9_0 ((c12_).toNat) c9_1 c31_ [(0, 2, true), (1, 1, true)] [])) <|
ww (m_sIq1_ok n c28_0 c28_1 c9_0 ((c12_).toNat) c9_1 c31_ hc31) <|
ww (iv_flat c28_0 3) <|
ww (iv_flat c9_0 3) <|
yy 104 (vf) <|
ww (p := (Value.bool (!c31_)) = (Value.bool false)) (vBn hc32) <|
yy 109 (.call (C_tEq1 c7_ c33_ [] [])) <|
ww (m_tEq1_ok n c7_ c33_ hc33) <|
zz 113 (xk9 0 c8_1 hc23) <|
zz 114 (xivN hc25 hc24) <|
yy 115 (.call (C_tEq1 c25_ c34_ [] [])) <|
ww (m_tEq1_ok n c25_ c34_ hc34) <|
zz 116 (xdF hc35) <|
zz 123 (xk1 0 Args.cA hc15) <|
zz 124 (fk14 ((c7_).toNat * 8)) <|
zz 125 (lk15 hc16 (toNatLt hc15)) <|
zz 126 (xeF hc36) <|
zz 130 (xk1 0 Args.cA hc15) <|
zz 131 (fk14 ((c7_).toNat * 8)) <|
zz 132 (lk15 hc16 (toNatLt hc15)) <|
zz 133 (xeF hc37) <|
yy 140 (.call (C_lVq1  ([] : List Int) [] [])) <|
ww (m_lVq1_ok n  ([] : List Int) hc38) <|
ww (p := U_V_1 none c7_ false (false, ([] : List Int), 0) c39_) (m_V_1_ok n c7_ false (false, ([] : List Int), 0) c39_ hc39) <|
zz 151 (xk1 0 Args.cA hc15) <|
zz 152 (fk10 ((c7_).toNat * 8)) <|
zz 153 (lk11 hc16 (toNatLt hc15)) <|
zz 156 (xk1 0 Args.cA hc15) <|
zz 157 (fk16 ((c7_).toNat * 8)) <|
zz 158 (lk17 hc16 (toNatLt hc15)) <|
yy 159 (.call (C_tFq1 (c16_.1) (c16_.2.2.1) (c40_0, c40_1) [] [(1, 1, false), (2, 2, false)])) <|
ww (m_tFq1_ok n (c16_.1) (c16_.2.2.1) (c40_0, c40_1) hc40) <|
yy 168 (vt) <|
ww (p := (Value.bool (!(c39_ == false))) = (Value.bool true)) (vNeB (Bool.eq_false_iff.2 hc41) hc42) <|
yy 171 (vf) <|
ww (p := (Value.bool (!false)) = (Value.bool false)) (vBn hc42) <|
zz 174 (xbT hc43) <|
zz 177 (xdT hc44) <|
zz 182 (xk1 0 Args.cA hc45) <|
zz 183 (fk10 ((c40_0).toNat * 8)) <|
zz 184 (lk11 hc46 (toNatLt hc45)) <|
zz 187 (xk1 0 Args.cA hc15) <|
zz 188 (fk10 ((c7_).toNat * 8)) <|
zz 189 (lk11 hc16 (toNatLt hc15)) <|
zz 190 (xeT hc47) <|
zz 195 (xk1 0 Args.cA hc45) <|
zz 196 (fk16 ((c40_0).toNat * 8)) <|
zz 197 (lk17 hc46 (toNatLt hc45)) <|
zz 200 (xk1 0 Args.cA hc15) <|
zz 201 (fk16 ((c7_).toNat * 8)) <|
zz 202 (lk17 hc16 (toNatLt hc15)) <|
zz 203 (xeT hc48) ee) (by kernel_rfl))
                              ·rw [if_neg hc48] at h
                               cases h
                             ·rw [if_neg hc47] at h
                              cases h
                            ·rw [if_neg hc45] at h; cases h
                           ·rw [if_neg hc44] at h
                            cases h
                          ·rw [if_neg hc43] at h
                           cases h
                         ·rw [if_neg hc42] at h
                          cases h
                       | cons c38_a c38_t =>
                        dsimp only at h
                        obtain ⟨c39_, hc39, h⟩ := Option.bind_eq_some_iff.1 h
                        obtain ⟨⟨c40_0, c40_1⟩, hc40, h⟩ := Option.bind_eq_some_iff.1 h
                        dsimp only at h
                        by_cases hc41 : c39_ = true
                        ·rw [if_pos hc41] at h
                         by_cases hc42 : false = true
                         ·rw [if_pos hc42] at h
                          cases h
                         ·rw [if_neg hc42] at h
                          obtain rfl := oI h; exact (runF2 hm (L := lT [(146, ⟨⟨[0, 1, 7, 8, 9, 10], [(0, 4, true)], 1, 0⟩, (X_V_1 c7_ false c39_).1, (X_V_1 c7_ false c39_).2⟩)]) ⟨[4], [], 0, 0⟩ (yy 4 (.call ⟨0, [], (Value.bool true), Ax.h0, []⟩) <|
ww (m_viewportlaw16lives_ok n  () hc1) <|
yy 11 (.call (C_liq1 0 0 0 c2_ [] [])) <|
ww (m_liq1_ok n 0 0 0 c2_ hc2) <|
yy 12 (vf) <|
ww (p := (Value.bool (!c2_)) = (Value.bool false)) (vBn hc3) <|
yy 15 (.call (C_tCq1  c4_ [] [])) <|
ww (m_tCq1_ok n  c4_ hc4) <|
zz 16 (xnF hc5) <|
zz 23 (xeF hc6) <|
yy 29 (.call (C_pKq1 g1 (Args.A.length : Int) c7_ [] [])) <|
ww (m_pKq1_ok n g1 (Args.A.length : Int) c7_ hc7) <|
yy 33 (.call (C_tPq1  (c8_0, c8_1) [] [(0, 0, true)])) <|
ww (m_tPq1_ok n  (c8_0, c8_1) hc8) <|
ww (iv_flat c8_0 3) <|
yy 38 (.call (C_pAq1 c7_ (c9_0, c9_1) [] [(1, 0, true)])) <|
ww (m_pAq1_ok n c7_ (c9_0, c9_1) hc9) <|
ww (iv_flat c9_0 3) <|
zz 46 (xnF hc10) <|
zz 50 (xeF hc11) <|
zz 56 (xnm hc12) <|
zz 57 (xk9 1 c9_1 hc13) <|
zz 58 (xivN hc14 (toNatLt hc13)) <|
zz 61 (xk1 0 Args.cA hc15) <|
zz 62 (fk10 ((c7_).toNat * 8)) <|
zz 63 (lk11 hc16 (toNatLt hc15)) <|
zz 64 (xnF hc17) <|
zz 68 (xk9 0 c8_1 hc18) <|
zz 69 (xivN hc20 hc19) <|
zz 70 (xnF hc21) <|
zz 76 (xdT hc22) <|
zz 80 (xk9 0 c8_1 hc23) <|
zz 81 (xivN hc25 hc24) <|
zz 82 (xdF hc26) <|
zz 86 (xk9 0 c8_1 hc23) <|
zz 87 (xivN hc25 hc24) <|
zz 89 (xdF hc27) <|
zz 95 (xk9 0 c8_1 hc23) <|
zz 96 (xivN hc25 hc24) <|
yy 97 (.call (C_pAq1 c25_ (c28_0, c28_1) [] [(2, 0, true)])) <|
ww (m_pAq1_ok n c25_ (c28_0, c28_1) hc28) <|
ww (iv_flat c28_0 3) <|
zz 101 (xnm hc12) <|
yy 102 (.pur (sN 1 0 (c12_).toNat c9_1)) <|
ww (p := opSlice P 30 (sN 1 0 (c9_0).length c9_1) none (some (i6 c12_)) none Ax.h0 = some ((sN 1 0 (c12_).toNat c9_1), Ax.h0)) (slHiV (e := 3) (es := 1) (by kernel_rfl) (by kernel_rfl) rfl rfl hc29 hc30) <|
yy 103 (.call (C_sIq1 c28_0 c28_1 c9_0 ((c12_).toNat) c9_1 c31_ [(0, 2, true), (1, 1, true)] [])) <|
ww (m_sIq1_ok n c28_0 c28_1 c9_0 ((c12_).toNat) c9_1 c31_ hc31) <|
ww (iv_flat c28_0 3) <|
ww (iv_flat c9_0 3) <|
yy 104 (vf) <|
ww (p := (Value.bool (!c31_)) = (Value.bool false)) (vBn hc32) <|
yy 109 (.call (C_tEq1 c7_ c33_ [] [])) <|
ww (m_tEq1_ok n c7_ c33_ hc33) <|
zz 113 (xk9 0 c8_1 hc23) <|
zz 114 (xivN hc25 hc24) <|
yy 115 (.call (C_tEq1 c25_ c34_ [] [])) <|
ww (m_tEq1_ok n c25_ c34_ hc34) <|
zz 116 (xdF hc35) <|
zz 123 (xk1 0 Args.cA hc15) <|
zz 124 (fk14 ((c7_).toNat * 8)) <|
zz 125 (lk15 hc16 (toNatLt hc15)) <|
zz 126 (xeF hc36) <|
zz 130 (xk1 0 Args.cA hc15) <|
zz 131 (fk14 ((c7_).toNat * 8)) <|
zz 132 (lk15 hc16 (toNatLt hc15)) <|
zz 133 (xeF hc37) <|
yy 140 (.call (C_lVq1  (c38_a :: c38_t) [] [(4, 1, true)])) <|
ww (m_lVq1_ok n  (c38_a :: c38_t) hc38) <|
ww (iv_flat (c38_a :: c38_t) 3) <|
ww (p := U_V_1 none c7_ false (false, (c38_a :: c38_t), 0) c39_) (m_V_1_ok n c7_ false (false, (c38_a :: c38_t), 0) c39_ hc39) <|
ww (iv_flat (c38_a :: c38_t) 3) <|
zz 151 (xk1 0 Args.cA hc15) <|
zz 152 (fk10 ((c7_).toNat * 8)) <|
zz 153 (lk11 hc16 (toNatLt hc15)) <|
zz 156 (xk1 0 Args.cA hc15) <|
zz 157 (fk16 ((c7_).toNat * 8)) <|
zz 158 (lk17 hc16 (toNatLt hc15)) <|
yy 159 (.call (C_tFq1 (c16_.1) (c16_.2.2.1) (c40_0, c40_1) [] [(1, 1, false), (2, 2, false)])) <|
ww (m_tFq1_ok n (c16_.1) (c16_.2.2.1) (c40_0, c40_1) hc40) <|
yy 168 (vt) <|
ww (p := (Value.bool (!(c39_ == false))) = (Value.bool true)) (vNeB hc41 (Bool.eq_false_iff.2 hc42)) <|
yy 171 (vt) <|
ww (p := (Value.bool (!false)) = (Value.bool true)) (vBn (Bool.eq_false_iff.2 hc42)) ee) (by kernel_rfl))
                        ·rw [if_neg hc41] at h
                         by_cases hc42 : false = true
                         ·rw [if_pos hc42] at h
                          by_cases hc43 : c40_1 = true
                          ·rw [if_pos hc43] at h
                           by_cases hc44 : c40_0 ≤ c7_
                           ·rw [if_pos hc44] at h
                            by_cases hc45 : 0 ≤ c40_0 ∧ c40_0 < (Args.A.length : Int)
                            ·rw [if_pos hc45] at h
                             obtain ⟨c46_, hc46, h⟩ := Option.bind_eq_some_iff.1 h
                             by_cases hc47 : (c46_.1) = (c16_.1)
                             ·rw [if_pos hc47] at h
                              by_cases hc48 : (c46_.2.2.1) = (c16_.2.2.1)
                              ·rw [if_pos hc48] at h
                               obtain rfl := oI h; exact (runF2 hm (L := lT [(146, ⟨⟨[0, 1, 7, 8, 9, 10], [(0, 4, true)], 1, 0⟩, (X_V_1 c7_ false c39_).1, (X_V_1 c7_ false c39_).2⟩)]) ⟨[4], [], 0, 0⟩ (yy 4 (.call ⟨0, [], (Value.bool true), Ax.h0, []⟩) <|
ww (m_viewportlaw16lives_ok n  () hc1) <|
yy 11 (.call (C_liq1 0 0 0 c2_ [] [])) <|
ww (m_liq1_ok n 0 0 0 c2_ hc2) <|
yy 12 (vf) <|
ww (p := (Value.bool (!c2_)) = (Value.bool false)) (vBn hc3) <|
yy 15 (.call (C_tCq1  c4_ [] [])) <|
ww (m_tCq1_ok n  c4_ hc4) <|
zz 16 (xnF hc5) <|
zz 23 (xeF hc6) <|
yy 29 (.call (C_pKq1 g1 (Args.A.length : Int) c7_ [] [])) <|
ww (m_pKq1_ok n g1 (Args.A.length : Int) c7_ hc7) <|
yy 33 (.call (C_tPq1  (c8_0, c8_1) [] [(0, 0, true)])) <|
ww (m_tPq1_ok n  (c8_0, c8_1) hc8) <|
ww (iv_flat c8_0 3) <|
yy 38 (.call (C_pAq1 c7_ (c9_0, c9_1) [] [(1, 0, true)])) <|
ww (m_pAq1_ok n c7_ (c9_0, c9_1) hc9) <|
ww (iv_flat c9_0 3) <|
zz 46 (xnF hc10) <|
zz 50 (xeF hc11) <|
zz 56 (xnm hc12) <|
zz 57 (xk9 1 c9_1 hc13) <|
zz 58 (xivN hc14 (toNatLt hc13)) <|
zz 61 (xk1 0 Args.cA hc15) <|
zz 62 (fk10 ((c7_).toNat * 8)) <|
zz 63 (lk11 hc16 (toNatLt hc15)) <|
zz 64 (xnF hc17) <|
zz 68 (xk9 0 c8_1 hc18) <|
zz 69 (xivN hc20 hc19) <|
zz 70 (xnF hc21) <|
zz 76 (xdT hc22) <|
zz 80 (xk9 0 c8_1 hc23) <|
zz 81 (xivN hc25 hc24) <|
zz 82 (xdF hc26) <|
zz 86 (xk9 0 c8_1 hc23) <|
zz 87 (xivN hc25 hc24) <|
zz 89 (xdF hc27) <|
zz 95 (xk9 0 c8_1 hc23) <|
zz 96 (xivN hc25 hc24) <|
yy 97 (.call (C_pAq1 c25_ (c28_0, c28_1) [] [(2, 0, true)])) <|
ww (m_pAq1_ok n c25_ (c28_0, c28_1) hc28) <|
ww (iv_flat c28_0 3) <|
zz 101 (xnm hc12) <|
yy 102 (.pur (sN 1 0 (c12_).toNat c9_1)) <|
ww (p := opSlice P 30 (sN 1 0 (c9_0).length c9_1) none (some (i6 c12_)) none Ax.h0 = some ((sN 1 0 (c12_).toNat c9_1), Ax.h0)) (slHiV (e := 3) (es := 1) (by kernel_rfl) (by kernel_rfl) rfl rfl hc29 hc30) <|
yy 103 (.call (C_sIq1 c28_0 c28_1 c9_0 ((c12_).toNat) c9_1 c31_ [(0, 2, true), (1, 1, true)] [])) <|
ww (m_sIq1_ok n c28_0 c28_1 c9_0 ((c12_).toNat) c9_1 c31_ hc31) <|
ww (iv_flat c28_0 3) <|
ww (iv_flat c9_0 3) <|
yy 104 (vf) <|
ww (p := (Value.bool (!c31_)) = (Value.bool false)) (vBn hc32) <|
yy 109 (.call (C_tEq1 c7_ c33_ [] [])) <|
ww (m_tEq1_ok n c7_ c33_ hc33) <|
zz 113 (xk9 0 c8_1 hc23) <|
zz 114 (xivN hc25 hc24) <|
yy 115 (.call (C_tEq1 c25_ c34_ [] [])) <|
ww (m_tEq1_ok n c25_ c34_ hc34) <|
zz 116 (xdF hc35) <|
zz 123 (xk1 0 Args.cA hc15) <|
zz 124 (fk14 ((c7_).toNat * 8)) <|
zz 125 (lk15 hc16 (toNatLt hc15)) <|
zz 126 (xeF hc36) <|
zz 130 (xk1 0 Args.cA hc15) <|
zz 131 (fk14 ((c7_).toNat * 8)) <|
zz 132 (lk15 hc16 (toNatLt hc15)) <|
zz 133 (xeF hc37) <|
yy 140 (.call (C_lVq1  (c38_a :: c38_t) [] [(4, 1, true)])) <|
ww (m_lVq1_ok n  (c38_a :: c38_t) hc38) <|
ww (iv_flat (c38_a :: c38_t) 3) <|
ww (p := U_V_1 none c7_ false (false, (c38_a :: c38_t), 0) c39_) (m_V_1_ok n c7_ false (false, (c38_a :: c38_t), 0) c39_ hc39) <|
ww (iv_flat (c38_a :: c38_t) 3) <|
zz 151 (xk1 0 Args.cA hc15) <|
zz 152 (fk10 ((c7_).toNat * 8)) <|
zz 153 (lk11 hc16 (toNatLt hc15)) <|
zz 156 (xk1 0 Args.cA hc15) <|
zz 157 (fk16 ((c7_).toNat * 8)) <|
zz 158 (lk17 hc16 (toNatLt hc15)) <|
yy 159 (.call (C_tFq1 (c16_.1) (c16_.2.2.1) (c40_0, c40_1) [] [(1, 1, false), (2, 2, false)])) <|
ww (m_tFq1_ok n (c16_.1) (c16_.2.2.1) (c40_0, c40_1) hc40) <|
yy 168 (vt) <|
ww (p := (Value.bool (!(c39_ == false))) = (Value.bool true)) (vNeB (Bool.eq_false_iff.2 hc41) hc42) <|
yy 171 (vf) <|
ww (p := (Value.bool (!false)) = (Value.bool false)) (vBn hc42) <|
zz 174 (xbT hc43) <|
zz 177 (xdT hc44) <|
zz 182 (xk1 0 Args.cA hc45) <|
zz 183 (fk10 ((c40_0).toNat * 8)) <|
zz 184 (lk11 hc46 (toNatLt hc45)) <|
zz 187 (xk1 0 Args.cA hc15) <|
zz 188 (fk10 ((c7_).toNat * 8)) <|
zz 189 (lk11 hc16 (toNatLt hc15)) <|
zz 190 (xeT hc47) <|
zz 195 (xk1 0 Args.cA hc45) <|
zz 196 (fk16 ((c40_0).toNat * 8)) <|
zz 197 (lk17 hc46 (toNatLt hc45)) <|
zz 200 (xk1 0 Args.cA hc15) <|
zz 201 (fk16 ((c7_).toNat * 8)) <|
zz 202 (lk17 hc16 (toNatLt hc15)) <|
zz 203 (xeT hc48) ee) (by kernel_rfl))
                              ·rw [if_neg hc48] at h
                               cases h
                             ·rw [if_neg hc47] at h
                              cases h
                            ·rw [if_neg hc45] at h; cases h
                           ·rw [if_neg hc44] at h
                            cases h
                          ·rw [if_neg hc43] at h
                           cases h
                         ·rw [if_neg hc42] at h
                          cases h
                   ·rw [if_neg hc32] at h
                    cases h
                  ·rw [if_neg hc30] at h; cases h
                 ·rw [if_neg hc29] at h; cases h
              ·rw [if_neg hc24] at h; cases h
             ·rw [if_neg hc23] at h; cases h
            ·rw [if_neg hc22] at h
             by_cases hc23 : (c16_.2.1) = (1 : Int)
             ·rw [if_pos hc23] at h
              obtain ⟨c24_, hc24, h⟩ := Option.bind_eq_some_iff.1 h
              cases c24_ with
              | nil =>
               dsimp only at h
               obtain ⟨c25_, hc25, h⟩ := Option.bind_eq_some_iff.1 h
               obtain ⟨⟨c26_0, c26_1⟩, hc26, h⟩ := Option.bind_eq_some_iff.1 h
               dsimp only at h
               by_cases hc27 : c25_ = true
               ·rw [if_pos hc27] at h
                by_cases hc28 : true = true
                ·rw [if_pos hc28] at h
                 cases h
                ·rw [if_neg hc28] at h
                 obtain rfl := oI h; exact (runF2 hm (L := lT [(146, ⟨⟨[0, 1, 7, 8, 9, 10], [], 1, 0⟩, (X_V_1 c7_ true c25_).1, (X_V_1 c7_ true c25_).2⟩)]) ⟨[4], [], 0, 0⟩ (yy 4 (.call ⟨0, [], (Value.bool true), Ax.h0, []⟩) <|
ww (m_viewportlaw16lives_ok n  () hc1) <|
yy 11 (.call (C_liq1 0 0 0 c2_ [] [])) <|
ww (m_liq1_ok n 0 0 0 c2_ hc2) <|
yy 12 (vf) <|
ww (p := (Value.bool (!c2_)) = (Value.bool false)) (vBn hc3) <|
yy 15 (.call (C_tCq1  c4_ [] [])) <|
ww (m_tCq1_ok n  c4_ hc4) <|
zz 16 (xnF hc5) <|
zz 23 (xeF hc6) <|
yy 29 (.call (C_pKq1 g1 (Args.A.length : Int) c7_ [] [])) <|
ww (m_pKq1_ok n g1 (Args.A.length : Int) c7_ hc7) <|
yy 33 (.call (C_tPq1  (c8_0, c8_1) [] [(0, 0, true)])) <|
ww (m_tPq1_ok n  (c8_0, c8_1) hc8) <|
ww (iv_flat c8_0 3) <|
yy 38 (.call (C_pAq1 c7_ (c9_0, c9_1) [] [(1, 0, true)])) <|
ww (m_pAq1_ok n c7_ (c9_0, c9_1) hc9) <|
ww (iv_flat c9_0 3) <|
zz 46 (xnF hc10) <|
zz 50 (xeF hc11) <|
zz 56 (xnm hc12) <|
zz 57 (xk9 1 c9_1 hc13) <|
zz 58 (xivN hc14 (toNatLt hc13)) <|
zz 61 (xk1 0 Args.cA hc15) <|
zz 62 (fk10 ((c7_).toNat * 8)) <|
zz 63 (lk11 hc16 (toNatLt hc15)) <|
zz 64 (xnF hc17) <|
zz 68 (xk9 0 c8_1 hc18) <|
zz 69 (xivN hc20 hc19) <|
zz 70 (xnF hc21) <|
zz 76 (xdF hc22) <|
zz 123 (xk1 0 Args.cA hc15) <|
zz 124 (fk14 ((c7_).toNat * 8)) <|
zz 125 (lk15 hc16 (toNatLt hc15)) <|
zz 126 (xeT hc23) <|
yy 140 (.call (C_lVq1  ([] : List Int) [] [])) <|
ww (m_lVq1_ok n  ([] : List Int) hc24) <|
ww (p := U_V_1 none c7_ true (false, ([] : List Int), 0) c25_) (m_V_1_ok n c7_ true (false, ([] : List Int), 0) c25_ hc25) <|
zz 151 (xk1 0 Args.cA hc15) <|
zz 152 (fk10 ((c7_).toNat * 8)) <|
zz 153 (lk11 hc16 (toNatLt hc15)) <|
zz 156 (xk1 0 Args.cA hc15) <|
zz 157 (fk16 ((c7_).toNat * 8)) <|
zz 158 (lk17 hc16 (toNatLt hc15)) <|
yy 159 (.call (C_tFq1 (c16_.1) (c16_.2.2.1) (c26_0, c26_1) [] [(1, 1, false), (2, 2, false)])) <|
ww (m_tFq1_ok n (c16_.1) (c16_.2.2.1) (c26_0, c26_1) hc26) <|
yy 168 (vt) <|
ww (p := (Value.bool (!(c25_ == true))) = (Value.bool true)) (vNeB hc27 (Bool.eq_false_iff.2 hc28)) <|
yy 171 (vt) <|
ww (p := (Value.bool (!true)) = (Value.bool true)) (vBn (Bool.eq_false_iff.2 hc28)) ee) (by kernel_rfl))
               ·rw [if_neg hc27] at h
                by_cases hc28 : true = true
                ·rw [if_pos hc28] at h
                 by_cases hc29 : c26_1 = true
                 ·rw [if_pos hc29] at h
                  by_cases hc30 : c26_0 ≤ c7_
                  ·rw [if_pos hc30] at h
                   by_cases hc31 : 0 ≤ c26_0 ∧ c26_0 < (Args.A.length : Int)
                   ·rw [if_pos hc31] at h
                    obtain ⟨c32_, hc32, h⟩ := Option.bind_eq_some_iff.1 h
                    by_cases hc33 : (c32_.1) = (c16_.1)
                    ·rw [if_pos hc33] at h
                     by_cases hc34 : (c32_.2.2.1) = (c16_.2.2.1)
                     ·rw [if_pos hc34] at h
                      obtain rfl := oI h; exact (runF2 hm (L := lT [(146, ⟨⟨[0, 1, 7, 8, 9, 10], [], 1, 0⟩, (X_V_1 c7_ true c25_).1, (X_V_1 c7_ true c25_).2⟩)]) ⟨[4], [], 0, 0⟩ (yy 4 (.call ⟨0, [], (Value.bool true), Ax.h0, []⟩) <|
ww (m_viewportlaw16lives_ok n  () hc1) <|
yy 11 (.call (C_liq1 0 0 0 c2_ [] [])) <|
ww (m_liq1_ok n 0 0 0 c2_ hc2) <|
yy 12 (vf) <|
ww (p := (Value.bool (!c2_)) = (Value.bool false)) (vBn hc3) <|
yy 15 (.call (C_tCq1  c4_ [] [])) <|
ww (m_tCq1_ok n  c4_ hc4) <|
zz 16 (xnF hc5) <|
zz 23 (xeF hc6) <|
yy 29 (.call (C_pKq1 g1 (Args.A.length : Int) c7_ [] [])) <|
ww (m_pKq1_ok n g1 (Args.A.length : Int) c7_ hc7) <|
yy 33 (.call (C_tPq1  (c8_0, c8_1) [] [(0, 0, true)])) <|
ww (m_tPq1_ok n  (c8_0, c8_1) hc8) <|
ww (iv_flat c8_0 3) <|
yy 38 (.call (C_pAq1 c7_ (c9_0, c9_1) [] [(1, 0, true)])) <|
ww (m_pAq1_ok n c7_ (c9_0, c9_1) hc9) <|
ww (iv_flat c9_0 3) <|
zz 46 (xnF hc10) <|
zz 50 (xeF hc11) <|
zz 56 (xnm hc12) <|
zz 57 (xk9 1 c9_1 hc13) <|
zz 58 (xivN hc14 (toNatLt hc13)) <|
zz 61 (xk1 0 Args.cA hc15) <|
zz 62 (fk10 ((c7_).toNat * 8)) <|
zz 63 (lk11 hc16 (toNatLt hc15)) <|
zz 64 (xnF hc17) <|
zz 68 (xk9 0 c8_1 hc18) <|
zz 69 (xivN hc20 hc19) <|
zz 70 (xnF hc21) <|
zz 76 (xdF hc22) <|
zz 123 (xk1 0 Args.cA hc15) <|
zz 124 (fk14 ((c7_).toNat * 8)) <|
zz 125 (lk15 hc16 (toNatLt hc15)) <|
zz 126 (xeT hc23) <|
yy 140 (.call (C_lVq1  ([] : List Int) [] [])) <|
ww (m_lVq1_ok n  ([] : List Int) hc24) <|
ww (p := U_V_1 none c7_ true (false, ([] : List Int), 0) c25_) (m_V_1_ok n c7_ true (false, ([] : List Int), 0) c25_ hc25) <|
zz 151 (xk1 0 Args.cA hc15) <|
zz 152 (fk10 ((c7_).toNat * 8)) <|
zz 153 (lk11 hc16 (toNatLt hc15)) <|
zz 156 (xk1 0 Args.cA hc15) <|
zz 157 (fk16 ((c7_).toNat * 8)) <|
zz 158 (lk17 hc16 (toNatLt hc15)) <|
yy 159 (.call (C_tFq1 (c16_.1) (c16_.2.2.1) (c26_0, c26_1) [] [(1, 1, false), (2, 2, false)])) <|
ww (m_tFq1_ok n (c16_.1) (c16_.2.2.1) (c26_0, c26_1) hc26) <|
yy 168 (vt) <|
ww (p := (Value.bool (!(c25_ == true))) = (Value.bool true)) (vNeB (Bool.eq_false_iff.2 hc27) hc28) <|
yy 171 (vf) <|
ww (p := (Value.bool (!true)) = (Value.bool false)) (vBn hc28) <|
zz 174 (xbT hc29) <|
zz 177 (xdT hc30) <|
zz 182 (xk1 0 Args.cA hc31) <|
zz 183 (fk10 ((c26_0).toNat * 8)) <|
zz 184 (lk11 hc32 (toNatLt hc31)) <|
zz 187 (xk1 0 Args.cA hc15) <|
zz 188 (fk10 ((c7_).toNat * 8)) <|
zz 189 (lk11 hc16 (toNatLt hc15)) <|
zz 190 (xeT hc33) <|
zz 195 (xk1 0 Args.cA hc31) <|
zz 196 (fk16 ((c26_0).toNat * 8)) <|
zz 197 (lk17 hc32 (toNatLt hc31)) <|
zz 200 (xk1 0 Args.cA hc15) <|
zz 201 (fk16 ((c7_).toNat * 8)) <|
zz 202 (lk17 hc16 (toNatLt hc15)) <|
zz 203 (xeT hc34) ee) (by kernel_rfl))
                     ·rw [if_neg hc34] at h
                      cases h
                    ·rw [if_neg hc33] at h
                     cases h
                   ·rw [if_neg hc31] at h; cases h
                  ·rw [if_neg hc30] at h
                   cases h
                 ·rw [if_neg hc29] at h
                  cases h
                ·rw [if_neg hc28] at h
                 cases h
              | cons c24_a c24_t =>
               dsimp only at h
               obtain ⟨c25_, hc25, h⟩ := Option.bind_eq_some_iff.1 h
               obtain ⟨⟨c26_0, c26_1⟩, hc26, h⟩ := Option.bind_eq_some_iff.1 h
               dsimp only at h
               by_cases hc27 : c25_ = true
               ·rw [if_pos hc27] at h
                by_cases hc28 : true = true
                ·rw [if_pos hc28] at h
                 cases h
                ·rw [if_neg hc28] at h
                 obtain rfl := oI h; exact (runF2 hm (L := lT [(146, ⟨⟨[0, 1, 7, 8, 9, 10], [(0, 3, true)], 1, 0⟩, (X_V_1 c7_ true c25_).1, (X_V_1 c7_ true c25_).2⟩)]) ⟨[4], [], 0, 0⟩ (yy 4 (.call ⟨0, [], (Value.bool true), Ax.h0, []⟩) <|
ww (m_viewportlaw16lives_ok n  () hc1) <|
yy 11 (.call (C_liq1 0 0 0 c2_ [] [])) <|
ww (m_liq1_ok n 0 0 0 c2_ hc2) <|
yy 12 (vf) <|
ww (p := (Value.bool (!c2_)) = (Value.bool false)) (vBn hc3) <|
yy 15 (.call (C_tCq1  c4_ [] [])) <|
ww (m_tCq1_ok n  c4_ hc4) <|
zz 16 (xnF hc5) <|
zz 23 (xeF hc6) <|
yy 29 (.call (C_pKq1 g1 (Args.A.length : Int) c7_ [] [])) <|
ww (m_pKq1_ok n g1 (Args.A.length : Int) c7_ hc7) <|
yy 33 (.call (C_tPq1  (c8_0, c8_1) [] [(0, 0, true)])) <|
ww (m_tPq1_ok n  (c8_0, c8_1) hc8) <|
ww (iv_flat c8_0 3) <|
yy 38 (.call (C_pAq1 c7_ (c9_0, c9_1) [] [(1, 0, true)])) <|
ww (m_pAq1_ok n c7_ (c9_0, c9_1) hc9) <|
ww (iv_flat c9_0 3) <|
zz 46 (xnF hc10) <|
zz 50 (xeF hc11) <|
zz 56 (xnm hc12) <|
zz 57 (xk9 1 c9_1 hc13) <|
zz 58 (xivN hc14 (toNatLt hc13)) <|
zz 61 (xk1 0 Args.cA hc15) <|
zz 62 (fk10 ((c7_).toNat * 8)) <|
zz 63 (lk11 hc16 (toNatLt hc15)) <|
zz 64 (xnF hc17) <|
zz 68 (xk9 0 c8_1 hc18) <|
zz 69 (xivN hc20 hc19) <|
zz 70 (xnF hc21) <|
zz 76 (xdF hc22) <|
zz 123 (xk1 0 Args.cA hc15) <|
zz 124 (fk14 ((c7_).toNat * 8)) <|
zz 125 (lk15 hc16 (toNatLt hc15)) <|
zz 126 (xeT hc23) <|
yy 140 (.call (C_lVq1  (c24_a :: c24_t) [] [(3, 1, true)])) <|
ww (m_lVq1_ok n  (c24_a :: c24_t) hc24) <|
ww (iv_flat (c24_a :: c24_t) 3) <|
ww (p := U_V_1 none c7_ true (false, (c24_a :: c24_t), 0) c25_) (m_V_1_ok n c7_ true (false, (c24_a :: c24_t), 0) c25_ hc25) <|
ww (iv_flat (c24_a :: c24_t) 3) <|
zz 151 (xk1 0 Args.cA hc15) <|
zz 152 (fk10 ((c7_).toNat * 8)) <|
zz 153 (lk11 hc16 (toNatLt hc15)) <|
zz 156 (xk1 0 Args.cA hc15) <|
zz 157 (fk16 ((c7_).toNat * 8)) <|
zz 158 (lk17 hc16 (toNatLt hc15)) <|
yy 159 (.call (C_tFq1 (c16_.1) (c16_.2.2.1) (c26_0, c26_1) [] [(1, 1, false), (2, 2, false)])) <|
ww (m_tFq1_ok n (c16_.1) (c16_.2.2.1) (c26_0, c26_1) hc26) <|
yy 168 (vt) <|
ww (p := (Value.bool (!(c25_ == true))) = (Value.bool true)) (vNeB hc27 (Bool.eq_false_iff.2 hc28)) <|
yy 171 (vt) <|
ww (p := (Value.bool (!true)) = (Value.bool true)) (vBn (Bool.eq_false_iff.2 hc28)) ee) (by kernel_rfl))
               ·rw [if_neg hc27] at h
                by_cases hc28 : true = true
                ·rw [if_pos hc28] at h
                 by_cases hc29 : c26_1 = true
                 ·rw [if_pos hc29] at h
                  by_cases hc30 : c26_0 ≤ c7_
                  ·rw [if_pos hc30] at h
                   by_cases hc31 : 0 ≤ c26_0 ∧ c26_0 < (Args.A.length : Int)
                   ·rw [if_pos hc31] at h
                    obtain ⟨c32_, hc32, h⟩ := Option.bind_eq_some_iff.1 h
                    by_cases hc33 : (c32_.1) = (c16_.1)
                    ·rw [if_pos hc33] at h
                     by_cases hc34 : (c32_.2.2.1) = (c16_.2.2.1)
                     ·rw [if_pos hc34] at h
                      obtain rfl := oI h; exact (runF2 hm (L := lT [(146, ⟨⟨[0, 1, 7, 8, 9, 10], [(0, 3, true)], 1, 0⟩, (X_V_1 c7_ true c25_).1, (X_V_1 c7_ true c25_).2⟩)]) ⟨[4], [], 0, 0⟩ (yy 4 (.call ⟨0, [], (Value.bool true), Ax.h0, []⟩) <|
ww (m_viewportlaw16lives_ok n  () hc1) <|
yy 11 (.call (C_liq1 0 0 0 c2_ [] [])) <|
ww (m_liq1_ok n 0 0 0 c2_ hc2) <|
yy 12 (vf) <|
ww (p := (Value.bool (!c2_)) = (Value.bool false)) (vBn hc3) <|
yy 15 (.call (C_tCq1  c4_ [] [])) <|
ww (m_tCq1_ok n  c4_ hc4) <|
zz 16 (xnF hc5) <|
zz 23 (xeF hc6) <|
yy 29 (.call (C_pKq1 g1 (Args.A.length : Int) c7_ [] [])) <|
ww (m_pKq1_ok n g1 (Args.A.length : Int) c7_ hc7) <|
yy 33 (.call (C_tPq1  (c8_0, c8_1) [] [(0, 0, true)])) <|
ww (m_tPq1_ok n  (c8_0, c8_1) hc8) <|
ww (iv_flat c8_0 3) <|
yy 38 (.call (C_pAq1 c7_ (c9_0, c9_1) [] [(1, 0, true)])) <|
ww (m_pAq1_ok n c7_ (c9_0, c9_1) hc9) <|
ww (iv_flat c9_0 3) <|
zz 46 (xnF hc10) <|
zz 50 (xeF hc11) <|
zz 56 (xnm hc12) <|
zz 57 (xk9 1 c9_1 hc13) <|
zz 58 (xivN hc14 (toNatLt hc13)) <|
zz 61 (xk1 0 Args.cA hc15) <|
zz 62 (fk10 ((c7_).toNat * 8)) <|
zz 63 (lk11 hc16 (toNatLt hc15)) <|
zz 64 (xnF hc17) <|
zz 68 (xk9 0 c8_1 hc18) <|
zz 69 (xivN hc20 hc19) <|
zz 70 (xnF hc21) <|
zz 76 (xdF hc22) <|
zz 123 (xk1 0 Args.cA hc15) <|
zz 124 (fk14 ((c7_).toNat * 8)) <|
zz 125 (lk15 hc16 (toNatLt hc15)) <|
zz 126 (xeT hc23) <|
yy 140 (.call (C_lVq1  (c24_a :: c24_t) [] [(3, 1, true)])) <|
ww (m_lVq1_ok n  (c24_a :: c24_t) hc24) <|
ww (iv_flat (c24_a :: c24_t) 3) <|
ww (p := U_V_1 none c7_ true (false, (c24_a :: c24_t), 0) c25_) (m_V_1_ok n c7_ true (false, (c24_a :: c24_t), 0) c25_ hc25) <|
ww (iv_flat (c24_a :: c24_t) 3) <|
zz 151 (xk1 0 Args.cA hc15) <|
zz 152 (fk10 ((c7_).toNat * 8)) <|
zz 153 (lk11 hc16 (toNatLt hc15)) <|
zz 156 (xk1 0 Args.cA hc15) <|
zz 157 (fk16 ((c7_).toNat * 8)) <|
zz 158 (lk17 hc16 (toNatLt hc15)) <|
yy 159 (.call (C_tFq1 (c16_.1) (c16_.2.2.1) (c26_0, c26_1) [] [(1, 1, false), (2, 2, false)])) <|
ww (m_tFq1_ok n (c16_.1) (c16_.2.2.1) (c26_0, c26_1) hc26) <|
yy 168 (vt) <|
ww (p := (Value.bool (!(c25_ == true))) = (Value.bool true)) (vNeB (Bool.eq_false_iff.2 hc27) hc28) <|
yy 171 (vf) <|
ww (p := (Value.bool (!true)) = (Value.bool false)) (vBn hc28) <|
zz 174 (xbT hc29) <|
zz 177 (xdT hc30) <|
zz 182 (xk1 0 Args.cA hc31) <|
zz 183 (fk10 ((c26_0).toNat * 8)) <|
zz 184 (lk11 hc32 (toNatLt hc31)) <|
zz 187 (xk1 0 Args.cA hc15) <|
zz 188 (fk10 ((c7_).toNat * 8)) <|
zz 189 (lk11 hc16 (toNatLt hc15)) <|
zz 190 (xeT hc33) <|
zz 195 (xk1 0 Args.cA hc31) <|
zz 196 (fk16 ((c26_0).toNat * 8)) <|
zz 197 (lk17 hc32 (toNatLt hc31)) <|
zz 200 (xk1 0 Args.cA hc15) <|
zz 201 (fk16 ((c7_).toNat * 8)) <|
zz 202 (lk17 hc16 (toNatLt hc15)) <|
zz 203 (xeT hc34) ee) (by kernel_rfl))
                     ·rw [if_neg hc34] at h
                      cases h
                    ·rw [if_neg hc33] at h
                     cases h
                   ·rw [if_neg hc31] at h; cases h
                  ·rw [if_neg hc30] at h
                   cases h
                 ·rw [if_neg hc29] at h
                  cases h
                ·rw [if_neg hc28] at h
                 cases h
             ·rw [if_neg hc23] at h
              by_cases hc24 : (c16_.2.1) = (2 : Int)
              ·rw [if_pos hc24] at h
               obtain ⟨c25_, hc25, h⟩ := Option.bind_eq_some_iff.1 h
               cases c25_ with
               | nil =>
                dsimp only at h
                obtain ⟨c26_, hc26, h⟩ := Option.bind_eq_some_iff.1 h
                obtain ⟨⟨c27_0, c27_1⟩, hc27, h⟩ := Option.bind_eq_some_iff.1 h
                dsimp only at h
                by_cases hc28 : c26_ = true
                ·rw [if_pos hc28] at h
                 by_cases hc29 : true = true
                 ·rw [if_pos hc29] at h
                  cases h
                 ·rw [if_neg hc29] at h
                  obtain rfl := oI h; exact (runF2 hm (L := lT [(146, ⟨⟨[0, 1, 7, 8, 9, 10], [], 1, 0⟩, (X_V_1 c7_ true c26_).1, (X_V_1 c7_ true c26_).2⟩)]) ⟨[4], [], 0, 0⟩ (yy 4 (.call ⟨0, [], (Value.bool true), Ax.h0, []⟩) <|
ww (m_viewportlaw16lives_ok n  () hc1) <|
yy 11 (.call (C_liq1 0 0 0 c2_ [] [])) <|
ww (m_liq1_ok n 0 0 0 c2_ hc2) <|
yy 12 (vf) <|
ww (p := (Value.bool (!c2_)) = (Value.bool false)) (vBn hc3) <|
yy 15 (.call (C_tCq1  c4_ [] [])) <|
ww (m_tCq1_ok n  c4_ hc4) <|
zz 16 (xnF hc5) <|
zz 23 (xeF hc6) <|
yy 29 (.call (C_pKq1 g1 (Args.A.length : Int) c7_ [] [])) <|
ww (m_pKq1_ok n g1 (Args.A.length : Int) c7_ hc7) <|
yy 33 (.call (C_tPq1  (c8_0, c8_1) [] [(0, 0, true)])) <|
ww (m_tPq1_ok n  (c8_0, c8_1) hc8) <|
ww (iv_flat c8_0 3) <|
yy 38 (.call (C_pAq1 c7_ (c9_0, c9_1) [] [(1, 0, true)])) <|
ww (m_pAq1_ok n c7_ (c9_0, c9_1) hc9) <|
ww (iv_flat c9_0 3) <|
zz 46 (xnF hc10) <|
zz 50 (xeF hc11) <|
zz 56 (xnm hc12) <|
zz 57 (xk9 1 c9_1 hc13) <|
zz 58 (xivN hc14 (toNatLt hc13)) <|
zz 61 (xk1 0 Args.cA hc15) <|
zz 62 (fk10 ((c7_).toNat * 8)) <|
zz 63 (lk11 hc16 (toNatLt hc15)) <|
zz 64 (xnF hc17) <|
zz 68 (xk9 0 c8_1 hc18) <|
zz 69 (xivN hc20 hc19) <|
zz 70 (xnF hc21) <|
zz 76 (xdF hc22) <|
zz 123 (xk1 0 Args.cA hc15) <|
zz 124 (fk14 ((c7_).toNat * 8)) <|
zz 125 (lk15 hc16 (toNatLt hc15)) <|
zz 126 (xeF hc23) <|
zz 130 (xk1 0 Args.cA hc15) <|
zz 131 (fk14 ((c7_).toNat * 8)) <|
zz 132 (lk15 hc16 (toNatLt hc15)) <|
zz 133 (xeT hc24) <|
yy 140 (.call (C_lVq1  ([] : List Int) [] [])) <|
ww (m_lVq1_ok n  ([] : List Int) hc25) <|
ww (p := U_V_1 none c7_ true (false, ([] : List Int), 0) c26_) (m_V_1_ok n c7_ true (false, ([] : List Int), 0) c26_ hc26) <|
zz 151 (xk1 0 Args.cA hc15) <|
zz 152 (fk10 ((c7_).toNat * 8)) <|
zz 153 (lk11 hc16 (toNatLt hc15)) <|
zz 156 (xk1 0 Args.cA hc15) <|
zz 157 (fk16 ((c7_).toNat * 8)) <|
zz 158 (lk17 hc16 (toNatLt hc15)) <|
yy 159 (.call (C_tFq1 (c16_.1) (c16_.2.2.1) (c27_0, c27_1) [] [(1, 1, false), (2, 2, false)])) <|
ww (m_tFq1_ok n (c16_.1) (c16_.2.2.1) (c27_0, c27_1) hc27) <|
yy 168 (vt) <|
ww (p := (Value.bool (!(c26_ == true))) = (Value.bool true)) (vNeB hc28 (Bool.eq_false_iff.2 hc29)) <|
yy 171 (vt) <|
ww (p := (Value.bool (!true)) = (Value.bool true)) (vBn (Bool.eq_false_iff.2 hc29)) ee) (by kernel_rfl))
                ·rw [if_neg hc28] at h
                 by_cases hc29 : true = true
                 ·rw [if_pos hc29] at h
                  by_cases hc30 : c27_1 = true
                  ·rw [if_pos hc30] at h
                   by_cases hc31 : c27_0 ≤ c7_
                   ·rw [if_pos hc31] at h
                    by_cases hc32 : 0 ≤ c27_0 ∧ c27_0 < (Args.A.length : Int)
                    ·rw [if_pos hc32] at h
                     obtain ⟨c33_, hc33, h⟩ := Option.bind_eq_some_iff.1 h
                     by_cases hc34 : (c33_.1) = (c16_.1)
                     ·rw [if_pos hc34] at h
                      by_cases hc35 : (c33_.2.2.1) = (c16_.2.2.1)
                      ·rw [if_pos hc35] at h
                       obtain rfl := oI h; exact (runF2 hm (L := lT [(146, ⟨⟨[0, 1, 7, 8, 9, 10], [], 1, 0⟩, (X_V_1 c7_ true c26_).1, (X_V_1 c7_ true c26_).2⟩)]) ⟨[4], [], 0, 0⟩ (yy 4 (.call ⟨0, [], (Value.bool true), Ax.h0, []⟩) <|
ww (m_viewportlaw16lives_ok n  () hc1) <|
yy 11 (.call (C_liq1 0 0 0 c2_ [] [])) <|
ww (m_liq1_ok n 0 0 0 c2_ hc2) <|
yy 12 (vf) <|
ww (p := (Value.bool (!c2_)) = (Value.bool false)) (vBn hc3) <|
yy 15 (.call (C_tCq1  c4_ [] [])) <|
ww (m_tCq1_ok n  c4_ hc4) <|
zz 16 (xnF hc5) <|
zz 23 (xeF hc6) <|
yy 29 (.call (C_pKq1 g1 (Args.A.length : Int) c7_ [] [])) <|
ww (m_pKq1_ok n g1 (Args.A.length : Int) c7_ hc7) <|
yy 33 (.call (C_tPq1  (c8_0, c8_1) [] [(0, 0, true)])) <|
ww (m_tPq1_ok n  (c8_0, c8_1) hc8) <|
ww (iv_flat c8_0 3) <|
yy 38 (.call (C_pAq1 c7_ (c9_0, c9_1) [] [(1, 0, true)])) <|
ww (m_pAq1_ok n c7_ (c9_0, c9_1) hc9) <|
ww (iv_flat c9_0 3) <|
zz 46 (xnF hc10) <|
zz 50 (xeF hc11) <|
zz 56 (xnm hc12) <|
zz 57 (xk9 1 c9_1 hc13) <|
zz 58 (xivN hc14 (toNatLt hc13)) <|
zz 61 (xk1 0 Args.cA hc15) <|
zz 62 (fk10 ((c7_).toNat * 8)) <|
zz 63 (lk11 hc16 (toNatLt hc15)) <|
zz 64 (xnF hc17) <|
zz 68 (xk9 0 c8_1 hc18) <|
zz 69 (xivN hc20 hc19) <|
zz 70 (xnF hc21) <|
zz 76 (xdF hc22) <|
zz 123 (xk1 0 Args.cA hc15) <|
zz 124 (fk14 ((c7_).toNat * 8)) <|
zz 125 (lk15 hc16 (toNatLt hc15)) <|
zz 126 (xeF hc23) <|
zz 130 (xk1 0 Args.cA hc15) <|
zz 131 (fk14 ((c7_).toNat * 8)) <|
zz 132 (lk15 hc16 (toNatLt hc15)) <|
zz 133 (xeT hc24) <|
yy 140 (.call (C_lVq1  ([] : List Int) [] [])) <|
ww (m_lVq1_ok n  ([] : List Int) hc25) <|
ww (p := U_V_1 none c7_ true (false, ([] : List Int), 0) c26_) (m_V_1_ok n c7_ true (false, ([] : List Int), 0) c26_ hc26) <|
zz 151 (xk1 0 Args.cA hc15) <|
zz 152 (fk10 ((c7_).toNat * 8)) <|
zz 153 (lk11 hc16 (toNatLt hc15)) <|
zz 156 (xk1 0 Args.cA hc15) <|
zz 157 (fk16 ((c7_).toNat * 8)) <|
zz 158 (lk17 hc16 (toNatLt hc15)) <|
yy 159 (.call (C_tFq1 (c16_.1) (c16_.2.2.1) (c27_0, c27_1) [] [(1, 1, false), (2, 2, false)])) <|
ww (m_tFq1_ok n (c16_.1) (c16_.2.2.1) (c27_0, c27_1) hc27) <|
yy 168 (vt) <|
ww (p := (Value.bool (!(c26_ == true))) = (Value.bool true)) (vNeB (Bool.eq_false_iff.2 hc28) hc29) <|
yy 171 (vf) <|
ww (p := (Value.bool (!true)) = (Value.bool false)) (vBn hc29) <|
zz 174 (xbT hc30) <|
zz 177 (xdT hc31) <|
zz 182 (xk1 0 Args.cA hc32) <|
zz 183 (fk10 ((c27_0).toNat * 8)) <|
zz 184 (lk11 hc33 (toNatLt hc32)) <|
zz 187 (xk1 0 Args.cA hc15) <|
zz 188 (fk10 ((c7_).toNat * 8)) <|
zz 189 (lk11 hc16 (toNatLt hc15)) <|
zz 190 (xeT hc34) <|
zz 195 (xk1 0 Args.cA hc32) <|
zz 196 (fk16 ((c27_0).toNat * 8)) <|
zz 197 (lk17 hc33 (toNatLt hc32)) <|
zz 200 (xk1 0 Args.cA hc15) <|
zz 201 (fk16 ((c7_).toNat * 8)) <|
zz 202 (lk17 hc16 (toNatLt hc15)) <|
zz 203 (xeT hc35) ee) (by kernel_rfl))
                      ·rw [if_neg hc35] at h
                       cases h
                     ·rw [if_neg hc34] at h
                      cases h
                    ·rw [if_neg hc32] at h; cases h
                   ·rw [if_neg hc31] at h
                    cases h
                  ·rw [if_neg hc30] at h
                   cases h
                 ·rw [if_neg hc29] at h
                  cases h
               | cons c25_a c25_t =>
                dsimp only at h
                obtain ⟨c26_, hc26, h⟩ := Option.bind_eq_some_iff.1 h
                obtain ⟨⟨c27_0, c27_1⟩, hc27, h⟩ := Option.bind_eq_some_iff.1 h
                dsimp only at h
                by_cases hc28 : c26_ = true
                ·rw [if_pos hc28] at h
                 by_cases hc29 : true = true
                 ·rw [if_pos hc29] at h
                  cases h
                 ·rw [if_neg hc29] at h
                  obtain rfl := oI h; exact (runF2 hm (L := lT [(146, ⟨⟨[0, 1, 7, 8, 9, 10], [(0, 3, true)], 1, 0⟩, (X_V_1 c7_ true c26_).1, (X_V_1 c7_ true c26_).2⟩)]) ⟨[4], [], 0, 0⟩ (yy 4 (.call ⟨0, [], (Value.bool true), Ax.h0, []⟩) <|
ww (m_viewportlaw16lives_ok n  () hc1) <|
yy 11 (.call (C_liq1 0 0 0 c2_ [] [])) <|
ww (m_liq1_ok n 0 0 0 c2_ hc2) <|
yy 12 (vf) <|
ww (p := (Value.bool (!c2_)) = (Value.bool false)) (vBn hc3) <|
yy 15 (.call (C_tCq1  c4_ [] [])) <|
ww (m_tCq1_ok n  c4_ hc4) <|
zz 16 (xnF hc5) <|
zz 23 (xeF hc6) <|
yy 29 (.call (C_pKq1 g1 (Args.A.length : Int) c7_ [] [])) <|
ww (m_pKq1_ok n g1 (Args.A.length : Int) c7_ hc7) <|
yy 33 (.call (C_tPq1  (c8_0, c8_1) [] [(0, 0, true)])) <|
ww (m_tPq1_ok n  (c8_0, c8_1) hc8) <|
ww (iv_flat c8_0 3) <|
yy 38 (.call (C_pAq1 c7_ (c9_0, c9_1) [] [(1, 0, true)])) <|
ww (m_pAq1_ok n c7_ (c9_0, c9_1) hc9) <|
ww (iv_flat c9_0 3) <|
zz 46 (xnF hc10) <|
zz 50 (xeF hc11) <|
zz 56 (xnm hc12) <|
zz 57 (xk9 1 c9_1 hc13) <|
zz 58 (xivN hc14 (toNatLt hc13)) <|
zz 61 (xk1 0 Args.cA hc15) <|
zz 62 (fk10 ((c7_).toNat * 8)) <|
zz 63 (lk11 hc16 (toNatLt hc15)) <|
zz 64 (xnF hc17) <|
zz 68 (xk9 0 c8_1 hc18) <|
zz 69 (xivN hc20 hc19) <|
zz 70 (xnF hc21) <|
zz 76 (xdF hc22) <|
zz 123 (xk1 0 Args.cA hc15) <|
zz 124 (fk14 ((c7_).toNat * 8)) <|
zz 125 (lk15 hc16 (toNatLt hc15)) <|
zz 126 (xeF hc23) <|
zz 130 (xk1 0 Args.cA hc15) <|
zz 131 (fk14 ((c7_).toNat * 8)) <|
zz 132 (lk15 hc16 (toNatLt hc15)) <|
zz 133 (xeT hc24) <|
yy 140 (.call (C_lVq1  (c25_a :: c25_t) [] [(3, 1, true)])) <|
ww (m_lVq1_ok n  (c25_a :: c25_t) hc25) <|
ww (iv_flat (c25_a :: c25_t) 3) <|
ww (p := U_V_1 none c7_ true (false, (c25_a :: c25_t), 0) c26_) (m_V_1_ok n c7_ true (false, (c25_a :: c25_t), 0) c26_ hc26) <|
ww (iv_flat (c25_a :: c25_t) 3) <|
zz 151 (xk1 0 Args.cA hc15) <|
zz 152 (fk10 ((c7_).toNat * 8)) <|
zz 153 (lk11 hc16 (toNatLt hc15)) <|
zz 156 (xk1 0 Args.cA hc15) <|
zz 157 (fk16 ((c7_).toNat * 8)) <|
zz 158 (lk17 hc16 (toNatLt hc15)) <|
yy 159 (.call (C_tFq1 (c16_.1) (c16_.2.2.1) (c27_0, c27_1) [] [(1, 1, false), (2, 2, false)])) <|
ww (m_tFq1_ok n (c16_.1) (c16_.2.2.1) (c27_0, c27_1) hc27) <|
yy 168 (vt) <|
ww (p := (Value.bool (!(c26_ == true))) = (Value.bool true)) (vNeB hc28 (Bool.eq_false_iff.2 hc29)) <|
yy 171 (vt) <|
ww (p := (Value.bool (!true)) = (Value.bool true)) (vBn (Bool.eq_false_iff.2 hc29)) ee) (by kernel_rfl))
                ·rw [if_neg hc28] at h
                 by_cases hc29 : true = true
                 ·rw [if_pos hc29] at h
                  by_cases hc30 : c27_1 = true
                  ·rw [if_pos hc30] at h
                   by_cases hc31 : c27_0 ≤ c7_
                   ·rw [if_pos hc31] at h
                    by_cases hc32 : 0 ≤ c27_0 ∧ c27_0 < (Args.A.length : Int)
                    ·rw [if_pos hc32] at h
                     obtain ⟨c33_, hc33, h⟩ := Option.bind_eq_some_iff.1 h
                     by_cases hc34 : (c33_.1) = (c16_.1)
                     ·rw [if_pos hc34] at h
                      by_cases hc35 : (c33_.2.2.1) = (c16_.2.2.1)
                      ·rw [if_pos hc35] at h
                       obtain rfl := oI h; exact (runF2 hm (L := lT [(146, ⟨⟨[0, 1, 7, 8, 9, 10], [(0, 3, true)], 1, 0⟩, (X_V_1 c7_ true c26_).1, (X_V_1 c7_ true c26_).2⟩)]) ⟨[4], [], 0, 0⟩ (yy 4 (.call ⟨0, [], (Value.bool true), Ax.h0, []⟩) <|
ww (m_viewportlaw16lives_ok n  () hc1) <|
yy 11 (.call (C_liq1 0 0 0 c2_ [] [])) <|
ww (m_liq1_ok n 0 0 0 c2_ hc2) <|
yy 12 (vf) <|
ww (p := (Value.bool (!c2_)) = (Value.bool false)) (vBn hc3) <|
yy 15 (.call (C_tCq1  c4_ [] [])) <|
ww (m_tCq1_ok n  c4_ hc4) <|
zz 16 (xnF hc5) <|
zz 23 (xeF hc6) <|
yy 29 (.call (C_pKq1 g1 (Args.A.length : Int) c7_ [] [])) <|
ww (m_pKq1_ok n g1 (Args.A.length : Int) c7_ hc7) <|
yy 33 (.call (C_tPq1  (c8_0, c8_1) [] [(0, 0, true)])) <|
ww (m_tPq1_ok n  (c8_0, c8_1) hc8) <|
ww (iv_flat c8_0 3) <|
yy 38 (.call (C_pAq1 c7_ (c9_0, c9_1) [] [(1, 0, true)])) <|
ww (m_pAq1_ok n c7_ (c9_0, c9_1) hc9) <|
ww (iv_flat c9_0 3) <|
zz 46 (xnF hc10) <|
zz 50 (xeF hc11) <|
zz 56 (xnm hc12) <|
zz 57 (xk9 1 c9_1 hc13) <|
zz 58 (xivN hc14 (toNatLt hc13)) <|
zz 61 (xk1 0 Args.cA hc15) <|
zz 62 (fk10 ((c7_).toNat * 8)) <|
zz 63 (lk11 hc16 (toNatLt hc15)) <|
zz 64 (xnF hc17) <|
zz 68 (xk9 0 c8_1 hc18) <|
zz 69 (xivN hc20 hc19) <|
zz 70 (xnF hc21) <|
zz 76 (xdF hc22) <|
zz 123 (xk1 0 Args.cA hc15) <|
zz 124 (fk14 ((c7_).toNat * 8)) <|
zz 125 (lk15 hc16 (toNatLt hc15)) <|
zz 126 (xeF hc23) <|
zz 130 (xk1 0 Args.cA hc15) <|
zz 131 (fk14 ((c7_).toNat * 8)) <|
zz 132 (lk15 hc16 (toNatLt hc15)) <|
zz 133 (xeT hc24) <|
yy 140 (.call (C_lVq1  (c25_a :: c25_t) [] [(3, 1, true)])) <|
ww (m_lVq1_ok n  (c25_a :: c25_t) hc25) <|
ww (iv_flat (c25_a :: c25_t) 3) <|
ww (p := U_V_1 none c7_ true (false, (c25_a :: c25_t), 0) c26_) (m_V_1_ok n c7_ true (false, (c25_a :: c25_t), 0) c26_ hc26) <|
ww (iv_flat (c25_a :: c25_t) 3) <|
zz 151 (xk1 0 Args.cA hc15) <|
zz 152 (fk10 ((c7_).toNat * 8)) <|
zz 153 (lk11 hc16 (toNatLt hc15)) <|
zz 156 (xk1 0 Args.cA hc15) <|
zz 157 (fk16 ((c7_).toNat * 8)) <|
zz 158 (lk17 hc16 (toNatLt hc15)) <|
yy 159 (.call (C_tFq1 (c16_.1) (c16_.2.2.1) (c27_0, c27_1) [] [(1, 1, false), (2, 2, false)])) <|
ww (m_tFq1_ok n (c16_.1) (c16_.2.2.1) (c27_0, c27_1) hc27) <|
yy 168 (vt) <|
ww (p := (Value.bool (!(c26_ == true))) = (Value.bool true)) (vNeB (Bool.eq_false_iff.2 hc28) hc29) <|
yy 171 (vf) <|
ww (p := (Value.bool (!true)) = (Value.bool false)) (vBn hc29) <|
zz 174 (xbT hc30) <|
zz 177 (xdT hc31) <|
zz 182 (xk1 0 Args.cA hc32) <|
zz 183 (fk10 ((c27_0).toNat * 8)) <|
zz 184 (lk11 hc33 (toNatLt hc32)) <|
zz 187 (xk1 0 Args.cA hc15) <|
zz 188 (fk10 ((c7_).toNat * 8)) <|
zz 189 (lk11 hc16 (toNatLt hc15)) <|
zz 190 (xeT hc34) <|
zz 195 (xk1 0 Args.cA hc32) <|
zz 196 (fk16 ((c27_0).toNat * 8)) <|
zz 197 (lk17 hc33 (toNatLt hc32)) <|
zz 200 (xk1 0 Args.cA hc15) <|
zz 201 (fk16 ((c7_).toNat * 8)) <|
zz 202 (lk17 hc16 (toNatLt hc15)) <|
zz 203 (xeT hc35) ee) (by kernel_rfl))
                      ·rw [if_neg hc35] at h
                       cases h
                     ·rw [if_neg hc34] at h
                      cases h
                    ·rw [if_neg hc32] at h; cases h
                   ·rw [if_neg hc31] at h
                    cases h
                  ·rw [if_neg hc30] at h
                   cases h
                 ·rw [if_neg hc29] at h
                  cases h
              ·rw [if_neg hc24] at h
               obtain ⟨c25_, hc25, h⟩ := Option.bind_eq_some_iff.1 h
               cases c25_ with
               | nil =>
                dsimp only at h
                obtain ⟨c26_, hc26, h⟩ := Option.bind_eq_some_iff.1 h
                obtain ⟨⟨c27_0, c27_1⟩, hc27, h⟩ := Option.bind_eq_some_iff.1 h
                dsimp only at h
                by_cases hc28 : c26_ = true
                ·rw [if_pos hc28] at h
                 by_cases hc29 : false = true
                 ·rw [if_pos hc29] at h
                  cases h
                 ·rw [if_neg hc29] at h
                  obtain rfl := oI h; exact (runF2 hm (L := lT [(146, ⟨⟨[0, 1, 7, 8, 9, 10], [], 1, 0⟩, (X_V_1 c7_ false c26_).1, (X_V_1 c7_ false c26_).2⟩)]) ⟨[4], [], 0, 0⟩ (yy 4 (.call ⟨0, [], (Value.bool true), Ax.h0, []⟩) <|
ww (m_viewportlaw16lives_ok n  () hc1) <|
yy 11 (.call (C_liq1 0 0 0 c2_ [] [])) <|
ww (m_liq1_ok n 0 0 0 c2_ hc2) <|
yy 12 (vf) <|
ww (p := (Value.bool (!c2_)) = (Value.bool false)) (vBn hc3) <|
yy 15 (.call (C_tCq1  c4_ [] [])) <|
ww (m_tCq1_ok n  c4_ hc4) <|
zz 16 (xnF hc5) <|
zz 23 (xeF hc6) <|
yy 29 (.call (C_pKq1 g1 (Args.A.length : Int) c7_ [] [])) <|
ww (m_pKq1_ok n g1 (Args.A.length : Int) c7_ hc7) <|
yy 33 (.call (C_tPq1  (c8_0, c8_1) [] [(0, 0, true)])) <|
ww (m_tPq1_ok n  (c8_0, c8_1) hc8) <|
ww (iv_flat c8_0 3) <|
yy 38 (.call (C_pAq1 c7_ (c9_0, c9_1) [] [(1, 0, true)])) <|
ww (m_pAq1_ok n c7_ (c9_0, c9_1) hc9) <|
ww (iv_flat c9_0 3) <|
zz 46 (xnF hc10) <|
zz 50 (xeF hc11) <|
zz 56 (xnm hc12) <|
zz 57 (xk9 1 c9_1 hc13) <|
zz 58 (xivN hc14 (toNatLt hc13)) <|
zz 61 (xk1 0 Args.cA hc15) <|
zz 62 (fk10 ((c7_).toNat * 8)) <|
zz 63 (lk11 hc16 (toNatLt hc15)) <|
zz 64 (xnF hc17) <|
zz 68 (xk9 0 c8_1 hc18) <|
zz 69 (xivN hc20 hc19) <|
zz 70 (xnF hc21) <|
zz 76 (xdF hc22) <|
zz 123 (xk1 0 Args.cA hc15) <|
zz 124 (fk14 ((c7_).toNat * 8)) <|
zz 125 (lk15 hc16 (toNatLt hc15)) <|
zz 126 (xeF hc23) <|
zz 130 (xk1 0 Args.cA hc15) <|
zz 131 (fk14 ((c7_).toNat * 8)) <|
zz 132 (lk15 hc16 (toNatLt hc15)) <|
zz 133 (xeF hc24) <|
yy 140 (.call (C_lVq1  ([] : List Int) [] [])) <|
ww (m_lVq1_ok n  ([] : List Int) hc25) <|
ww (p := U_V_1 none c7_ false (false, ([] : List Int), 0) c26_) (m_V_1_ok n c7_ false (false, ([] : List Int), 0) c26_ hc26) <|
zz 151 (xk1 0 Args.cA hc15) <|
zz 152 (fk10 ((c7_).toNat * 8)) <|
zz 153 (lk11 hc16 (toNatLt hc15)) <|
zz 156 (xk1 0 Args.cA hc15) <|
zz 157 (fk16 ((c7_).toNat * 8)) <|
zz 158 (lk17 hc16 (toNatLt hc15)) <|
yy 159 (.call (C_tFq1 (c16_.1) (c16_.2.2.1) (c27_0, c27_1) [] [(1, 1, false), (2, 2, false)])) <|
ww (m_tFq1_ok n (c16_.1) (c16_.2.2.1) (c27_0, c27_1) hc27) <|
yy 168 (vt) <|
ww (p := (Value.bool (!(c26_ == false))) = (Value.bool true)) (vNeB hc28 (Bool.eq_false_iff.2 hc29)) <|
yy 171 (vt) <|
ww (p := (Value.bool (!false)) = (Value.bool true)) (vBn (Bool.eq_false_iff.2 hc29)) ee) (by kernel_rfl))
                ·rw [if_neg hc28] at h
                 by_cases hc29 : false = true
                 ·rw [if_pos hc29] at h
                  by_cases hc30 : c27_1 = true
                  ·rw [if_pos hc30] at h
                   by_cases hc31 : c27_0 ≤ c7_
                   ·rw [if_pos hc31] at h
                    by_cases hc32 : 0 ≤ c27_0 ∧ c27_0 < (Args.A.length : Int)
                    ·rw [if_pos hc32] at h
                     obtain ⟨c33_, hc33, h⟩ := Option.bind_eq_some_iff.1 h
                     by_cases hc34 : (c33_.1) = (c16_.1)
                     ·rw [if_pos hc34] at h
                      by_cases hc35 : (c33_.2.2.1) = (c16_.2.2.1)
                      ·rw [if_pos hc35] at h
                       obtain rfl := oI h; exact (runF2 hm (L := lT [(146, ⟨⟨[0, 1, 7, 8, 9, 10], [], 1, 0⟩, (X_V_1 c7_ false c26_).1, (X_V_1 c7_ false c26_).2⟩)]) ⟨[4], [], 0, 0⟩ (yy 4 (.call ⟨0, [], (Value.bool true), Ax.h0, []⟩) <|
ww (m_viewportlaw16lives_ok n  () hc1) <|
yy 11 (.call (C_liq1 0 0 0 c2_ [] [])) <|
ww (m_liq1_ok n 0 0 0 c2_ hc2) <|
yy 12 (vf) <|
ww (p := (Value.bool (!c2_)) = (Value.bool false)) (vBn hc3) <|
yy 15 (.call (C_tCq1  c4_ [] [])) <|
ww (m_tCq1_ok n  c4_ hc4) <|
zz 16 (xnF hc5) <|
zz 23 (xeF hc6) <|
yy 29 (.call (C_pKq1 g1 (Args.A.length : Int) c7_ [] [])) <|
ww (m_pKq1_ok n g1 (Args.A.length : Int) c7_ hc7) <|
yy 33 (.call (C_tPq1  (c8_0, c8_1) [] [(0, 0, true)])) <|
ww (m_tPq1_ok n  (c8_0, c8_1) hc8) <|
ww (iv_flat c8_0 3) <|
yy 38 (.call (C_pAq1 c7_ (c9_0, c9_1) [] [(1, 0, true)])) <|
ww (m_pAq1_ok n c7_ (c9_0, c9_1) hc9) <|
ww (iv_flat c9_0 3) <|
zz 46 (xnF hc10) <|
zz 50 (xeF hc11) <|
zz 56 (xnm hc12) <|
zz 57 (xk9 1 c9_1 hc13) <|
zz 58 (xivN hc14 (toNatLt hc13)) <|
zz 61 (xk1 0 Args.cA hc15) <|
zz 62 (fk10 ((c7_).toNat * 8)) <|
zz 63 (lk11 hc16 (toNatLt hc15)) <|
zz 64 (xnF hc17) <|
zz 68 (xk9 0 c8_1 hc18) <|
zz 69 (xivN hc20 hc19) <|
zz 70 (xnF hc21) <|
zz 76 (xdF hc22) <|
zz 123 (xk1 0 Args.cA hc15) <|
zz 124 (fk14 ((c7_).toNat * 8)) <|
zz 125 (lk15 hc16 (toNatLt hc15)) <|
zz 126 (xeF hc23) <|
zz 130 (xk1 0 Args.cA hc15) <|
zz 131 (fk14 ((c7_).toNat * 8)) <|
zz 132 (lk15 hc16 (toNatLt hc15)) <|
zz 133 (xeF hc24) <|
yy 140 (.call (C_lVq1  ([] : List Int) [] [])) <|
ww (m_lVq1_ok n  ([] : List Int) hc25) <|
ww (p := U_V_1 none c7_ false (false, ([] : List Int), 0) c26_) (m_V_1_ok n c7_ false (false, ([] : List Int), 0) c26_ hc26) <|
zz 151 (xk1 0 Args.cA hc15) <|
zz 152 (fk10 ((c7_).toNat * 8)) <|
zz 153 (lk11 hc16 (toNatLt hc15)) <|
zz 156 (xk1 0 Args.cA hc15) <|
zz 157 (fk16 ((c7_).toNat * 8)) <|
zz 158 (lk17 hc16 (toNatLt hc15)) <|
yy 159 (.call (C_tFq1 (c16_.1) (c16_.2.2.1) (c27_0, c27_1) [] [(1, 1, false), (2, 2, false)])) <|
ww (m_tFq1_ok n (c16_.1) (c16_.2.2.1) (c27_0, c27_1) hc27) <|
yy 168 (vt) <|
ww (p := (Value.bool (!(c26_ == false))) = (Value.bool true)) (vNeB (Bool.eq_false_iff.2 hc28) hc29) <|
yy 171 (vf) <|
ww (p := (Value.bool (!false)) = (Value.bool false)) (vBn hc29) <|
zz 174 (xbT hc30) <|
zz 177 (xdT hc31) <|
zz 182 (xk1 0 Args.cA hc32) <|
zz 183 (fk10 ((c27_0).toNat * 8)) <|
zz 184 (lk11 hc33 (toNatLt hc32)) <|
zz 187 (xk1 0 Args.cA hc15) <|
zz 188 (fk10 ((c7_).toNat * 8)) <|
zz 189 (lk11 hc16 (toNatLt hc15)) <|
zz 190 (xeT hc34) <|
zz 195 (xk1 0 Args.cA hc32) <|
zz 196 (fk16 ((c27_0).toNat * 8)) <|
zz 197 (lk17 hc33 (toNatLt hc32)) <|
zz 200 (xk1 0 Args.cA hc15) <|
zz 201 (fk16 ((c7_).toNat * 8)) <|
zz 202 (lk17 hc16 (toNatLt hc15)) <|
zz 203 (xeT hc35) ee) (by kernel_rfl))
                      ·rw [if_neg hc35] at h
                       cases h
                     ·rw [if_neg hc34] at h
                      cases h
                    ·rw [if_neg hc32] at h; cases h
                   ·rw [if_neg hc31] at h
                    cases h
                  ·rw [if_neg hc30] at h
                   cases h
                 ·rw [if_neg hc29] at h
                  cases h
               | cons c25_a c25_t =>
                dsimp only at h
                obtain ⟨c26_, hc26, h⟩ := Option.bind_eq_some_iff.1 h
                obtain ⟨⟨c27_0, c27_1⟩, hc27, h⟩ := Option.bind_eq_some_iff.1 h
                dsimp only at h
                by_cases hc28 : c26_ = true
                ·rw [if_pos hc28] at h
                 by_cases hc29 : false = true
                 ·rw [if_pos hc29] at h
                  cases h
                 ·rw [if_neg hc29] at h
                  obtain rfl := oI h; exact (runF2 hm (L := lT [(146, ⟨⟨[0, 1, 7, 8, 9, 10], [(0, 3, true)], 1, 0⟩, (X_V_1 c7_ false c26_).1, (X_V_1 c7_ false c26_).2⟩)]) ⟨[4], [], 0, 0⟩ (yy 4 (.call ⟨0, [], (Value.bool true), Ax.h0, []⟩) <|
ww (m_viewportlaw16lives_ok n  () hc1) <|
yy 11 (.call (C_liq1 0 0 0 c2_ [] [])) <|
ww (m_liq1_ok n 0 0 0 c2_ hc2) <|
yy 12 (vf) <|
ww (p := (Value.bool (!c2_)) = (Value.bool false)) (vBn hc3) <|
yy 15 (.call (C_tCq1  c4_ [] [])) <|
ww (m_tCq1_ok n  c4_ hc4) <|
zz 16 (xnF hc5) <|
zz 23 (xeF hc6) <|
yy 29 (.call (C_pKq1 g1 (Args.A.length : Int) c7_ [] [])) <|
ww (m_pKq1_ok n g1 (Args.A.length : Int) c7_ hc7) <|
yy 33 (.call (C_tPq1  (c8_0, c8_1) [] [(0, 0, true)])) <|
ww (m_tPq1_ok n  (c8_0, c8_1) hc8) <|
ww (iv_flat c8_0 3) <|
yy 38 (.call (C_pAq1 c7_ (c9_0, c9_1) [] [(1, 0, true)])) <|
ww (m_pAq1_ok n c7_ (c9_0, c9_1) hc9) <|
ww (iv_flat c9_0 3) <|
zz 46 (xnF hc10) <|
zz 50 (xeF hc11) <|
zz 56 (xnm hc12) <|
zz 57 (xk9 1 c9_1 hc13) <|
zz 58 (xivN hc14 (toNatLt hc13)) <|
zz 61 (xk1 0 Args.cA hc15) <|
zz 62 (fk10 ((c7_).toNat * 8)) <|
zz 63 (lk11 hc16 (toNatLt hc15)) <|
zz 64 (xnF hc17) <|
zz 68 (xk9 0 c8_1 hc18) <|
zz 69 (xivN hc20 hc19) <|
zz 70 (xnF hc21) <|
zz 76 (xdF hc22) <|
zz 123 (xk1 0 Args.cA hc15) <|
zz 124 (fk14 ((c7_).toNat * 8)) <|
zz 125 (lk15 hc16 (toNatLt hc15)) <|
zz 126 (xeF hc23) <|
zz 130 (xk1 0 Args.cA hc15) <|
zz 131 (fk14 ((c7_).toNat * 8)) <|
zz 132 (lk15 hc16 (toNatLt hc15)) <|
zz 133 (xeF hc24) <|
yy 140 (.call (C_lVq1  (c25_a :: c25_t) [] [(3, 1, true)])) <|
ww (m_lVq1_ok n  (c25_a :: c25_t) hc25) <|
ww (iv_flat (c25_a :: c25_t) 3) <|
ww (p := U_V_1 none c7_ false (false, (c25_a :: c25_t), 0) c26_) (m_V_1_ok n c7_ false (false, (c25_a :: c25_t), 0) c26_ hc26) <|
ww (iv_flat (c25_a :: c25_t) 3) <|
zz 151 (xk1 0 Args.cA hc15) <|
zz 152 (fk10 ((c7_).toNat * 8)) <|
zz 153 (lk11 hc16 (toNatLt hc15)) <|
zz 156 (xk1 0 Args.cA hc15) <|
zz 157 (fk16 ((c7_).toNat * 8)) <|
zz 158 (lk17 hc16 (toNatLt hc15)) <|
yy 159 (.call (C_tFq1 (c16_.1) (c16_.2.2.1) (c27_0, c27_1) [] [(1, 1, false), (2, 2, false)])) <|
ww (m_tFq1_ok n (c16_.1) (c16_.2.2.1) (c27_0, c27_1) hc27) <|
yy 168 (vt) <|
ww (p := (Value.bool (!(c26_ == false))) = (Value.bool true)) (vNeB hc28 (Bool.eq_false_iff.2 hc29)) <|
yy 171 (vt) <|
ww (p := (Value.bool (!false)) = (Value.bool true)) (vBn (Bool.eq_false_iff.2 hc29)) ee) (by kernel_rfl))
                ·rw [if_neg hc28] at h
                 by_cases hc29 : false = true
                 ·rw [if_pos hc29] at h
                  by_cases hc30 : c27_1 = true
                  ·rw [if_pos hc30] at h
                   by_cases hc31 : c27_0 ≤ c7_
                   ·rw [if_pos hc31] at h
                    by_cases hc32 : 0 ≤ c27_0 ∧ c27_0 < (Args.A.length : Int)
                    ·rw [if_pos hc32] at h
                     obtain ⟨c33_, hc33, h⟩ := Option.bind_eq_some_iff.1 h
                     by_cases hc34 : (c33_.1) = (c16_.1)
                     ·rw [if_pos hc34] at h
                      by_cases hc35 : (c33_.2.2.1) = (c16_.2.2.1)
                      ·rw [if_pos hc35] at h
                       obtain rfl := oI h; exact (runF2 hm (L := lT [(146, ⟨⟨[0, 1, 7, 8, 9, 10], [(0, 3, true)], 1, 0⟩, (X_V_1 c7_ false c26_).1, (X_V_1 c7_ false c26_).2⟩)]) ⟨[4], [], 0, 0⟩ (yy 4 (.call ⟨0, [], (Value.bool true), Ax.h0, []⟩) <|
ww (m_viewportlaw16lives_ok n  () hc1) <|
yy 11 (.call (C_liq1 0 0 0 c2_ [] [])) <|
ww (m_liq1_ok n 0 0 0 c2_ hc2) <|
yy 12 (vf) <|
ww (p := (Value.bool (!c2_)) = (Value.bool false)) (vBn hc3) <|
yy 15 (.call (C_tCq1  c4_ [] [])) <|
ww (m_tCq1_ok n  c4_ hc4) <|
zz 16 (xnF hc5) <|
zz 23 (xeF hc6) <|
yy 29 (.call (C_pKq1 g1 (Args.A.length : Int) c7_ [] [])) <|
ww (m_pKq1_ok n g1 (Args.A.length : Int) c7_ hc7) <|
yy 33 (.call (C_tPq1  (c8_0, c8_1) [] [(0, 0, true)])) <|
ww (m_tPq1_ok n  (c8_0, c8_1) hc8) <|
ww (iv_flat c8_0 3) <|
yy 38 (.call (C_pAq1 c7_ (c9_0, c9_1) [] [(1, 0, true)])) <|
ww (m_pAq1_ok n c7_ (c9_0, c9_1) hc9) <|
ww (iv_flat c9_0 3) <|
zz 46 (xnF hc10) <|
zz 50 (xeF hc11) <|
zz 56 (xnm hc12) <|
zz 57 (xk9 1 c9_1 hc13) <|
zz 58 (xivN hc14 (toNatLt hc13)) <|
zz 61 (xk1 0 Args.cA hc15) <|
zz 62 (fk10 ((c7_).toNat * 8)) <|
zz 63 (lk11 hc16 (toNatLt hc15)) <|
zz 64 (xnF hc17) <|
zz 68 (xk9 0 c8_1 hc18) <|
zz 69 (xivN hc20 hc19) <|
zz 70 (xnF hc21) <|
zz 76 (xdF hc22) <|
zz 123 (xk1 0 Args.cA hc15) <|
zz 124 (fk14 ((c7_).toNat * 8)) <|
zz 125 (lk15 hc16 (toNatLt hc15)) <|
zz 126 (xeF hc23) <|
zz 130 (xk1 0 Args.cA hc15) <|
zz 131 (fk14 ((c7_).toNat * 8)) <|
zz 132 (lk15 hc16 (toNatLt hc15)) <|
zz 133 (xeF hc24) <|
yy 140 (.call (C_lVq1  (c25_a :: c25_t) [] [(3, 1, true)])) <|
ww (m_lVq1_ok n  (c25_a :: c25_t) hc25) <|
ww (iv_flat (c25_a :: c25_t) 3) <|
ww (p := U_V_1 none c7_ false (false, (c25_a :: c25_t), 0) c26_) (m_V_1_ok n c7_ false (false, (c25_a :: c25_t), 0) c26_ hc26) <|
ww (iv_flat (c25_a :: c25_t) 3) <|
zz 151 (xk1 0 Args.cA hc15) <|
zz 152 (fk10 ((c7_).toNat * 8)) <|
zz 153 (lk11 hc16 (toNatLt hc15)) <|
zz 156 (xk1 0 Args.cA hc15) <|
zz 157 (fk16 ((c7_).toNat * 8)) <|
zz 158 (lk17 hc16 (toNatLt hc15)) <|
yy 159 (.call (C_tFq1 (c16_.1) (c16_.2.2.1) (c27_0, c27_1) [] [(1, 1, false), (2, 2, false)])) <|
ww (m_tFq1_ok n (c16_.1) (c16_.2.2.1) (c27_0, c27_1) hc27) <|
yy 168 (vt) <|
ww (p := (Value.bool (!(c26_ == false))) = (Value.bool true)) (vNeB (Bool.eq_false_iff.2 hc28) hc29) <|
yy 171 (vf) <|
ww (p := (Value.bool (!false)) = (Value.bool false)) (vBn hc29) <|
zz 174 (xbT hc30) <|
zz 177 (xdT hc31) <|
zz 182 (xk1 0 Args.cA hc32) <|
zz 183 (fk10 ((c27_0).toNat * 8)) <|
zz 184 (lk11 hc33 (toNatLt hc32)) <|
zz 187 (xk1 0 Args.cA hc15) <|
zz 188 (fk10 ((c7_).toNat * 8)) <|
zz 189 (lk11 hc16 (toNatLt hc15)) <|
zz 190 (xeT hc34) <|
zz 195 (xk1 0 Args.cA hc32) <|
zz 196 (fk16 ((c27_0).toNat * 8)) <|
zz 197 (lk17 hc33 (toNatLt hc32)) <|
zz 200 (xk1 0 Args.cA hc15) <|
zz 201 (fk16 ((c7_).toNat * 8)) <|
zz 202 (lk17 hc16 (toNatLt hc15)) <|
zz 203 (xeT hc35) ee) (by kernel_rfl))
                      ·rw [if_neg hc35] at h
                       cases h
                     ·rw [if_neg hc34] at h
                      cases h
                    ·rw [if_neg hc32] at h; cases h
                   ·rw [if_neg hc31] at h
                    cases h
                  ·rw [if_neg hc30] at h
                   cases h
                 ·rw [if_neg hc29] at h
                  cases h
           ·rw [if_neg hc21] at h
            cases h
          ·rw [if_neg hc19] at h; cases h
         ·rw [if_neg hc18] at h; cases h
        ·rw [if_neg hc17] at h
         cases h
       ·rw [if_neg hc15] at h; cases h
      ·rw [if_neg hc13] at h; cases h
    ·rw [if_neg hc10] at h
     cases h
  ·rw [if_neg hc5] at h
   obtain rfl := oI h; exact (runF2 hm (L := lT []) ⟨[4], [], 0, 0⟩ (yy 4 (.call ⟨0, [], (Value.bool true), Ax.h0, []⟩) <|
ww (m_viewportlaw16lives_ok n  () hc1) <|
yy 11 (.call (C_liq1 0 0 0 c2_ [] [])) <|
ww (m_liq1_ok n 0 0 0 c2_ hc2) <|
yy 12 (vf) <|
ww (p := (Value.bool (!c2_)) = (Value.bool false)) (vBn hc3) <|
yy 15 (.call (C_tCq1  c4_ [] [])) <|
ww (m_tCq1_ok n  c4_ hc4) <|
zz 16 (xnT hc5) ee) (by kernel_rfl))
 ·rw [if_neg hc3] at h
  obtain rfl := oI h; exact (runF2 hm (L := lT []) ⟨[4], [], 0, 0⟩ (yy 4 (.call ⟨0, [], (Value.bool true), Ax.h0, []⟩) <|
ww (m_viewportlaw16lives_ok n  () hc1) <|
yy 11 (.call (C_liq1 0 0 0 c2_ [] [])) <|
ww (m_liq1_ok n 0 0 0 c2_ hc2) <|
yy 12 (vt) <|
ww (p := (Value.bool (!c2_)) = (Value.bool true)) (vBn (Bool.eq_false_iff.2 hc3)) ee) (by kernel_rfl))

end Go.Proofs.Ytalepmolclldlaa.trp
