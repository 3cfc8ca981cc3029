/-
  What functions do, told by pure functions. No condition.
-/
import Derived.Test.YtmjibnlojmdcgaaGreatDoorMltBTold
set_option linter.unusedSimpArgs false
set_option linter.unusedVariables false
set_option linter.unusedSectionVars false
set_option linter.unnecessarySimpa false
set_option maxRecDepth 100000
noncomputable section
namespace Go.Proofs.YtmjibnlojmdcgaaGreatDoor.mlt19
open Go Go.Proofs.YtmjibnlojmdcgaaGreatDoor Ax
variable [Args]
def qgg_ (a0 : Int) : List Value := [(Value.func (.yield 0) #[] #[]), (pN 4 0), (pN 5 0)]
def qgh_ (a0 : Int) : AH := ⟨sB [(0, (some (rblk P 30 [false, true, false, true, true, true] .ready none [(1, (pN 2 0)), (3, (pN 3 0)), (9, (Value.func (.func 92) #[] #[(pN 4 0), (pN 5 0)]))] 1))), (1, (some (.marks true))), (2, (some (.cells (layT [(sW 0 0 (Args.A).length Args.cA)]) 22))), (3, (some (.cells (layT [(Value.slice none 0 0)]) 27))), (4, (some (.cells (layT [(sW 0 0 (Args.A).length Args.cA)]) 22))), (5, (some (.cells (layT [(i6 a0)]) 3)))], 6, 6⟩
def qdy_ (a0 : Int) (r : List Int) : Value := match r with
 | o0 => (Value.tuple #[])
def qdz_ (a0 : Int) (r : List Int) : AH := match r with
 | o0 => ⟨sB [(0, (some (rblk P 30 [false, true, false, true, true, true] .ready none [(1, (pN 2 0)), (3, (pN 3 0)), (9, (Value.func (.func 92) #[] #[(pN 4 0), (pN 5 0)]))] 1))), (1, (some (.marks true))), (2, (some (.cells (layT [(sW 0 0 (Args.A).length Args.cA)]) 22))), (3, (some (.cells (layT [(slN o0 6)]) 27))), (4, (some (.cells (layT [(sW 0 0 (Args.A).length Args.cA)]) 22))), (5, (some (.cells (layT [(i6 a0)]) 3))), (6, (nblk o0 3))], 7, 0⟩
abbrev G_treeplaces1q1 (a0 : Int) (r : List Int) : Prop := Gv P (.func 92) (qgg_ a0) (qgh_ a0) (qdy_ a0 r) (qdz_ a0 r)
abbrev qgi_ (a0 : Int) (r : List Int) (ins outs : BL) : CallA := ⟨6, ins, qdy_ a0 r, qdz_ a0 r, outs⟩
def qcn_ (n : Nat) (a0 : Int) : Option (List Int) :=
 (qhl_ n a0 a0).bind fun c1_ =>
 match c1_ with
 | [] =>
  some ([] : List Int)
 | c1_a :: c1_t =>
  some (c1_a :: c1_t)
theorem qed_ (n : Nat) (a0 : Int) (r : List Int) (h : qcn_ n a0 = some r) : Gv P (.func 92) (qgg_ a0) (qgh_ a0) (qdy_ a0 r) (qdz_ a0 r) := by
 unfold qcn_ at h
 obtain ⟨c1_, hc1, h⟩ := oB h
 cases c1_ with
 | nil =>
  dsimp only at h
  obtain rfl := oI h; exact (runF2 hm (L := lT []) ⟨[], [(0, 0, false), (1, 1, false), (2, 2, false), (3, 3, false), (4, 4, false), (5, 5, false)], 7, 0⟩ (yy 3 (.call (C_tvq1 a0 a0 ([] : List Int) [(0, 0, false), (1, 1, false), (2, 2, false), (3, 3, false), (4, 4, false), (5, 5, false)] [(0, 0, false), (1, 1, false), (2, 2, false), (3, 3, false), (4, 4, false), (5, 5, false)])) <|
ww (qnt_ n a0 a0 ([] : List Int) hc1) ee) (by kernel_rfl))
 | cons c1_a c1_t =>
  dsimp only at h
  obtain rfl := oI h; exact (runF2 hm (L := lT []) ⟨[], [(0, 0, false), (1, 1, false), (2, 2, false), (3, 3, false), (4, 4, false), (5, 5, false), (6, 6, true)], 7, 0⟩ (yy 3 (.call (C_tvq1 a0 a0 (c1_a :: c1_t) [(0, 0, false), (1, 1, false), (2, 2, false), (3, 3, false), (4, 4, false), (5, 5, false)] [(0, 0, false), (1, 1, false), (2, 2, false), (3, 3, false), (4, 4, false), (5, 5, false), (6, 6, true)])) <|
ww (qnt_ n a0 a0 (c1_a :: c1_t) hc1) <|
ww (qb_ (c1_a :: c1_t) 3) <|
ww (qb_ (c1_a :: c1_t) 3) ee) (by kernel_rfl))

def A_tLq1 : List Value := [(sW 0 0 (Args.A).length Args.cA)]
def H_tLq1 : AH := ⟨sB [], 0, 0⟩
def V_tLq1 (r : (List Int) ⊕ (Unit)) : Value := match r with
 | .inl o0 => (slN o0 1)
 | .inr _ => (Value.slice none 0 0)
def R_tLq1 (r : (List Int) ⊕ (Unit)) : AH := match r with
 | .inl o0 => ⟨sB [(0, (some (.marks false))), (1, (nblk o0 3))], 2, 0⟩
 | .inr _ => ⟨sB [], 0, 0⟩
abbrev G_tLq1 (r : (List Int) ⊕ (Unit)) : Prop := Gv P (.func 30) A_tLq1 H_tLq1 (V_tLq1  r) (R_tLq1  r)
abbrev C_tLq1 (r : (List Int) ⊕ (Unit)) (ins outs : BL) : CallA := ⟨0, ins, V_tLq1  r, R_tLq1  r, outs⟩
def m_tLq1 (n : Nat) : Option ((List Int) ⊕ (Unit)) :=
 (m_tCq1 n).bind fun c1_ =>
 if c1_ = 0 then
  (qcz_ n 0).bind fun _ =>
  (qcn_ n 0).bind fun c4_ =>
  match c4_ with
  | [] =>
   some (.inl ([] : List Int))
  | c4_a :: c4_t =>
   some (.inl (c4_a :: c4_t))
 else
  some (.inr ())
theorem qnu_ (n : Nat) (r : (List Int) ⊕ (Unit)) (h : m_tLq1 n = some r) : Gv P (.func 30) A_tLq1 H_tLq1 (V_tLq1  r) (R_tLq1  r) := by
 unfold m_tLq1 at h
 obtain ⟨c1_, hc1, h⟩ := oB h
 by_cases hc2 : c1_ = 0
 ·rw [if_pos hc2] at h
  obtain ⟨_, hc3, h⟩ := oB h
  obtain ⟨c4_, hc4, h⟩ := oB h
  cases c4_ with
  | nil =>
   dsimp only at h
   obtain rfl := oI h; exact (runF2 hm (L := lT []) ⟨[2], [(0, 4, false)], 2, 0⟩ (yy 6 (.call (C_tCq1  c1_ [] [])) <|
ww (qeo_ n  c1_ hc1) <|
zz 7 (xnF hc2) <|
yy 14 (.call (qhi_ 0 () [] [(2, 0, false), (3, 1, false)])) <|
ww (qez_ n 0 () hc3) <|
yy 16 (.rng (qgi_ 0 ([] : List Int) [(0, 5, false), (1, 4, false), (2, 0, false), (3, 1, false), (4, 2, false), (5, 3, false)] [(5, 0, false), (4, 1, false), (0, 2, false), (1, 3, false), (2, 4, false), (3, 5, false)]) [1, 3, 9]) <|
ww (qed_ n 0 ([] : List Int) hc4) ee) (by kernel_rfl))
  | cons c4_a c4_t =>
   dsimp only at h
   obtain rfl := oI h; exact (runF2 hm (L := lT []) ⟨[2], [(0, 4, false), (1, 6, true)], 2, 0⟩ (yy 6 (.call (C_tCq1  c1_ [] [])) <|
ww (qeo_ n  c1_ hc1) <|
zz 7 (xnF hc2) <|
yy 14 (.call (qhi_ 0 () [] [(2, 0, false), (3, 1, false)])) <|
ww (qez_ n 0 () hc3) <|
yy 16 (.rng (qgi_ 0 (c4_a :: c4_t) [(0, 5, false), (1, 4, false), (2, 0, false), (3, 1, false), (4, 2, false), (5, 3, false)] [(5, 0, false), (4, 1, false), (0, 2, false), (1, 3, false), (2, 4, false), (3, 5, false), (6, 6, true)]) [1, 3, 9]) <|
ww (qed_ n 0 (c4_a :: c4_t) hc4) <|
ww (qb_ (c4_a :: c4_t) 3) <|
ww (qb_ (c4_a :: c4_t) 3) ee) (by kernel_rfl))
 ·rw [if_neg hc2] at h
  obtain rfl := oI h; exact (runF2 hm (L := lT []) ⟨[2], [], 0, 0⟩ (yy 6 (.call (C_tCq1  c1_ [] [])) <|
ww (qeo_ n  c1_ hc1) <|
zz 7 (xnT hc2) ee) (by kernel_rfl))

def A_mR1q1 (a0 : Int) : List Value := [(i6 a0), (pN 0 0)]
def H_mR1q1 (a0 : Int) : AH := ⟨sB [(0, (some (.cells (layT [(sW 0 0 (Args.A).length Args.cA)]) 22)))], 1, 1⟩
def V_mR1q1 (a0 : Int) (r : Bool) : Value := match r with
 | o0 => (bO o0)
def R_mR1q1 (a0 : Int) (r : Bool) : AH := match r with
 | o0 => ⟨sB [], 1, 1⟩
abbrev G_mR1q1 (a0 : Int) (r : Bool) : Prop := Gv P (.func 31) (A_mR1q1 a0) (H_mR1q1 a0) (V_mR1q1 a0 r) (R_mR1q1 a0 r)
abbrev qgj_ (a0 : Int) (r : Bool) (ins outs : BL) : CallA := ⟨1, ins, V_mR1q1 a0 r, R_mR1q1 a0 r, outs⟩
def qce_ (n : Nat) (a0 : Int) : Option (Bool) :=
 if 0 ≤ a0 ∧ a0 < (Args.A.length : Int) then
  ((some ((Args.A).getD (a0).toNat (0, 0, 0, 0, 0, 0, nl0, 0)))).bind fun c2_ =>
  if (c2_.2.1) = 4 then
   some false
  else
   some true
 else none
theorem qbv_ (n : Nat) (a0 : Int) (r : Bool) (h : qce_ n a0 = some r) : Gv P (.func 31) (A_mR1q1 a0) (H_mR1q1 a0) (V_mR1q1 a0 r) (R_mR1q1 a0 r) := by
 unfold qce_ at h
 obtain ⟨hc1, h⟩ := gd h
 obtain ⟨c2_, hc2, h⟩ := oB h
 by_cases hc3 : (c2_.2.1) = 4
 ·rw [if_pos hc3] at h
  obtain rfl := oI h; exact (runF2 hm (L := lT []) ⟨[3], [], 1, 1⟩ (zz 5 (xk1 0 Args.cA hc1) <|
zz 6 (fk3 ((a0).toNat * 8)) <|
zz 7 (lk4 hc2 (qc_ hc1)) <|
zz 8 (xnF hc3) ee) (by kernel_rfl))
 ·rw [if_neg hc3] at h
  obtain rfl := oI h; exact (runF2 hm (L := lT []) ⟨[3], [], 1, 1⟩ (zz 5 (xk1 0 Args.cA hc1) <|
zz 6 (fk3 ((a0).toNat * 8)) <|
zz 7 (lk4 hc2 (qc_ hc1)) <|
zz 8 (xnT hc3) ee) (by kernel_rfl))

def A_mRq1 (a0 : Int) : List Value := [(sW 0 0 (Args.A).length Args.cA), (i6 a0)]
def H_mRq1 (a0 : Int) : AH := ⟨sB [], 0, 0⟩
def V_mRq1 (a0 : Int) (r : List Int × Nat) : Value := match r with
 | (o0, o1) => (sN 0 0 o1 o1)
def R_mRq1 (a0 : Int) (r : List Int × Nat) : AH := match r with
 | (o0, o1) => ⟨sB [(0, (some (.cells (layT (iv o0)) 3)))], 1, 0⟩
abbrev G_mRq1 (a0 : Int) (r : List Int × Nat) : Prop := Gv P (.func 13) (A_mRq1 a0) (H_mRq1 a0) (V_mRq1 a0 r) (R_mRq1 a0 r)
abbrev C_mRq1 (a0 : Int) (r : List Int × Nat) (ins outs : BL) : CallA := ⟨0, ins, V_mRq1 a0 r, R_mRq1 a0 r, outs⟩
def qft_ (x0 : Int) (x1 : List Int) (x2 : Nat) (x3 : List Int) (x9 : Int) (x10 : Int) (x11 : Int) (st : List Int × Nat × Nat × Int × Int) : XSt := match st with
 | (x4, x5, x6, x7, x8) => (sT 86 [(1, (i6 x0)), (2, (pN 0 0)), (5, (sN 1 0 x2 x2)), (6, (sN 2 0 (x3).length (Nat.add big 1))), (7, (Value.func (.func 31) #[] #[(pN 0 0)])), (8, (slP x4 3 x5 1 (x6 * 1))), (9, (i6 x7)), (10, (i6 x8)), (12, (i6 x9)), (23, (sN 2 0 (x3).length (Nat.add big 1))), (24, (i6 x10)), (25, (i6 x11))], [], ⟨sB [(0, (some (.cells (layT [(sW 0 0 (Args.A).length Args.cA)]) 22))), (1, (some (.cells (layT (iv x1)) 3))), (2, (some (.cells (layT (iv x3)) 3))), (3, (nblk x4 3))], 4, 0⟩)
def qu_ (x0 : Int) (x1 : List Int) (x2 : Nat) (x3 : List Int) (x9 : Int) (x10 : Int) (x11 : Int) (r : List Int × Nat × Nat × Int × Int) : Ex × XSt := match r with
 | (z0, z1, z2, z3, z4) => (.exit 2, (sT 86 [(1, (i6 x0)), (2, (pN 0 0)), (5, (sN 1 0 x2 x2)), (6, (sN 2 0 (x3).length (Nat.add big 1))), (7, (Value.func (.func 31) #[] #[(pN 0 0)])), (8, (slP z0 3 z1 1 (z2 * 1))), (9, (i6 z3)), (10, (i6 z4)), (12, (i6 x9)), (23, (sN 2 0 (x3).length (Nat.add big 1))), (24, (i6 x10)), (25, (i6 x11))], [], ⟨sB [(0, (some (.cells (layT [(sW 0 0 (Args.A).length Args.cA)]) 22))), (1, (some (.cells (layT (iv x1)) 3))), (2, (some (.cells (layT (iv x3)) 3))), (3, (nblk z0 3))], 4, 0⟩))
abbrev qfu_ (rnd : Option Nat) (x0 : Int) (x1 : List Int) (x2 : Nat) (x3 : List Int) (x9 : Int) (x10 : Int) (x11 : Int) (st : List Int × Nat × Nat × Int × Int) (c : Ex × XSt) : Prop := CG P rnd (fnN P 13) 0 (qq_ P 13 [false, false, false, true, true, false, false, true, true, false, false, true, false, true, true, true, true, true, true, true]) (qft_ x0 x1 x2 x3 x9 x10 x11 st) c
abbrev qd0_ (rd : Option Nat) (x0 : Int) (x1 : List Int) (x2 : Nat) (x3 : List Int) (x9 : Int) (x10 : Int) (x11 : Int) (st : List Int × Nat × Nat × Int × Int) (r : List Int × Nat × Nat × Int × Int) : Prop := CG P rd (fnN P 13) 0 (qq_ P 13 [false, false, true, true, false, false, true, true, false, false, true, false, true, true, true, true, true, true, true]) (qft_ x0 x1 x2 x3 x9 x10 x11 st) (qu_ x0 x1 x2 x3 x9 x10 x11 r)
def qia_ (n : Nat) (x0 : Int) (x1 : List Int) (x2 : Nat) (x3 : List Int) (x9 : Int) (x10 : Int) (x11 : Int) (st : List Int × Nat × Nat × Int × Int) : Option ((List Int × Nat × Nat × Int × Int) ⊕ (List Int × Nat × Nat × Int × Int)) := match st with
 | (x4, x5, x6, x7, x8) =>
  match x4 with
  | [] =>
   if x8 < (x3.length : Int) then
    if (0 : Int) < x0 then
     if 0 ≤ x8 ∧ x8 < (x3.length : Int) then
      ((some ((x3).getD (x8).toNat 0))).bind fun y4_ =>
      if 0 ≤ y4_ ∧ y4_ < (Args.A.length : Int) then
       ((some ((Args.A).getD (y4_).toNat (0, 0, 0, 0, 0, 0, nl0, 0)))).bind fun y6_ =>
       (qce_ n y4_).bind fun y7_ =>
       if y7_ = true then
        some (.inl ([(y6_.2.2.2.2.2.1)], 1, 0, (maxB x7 (y6_.2.2.2.2.2.1)), (w64 (x8 + 1))))
       else
        some (.inl (([] : List Int), 0, 0, x7, (w64 (x8 + 1))))
      else none
     else none
    else
     some (.inr (([] : List Int), 0, 0, x7, x8))
   else
    some (.inr (([] : List Int), 0, 0, x7, x8))
  | x4a :: x4t =>
   if x8 < (x3.length : Int) then
    if ((x5 : Nat) : Int) < x0 then
     if 0 ≤ x8 ∧ x8 < (x3.length : Int) then
      ((some ((x3).getD (x8).toNat 0))).bind fun y4_ =>
      if 0 ≤ y4_ ∧ y4_ < (Args.A.length : Int) then
       ((some ((Args.A).getD (y4_).toNat (0, 0, 0, 0, 0, 0, nl0, 0)))).bind fun y6_ =>
       (qce_ n y4_).bind fun y7_ =>
       if y7_ = true then
        if x6 + x5 ≤ ((x4a :: x4t)).length then
         if (x5 + 1) * 8 ≤ 140737488355328 then
          some (.inl (((List.take x5 (List.drop x6 (x4a :: x4t))) ++ [(y6_.2.2.2.2.2.1)]), ((((List.take x5 (List.drop x6 (x4a :: x4t))) ++ [(y6_.2.2.2.2.2.1)])).length), 0, (maxB x7 (y6_.2.2.2.2.2.1)), (w64 (x8 + 1))))
         else none
        else none
       else
        some (.inl ((x4a :: x4t), x5, x6, x7, (w64 (x8 + 1))))
      else none
     else none
    else
     some (.inr ((x4a :: x4t), x5, x6, x7, x8))
   else
    some (.inr ((x4a :: x4t), x5, x6, x7, x8))
def qbm_ (n : Nat) (x0 : Int) (x1 : List Int) (x2 : Nat) (x3 : List Int) (x9 : Int) (x10 : Int) (x11 : Int) (st : List Int × Nat × Nat × Int × Int) : Option (List Int × Nat × Nat × Int × Int) := iterM (qia_ n x0 x1 x2 x3 x9 x10 x11) n st
theorem q_mRq1_2_0 (n : Nat) {rnd : Option Nat} (x0 : Int) (x1 : List Int) (x2 : Nat) (x3 : List Int) (x5 x6 : Nat) (x7 x8 x9 x10 x11 : Int) (hy1 : x8 < (x3.length : Int)) (hy2 : (0 : Int) < x0) (hy3 : 0 ≤ x8 ∧ x8 < (x3.length : Int)) (y4_ : Int) (hy4 : (some ((x3).getD (x8).toNat 0)) = some y4_) (hy5 : 0 ≤ y4_ ∧ y4_ < (Args.A.length : Int)) (y6_ : R8) (hy6 : (some ((Args.A).getD (y4_).toNat (0, 0, 0, 0, 0, 0, nl0, 0))) = some y6_) (y7_ : Bool) (hy7 : qce_ n y4_ = some y7_) (hy8 : y7_ = true) : qfu_ rnd x0 x1 x2 x3 x9 x10 x11 (([] : List Int), x5, x6, x7, x8) (.normal, qft_ x0 x1 x2 x3 x9 x10 x11 ([(y6_.2.2.2.2.2.1)], 1, 0, (maxB x7 (y6_.2.2.2.2.2.1)), (w64 (x8 + 1)))) :=
 runC2 hm (L := lT []) ⟨[1, 2, 5, 6, 7, 8, 9, 10, 12, 23, 24, 25], [(0, 0, false), (1, 1, true), (2, 2, true), (3, 5, false)], 4, 0⟩ (zz 5 (xdT hy1) <|
zz 10 (xdT hy2) <|
zz 19 (xk17 2 U1 hy3) <|
zz 20 (xivN hy4 (qc_ hy3)) <|
zz 21 (xk1 0 Args.cA hy5) <|
zz 22 (fk18 ((y4_).toNat * 8)) <|
zz 23 (lk19 hy6 (qc_ hy5)) <|
zz 29 (xk17 2 U1 hy3) <|
zz 30 (xivN hy4 (qc_ hy3)) <|
yy 31 (.call (qgj_ y4_ y7_ [(0, 0, false)] [])) <|
ww (qbv_ n y4_ y7_ hy7) <|
zz 32 (xbT hy8) <|
ww (qb_ x1 3) <|
ww (qb_ x3 3) <|
ee) (by kernel_rfl)
theorem q_mRq1_2_1 (n : Nat) {rnd : Option Nat} (x0 : Int) (x1 : List Int) (x2 : Nat) (x3 : List Int) (x5 x6 : Nat) (x7 x8 x9 x10 x11 : Int) (hy1 : x8 < (x3.length : Int)) (hy2 : (0 : Int) < x0) (hy3 : 0 ≤ x8 ∧ x8 < (x3.length : Int)) (y4_ : Int) (hy4 : (some ((x3).getD (x8).toNat 0)) = some y4_) (hy5 : 0 ≤ y4_ ∧ y4_ < (Args.A.length : Int)) (y6_ : R8) (hy6 : (some ((Args.A).getD (y4_).toNat (0, 0, 0, 0, 0, 0, nl0, 0))) = some y6_) (y7_ : Bool) (hy7 : qce_ n y4_ = some y7_) (hy8 : ¬ (y7_ = true)) : qfu_ rnd x0 x1 x2 x3 x9 x10 x11 (([] : List Int), x5, x6, x7, x8) (.normal, qft_ x0 x1 x2 x3 x9 x10 x11 (([] : List Int), 0, 0, x7, (w64 (x8 + 1)))) :=
 runC2 hm (L := lT []) ⟨[1, 2, 5, 6, 7, 8, 9, 10, 12, 23, 24, 25], [(0, 0, false), (1, 1, true), (2, 2, true)], 4, 0⟩ (zz 5 (xdT hy1) <|
zz 10 (xdT hy2) <|
zz 19 (xk17 2 U1 hy3) <|
zz 20 (xivN hy4 (qc_ hy3)) <|
zz 21 (xk1 0 Args.cA hy5) <|
zz 22 (fk18 ((y4_).toNat * 8)) <|
zz 23 (lk19 hy6 (qc_ hy5)) <|
zz 29 (xk17 2 U1 hy3) <|
zz 30 (xivN hy4 (qc_ hy3)) <|
yy 31 (.call (qgj_ y4_ y7_ [(0, 0, false)] [])) <|
ww (qbv_ n y4_ y7_ hy7) <|
zz 32 (xbF hy8) <|
ww (qb_ x1 3) <|
ww (qb_ x3 3) <|
ee) (by kernel_rfl)
theorem q_mRq1_2_2 (n : Nat) {rnd : Option Nat} (x0 : Int) (x1 : List Int) (x2 : Nat) (x3 : List Int) (x5 x6 : Nat) (x7 x8 x9 x10 x11 : Int) (hy1 : x8 < (x3.length : Int)) (hy2 : ¬ ((0 : Int) < x0)) : qfu_ rnd x0 x1 x2 x3 x9 x10 x11 (([] : List Int), x5, x6, x7, x8) (qu_ x0 x1 x2 x3 x9 x10 x11 (([] : List Int), 0, 0, x7, x8)) :=
 runC2 hm (L := lT []) ⟨[1, 2, 5, 6, 7, 8, 9, 10, 12, 23, 24, 25], [(0, 0, false), (1, 1, true), (2, 2, true)], 4, 0⟩ (zz 5 (xdT hy1) <|
zz 10 (xdF hy2) <|
ww (qb_ x1 3) <|
ww (qb_ x3 3) <|
ee) (by kernel_rfl)
theorem q_mRq1_2_3 (n : Nat) {rnd : Option Nat} (x0 : Int) (x1 : List Int) (x2 : Nat) (x3 : List Int) (x5 x6 : Nat) (x7 x8 x9 x10 x11 : Int) (hy1 : ¬ (x8 < (x3.length : Int))) : qfu_ rnd x0 x1 x2 x3 x9 x10 x11 (([] : List Int), x5, x6, x7, x8) (qu_ x0 x1 x2 x3 x9 x10 x11 (([] : List Int), 0, 0, x7, x8)) :=
 runC2 hm (L := lT []) ⟨[1, 2, 5, 6, 7, 8, 9, 10, 12, 23, 24, 25], [(0, 0, false), (1, 1, true), (2, 2, true)], 4, 0⟩ (zz 5 (xdF hy1) <|
ww (qb_ x1 3) <|
ww (qb_ x3 3) <|
ee) (by kernel_rfl)
theorem q_mRq1_2_4 (n : Nat) {rnd : Option Nat} (x0 : Int) (x1 : List Int) (x2 : Nat) (x3 : List Int) (x4a : Int) (x4t : List (Int)) (x5 x6 : Nat) (x7 x8 x9 x10 x11 : Int) (hy1 : x8 < (x3.length : Int)) (hy2 : ((x5 : Nat) : Int) < x0) (hy3 : 0 ≤ x8 ∧ x8 < (x3.length : Int)) (y4_ : Int) (hy4 : (some ((x3).getD (x8).toNat 0)) = some y4_) (hy5 : 0 ≤ y4_ ∧ y4_ < (Args.A.length : Int)) (y6_ : R8) (hy6 : (some ((Args.A).getD (y4_).toNat (0, 0, 0, 0, 0, 0, nl0, 0))) = some y6_) (y7_ : Bool) (hy7 : qce_ n y4_ = some y7_) (hy8 : y7_ = true) (hy9 : x6 + x5 ≤ ((x4a :: x4t)).length) (hy10 : (x5 + 1) * 8 ≤ 140737488355328) : qfu_ rnd x0 x1 x2 x3 x9 x10 x11 ((x4a :: x4t), x5, x6, x7, x8) (.normal, qft_ x0 x1 x2 x3 x9 x10 x11 (((List.take x5 (List.drop x6 (x4a :: x4t))) ++ [(y6_.2.2.2.2.2.1)]), ((((List.take x5 (List.drop x6 (x4a :: x4t))) ++ [(y6_.2.2.2.2.2.1)])).length), 0, (maxB x7 (y6_.2.2.2.2.2.1)), (w64 (x8 + 1)))) :=
 by
 obtain ⟨za, zt, hz⟩ : ∃ a t, ((List.take x5 (List.drop x6 (x4a :: x4t))) ++ [(y6_.2.2.2.2.2.1)]) = a :: t := qjc_ (List.take x5 (List.drop x6 (x4a :: x4t))) (y6_.2.2.2.2.2.1)
 rw [hz]
 exact runC2 hm (L := lT []) ⟨[1, 2, 5, 6, 7, 8, 9, 10, 12, 23, 24, 25], [(0, 0, false), (1, 1, true), (2, 2, true), (3, 5, true)], 4, 0⟩ (zz 5 (xdT hy1) <|
zz 10 (xdT hy2) <|
zz 19 (xk17 2 U1 hy3) <|
zz 20 (xivN hy4 (qc_ hy3)) <|
zz 21 (xk1 0 Args.cA hy5) <|
zz 22 (fk18 ((y4_).toNat * 8)) <|
zz 23 (lk19 hy6 (qc_ hy5)) <|
zz 29 (xk17 2 U1 hy3) <|
zz 30 (xivN hy4 (qc_ hy3)) <|
yy 31 (.call (qgj_ y4_ y7_ [(0, 0, false)] [])) <|
ww (qbv_ n y4_ y7_ hy7) <|
zz 32 (xbT hy8) <|
yy 37 (.app ⟨none, iv (List.take x5 (List.drop x6 (x4a :: x4t))), (iv (za :: zt)), ((za :: zt)).length, false⟩) <|
ww (p := 0 < 1) ((by decide)) <|
ww (p := rdT (layT (iv (x4a :: x4t))) (Nat.mul x5 1) (x6 * 1) = some (iv (List.take x5 (List.drop x6 (x4a :: x4t))))) (iv_rdSub _ x6 _ hy9) <|
ww (p := fits (Nat.add x5 1) 8 = true) (qfi_ hy10 (by have := hy10; show (_ : Nat) + _ ≤ _; omega)) <|
ww (p := qp_ [(i6 (y6_.2.2.2.2.2.1))] = true) (rfl) <|
ww (p := qp_ (iv (List.take x5 (List.drop x6 (x4a :: x4t)))) = true) (iv_cells _) <|
ww (p := iv (List.take x5 (List.drop x6 (x4a :: x4t))) ++ [(i6 (y6_.2.2.2.2.2.1))] = (iv (za :: zt))) (by rw [← hz]; exact (by simp [iv])) <|
ww (p := Nat.add x5 1 = ((za :: zt)).length) (by rw [← hz]; exact (qm8_ (by have := hy9; rw [List.length_drop]; omega) rfl)) <|
ww (qb_ x1 3) <|
ww (qb_ x3 3) <|
ww (qb_ (za :: zt) 3) <|
ee) (by kernel_rfl)
theorem q_mRq1_2_5 (n : Nat) {rnd : Option Nat} (x0 : Int) (x1 : List Int) (x2 : Nat) (x3 : List Int) (x4a : Int) (x4t : List (Int)) (x5 x6 : Nat) (x7 x8 x9 x10 x11 : Int) (hy1 : x8 < (x3.length : Int)) (hy2 : ((x5 : Nat) : Int) < x0) (hy3 : 0 ≤ x8 ∧ x8 < (x3.length : Int)) (y4_ : Int) (hy4 : (some ((x3).getD (x8).toNat 0)) = some y4_) (hy5 : 0 ≤ y4_ ∧ y4_ < (Args.A.length : Int)) (y6_ : R8) (hy6 : (some ((Args.A).getD (y4_).toNat (0, 0, 0, 0, 0, 0, nl0, 0))) = some y6_) (y7_ : Bool) (hy7 : qce_ n y4_ = some y7_) (hy8 : ¬ (y7_ = true)) : qfu_ rnd x0 x1 x2 x3 x9 x10 x11 ((x4a :: x4t), x5, x6, x7, x8) (.normal, qft_ x0 x1 x2 x3 x9 x10 x11 ((x4a :: x4t), x5, x6, x7, (w64 (x8 + 1)))) :=
 runC2 hm (L := lT []) ⟨[1, 2, 5, 6, 7, 8, 9, 10, 12, 23, 24, 25], [(0, 0, false), (1, 1, true), (2, 2, true), (3, 3, true)], 4, 0⟩ (zz 5 (xdT hy1) <|
zz 10 (xdT hy2) <|
zz 19 (xk17 2 U1 hy3) <|
zz 20 (xivN hy4 (qc_ hy3)) <|
zz 21 (xk1 0 Args.cA hy5) <|
zz 22 (fk18 ((y4_).toNat * 8)) <|
zz 23 (lk19 hy6 (qc_ hy5)) <|
zz 29 (xk17 2 U1 hy3) <|
zz 30 (xivN hy4 (qc_ hy3)) <|
yy 31 (.call (qgj_ y4_ y7_ [(0, 0, false)] [])) <|
ww (qbv_ n y4_ y7_ hy7) <|
zz 32 (xbF hy8) <|
ww (qb_ x1 3) <|
ww (qb_ x3 3) <|
ww (qb_ (x4a :: x4t) 3) <|
ee) (by kernel_rfl)
theorem q_mRq1_2_6 (n : Nat) {rnd : Option Nat} (x0 : Int) (x1 : List Int) (x2 : Nat) (x3 : List Int) (x4a : Int) (x4t : List (Int)) (x5 x6 : Nat) (x7 x8 x9 x10 x11 : Int) (hy1 : x8 < (x3.length : Int)) (hy2 : ¬ (((x5 : Nat) : Int) < x0)) : qfu_ rnd x0 x1 x2 x3 x9 x10 x11 ((x4a :: x4t), x5, x6, x7, x8) (qu_ x0 x1 x2 x3 x9 x10 x11 ((x4a :: x4t), x5, x6, x7, x8)) :=
 runC2 hm (L := lT []) ⟨[1, 2, 5, 6, 7, 8, 9, 10, 12, 23, 24, 25], [(0, 0, false), (1, 1, true), (2, 2, true), (3, 3, true)], 4, 0⟩ (zz 5 (xdT hy1) <|
zz 10 (xdF hy2) <|
ww (qb_ x1 3) <|
ww (qb_ x3 3) <|
ww (qb_ (x4a :: x4t) 3) <|
ee) (by kernel_rfl)
theorem q_mRq1_2_7 (n : Nat) {rnd : Option Nat} (x0 : Int) (x1 : List Int) (x2 : Nat) (x3 : List Int) (x4a : Int) (x4t : List (Int)) (x5 x6 : Nat) (x7 x8 x9 x10 x11 : Int) (hy1 : ¬ (x8 < (x3.length : Int))) : qfu_ rnd x0 x1 x2 x3 x9 x10 x11 ((x4a :: x4t), x5, x6, x7, x8) (qu_ x0 x1 x2 x3 x9 x10 x11 ((x4a :: x4t), x5, x6, x7, x8)) :=
 runC2 hm (L := lT []) ⟨[1, 2, 5, 6, 7, 8, 9, 10, 12, 23, 24, 25], [(0, 0, false), (1, 1, true), (2, 2, true), (3, 3, true)], 4, 0⟩ (zz 5 (xdF hy1) <|
ww (qb_ x1 3) <|
ww (qb_ x3 3) <|
ww (qb_ (x4a :: x4t) 3) <|
ee) (by kernel_rfl)
theorem qbj_ (n : Nat) {rnd : Option Nat} (x0 : Int) (x1 : List Int) (x2 : Nat) (x3 : List Int) (x9 : Int) (x10 : Int) (x11 : Int) (st : List Int × Nat × Nat × Int × Int) (r : List Int × Nat × Nat × Int × Int) (h : qbm_ n x0 x1 x2 x3 x9 x10 x11 st = some r) : CG P rnd (fnN P 13) 0 (qq_ P 13 [false, false, true, true, false, false, true, true, false, false, true, false, true, true, true, true, true, true, true]) (qft_ x0 x1 x2 x3 x9 x10 x11 st) (qu_ x0 x1 x2 x3 x9 x10 x11 r) :=
 CG.iter (b := qq_ P 13 [false, false, false, true, true, false, false, true, true, false, false, true, false, true, true, true, true, true, true, true]) (by kernel_rfl) (body := qia_ n x0 x1 x2 x3 x9 x10 x11) (S := qft_ x0 x1 x2 x3 x9 x10 x11) (X := qu_ x0 x1 x2 x3 x9 x10 x11)
  (fun s s' h => by
  obtain ⟨x4, x5, x6, x7, x8⟩ := s
  unfold qia_ at h
  dsimp only at h
  cases x4 with
  | nil =>
   dsimp only at h
   by_cases hy1 : x8 < (x3.length : Int)
   ·rw [if_pos hy1] at h
    by_cases hy2 : (0 : Int) < x0
    ·rw [if_pos hy2] at h
     obtain ⟨hy3, h⟩ := gd h
     obtain ⟨y4_, hy4, h⟩ := oB h
     obtain ⟨hy5, h⟩ := gd h
     obtain ⟨y6_, hy6, h⟩ := oB h
     obtain ⟨y7_, hy7, h⟩ := oB h
     by_cases hy8 : y7_ = true
     ·rw [if_pos hy8] at h
      obtain rfl := Sum.inl.inj (oI h); exact q_mRq1_2_0 n x0 x1 x2 x3 x5 x6 x7 x8 x9 x10 x11 hy1 hy2 hy3 y4_ hy4 hy5 y6_ hy6 y7_ hy7 hy8
     ·rw [if_neg hy8] at h
      obtain rfl := Sum.inl.inj (oI h); exact q_mRq1_2_1 n x0 x1 x2 x3 x5 x6 x7 x8 x9 x10 x11 hy1 hy2 hy3 y4_ hy4 hy5 y6_ hy6 y7_ hy7 hy8
    ·rw [if_neg hy2] at h
     cases h
   ·rw [if_neg hy1] at h
    cases h
  | cons x4a x4t =>
   dsimp only at h
   by_cases hy1 : x8 < (x3.length : Int)
   ·rw [if_pos hy1] at h
    by_cases hy2 : ((x5 : Nat) : Int) < x0
    ·rw [if_pos hy2] at h
     obtain ⟨hy3, h⟩ := gd h
     obtain ⟨y4_, hy4, h⟩ := oB h
     obtain ⟨hy5, h⟩ := gd h
     obtain ⟨y6_, hy6, h⟩ := oB h
     obtain ⟨y7_, hy7, h⟩ := oB h
     by_cases hy8 : y7_ = true
     ·rw [if_pos hy8] at h
      obtain ⟨hy9, h⟩ := gd h
      obtain ⟨hy10, h⟩ := gd h
      obtain rfl := Sum.inl.inj (oI h); exact q_mRq1_2_4 n x0 x1 x2 x3 x4a x4t x5 x6 x7 x8 x9 x10 x11 hy1 hy2 hy3 y4_ hy4 hy5 y6_ hy6 y7_ hy7 hy8 hy9 hy10
     ·rw [if_neg hy8] at h
      obtain rfl := Sum.inl.inj (oI h); exact q_mRq1_2_5 n x0 x1 x2 x3 x4a x4t x5 x6 x7 x8 x9 x10 x11 hy1 hy2 hy3 y4_ hy4 hy5 y6_ hy6 y7_ hy7 hy8
    ·rw [if_neg hy2] at h
     cases h
   ·rw [if_neg hy1] at h
    cases h)
  (fun s r h => by
  obtain ⟨x4, x5, x6, x7, x8⟩ := s
  unfold qia_ at h
  dsimp only at h
  cases x4 with
  | nil =>
   dsimp only at h
   by_cases hy1 : x8 < (x3.length : Int)
   ·rw [if_pos hy1] at h
    by_cases hy2 : (0 : Int) < x0
    ·rw [if_pos hy2] at h
     obtain ⟨hy3, h⟩ := gd h
     obtain ⟨y4_, hy4, h⟩ := oB h
     obtain ⟨hy5, h⟩ := gd h
     obtain ⟨y6_, hy6, h⟩ := oB h
     obtain ⟨y7_, hy7, h⟩ := oB h
     by_cases hy8 : y7_ = true
     ·rw [if_pos hy8] at h
      cases h
     ·rw [if_neg hy8] at h
      cases h
    ·rw [if_neg hy2] at h
     obtain rfl := Sum.inr.inj (oI h); exact q_mRq1_2_2 n x0 x1 x2 x3 x5 x6 x7 x8 x9 x10 x11 hy1 hy2
   ·rw [if_neg hy1] at h
    obtain rfl := Sum.inr.inj (oI h); exact q_mRq1_2_3 n x0 x1 x2 x3 x5 x6 x7 x8 x9 x10 x11 hy1
  | cons x4a x4t =>
   dsimp only at h
   by_cases hy1 : x8 < (x3.length : Int)
   ·rw [if_pos hy1] at h
    by_cases hy2 : ((x5 : Nat) : Int) < x0
    ·rw [if_pos hy2] at h
     obtain ⟨hy3, h⟩ := gd h
     obtain ⟨y4_, hy4, h⟩ := oB h
     obtain ⟨hy5, h⟩ := gd h
     obtain ⟨y6_, hy6, h⟩ := oB h
     obtain ⟨y7_, hy7, h⟩ := oB h
     by_cases hy8 : y7_ = true
     ·rw [if_pos hy8] at h
      obtain ⟨hy9, h⟩ := gd h
      obtain ⟨hy10, h⟩ := gd h
      cases h
     ·rw [if_neg hy8] at h
      cases h
    ·rw [if_neg hy2] at h
     obtain rfl := Sum.inr.inj (oI h); exact q_mRq1_2_6 n x0 x1 x2 x3 x4a x4t x5 x6 x7 x8 x9 x10 x11 hy1 hy2
   ·rw [if_neg hy1] at h
    obtain rfl := Sum.inr.inj (oI h); exact q_mRq1_2_7 n x0 x1 x2 x3 x4a x4t x5 x6 x7 x8 x9 x10 x11 hy1)
  (fun r => by intro hx; cases hx) h
def qcc_ (x0 : Int) (x2 : Nat) (x9 : Int) (st : List Int × List Int × List Int × Nat × Nat × Int × Int × Int) : XSt := match st with
 | (x1, x3, x4, x5, x6, x7, x8, x10) => (sT 86 [(1, (i6 x0)), (2, (pN 0 0)), (5, (sN 1 0 x2 x2)), (6, (slN x3 2)), (7, (Value.func (.func 31) #[] #[(pN 0 0)])), (8, (slP x4 3 x5 1 (x6 * 1))), (9, (i6 x7)), (10, (i6 x8)), (23, (slN x3 2)), (24, (i6 x9)), (25, (i6 x10))], [], ⟨sB [(0, (some (.cells (layT [(sW 0 0 (Args.A).length Args.cA)]) 22))), (1, (some (.cells (layT (iv x1)) 3))), (2, (nblk x3 3)), (3, (nblk x4 3))], 4, 0⟩)
def qcj_ (x0 : Int) (x2 : Nat) (x9 : Int) (r : List Int) : Ex × XSt := match r with
 | z0 => (.exit 0, (sT 86 [(5, (sN 0 0 x2 x2))], [], ⟨sB [(0, (some (.cells (layT (iv z0)) 3)))], 1, 0⟩))
abbrev qcd_ (rnd : Option Nat) (x0 : Int) (x2 : Nat) (x9 : Int) (st : List Int × List Int × List Int × Nat × Nat × Int × Int × Int) (c : Ex × XSt) : Prop := CG P rnd (fnN P 13) 0 (qq_ P 13 [false, false, true, false, true, true, true, true, true, true, true]) (qcc_ x0 x2 x9 st) c
abbrev U_mRq1_1 (rd : Option Nat) (x0 : Int) (x2 : Nat) (x9 : Int) (st : List Int × List Int × List Int × Nat × Nat × Int × Int × Int) (r : List Int) : Prop := CG P rd (fnN P 13) 0 (qq_ P 13 [false, true, false, true, true, true, true, true, true, true]) (qcc_ x0 x2 x9 st) (qcj_ x0 x2 x9 r)
def qet_ (n : Nat) (x0 : Int) (x2 : Nat) (x9 : Int) (st : List Int × List Int × List Int × Nat × Nat × Int × Int × Int) : Option ((List Int × List Int × List Int × Nat × Nat × Int × Int × Int) ⊕ (List Int)) := match st with
 | (x1, x3, x4, x5, x6, x7, x8, x10) =>
  match x3 with
  | [] =>
   match x4 with
   | [] =>
    if x10 < x9 then
     none
    else
     some (.inr x1)
   | x4a :: x4t =>
    if x10 < x9 then
     none
    else
     some (.inr x1)
  | x3a :: x3t =>
   match x4 with
   | [] =>
    if x10 < x9 then
     if 0 ≤ x10 ∧ x10 < ((((x3a :: x3t)).length : Nat) : Int) then
      ((some (((x3a :: x3t)).getD (x10).toNat 0))).bind fun y3_ =>
      if x8 ≤ x10 then
       (qbm_ n x0 x1 x2 (x3a :: x3t) y3_ x9 x10 (([] : List Int), 0, 0, x7, (w64 (x10 + 1)))).bind fun t => match t with
       | (y5_0, y5_1, y5_2, y5_3, y5_4) =>
        match y5_0 with
        | [] =>
         if 0 ≤ y3_ ∧ y3_ < (Args.A.length : Int) then
          ((some ((Args.A).getD (y3_).toNat (0, 0, 0, 0, 0, 0, nl0, 0)))).bind fun y7_ =>
          if 0 ≤ y3_ ∧ y3_ < ((x2 : Nat) : Int) then
           if (y3_).toNat < (x1).length then
            some (.inl (((x1).set (y3_).toNat (maxB y5_3 (y7_.2.2.2.2.2.1))), (x3a :: x3t), ([] : List Int), 0, 0, (maxB y5_3 (y7_.2.2.2.2.2.1)), y5_4, (w64 (x10 + 1))))
           else none
          else none
         else none
        | y5_0a :: y5_0t =>
         if 0 ≤ y3_ ∧ y3_ < (Args.A.length : Int) then
          ((some ((Args.A).getD (y3_).toNat (0, 0, 0, 0, 0, 0, nl0, 0)))).bind fun y7_ =>
          if 0 ≤ y3_ ∧ y3_ < ((x2 : Nat) : Int) then
           if (y3_).toNat < (x1).length then
            some (.inl (((x1).set (y3_).toNat (maxB y5_3 (y7_.2.2.2.2.2.1))), (x3a :: x3t), (y5_0a :: y5_0t), y5_1, y5_2, (maxB y5_3 (y7_.2.2.2.2.2.1)), y5_4, (w64 (x10 + 1))))
           else none
          else none
         else none
      else
       (qce_ n y3_).bind fun y5_ =>
       if y5_ = true then
        none
       else
        (qbm_ n x0 x1 x2 (x3a :: x3t) y3_ x9 x10 (([] : List Int), 0, 0, x7, x8)).bind fun t => match t with
        | (y7_0, y7_1, y7_2, y7_3, y7_4) =>
         match y7_0 with
         | [] =>
          if 0 ≤ y3_ ∧ y3_ < (Args.A.length : Int) then
           ((some ((Args.A).getD (y3_).toNat (0, 0, 0, 0, 0, 0, nl0, 0)))).bind fun y9_ =>
           if 0 ≤ y3_ ∧ y3_ < ((x2 : Nat) : Int) then
            if (y3_).toNat < (x1).length then
             some (.inl (((x1).set (y3_).toNat (maxB y7_3 (y9_.2.2.2.2.2.1))), (x3a :: x3t), ([] : List Int), 0, 0, (maxB y7_3 (y9_.2.2.2.2.2.1)), y7_4, (w64 (x10 + 1))))
            else none
           else none
          else none
         | y7_0a :: y7_0t =>
          if 0 ≤ y3_ ∧ y3_ < (Args.A.length : Int) then
           ((some ((Args.A).getD (y3_).toNat (0, 0, 0, 0, 0, 0, nl0, 0)))).bind fun y9_ =>
           if 0 ≤ y3_ ∧ y3_ < ((x2 : Nat) : Int) then
            if (y3_).toNat < (x1).length then
             some (.inl (((x1).set (y3_).toNat (maxB y7_3 (y9_.2.2.2.2.2.1))), (x3a :: x3t), (y7_0a :: y7_0t), y7_1, y7_2, (maxB y7_3 (y9_.2.2.2.2.2.1)), y7_4, (w64 (x10 + 1))))
            else none
           else none
          else none
     else none
    else
     some (.inr x1)
   | x4a :: x4t =>
    if x10 < x9 then
     if 0 ≤ x10 ∧ x10 < ((((x3a :: x3t)).length : Nat) : Int) then
      ((some (((x3a :: x3t)).getD (x10).toNat 0))).bind fun y3_ =>
      if x8 ≤ x10 then
       (qbm_ n x0 x1 x2 (x3a :: x3t) y3_ x9 x10 ((x4a :: x4t), x5, x6, x7, (w64 (x10 + 1)))).bind fun t => match t with
       | (y5_0, y5_1, y5_2, y5_3, y5_4) =>
        match y5_0 with
        | [] =>
         if 0 ≤ y3_ ∧ y3_ < (Args.A.length : Int) then
          ((some ((Args.A).getD (y3_).toNat (0, 0, 0, 0, 0, 0, nl0, 0)))).bind fun y7_ =>
          if 0 ≤ y3_ ∧ y3_ < ((x2 : Nat) : Int) then
           if (y3_).toNat < (x1).length then
            some (.inl (((x1).set (y3_).toNat (maxB y5_3 (y7_.2.2.2.2.2.1))), (x3a :: x3t), ([] : List Int), 0, 0, (maxB y5_3 (y7_.2.2.2.2.2.1)), y5_4, (w64 (x10 + 1))))
           else none
          else none
         else none
        | y5_0a :: y5_0t =>
         if 0 ≤ y3_ ∧ y3_ < (Args.A.length : Int) then
          ((some ((Args.A).getD (y3_).toNat (0, 0, 0, 0, 0, 0, nl0, 0)))).bind fun y7_ =>
          if 0 ≤ y3_ ∧ y3_ < ((x2 : Nat) : Int) then
           if (y3_).toNat < (x1).length then
            some (.inl (((x1).set (y3_).toNat (maxB y5_3 (y7_.2.2.2.2.2.1))), (x3a :: x3t), (y5_0a :: y5_0t), y5_1, y5_2, (maxB y5_3 (y7_.2.2.2.2.2.1)), y5_4, (w64 (x10 + 1))))
           else none
          else none
         else none
      else
       (qce_ n y3_).bind fun y5_ =>
       if y5_ = true then
        if 0 ≤ (1 : Int) ∧ (1 : Int) ≤ ((x5 : Nat) : Int) then
         (qbm_ n x0 x1 x2 (x3a :: x3t) y3_ x9 x10 ((x4a :: x4t), (x5 - ((1 : Int)).toNat), (x6 + ((1 : Int)).toNat), x7, x8)).bind fun t => match t with
         | (y8_0, y8_1, y8_2, y8_3, y8_4) =>
          match y8_0 with
          | [] =>
           if 0 ≤ y3_ ∧ y3_ < (Args.A.length : Int) then
            ((some ((Args.A).getD (y3_).toNat (0, 0, 0, 0, 0, 0, nl0, 0)))).bind fun y10_ =>
            if 0 ≤ y3_ ∧ y3_ < ((x2 : Nat) : Int) then
             if (y3_).toNat < (x1).length then
              some (.inl (((x1).set (y3_).toNat (maxB y8_3 (y10_.2.2.2.2.2.1))), (x3a :: x3t), ([] : List Int), 0, 0, (maxB y8_3 (y10_.2.2.2.2.2.1)), y8_4, (w64 (x10 + 1))))
             else none
            else none
           else none
          | y8_0a :: y8_0t =>
           if 0 ≤ y3_ ∧ y3_ < (Args.A.length : Int) then
            ((some ((Args.A).getD (y3_).toNat (0, 0, 0, 0, 0, 0, nl0, 0)))).bind fun y10_ =>
            if 0 ≤ y3_ ∧ y3_ < ((x2 : Nat) : Int) then
             if (y3_).toNat < (x1).length then
              some (.inl (((x1).set (y3_).toNat (maxB y8_3 (y10_.2.2.2.2.2.1))), (x3a :: x3t), (y8_0a :: y8_0t), y8_1, y8_2, (maxB y8_3 (y10_.2.2.2.2.2.1)), y8_4, (w64 (x10 + 1))))
             else none
            else none
           else none
        else none
       else
        (qbm_ n x0 x1 x2 (x3a :: x3t) y3_ x9 x10 ((x4a :: x4t), x5, x6, x7, x8)).bind fun t => match t with
        | (y7_0, y7_1, y7_2, y7_3, y7_4) =>
         match y7_0 with
         | [] =>
          if 0 ≤ y3_ ∧ y3_ < (Args.A.length : Int) then
           ((some ((Args.A).getD (y3_).toNat (0, 0, 0, 0, 0, 0, nl0, 0)))).bind fun y9_ =>
           if 0 ≤ y3_ ∧ y3_ < ((x2 : Nat) : Int) then
            if (y3_).toNat < (x1).length then
             some (.inl (((x1).set (y3_).toNat (maxB y7_3 (y9_.2.2.2.2.2.1))), (x3a :: x3t), ([] : List Int), 0, 0, (maxB y7_3 (y9_.2.2.2.2.2.1)), y7_4, (w64 (x10 + 1))))
            else none
           else none
          else none
         | y7_0a :: y7_0t =>
          if 0 ≤ y3_ ∧ y3_ < (Args.A.length : Int) then
           ((some ((Args.A).getD (y3_).toNat (0, 0, 0, 0, 0, 0, nl0, 0)))).bind fun y9_ =>
           if 0 ≤ y3_ ∧ y3_ < ((x2 : Nat) : Int) then
            if (y3_).toNat < (x1).length then
             some (.inl (((x1).set (y3_).toNat (maxB y7_3 (y9_.2.2.2.2.2.1))), (x3a :: x3t), (y7_0a :: y7_0t), y7_1, y7_2, (maxB y7_3 (y9_.2.2.2.2.2.1)), y7_4, (w64 (x10 + 1))))
            else none
           else none
          else none
     else none
    else
     some (.inr x1)
def qib_ (n : Nat) (x0 : Int) (x2 : Nat) (x9 : Int) (st : List Int × List Int × List Int × Nat × Nat × Int × Int × Int) : Option (List Int) := iterM (qet_ n x0 x2 x9) n st
theorem q_mRq1_1_0 (n : Nat) {rnd : Option Nat} (x0 : Int) (x1 : List Int) (x2 x5 x6 : Nat) (x7 x8 x9 x10 : Int) (hy1 : ¬ (x10 < x9)) : qcd_ rnd x0 x2 x9 (x1, ([] : List Int), ([] : List Int), x5, x6, x7, x8, x10) (qcj_ x0 x2 x9 x1) :=
 runC2 hm (L := lT []) ⟨[5], [(0, 1, true)], 1, 0⟩ (zz 1 (xdF hy1) <|
ww (qb_ x1 3) <|
ee) (by kernel_rfl)
theorem q_mRq1_1_1 (n : Nat) {rnd : Option Nat} (x0 : Int) (x1 : List Int) (x2 : Nat) (x4a : Int) (x4t : List (Int)) (x5 x6 : Nat) (x7 x8 x9 x10 : Int) (hy1 : ¬ (x10 < x9)) : qcd_ rnd x0 x2 x9 (x1, ([] : List Int), (x4a :: x4t), x5, x6, x7, x8, x10) (qcj_ x0 x2 x9 x1) :=
 runC2 hm (L := lT []) ⟨[5], [(0, 1, true)], 1, 0⟩ (zz 1 (xdF hy1) <|
ww (qb_ x1 3) <|
ee) (by kernel_rfl)
theorem q_mRq1_1_2 (n : Nat) {rnd : Option Nat} (x0 : Int) (x1 : List Int) (x2 : Nat) (x3a : Int) (x3t : List (Int)) (x5 x6 : Nat) (x7 x8 x9 x10 : Int) (hy1 : x10 < x9) (hy2 : 0 ≤ x10 ∧ x10 < ((((x3a :: x3t)).length : Nat) : Int)) (y3_ : Int) (hy3 : (some (((x3a :: x3t)).getD (x10).toNat 0)) = some y3_) (hy4 : x8 ≤ x10) (y5_1 y5_2 : Nat) (y5_3 y5_4 : Int) (hy5 : qbm_ n x0 x1 x2 (x3a :: x3t) y3_ x9 x10 (([] : List Int), 0, 0, x7, (w64 (x10 + 1))) = some ([], y5_1, y5_2, y5_3, y5_4)) (hy6 : 0 ≤ y3_ ∧ y3_ < (Args.A.length : Int)) (y7_ : R8) (hy7 : (some ((Args.A).getD (y3_).toNat (0, 0, 0, 0, 0, 0, nl0, 0))) = some y7_) (hy8 : 0 ≤ y3_ ∧ y3_ < ((x2 : Nat) : Int)) (hy9 : (y3_).toNat < (x1).length) : qcd_ rnd x0 x2 x9 (x1, (x3a :: x3t), ([] : List Int), x5, x6, x7, x8, x10) (.normal, qcc_ x0 x2 x9 (((x1).set (y3_).toNat (maxB y5_3 (y7_.2.2.2.2.2.1))), (x3a :: x3t), ([] : List Int), 0, 0, (maxB y5_3 (y7_.2.2.2.2.2.1)), y5_4, (w64 (x10 + 1)))) :=
 runC2 hm (L := lT [(23, ⟨⟨[1, 2, 5, 6, 7, 8, 9, 10, 12, 23, 24, 25], [(0, 0, false), (1, 1, true), (2, 2, true)], 4, 0⟩, (qu_ x0 x1 x2 (x3a :: x3t) y3_ x9 x10 (([] : List Int), y5_1, y5_2, y5_3, y5_4)).1, (qu_ x0 x1 x2 (x3a :: x3t) y3_ x9 x10 (([] : List Int), y5_1, y5_2, y5_3, y5_4)).2⟩)]) ⟨[1, 2, 5, 6, 7, 8, 9, 10, 23, 24, 25], [(0, 0, false), (1, 1, true), (2, 2, true)], 4, 0⟩ (zz 1 (xdT hy1) <|
zz 8 (xk17 2 U1 hy2) <|
zz 9 (xivN hy3 (qc_ hy2)) <|
zz 16 (xdT hy4) <|
ww (p := qd0_ rnd x0 x1 x2 (x3a :: x3t) y3_ x9 x10 (([] : List Int), 0, 0, x7, (w64 (x10 + 1))) (([] : List Int), y5_1, y5_2, y5_3, y5_4)) (qbj_ n x0 x1 x2 (x3a :: x3t) y3_ x9 x10 (([] : List Int), 0, 0, x7, (w64 (x10 + 1))) (([] : List Int), y5_1, y5_2, y5_3, y5_4) hy5) <|
ww (qb_ x1 3) <|
ww (qb_ (x3a :: x3t) 3) <|
zz 28 (xk1 0 Args.cA hy6) <|
zz 29 (fk18 ((y3_).toNat * 8)) <|
zz 30 (lk19 hy7 (qc_ hy6)) <|
zz 36 (xk17 1 x2 hy8) <|
yy 37 (.sto (layT (iv ((x1).set (y3_).toNat (maxB y5_3 (y7_.2.2.2.2.2.1)))))) <|
ww (p := ∃ old, rdT (layT (iv x1)) 1 (y3_).toNat = some old) (Exists.elim (iv_st (x1) ((y3_).toNat) ((maxB y5_3 (y7_.2.2.2.2.2.1))) hy9) fun o h => ⟨o, h.1⟩) <|
ww (p := layL [(i6 (maxB y5_3 (y7_.2.2.2.2.2.1)))] (y3_).toNat (layT (iv x1)) = layT (iv ((x1).set (y3_).toNat (maxB y5_3 (y7_.2.2.2.2.2.1))))) (Exists.elim (iv_st (x1) ((y3_).toNat) ((maxB y5_3 (y7_.2.2.2.2.2.1))) hy9) fun o h => h.2) <|
ww (qb_ ((x1).set (y3_).toNat (maxB y5_3 (y7_.2.2.2.2.2.1))) 3) <|
ww (qb_ (x3a :: x3t) 3) <|
ee) (by kernel_rfl)
theorem q_mRq1_1_3 (n : Nat) {rnd : Option Nat} (x0 : Int) (x1 : List Int) (x2 : Nat) (x3a : Int) (x3t : List (Int)) (x5 x6 : Nat) (x7 x8 x9 x10 : Int) (hy1 : x10 < x9) (hy2 : 0 ≤ x10 ∧ x10 < ((((x3a :: x3t)).length : Nat) : Int)) (y3_ : Int) (hy3 : (some (((x3a :: x3t)).getD (x10).toNat 0)) = some y3_) (hy4 : x8 ≤ x10) (y5_0a : Int) (y5_0t : List (Int)) (y5_1 y5_2 : Nat) (y5_3 y5_4 : Int) (hy5 : qbm_ n x0 x1 x2 (x3a :: x3t) y3_ x9 x10 (([] : List Int), 0, 0, x7, (w64 (x10 + 1))) = some ((y5_0a :: y5_0t), y5_1, y5_2, y5_3, y5_4)) (hy6 : 0 ≤ y3_ ∧ y3_ < (Args.A.length : Int)) (y7_ : R8) (hy7 : (some ((Args.A).getD (y3_).toNat (0, 0, 0, 0, 0, 0, nl0, 0))) = some y7_) (hy8 : 0 ≤ y3_ ∧ y3_ < ((x2 : Nat) : Int)) (hy9 : (y3_).toNat < (x1).length) : qcd_ rnd x0 x2 x9 (x1, (x3a :: x3t), ([] : List Int), x5, x6, x7, x8, x10) (.normal, qcc_ x0 x2 x9 (((x1).set (y3_).toNat (maxB y5_3 (y7_.2.2.2.2.2.1))), (x3a :: x3t), (y5_0a :: y5_0t), y5_1, y5_2, (maxB y5_3 (y7_.2.2.2.2.2.1)), y5_4, (w64 (x10 + 1)))) :=
 runC2 hm (L := lT [(23, ⟨⟨[1, 2, 5, 6, 7, 8, 9, 10, 12, 23, 24, 25], [(0, 0, false), (1, 1, true), (2, 2, true)], 4, 0⟩, (qu_ x0 x1 x2 (x3a :: x3t) y3_ x9 x10 ((y5_0a :: y5_0t), y5_1, y5_2, y5_3, y5_4)).1, (qu_ x0 x1 x2 (x3a :: x3t) y3_ x9 x10 ((y5_0a :: y5_0t), y5_1, y5_2, y5_3, y5_4)).2⟩)]) ⟨[1, 2, 5, 6, 7, 8, 9, 10, 23, 24, 25], [(0, 0, false), (1, 1, true), (2, 2, true), (3, 3, true)], 4, 0⟩ (zz 1 (xdT hy1) <|
zz 8 (xk17 2 U1 hy2) <|
zz 9 (xivN hy3 (qc_ hy2)) <|
zz 16 (xdT hy4) <|
ww (p := qd0_ rnd x0 x1 x2 (x3a :: x3t) y3_ x9 x10 (([] : List Int), 0, 0, x7, (w64 (x10 + 1))) ((y5_0a :: y5_0t), y5_1, y5_2, y5_3, y5_4)) (qbj_ n x0 x1 x2 (x3a :: x3t) y3_ x9 x10 (([] : List Int), 0, 0, x7, (w64 (x10 + 1))) ((y5_0a :: y5_0t), y5_1, y5_2, y5_3, y5_4) hy5) <|
ww (qb_ x1 3) <|
ww (qb_ (x3a :: x3t) 3) <|
zz 28 (xk1 0 Args.cA hy6) <|
zz 29 (fk18 ((y3_).toNat * 8)) <|
zz 30 (lk19 hy7 (qc_ hy6)) <|
zz 36 (xk17 1 x2 hy8) <|
yy 37 (.sto (layT (iv ((x1).set (y3_).toNat (maxB y5_3 (y7_.2.2.2.2.2.1)))))) <|
ww (p := ∃ old, rdT (layT (iv x1)) 1 (y3_).toNat = some old) (Exists.elim (iv_st (x1) ((y3_).toNat) ((maxB y5_3 (y7_.2.2.2.2.2.1))) hy9) fun o h => ⟨o, h.1⟩) <|
ww (p := layL [(i6 (maxB y5_3 (y7_.2.2.2.2.2.1)))] (y3_).toNat (layT (iv x1)) = layT (iv ((x1).set (y3_).toNat (maxB y5_3 (y7_.2.2.2.2.2.1))))) (Exists.elim (iv_st (x1) ((y3_).toNat) ((maxB y5_3 (y7_.2.2.2.2.2.1))) hy9) fun o h => h.2) <|
ww (qb_ ((x1).set (y3_).toNat (maxB y5_3 (y7_.2.2.2.2.2.1))) 3) <|
ww (qb_ (x3a :: x3t) 3) <|
ww (qb_ (y5_0a :: y5_0t) 3) <|
ee) (by kernel_rfl)
theorem q_mRq1_1_4 (n : Nat) {rnd : Option Nat} (x0 : Int) (x1 : List Int) (x2 : Nat) (x3a : Int) (x3t : List (Int)) (x5 x6 : Nat) (x7 x8 x9 x10 : Int) (hy1 : x10 < x9) (hy2 : 0 ≤ x10 ∧ x10 < ((((x3a :: x3t)).length : Nat) : Int)) (y3_ : Int) (hy3 : (some (((x3a :: x3t)).getD (x10).toNat 0)) = some y3_) (hy4 : ¬ (x8 ≤ x10)) (y5_ : Bool) (hy5 : qce_ n y3_ = some y5_) (hy6 : ¬ (y5_ = true)) (y7_1 y7_2 : Nat) (y7_3 y7_4 : Int) (hy7 : qbm_ n x0 x1 x2 (x3a :: x3t) y3_ x9 x10 (([] : List Int), 0, 0, x7, x8) = some ([], y7_1, y7_2, y7_3, y7_4)) (hy8 : 0 ≤ y3_ ∧ y3_ < (Args.A.length : Int)) (y9_ : R8) (hy9 : (some ((Args.A).getD (y3_).toNat (0, 0, 0, 0, 0, 0, nl0, 0))) = some y9_) (hy10 : 0 ≤ y3_ ∧ y3_ < ((x2 : Nat) : Int)) (hy11 : (y3_).toNat < (x1).length) : qcd_ rnd x0 x2 x9 (x1, (x3a :: x3t), ([] : List Int), x5, x6, x7, x8, x10) (.normal, qcc_ x0 x2 x9 (((x1).set (y3_).toNat (maxB y7_3 (y9_.2.2.2.2.2.1))), (x3a :: x3t), ([] : List Int), 0, 0, (maxB y7_3 (y9_.2.2.2.2.2.1)), y7_4, (w64 (x10 + 1)))) :=
 runC2 hm (L := lT [(25, ⟨⟨[1, 2, 5, 6, 7, 8, 9, 10, 12, 23, 24, 25], [(0, 0, false), (1, 1, true), (2, 2, true)], 4, 0⟩, (qu_ x0 x1 x2 (x3a :: x3t) y3_ x9 x10 (([] : List Int), y7_1, y7_2, y7_3, y7_4)).1, (qu_ x0 x1 x2 (x3a :: x3t) y3_ x9 x10 (([] : List Int), y7_1, y7_2, y7_3, y7_4)).2⟩)]) ⟨[1, 2, 5, 6, 7, 8, 9, 10, 23, 24, 25], [(0, 0, false), (1, 1, true), (2, 2, true)], 4, 0⟩ (zz 1 (xdT hy1) <|
zz 8 (xk17 2 U1 hy2) <|
zz 9 (xivN hy3 (qc_ hy2)) <|
zz 16 (xdF hy4) <|
yy 21 (.call (qgj_ y3_ y5_ [(0, 0, false)] [])) <|
ww (qbv_ n y3_ y5_ hy5) <|
zz 22 (xbF hy6) <|
ww (p := qd0_ rnd x0 x1 x2 (x3a :: x3t) y3_ x9 x10 (([] : List Int), 0, 0, x7, x8) (([] : List Int), y7_1, y7_2, y7_3, y7_4)) (qbj_ n x0 x1 x2 (x3a :: x3t) y3_ x9 x10 (([] : List Int), 0, 0, x7, x8) (([] : List Int), y7_1, y7_2, y7_3, y7_4) hy7) <|
ww (qb_ x1 3) <|
ww (qb_ (x3a :: x3t) 3) <|
zz 30 (xk1 0 Args.cA hy8) <|
zz 31 (fk18 ((y3_).toNat * 8)) <|
zz 32 (lk19 hy9 (qc_ hy8)) <|
zz 38 (xk17 1 x2 hy10) <|
yy 39 (.sto (layT (iv ((x1).set (y3_).toNat (maxB y7_3 (y9_.2.2.2.2.2.1)))))) <|
ww (p := ∃ old, rdT (layT (iv x1)) 1 (y3_).toNat = some old) (Exists.elim (iv_st (x1) ((y3_).toNat) ((maxB y7_3 (y9_.2.2.2.2.2.1))) hy11) fun o h => ⟨o, h.1⟩) <|
ww (p := layL [(i6 (maxB y7_3 (y9_.2.2.2.2.2.1)))] (y3_).toNat (layT (iv x1)) = layT (iv ((x1).set (y3_).toNat (maxB y7_3 (y9_.2.2.2.2.2.1))))) (Exists.elim (iv_st (x1) ((y3_).toNat) ((maxB y7_3 (y9_.2.2.2.2.2.1))) hy11) fun o h => h.2) <|
ww (qb_ ((x1).set (y3_).toNat (maxB y7_3 (y9_.2.2.2.2.2.1))) 3) <|
ww (qb_ (x3a :: x3t) 3) <|
ee) (by kernel_rfl)
theorem q_mRq1_1_5 (n : Nat) {rnd : Option Nat} (x0 : Int) (x1 : List Int) (x2 : Nat) (x3a : Int) (x3t : List (Int)) (x5 x6 : Nat) (x7 x8 x9 x10 : Int) (hy1 : x10 < x9) (hy2 : 0 ≤ x10 ∧ x10 < ((((x3a :: x3t)).length : Nat) : Int)) (y3_ : Int) (hy3 : (some (((x3a :: x3t)).getD (x10).toNat 0)) = some y3_) (hy4 : ¬ (x8 ≤ x10)) (y5_ : Bool) (hy5 : qce_ n y3_ = some y5_) (hy6 : ¬ (y5_ = true)) (y7_0a : Int) (y7_0t : List (Int)) (y7_1 y7_2 : Nat) (y7_3 y7_4 : Int) (hy7 : qbm_ n x0 x1 x2 (x3a :: x3t) y3_ x9 x10 (([] : List Int), 0, 0, x7, x8) = some ((y7_0a :: y7_0t), y7_1, y7_2, y7_3, y7_4)) (hy8 : 0 ≤ y3_ ∧ y3_ < (Args.A.length : Int)) (y9_ : R8) (hy9 : (some ((Args.A).getD (y3_).toNat (0, 0, 0, 0, 0, 0, nl0, 0))) = some y9_) (hy10 : 0 ≤ y3_ ∧ y3_ < ((x2 : Nat) : Int)) (hy11 : (y3_).toNat < (x1).length) : qcd_ rnd x0 x2 x9 (x1, (x3a :: x3t), ([] : List Int), x5, x6, x7, x8, x10) (.normal, qcc_ x0 x2 x9 (((x1).set (y3_).toNat (maxB y7_3 (y9_.2.2.2.2.2.1))), (x3a :: x3t), (y7_0a :: y7_0t), y7_1, y7_2, (maxB y7_3 (y9_.2.2.2.2.2.1)), y7_4, (w64 (x10 + 1)))) :=
 runC2 hm (L := lT [(25, ⟨⟨[1, 2, 5, 6, 7, 8, 9, 10, 12, 23, 24, 25], [(0, 0, false), (1, 1, true), (2, 2, true)], 4, 0⟩, (qu_ x0 x1 x2 (x3a :: x3t) y3_ x9 x10 ((y7_0a :: y7_0t), y7_1, y7_2, y7_3, y7_4)).1, (qu_ x0 x1 x2 (x3a :: x3t) y3_ x9 x10 ((y7_0a :: y7_0t), y7_1, y7_2, y7_3, y7_4)).2⟩)]) ⟨[1, 2, 5, 6, 7, 8, 9, 10, 23, 24, 25], [(0, 0, false), (1, 1, true), (2, 2, true), (3, 3, true)], 4, 0⟩ (zz 1 (xdT hy1) <|
zz 8 (xk17 2 U1 hy2) <|
zz 9 (xivN hy3 (qc_ hy2)) <|
zz 16 (xdF hy4) <|
yy 21 (.call (qgj_ y3_ y5_ [(0, 0, false)] [])) <|
ww (qbv_ n y3_ y5_ hy5) <|
zz 22 (xbF hy6) <|
ww (p := qd0_ rnd x0 x1 x2 (x3a :: x3t) y3_ x9 x10 (([] : List Int), 0, 0, x7, x8) ((y7_0a :: y7_0t), y7_1, y7_2, y7_3, y7_4)) (qbj_ n x0 x1 x2 (x3a :: x3t) y3_ x9 x10 (([] : List Int), 0, 0, x7, x8) ((y7_0a :: y7_0t), y7_1, y7_2, y7_3, y7_4) hy7) <|
ww (qb_ x1 3) <|
ww (qb_ (x3a :: x3t) 3) <|
zz 30 (xk1 0 Args.cA hy8) <|
zz 31 (fk18 ((y3_).toNat * 8)) <|
zz 32 (lk19 hy9 (qc_ hy8)) <|
zz 38 (xk17 1 x2 hy10) <|
yy 39 (.sto (layT (iv ((x1).set (y3_).toNat (maxB y7_3 (y9_.2.2.2.2.2.1)))))) <|
ww (p := ∃ old, rdT (layT (iv x1)) 1 (y3_).toNat = some old) (Exists.elim (iv_st (x1) ((y3_).toNat) ((maxB y7_3 (y9_.2.2.2.2.2.1))) hy11) fun o h => ⟨o, h.1⟩) <|
ww (p := layL [(i6 (maxB y7_3 (y9_.2.2.2.2.2.1)))] (y3_).toNat (layT (iv x1)) = layT (iv ((x1).set (y3_).toNat (maxB y7_3 (y9_.2.2.2.2.2.1))))) (Exists.elim (iv_st (x1) ((y3_).toNat) ((maxB y7_3 (y9_.2.2.2.2.2.1))) hy11) fun o h => h.2) <|
ww (qb_ ((x1).set (y3_).toNat (maxB y7_3 (y9_.2.2.2.2.2.1))) 3) <|
ww (qb_ (x3a :: x3t) 3) <|
ww (qb_ (y7_0a :: y7_0t) 3) <|
ee) (by kernel_rfl)
theorem q_mRq1_1_6 (n : Nat) {rnd : Option Nat} (x0 : Int) (x1 : List Int) (x2 : Nat) (x3a : Int) (x3t : List (Int)) (x5 x6 : Nat) (x7 x8 x9 x10 : Int) (hy1 : ¬ (x10 < x9)) : qcd_ rnd x0 x2 x9 (x1, (x3a :: x3t), ([] : List Int), x5, x6, x7, x8, x10) (qcj_ x0 x2 x9 x1) :=
 runC2 hm (L := lT []) ⟨[5], [(0, 1, true)], 1, 0⟩ (zz 1 (xdF hy1) <|
ww (qb_ x1 3) <|
ee) (by kernel_rfl)
theorem q_mRq1_1_7 (n : Nat) {rnd : Option Nat} (x0 : Int) (x1 : List Int) (x2 : Nat) (x3a : Int) (x3t : List (Int)) (x4a : Int) (x4t : List (Int)) (x5 x6 : Nat) (x7 x8 x9 x10 : Int) (hy1 : x10 < x9) (hy2 : 0 ≤ x10 ∧ x10 < ((((x3a :: x3t)).length : Nat) : Int)) (y3_ : Int) (hy3 : (some (((x3a :: x3t)).getD (x10).toNat 0)) = some y3_) (hy4 : x8 ≤ x10) (y5_1 y5_2 : Nat) (y5_3 y5_4 : Int) (hy5 : qbm_ n x0 x1 x2 (x3a :: x3t) y3_ x9 x10 ((x4a :: x4t), x5, x6, x7, (w64 (x10 + 1))) = some ([], y5_1, y5_2, y5_3, y5_4)) (hy6 : 0 ≤ y3_ ∧ y3_ < (Args.A.length : Int)) (y7_ : R8) (hy7 : (some ((Args.A).getD (y3_).toNat (0, 0, 0, 0, 0, 0, nl0, 0))) = some y7_) (hy8 : 0 ≤ y3_ ∧ y3_ < ((x2 : Nat) : Int)) (hy9 : (y3_).toNat < (x1).length) : qcd_ rnd x0 x2 x9 (x1, (x3a :: x3t), (x4a :: x4t), x5, x6, x7, x8, x10) (.normal, qcc_ x0 x2 x9 (((x1).set (y3_).toNat (maxB y5_3 (y7_.2.2.2.2.2.1))), (x3a :: x3t), ([] : List Int), 0, 0, (maxB y5_3 (y7_.2.2.2.2.2.1)), y5_4, (w64 (x10 + 1)))) :=
 runC2 hm (L := lT [(23, ⟨⟨[1, 2, 5, 6, 7, 8, 9, 10, 12, 23, 24, 25], [(0, 0, false), (1, 1, true), (2, 2, true), (3, 3, true)], 4, 0⟩, (qu_ x0 x1 x2 (x3a :: x3t) y3_ x9 x10 (([] : List Int), y5_1, y5_2, y5_3, y5_4)).1, (qu_ x0 x1 x2 (x3a :: x3t) y3_ x9 x10 (([] : List Int), y5_1, y5_2, y5_3, y5_4)).2⟩)]) ⟨[1, 2, 5, 6, 7, 8, 9, 10, 23, 24, 25], [(0, 0, false), (1, 1, true), (2, 2, true)], 4, 0⟩ (zz 1 (xdT hy1) <|
zz 8 (xk17 2 U1 hy2) <|
zz 9 (xivN hy3 (qc_ hy2)) <|
zz 16 (xdT hy4) <|
ww (p := qd0_ rnd x0 x1 x2 (x3a :: x3t) y3_ x9 x10 ((x4a :: x4t), x5, x6, x7, (w64 (x10 + 1))) (([] : List Int), y5_1, y5_2, y5_3, y5_4)) (qbj_ n x0 x1 x2 (x3a :: x3t) y3_ x9 x10 ((x4a :: x4t), x5, x6, x7, (w64 (x10 + 1))) (([] : List Int), y5_1, y5_2, y5_3, y5_4) hy5) <|
ww (qb_ x1 3) <|
ww (qb_ (x3a :: x3t) 3) <|
ww (qb_ (x4a :: x4t) 3) <|
zz 28 (xk1 0 Args.cA hy6) <|
zz 29 (fk18 ((y3_).toNat * 8)) <|
zz 30 (lk19 hy7 (qc_ hy6)) <|
zz 36 (xk17 1 x2 hy8) <|
yy 37 (.sto (layT (iv ((x1).set (y3_).toNat (maxB y5_3 (y7_.2.2.2.2.2.1)))))) <|
ww (p := ∃ old, rdT (layT (iv x1)) 1 (y3_).toNat = some old) (Exists.elim (iv_st (x1) ((y3_).toNat) ((maxB y5_3 (y7_.2.2.2.2.2.1))) hy9) fun o h => ⟨o, h.1⟩) <|
ww (p := layL [(i6 (maxB y5_3 (y7_.2.2.2.2.2.1)))] (y3_).toNat (layT (iv x1)) = layT (iv ((x1).set (y3_).toNat (maxB y5_3 (y7_.2.2.2.2.2.1))))) (Exists.elim (iv_st (x1) ((y3_).toNat) ((maxB y5_3 (y7_.2.2.2.2.2.1))) hy9) fun o h => h.2) <|
ww (qb_ ((x1).set (y3_).toNat (maxB y5_3 (y7_.2.2.2.2.2.1))) 3) <|
ww (qb_ (x3a :: x3t) 3) <|
ee) (by kernel_rfl)
theorem q_mRq1_1_8 (n : Nat) {rnd : Option Nat} (x0 : Int) (x1 : List Int) (x2 : Nat) (x3a : Int) (x3t : List (Int)) (x4a : Int) (x4t : List (Int)) (x5 x6 : Nat) (x7 x8 x9 x10 : Int) (hy1 : x10 < x9) (hy2 : 0 ≤ x10 ∧ x10 < ((((x3a :: x3t)).length : Nat) : Int)) (y3_ : Int) (hy3 : (some (((x3a :: x3t)).getD (x10).toNat 0)) = some y3_) (hy4 : x8 ≤ x10) (y5_0a : Int) (y5_0t : List (Int)) (y5_1 y5_2 : Nat) (y5_3 y5_4 : Int) (hy5 : qbm_ n x0 x1 x2 (x3a :: x3t) y3_ x9 x10 ((x4a :: x4t), x5, x6, x7, (w64 (x10 + 1))) = some ((y5_0a :: y5_0t), y5_1, y5_2, y5_3, y5_4)) (hy6 : 0 ≤ y3_ ∧ y3_ < (Args.A.length : Int)) (y7_ : R8) (hy7 : (some ((Args.A).getD (y3_).toNat (0, 0, 0, 0, 0, 0, nl0, 0))) = some y7_) (hy8 : 0 ≤ y3_ ∧ y3_ < ((x2 : Nat) : Int)) (hy9 : (y3_).toNat < (x1).length) : qcd_ rnd x0 x2 x9 (x1, (x3a :: x3t), (x4a :: x4t), x5, x6, x7, x8, x10) (.normal, qcc_ x0 x2 x9 (((x1).set (y3_).toNat (maxB y5_3 (y7_.2.2.2.2.2.1))), (x3a :: x3t), (y5_0a :: y5_0t), y5_1, y5_2, (maxB y5_3 (y7_.2.2.2.2.2.1)), y5_4, (w64 (x10 + 1)))) :=
 runC2 hm (L := lT [(23, ⟨⟨[1, 2, 5, 6, 7, 8, 9, 10, 12, 23, 24, 25], [(0, 0, false), (1, 1, true), (2, 2, true), (3, 3, true)], 4, 0⟩, (qu_ x0 x1 x2 (x3a :: x3t) y3_ x9 x10 ((y5_0a :: y5_0t), y5_1, y5_2, y5_3, y5_4)).1, (qu_ x0 x1 x2 (x3a :: x3t) y3_ x9 x10 ((y5_0a :: y5_0t), y5_1, y5_2, y5_3, y5_4)).2⟩)]) ⟨[1, 2, 5, 6, 7, 8, 9, 10, 23, 24, 25], [(0, 0, false), (1, 1, true), (2, 2, true), (3, 3, true)], 4, 0⟩ (zz 1 (xdT hy1) <|
zz 8 (xk17 2 U1 hy2) <|
zz 9 (xivN hy3 (qc_ hy2)) <|
zz 16 (xdT hy4) <|
ww (p := qd0_ rnd x0 x1 x2 (x3a :: x3t) y3_ x9 x10 ((x4a :: x4t), x5, x6, x7, (w64 (x10 + 1))) ((y5_0a :: y5_0t), y5_1, y5_2, y5_3, y5_4)) (qbj_ n x0 x1 x2 (x3a :: x3t) y3_ x9 x10 ((x4a :: x4t), x5, x6, x7, (w64 (x10 + 1))) ((y5_0a :: y5_0t), y5_1, y5_2, y5_3, y5_4) hy5) <|
ww (qb_ x1 3) <|
ww (qb_ (x3a :: x3t) 3) <|
ww (qb_ (x4a :: x4t) 3) <|
zz 28 (xk1 0 Args.cA hy6) <|
zz 29 (fk18 ((y3_).toNat * 8)) <|
zz 30 (lk19 hy7 (qc_ hy6)) <|
zz 36 (xk17 1 x2 hy8) <|
yy 37 (.sto (layT (iv ((x1).set (y3_).toNat (maxB y5_3 (y7_.2.2.2.2.2.1)))))) <|
ww (p := ∃ old, rdT (layT (iv x1)) 1 (y3_).toNat = some old) (Exists.elim (iv_st (x1) ((y3_).toNat) ((maxB y5_3 (y7_.2.2.2.2.2.1))) hy9) fun o h => ⟨o, h.1⟩) <|
ww (p := layL [(i6 (maxB y5_3 (y7_.2.2.2.2.2.1)))] (y3_).toNat (layT (iv x1)) = layT (iv ((x1).set (y3_).toNat (maxB y5_3 (y7_.2.2.2.2.2.1))))) (Exists.elim (iv_st (x1) ((y3_).toNat) ((maxB y5_3 (y7_.2.2.2.2.2.1))) hy9) fun o h => h.2) <|
ww (qb_ ((x1).set (y3_).toNat (maxB y5_3 (y7_.2.2.2.2.2.1))) 3) <|
ww (qb_ (x3a :: x3t) 3) <|
ww (qb_ (y5_0a :: y5_0t) 3) <|
ee) (by kernel_rfl)
theorem q_mRq1_1_9 (n : Nat) {rnd : Option Nat} (x0 : Int) (x1 : List Int) (x2 : Nat) (x3a : Int) (x3t : List (Int)) (x4a : Int) (x4t : List (Int)) (x5 x6 : Nat) (x7 x8 x9 x10 : Int) (hy1 : x10 < x9) (hy2 : 0 ≤ x10 ∧ x10 < ((((x3a :: x3t)).length : Nat) : Int)) (y3_ : Int) (hy3 : (some (((x3a :: x3t)).getD (x10).toNat 0)) = some y3_) (hy4 : ¬ (x8 ≤ x10)) (y5_ : Bool) (hy5 : qce_ n y3_ = some y5_) (hy6 : y5_ = true) (hy7 : 0 ≤ (1 : Int) ∧ (1 : Int) ≤ ((x5 : Nat) : Int)) (y8_1 y8_2 : Nat) (y8_3 y8_4 : Int) (hy8 : qbm_ n x0 x1 x2 (x3a :: x3t) y3_ x9 x10 ((x4a :: x4t), (x5 - ((1 : Int)).toNat), (x6 + ((1 : Int)).toNat), x7, x8) = some ([], y8_1, y8_2, y8_3, y8_4)) (hy9 : 0 ≤ y3_ ∧ y3_ < (Args.A.length : Int)) (y10_ : R8) (hy10 : (some ((Args.A).getD (y3_).toNat (0, 0, 0, 0, 0, 0, nl0, 0))) = some y10_) (hy11 : 0 ≤ y3_ ∧ y3_ < ((x2 : Nat) : Int)) (hy12 : (y3_).toNat < (x1).length) : qcd_ rnd x0 x2 x9 (x1, (x3a :: x3t), (x4a :: x4t), x5, x6, x7, x8, x10) (.normal, qcc_ x0 x2 x9 (((x1).set (y3_).toNat (maxB y8_3 (y10_.2.2.2.2.2.1))), (x3a :: x3t), ([] : List Int), 0, 0, (maxB y8_3 (y10_.2.2.2.2.2.1)), y8_4, (w64 (x10 + 1)))) :=
 runC2 hm (L := lT [(28, ⟨⟨[1, 2, 5, 6, 7, 8, 9, 10, 12, 23, 24, 25], [(0, 0, false), (1, 1, true), (2, 2, true), (3, 3, true)], 4, 0⟩, (qu_ x0 x1 x2 (x3a :: x3t) y3_ x9 x10 (([] : List Int), y8_1, y8_2, y8_3, y8_4)).1, (qu_ x0 x1 x2 (x3a :: x3t) y3_ x9 x10 (([] : List Int), y8_1, y8_2, y8_3, y8_4)).2⟩)]) ⟨[1, 2, 5, 6, 7, 8, 9, 10, 23, 24, 25], [(0, 0, false), (1, 1, true), (2, 2, true)], 4, 0⟩ (zz 1 (xdT hy1) <|
zz 8 (xk17 2 U1 hy2) <|
zz 9 (xivN hy3 (qc_ hy2)) <|
zz 16 (xdF hy4) <|
yy 21 (.call (qgj_ y3_ y5_ [(0, 0, false)] [])) <|
ww (qbv_ n y3_ y5_ hy5) <|
zz 22 (xbT hy6) <|
yy 24 (.pur (sN 3 ((x6 + ((1 : Int)).toNat) * 1) (x5 - ((1 : Int)).toNat) (Nat.add big 1))) <|
ww (p := qd6_ P 27 (sN 3 (x6 * 1) x5 (Nat.add big 1)) (some (i6 (1 : Int))) none none Ax.h0 = some ((sN 3 ((x6 + ((1 : Int)).toNat) * 1) (x5 - ((1 : Int)).toNat) (Nat.add big 1)), Ax.h0)) (slRowO (e := 3) (es := 1) x6 (by kernel_rfl) (by kernel_rfl) rfl rfl hy7) <|
ww (p := qd0_ rnd x0 x1 x2 (x3a :: x3t) y3_ x9 x10 ((x4a :: x4t), (x5 - ((1 : Int)).toNat), (x6 + ((1 : Int)).toNat), x7, x8) (([] : List Int), y8_1, y8_2, y8_3, y8_4)) (qbj_ n x0 x1 x2 (x3a :: x3t) y3_ x9 x10 ((x4a :: x4t), (x5 - ((1 : Int)).toNat), (x6 + ((1 : Int)).toNat), x7, x8) (([] : List Int), y8_1, y8_2, y8_3, y8_4) hy8) <|
ww (qb_ x1 3) <|
ww (qb_ (x3a :: x3t) 3) <|
ww (qb_ (x4a :: x4t) 3) <|
zz 33 (xk1 0 Args.cA hy9) <|
zz 34 (fk18 ((y3_).toNat * 8)) <|
zz 35 (lk19 hy10 (qc_ hy9)) <|
zz 41 (xk17 1 x2 hy11) <|
yy 42 (.sto (layT (iv ((x1).set (y3_).toNat (maxB y8_3 (y10_.2.2.2.2.2.1)))))) <|
ww (p := ∃ old, rdT (layT (iv x1)) 1 (y3_).toNat = some old) (Exists.elim (iv_st (x1) ((y3_).toNat) ((maxB y8_3 (y10_.2.2.2.2.2.1))) hy12) fun o h => ⟨o, h.1⟩) <|
ww (p := layL [(i6 (maxB y8_3 (y10_.2.2.2.2.2.1)))] (y3_).toNat (layT (iv x1)) = layT (iv ((x1).set (y3_).toNat (maxB y8_3 (y10_.2.2.2.2.2.1))))) (Exists.elim (iv_st (x1) ((y3_).toNat) ((maxB y8_3 (y10_.2.2.2.2.2.1))) hy12) fun o h => h.2) <|
ww (qb_ ((x1).set (y3_).toNat (maxB y8_3 (y10_.2.2.2.2.2.1))) 3) <|
ww (qb_ (x3a :: x3t) 3) <|
ee) (by kernel_rfl)
theorem q_mRq1_1_10 (n : Nat) {rnd : Option Nat} (x0 : Int) (x1 : List Int) (x2 : Nat) (x3a : Int) (x3t : List (Int)) (x4a : Int) (x4t : List (Int)) (x5 x6 : Nat) (x7 x8 x9 x10 : Int) (hy1 : x10 < x9) (hy2 : 0 ≤ x10 ∧ x10 < ((((x3a :: x3t)).length : Nat) : Int)) (y3_ : Int) (hy3 : (some (((x3a :: x3t)).getD (x10).toNat 0)) = some y3_) (hy4 : ¬ (x8 ≤ x10)) (y5_ : Bool) (hy5 : qce_ n y3_ = some y5_) (hy6 : y5_ = true) (hy7 : 0 ≤ (1 : Int) ∧ (1 : Int) ≤ ((x5 : Nat) : Int)) (y8_0a : Int) (y8_0t : List (Int)) (y8_1 y8_2 : Nat) (y8_3 y8_4 : Int) (hy8 : qbm_ n x0 x1 x2 (x3a :: x3t) y3_ x9 x10 ((x4a :: x4t), (x5 - ((1 : Int)).toNat), (x6 + ((1 : Int)).toNat), x7, x8) = some ((y8_0a :: y8_0t), y8_1, y8_2, y8_3, y8_4)) (hy9 : 0 ≤ y3_ ∧ y3_ < (Args.A.length : Int)) (y10_ : R8) (hy10 : (some ((Args.A).getD (y3_).toNat (0, 0, 0, 0, 0, 0, nl0, 0))) = some y10_) (hy11 : 0 ≤ y3_ ∧ y3_ < ((x2 : Nat) : Int)) (hy12 : (y3_).toNat < (x1).length) : qcd_ rnd x0 x2 x9 (x1, (x3a :: x3t), (x4a :: x4t), x5, x6, x7, x8, x10) (.normal, qcc_ x0 x2 x9 (((x1).set (y3_).toNat (maxB y8_3 (y10_.2.2.2.2.2.1))), (x3a :: x3t), (y8_0a :: y8_0t), y8_1, y8_2, (maxB y8_3 (y10_.2.2.2.2.2.1)), y8_4, (w64 (x10 + 1)))) :=
 runC2 hm (L := lT [(28, ⟨⟨[1, 2, 5, 6, 7, 8, 9, 10, 12, 23, 24, 25], [(0, 0, false), (1, 1, true), (2, 2, true), (3, 3, true)], 4, 0⟩, (qu_ x0 x1 x2 (x3a :: x3t) y3_ x9 x10 ((y8_0a :: y8_0t), y8_1, y8_2, y8_3, y8_4)).1, (qu_ x0 x1 x2 (x3a :: x3t) y3_ x9 x10 ((y8_0a :: y8_0t), y8_1, y8_2, y8_3, y8_4)).2⟩)]) ⟨[1, 2, 5, 6, 7, 8, 9, 10, 23, 24, 25], [(0, 0, false), (1, 1, true), (2, 2, true), (3, 3, true)], 4, 0⟩ (zz 1 (xdT hy1) <|
zz 8 (xk17 2 U1 hy2) <|
zz 9 (xivN hy3 (qc_ hy2)) <|
zz 16 (xdF hy4) <|
yy 21 (.call (qgj_ y3_ y5_ [(0, 0, false)] [])) <|
ww (qbv_ n y3_ y5_ hy5) <|
zz 22 (xbT hy6) <|
yy 24 (.pur (sN 3 ((x6 + ((1 : Int)).toNat) * 1) (x5 - ((1 : Int)).toNat) (Nat.add big 1))) <|
ww (p := qd6_ P 27 (sN 3 (x6 * 1) x5 (Nat.add big 1)) (some (i6 (1 : Int))) none none Ax.h0 = some ((sN 3 ((x6 + ((1 : Int)).toNat) * 1) (x5 - ((1 : Int)).toNat) (Nat.add big 1)), Ax.h0)) (slRowO (e := 3) (es := 1) x6 (by kernel_rfl) (by kernel_rfl) rfl rfl hy7) <|
ww (p := qd0_ rnd x0 x1 x2 (x3a :: x3t) y3_ x9 x10 ((x4a :: x4t), (x5 - ((1 : Int)).toNat), (x6 + ((1 : Int)).toNat), x7, x8) ((y8_0a :: y8_0t), y8_1, y8_2, y8_3, y8_4)) (qbj_ n x0 x1 x2 (x3a :: x3t) y3_ x9 x10 ((x4a :: x4t), (x5 - ((1 : Int)).toNat), (x6 + ((1 : Int)).toNat), x7, x8) ((y8_0a :: y8_0t), y8_1, y8_2, y8_3, y8_4) hy8) <|
ww (qb_ x1 3) <|
ww (qb_ (x3a :: x3t) 3) <|
ww (qb_ (x4a :: x4t) 3) <|
zz 33 (xk1 0 Args.cA hy9) <|
zz 34 (fk18 ((y3_).toNat * 8)) <|
zz 35 (lk19 hy10 (qc_ hy9)) <|
zz 41 (xk17 1 x2 hy11) <|
yy 42 (.sto (layT (iv ((x1).set (y3_).toNat (maxB y8_3 (y10_.2.2.2.2.2.1)))))) <|
ww (p := ∃ old, rdT (layT (iv x1)) 1 (y3_).toNat = some old) (Exists.elim (iv_st (x1) ((y3_).toNat) ((maxB y8_3 (y10_.2.2.2.2.2.1))) hy12) fun o h => ⟨o, h.1⟩) <|
ww (p := layL [(i6 (maxB y8_3 (y10_.2.2.2.2.2.1)))] (y3_).toNat (layT (iv x1)) = layT (iv ((x1).set (y3_).toNat (maxB y8_3 (y10_.2.2.2.2.2.1))))) (Exists.elim (iv_st (x1) ((y3_).toNat) ((maxB y8_3 (y10_.2.2.2.2.2.1))) hy12) fun o h => h.2) <|
ww (qb_ ((x1).set (y3_).toNat (maxB y8_3 (y10_.2.2.2.2.2.1))) 3) <|
ww (qb_ (x3a :: x3t) 3) <|
ww (qb_ (y8_0a :: y8_0t) 3) <|
ee) (by kernel_rfl)
theorem q_mRq1_1_11 (n : Nat) {rnd : Option Nat} (x0 : Int) (x1 : List Int) (x2 : Nat) (x3a : Int) (x3t : List (Int)) (x4a : Int) (x4t : List (Int)) (x5 x6 : Nat) (x7 x8 x9 x10 : Int) (hy1 : x10 < x9) (hy2 : 0 ≤ x10 ∧ x10 < ((((x3a :: x3t)).length : Nat) : Int)) (y3_ : Int) (hy3 : (some (((x3a :: x3t)).getD (x10).toNat 0)) = some y3_) (hy4 : ¬ (x8 ≤ x10)) (y5_ : Bool) (hy5 : qce_ n y3_ = some y5_) (hy6 : ¬ (y5_ = true)) (y7_1 y7_2 : Nat) (y7_3 y7_4 : Int) (hy7 : qbm_ n x0 x1 x2 (x3a :: x3t) y3_ x9 x10 ((x4a :: x4t), x5, x6, x7, x8) = some ([], y7_1, y7_2, y7_3, y7_4)) (hy8 : 0 ≤ y3_ ∧ y3_ < (Args.A.length : Int)) (y9_ : R8) (hy9 : (some ((Args.A).getD (y3_).toNat (0, 0, 0, 0, 0, 0, nl0, 0))) = some y9_) (hy10 : 0 ≤ y3_ ∧ y3_ < ((x2 : Nat) : Int)) (hy11 : (y3_).toNat < (x1).length) : qcd_ rnd x0 x2 x9 (x1, (x3a :: x3t), (x4a :: x4t), x5, x6, x7, x8, x10) (.normal, qcc_ x0 x2 x9 (((x1).set (y3_).toNat (maxB y7_3 (y9_.2.2.2.2.2.1))), (x3a :: x3t), ([] : List Int), 0, 0, (maxB y7_3 (y9_.2.2.2.2.2.1)), y7_4, (w64 (x10 + 1)))) :=
 runC2 hm (L := lT [(25, ⟨⟨[1, 2, 5, 6, 7, 8, 9, 10, 12, 23, 24, 25], [(0, 0, false), (1, 1, true), (2, 2, true), (3, 3, true)], 4, 0⟩, (qu_ x0 x1 x2 (x3a :: x3t) y3_ x9 x10 (([] : List Int), y7_1, y7_2, y7_3, y7_4)).1, (qu_ x0 x1 x2 (x3a :: x3t) y3_ x9 x10 (([] : List Int), y7_1, y7_2, y7_3, y7_4)).2⟩)]) ⟨[1, 2, 5, 6, 7, 8, 9, 10, 23, 24, 25], [(0, 0, false), (1, 1, true), (2, 2, true)], 4, 0⟩ (zz 1 (xdT hy1) <|
zz 8 (xk17 2 U1 hy2) <|
zz 9 (xivN hy3 (qc_ hy2)) <|
zz 16 (xdF hy4) <|
yy 21 (.call (qgj_ y3_ y5_ [(0, 0, false)] [])) <|
ww (qbv_ n y3_ y5_ hy5) <|
zz 22 (xbF hy6) <|
ww (p := qd0_ rnd x0 x1 x2 (x3a :: x3t) y3_ x9 x10 ((x4a :: x4t), x5, x6, x7, x8) (([] : List Int), y7_1, y7_2, y7_3, y7_4)) (qbj_ n x0 x1 x2 (x3a :: x3t) y3_ x9 x10 ((x4a :: x4t), x5, x6, x7, x8) (([] : List Int), y7_1, y7_2, y7_3, y7_4) hy7) <|
ww (qb_ x1 3) <|
ww (qb_ (x3a :: x3t) 3) <|
ww (qb_ (x4a :: x4t) 3) <|
zz 30 (xk1 0 Args.cA hy8) <|
zz 31 (fk18 ((y3_).toNat * 8)) <|
zz 32 (lk19 hy9 (qc_ hy8)) <|
zz 38 (xk17 1 x2 hy10) <|
yy 39 (.sto (layT (iv ((x1).set (y3_).toNat (maxB y7_3 (y9_.2.2.2.2.2.1)))))) <|
ww (p := ∃ old, rdT (layT (iv x1)) 1 (y3_).toNat = some old) (Exists.elim (iv_st (x1) ((y3_).toNat) ((maxB y7_3 (y9_.2.2.2.2.2.1))) hy11) fun o h => ⟨o, h.1⟩) <|
ww (p := layL [(i6 (maxB y7_3 (y9_.2.2.2.2.2.1)))] (y3_).toNat (layT (iv x1)) = layT (iv ((x1).set (y3_).toNat (maxB y7_3 (y9_.2.2.2.2.2.1))))) (Exists.elim (iv_st (x1) ((y3_).toNat) ((maxB y7_3 (y9_.2.2.2.2.2.1))) hy11) fun o h => h.2) <|
ww (qb_ ((x1).set (y3_).toNat (maxB y7_3 (y9_.2.2.2.2.2.1))) 3) <|
ww (qb_ (x3a :: x3t) 3) <|
ee) (by kernel_rfl)
theorem q_mRq1_1_12 (n : Nat) {rnd : Option Nat} (x0 : Int) (x1 : List Int) (x2 : Nat) (x3a : Int) (x3t : List (Int)) (x4a : Int) (x4t : List (Int)) (x5 x6 : Nat) (x7 x8 x9 x10 : Int) (hy1 : x10 < x9) (hy2 : 0 ≤ x10 ∧ x10 < ((((x3a :: x3t)).length : Nat) : Int)) (y3_ : Int) (hy3 : (some (((x3a :: x3t)).getD (x10).toNat 0)) = some y3_) (hy4 : ¬ (x8 ≤ x10)) (y5_ : Bool) (hy5 : qce_ n y3_ = some y5_) (hy6 : ¬ (y5_ = true)) (y7_0a : Int) (y7_0t : List (Int)) (y7_1 y7_2 : Nat) (y7_3 y7_4 : Int) (hy7 : qbm_ n x0 x1 x2 (x3a :: x3t) y3_ x9 x10 ((x4a :: x4t), x5, x6, x7, x8) = some ((y7_0a :: y7_0t), y7_1, y7_2, y7_3, y7_4)) (hy8 : 0 ≤ y3_ ∧ y3_ < (Args.A.length : Int)) (y9_ : R8) (hy9 : (some ((Args.A).getD (y3_).toNat (0, 0, 0, 0, 0, 0, nl0, 0))) = some y9_) (hy10 : 0 ≤ y3_ ∧ y3_ < ((x2 : Nat) : Int)) (hy11 : (y3_).toNat < (x1).length) : qcd_ rnd x0 x2 x9 (x1, (x3a :: x3t), (x4a :: x4t), x5, x6, x7, x8, x10) (.normal, qcc_ x0 x2 x9 (((x1).set (y3_).toNat (maxB y7_3 (y9_.2.2.2.2.2.1))), (x3a :: x3t), (y7_0a :: y7_0t), y7_1, y7_2, (maxB y7_3 (y9_.2.2.2.2.2.1)), y7_4, (w64 (x10 + 1)))) :=
 runC2 hm (L := lT [(25, ⟨⟨[1, 2, 5, 6, 7, 8, 9, 10, 12, 23, 24, 25], [(0, 0, false), (1, 1, true), (2, 2, true), (3, 3, true)], 4, 0⟩, (qu_ x0 x1 x2 (x3a :: x3t) y3_ x9 x10 ((y7_0a :: y7_0t), y7_1, y7_2, y7_3, y7_4)).1, (qu_ x0 x1 x2 (x3a :: x3t) y3_ x9 x10 ((y7_0a :: y7_0t), y7_1, y7_2, y7_3, y7_4)).2⟩)]) ⟨[1, 2, 5, 6, 7, 8, 9, 10, 23, 24, 25], [(0, 0, false), (1, 1, true), (2, 2, true), (3, 3, true)], 4, 0⟩ (zz 1 (xdT hy1) <|
zz 8 (xk17 2 U1 hy2) <|
zz 9 (xivN hy3 (qc_ hy2)) <|
zz 16 (xdF hy4) <|
yy 21 (.call (qgj_ y3_ y5_ [(0, 0, false)] [])) <|
ww (qbv_ n y3_ y5_ hy5) <|
zz 22 (xbF hy6) <|
ww (p := qd0_ rnd x0 x1 x2 (x3a :: x3t) y3_ x9 x10 ((x4a :: x4t), x5, x6, x7, x8) ((y7_0a :: y7_0t), y7_1, y7_2, y7_3, y7_4)) (qbj_ n x0 x1 x2 (x3a :: x3t) y3_ x9 x10 ((x4a :: x4t), x5, x6, x7, x8) ((y7_0a :: y7_0t), y7_1, y7_2, y7_3, y7_4) hy7) <|
ww (qb_ x1 3) <|
ww (qb_ (x3a :: x3t) 3) <|
ww (qb_ (x4a :: x4t) 3) <|
zz 30 (xk1 0 Args.cA hy8) <|
zz 31 (fk18 ((y3_).toNat * 8)) <|
zz 32 (lk19 hy9 (qc_ hy8)) <|
zz 38 (xk17 1 x2 hy10) <|
yy 39 (.sto (layT (iv ((x1).set (y3_).toNat (maxB y7_3 (y9_.2.2.2.2.2.1)))))) <|
ww (p := ∃ old, rdT (layT (iv x1)) 1 (y3_).toNat = some old) (Exists.elim (iv_st (x1) ((y3_).toNat) ((maxB y7_3 (y9_.2.2.2.2.2.1))) hy11) fun o h => ⟨o, h.1⟩) <|
ww (p := layL [(i6 (maxB y7_3 (y9_.2.2.2.2.2.1)))] (y3_).toNat (layT (iv x1)) = layT (iv ((x1).set (y3_).toNat (maxB y7_3 (y9_.2.2.2.2.2.1))))) (Exists.elim (iv_st (x1) ((y3_).toNat) ((maxB y7_3 (y9_.2.2.2.2.2.1))) hy11) fun o h => h.2) <|
ww (qb_ ((x1).set (y3_).toNat (maxB y7_3 (y9_.2.2.2.2.2.1))) 3) <|
ww (qb_ (x3a :: x3t) 3) <|
ww (qb_ (y7_0a :: y7_0t) 3) <|
ee) (by kernel_rfl)
theorem q_mRq1_1_13 (n : Nat) {rnd : Option Nat} (x0 : Int) (x1 : List Int) (x2 : Nat) (x3a : Int) (x3t : List (Int)) (x4a : Int) (x4t : List (Int)) (x5 x6 : Nat) (x7 x8 x9 x10 : Int) (hy1 : ¬ (x10 < x9)) : qcd_ rnd x0 x2 x9 (x1, (x3a :: x3t), (x4a :: x4t), x5, x6, x7, x8, x10) (qcj_ x0 x2 x9 x1) :=
 runC2 hm (L := lT []) ⟨[5], [(0, 1, true)], 1, 0⟩ (zz 1 (xdF hy1) <|
ww (qb_ x1 3) <|
ee) (by kernel_rfl)
theorem qic_ (n : Nat) {rnd : Option Nat} (x0 : Int) (x2 : Nat) (x9 : Int) (st : List Int × List Int × List Int × Nat × Nat × Int × Int × Int) (r : List Int) (h : qib_ n x0 x2 x9 st = some r) : CG P rnd (fnN P 13) 0 (qq_ P 13 [false, true, false, true, true, true, true, true, true, true]) (qcc_ x0 x2 x9 st) (qcj_ x0 x2 x9 r) :=
 CG.iter (b := qq_ P 13 [false, false, true, false, true, true, true, true, true, true, true]) (by kernel_rfl) (body := qet_ n x0 x2 x9) (S := qcc_ x0 x2 x9) (X := qcj_ x0 x2 x9)
  (fun s s' h => by
  obtain ⟨x1, x3, x4, x5, x6, x7, x8, x10⟩ := s
  unfold qet_ at h
  dsimp only at h
  cases x3 with
  | nil =>
   dsimp only at h
   cases x4 with
   | nil =>
    dsimp only at h
    by_cases hy1 : x10 < x9
    ·rw [if_pos hy1] at h
     cases h
    ·rw [if_neg hy1] at h
     cases h
   | cons x4a x4t =>
    dsimp only at h
    by_cases hy1 : x10 < x9
    ·rw [if_pos hy1] at h
     cases h
    ·rw [if_neg hy1] at h
     cases h
  | cons x3a x3t =>
   dsimp only at h
   cases x4 with
   | nil =>
    dsimp only at h
    by_cases hy1 : x10 < x9
    ·rw [if_pos hy1] at h
     obtain ⟨hy2, h⟩ := gd h
     obtain ⟨y3_, hy3, h⟩ := oB h
     by_cases hy4 : x8 ≤ x10
     ·rw [if_pos hy4] at h
      obtain ⟨⟨y5_0, y5_1, y5_2, y5_3, y5_4⟩, hy5, h⟩ := oB h
      dsimp only at h
      cases y5_0 with
      | nil =>
       dsimp only at h
       obtain ⟨hy6, h⟩ := gd h
       obtain ⟨y7_, hy7, h⟩ := oB h
       obtain ⟨hy8, h⟩ := gd h
       obtain ⟨hy9, h⟩ := gd h
       obtain rfl := Sum.inl.inj (oI h); exact q_mRq1_1_2 n x0 x1 x2 x3a x3t x5 x6 x7 x8 x9 x10 hy1 hy2 y3_ hy3 hy4 y5_1 y5_2 y5_3 y5_4 hy5 hy6 y7_ hy7 hy8 hy9
      | cons y5_0a y5_0t =>
       dsimp only at h
       obtain ⟨hy6, h⟩ := gd h
       obtain ⟨y7_, hy7, h⟩ := oB h
       obtain ⟨hy8, h⟩ := gd h
       obtain ⟨hy9, h⟩ := gd h
       obtain rfl := Sum.inl.inj (oI h); exact q_mRq1_1_3 n x0 x1 x2 x3a x3t x5 x6 x7 x8 x9 x10 hy1 hy2 y3_ hy3 hy4 y5_0a y5_0t y5_1 y5_2 y5_3 y5_4 hy5 hy6 y7_ hy7 hy8 hy9
     ·rw [if_neg hy4] at h
      obtain ⟨y5_, hy5, h⟩ := oB h
      by_cases hy6 : y5_ = true
      ·rw [if_pos hy6] at h
       cases h
      ·rw [if_neg hy6] at h
       obtain ⟨⟨y7_0, y7_1, y7_2, y7_3, y7_4⟩, hy7, h⟩ := oB h
       dsimp only at h
       cases y7_0 with
       | nil =>
        dsimp only at h
        obtain ⟨hy8, h⟩ := gd h
        obtain ⟨y9_, hy9, h⟩ := oB h
        obtain ⟨hy10, h⟩ := gd h
        obtain ⟨hy11, h⟩ := gd h
        obtain rfl := Sum.inl.inj (oI h); exact q_mRq1_1_4 n x0 x1 x2 x3a x3t x5 x6 x7 x8 x9 x10 hy1 hy2 y3_ hy3 hy4 y5_ hy5 hy6 y7_1 y7_2 y7_3 y7_4 hy7 hy8 y9_ hy9 hy10 hy11
       | cons y7_0a y7_0t =>
        dsimp only at h
        obtain ⟨hy8, h⟩ := gd h
        obtain ⟨y9_, hy9, h⟩ := oB h
        obtain ⟨hy10, h⟩ := gd h
        obtain ⟨hy11, h⟩ := gd h
        obtain rfl := Sum.inl.inj (oI h); exact q_mRq1_1_5 n x0 x1 x2 x3a x3t x5 x6 x7 x8 x9 x10 hy1 hy2 y3_ hy3 hy4 y5_ hy5 hy6 y7_0a y7_0t y7_1 y7_2 y7_3 y7_4 hy7 hy8 y9_ hy9 hy10 hy11
    ·rw [if_neg hy1] at h
     cases h
   | cons x4a x4t =>
    dsimp only at h
    by_cases hy1 : x10 < x9
    ·rw [if_pos hy1] at h
     obtain ⟨hy2, h⟩ := gd h
     obtain ⟨y3_, hy3, h⟩ := oB h
     by_cases hy4 : x8 ≤ x10
     ·rw [if_pos hy4] at h
      obtain ⟨⟨y5_0, y5_1, y5_2, y5_3, y5_4⟩, hy5, h⟩ := oB h
      dsimp only at h
      cases y5_0 with
      | nil =>
       dsimp only at h
       obtain ⟨hy6, h⟩ := gd h
       obtain ⟨y7_, hy7, h⟩ := oB h
       obtain ⟨hy8, h⟩ := gd h
       obtain ⟨hy9, h⟩ := gd h
       obtain rfl := Sum.inl.inj (oI h); exact q_mRq1_1_7 n x0 x1 x2 x3a x3t x4a x4t x5 x6 x7 x8 x9 x10 hy1 hy2 y3_ hy3 hy4 y5_1 y5_2 y5_3 y5_4 hy5 hy6 y7_ hy7 hy8 hy9
      | cons y5_0a y5_0t =>
       dsimp only at h
       obtain ⟨hy6, h⟩ := gd h
       obtain ⟨y7_, hy7, h⟩ := oB h
       obtain ⟨hy8, h⟩ := gd h
       obtain ⟨hy9, h⟩ := gd h
       obtain rfl := Sum.inl.inj (oI h); exact q_mRq1_1_8 n x0 x1 x2 x3a x3t x4a x4t x5 x6 x7 x8 x9 x10 hy1 hy2 y3_ hy3 hy4 y5_0a y5_0t y5_1 y5_2 y5_3 y5_4 hy5 hy6 y7_ hy7 hy8 hy9
     ·rw [if_neg hy4] at h
      obtain ⟨y5_, hy5, h⟩ := oB h
      by_cases hy6 : y5_ = true
      ·rw [if_pos hy6] at h
       obtain ⟨hy7, h⟩ := gd h
       obtain ⟨⟨y8_0, y8_1, y8_2, y8_3, y8_4⟩, hy8, h⟩ := oB h
       dsimp only at h
       cases y8_0 with
       | nil =>
        dsimp only at h
        obtain ⟨hy9, h⟩ := gd h
        obtain ⟨y10_, hy10, h⟩ := oB h
        obtain ⟨hy11, h⟩ := gd h
        obtain ⟨hy12, h⟩ := gd h
        obtain rfl := Sum.inl.inj (oI h); exact q_mRq1_1_9 n x0 x1 x2 x3a x3t x4a x4t x5 x6 x7 x8 x9 x10 hy1 hy2 y3_ hy3 hy4 y5_ hy5 hy6 hy7 y8_1 y8_2 y8_3 y8_4 hy8 hy9 y10_ hy10 hy11 hy12
       | cons y8_0a y8_0t =>
        dsimp only at h
        obtain ⟨hy9, h⟩ := gd h
        obtain ⟨y10_, hy10, h⟩ := oB h
        obtain ⟨hy11, h⟩ := gd h
        obtain ⟨hy12, h⟩ := gd h
        obtain rfl := Sum.inl.inj (oI h); exact q_mRq1_1_10 n x0 x1 x2 x3a x3t x4a x4t x5 x6 x7 x8 x9 x10 hy1 hy2 y3_ hy3 hy4 y5_ hy5 hy6 hy7 y8_0a y8_0t y8_1 y8_2 y8_3 y8_4 hy8 hy9 y10_ hy10 hy11 hy12
      ·rw [if_neg hy6] at h
       obtain ⟨⟨y7_0, y7_1, y7_2, y7_3, y7_4⟩, hy7, h⟩ := oB h
       dsimp only at h
       cases y7_0 with
       | nil =>
        dsimp only at h
        obtain ⟨hy8, h⟩ := gd h
        obtain ⟨y9_, hy9, h⟩ := oB h
        obtain ⟨hy10, h⟩ := gd h
        obtain ⟨hy11, h⟩ := gd h
        obtain rfl := Sum.inl.inj (oI h); exact q_mRq1_1_11 n x0 x1 x2 x3a x3t x4a x4t x5 x6 x7 x8 x9 x10 hy1 hy2 y3_ hy3 hy4 y5_ hy5 hy6 y7_1 y7_2 y7_3 y7_4 hy7 hy8 y9_ hy9 hy10 hy11
       | cons y7_0a y7_0t =>
        dsimp only at h
        obtain ⟨hy8, h⟩ := gd h
        obtain ⟨y9_, hy9, h⟩ := oB h
        obtain ⟨hy10, h⟩ := gd h
        obtain ⟨hy11, h⟩ := gd h
        obtain rfl := Sum.inl.inj (oI h); exact q_mRq1_1_12 n x0 x1 x2 x3a x3t x4a x4t x5 x6 x7 x8 x9 x10 hy1 hy2 y3_ hy3 hy4 y5_ hy5 hy6 y7_0a y7_0t y7_1 y7_2 y7_3 y7_4 hy7 hy8 y9_ hy9 hy10 hy11
    ·rw [if_neg hy1] at h
     cases h)
  (fun s r h => by
  obtain ⟨x1, x3, x4, x5, x6, x7, x8, x10⟩ := s
  unfold qet_ at h
  dsimp only at h
  cases x3 with
  | nil =>
   dsimp only at h
   cases x4 with
   | nil =>
    dsimp only at h
    by_cases hy1 : x10 < x9
    ·rw [if_pos hy1] at h
     cases h
    ·rw [if_neg hy1] at h
     obtain rfl := Sum.inr.inj (oI h); exact q_mRq1_1_0 n x0 x1 x2 x5 x6 x7 x8 x9 x10 hy1
   | cons x4a x4t =>
    dsimp only at h
    by_cases hy1 : x10 < x9
    ·rw [if_pos hy1] at h
     cases h
    ·rw [if_neg hy1] at h
     obtain rfl := Sum.inr.inj (oI h); exact q_mRq1_1_1 n x0 x1 x2 x4a x4t x5 x6 x7 x8 x9 x10 hy1
  | cons x3a x3t =>
   dsimp only at h
   cases x4 with
   | nil =>
    dsimp only at h
    by_cases hy1 : x10 < x9
    ·rw [if_pos hy1] at h
     obtain ⟨hy2, h⟩ := gd h
     obtain ⟨y3_, hy3, h⟩ := oB h
     by_cases hy4 : x8 ≤ x10
     ·rw [if_pos hy4] at h
      obtain ⟨⟨y5_0, y5_1, y5_2, y5_3, y5_4⟩, hy5, h⟩ := oB h
      dsimp only at h
      cases y5_0 with
      | nil =>
       dsimp only at h
       obtain ⟨hy6, h⟩ := gd h
       obtain ⟨y7_, hy7, h⟩ := oB h
       obtain ⟨hy8, h⟩ := gd h
       obtain ⟨hy9, h⟩ := gd h
       cases h
      | cons y5_0a y5_0t =>
       dsimp only at h
       obtain ⟨hy6, h⟩ := gd h
       obtain ⟨y7_, hy7, h⟩ := oB h
       obtain ⟨hy8, h⟩ := gd h
       obtain ⟨hy9, h⟩ := gd h
       cases h
     ·rw [if_neg hy4] at h
      obtain ⟨y5_, hy5, h⟩ := oB h
      by_cases hy6 : y5_ = true
      ·rw [if_pos hy6] at h
       cases h
      ·rw [if_neg hy6] at h
       obtain ⟨⟨y7_0, y7_1, y7_2, y7_3, y7_4⟩, hy7, h⟩ := oB h
       dsimp only at h
       cases y7_0 with
       | nil =>
        dsimp only at h
        obtain ⟨hy8, h⟩ := gd h
        obtain ⟨y9_, hy9, h⟩ := oB h
        obtain ⟨hy10, h⟩ := gd h
        obtain ⟨hy11, h⟩ := gd h
        cases h
       | cons y7_0a y7_0t =>
        dsimp only at h
        obtain ⟨hy8, h⟩ := gd h
        obtain ⟨y9_, hy9, h⟩ := oB h
        obtain ⟨hy10, h⟩ := gd h
        obtain ⟨hy11, h⟩ := gd h
        cases h
    ·rw [if_neg hy1] at h
     obtain rfl := Sum.inr.inj (oI h); exact q_mRq1_1_6 n x0 x1 x2 x3a x3t x5 x6 x7 x8 x9 x10 hy1
   | cons x4a x4t =>
    dsimp only at h
    by_cases hy1 : x10 < x9
    ·rw [if_pos hy1] at h
     obtain ⟨hy2, h⟩ := gd h
     obtain ⟨y3_, hy3, h⟩ := oB h
     by_cases hy4 : x8 ≤ x10
     ·rw [if_pos hy4] at h
      obtain ⟨⟨y5_0, y5_1, y5_2, y5_3, y5_4⟩, hy5, h⟩ := oB h
      dsimp only at h
      cases y5_0 with
      | nil =>
       dsimp only at h
       obtain ⟨hy6, h⟩ := gd h
       obtain ⟨y7_, hy7, h⟩ := oB h
       obtain ⟨hy8, h⟩ := gd h
       obtain ⟨hy9, h⟩ := gd h
       cases h
      | cons y5_0a y5_0t =>
       dsimp only at h
       obtain ⟨hy6, h⟩ := gd h
       obtain ⟨y7_, hy7, h⟩ := oB h
       obtain ⟨hy8, h⟩ := gd h
       obtain ⟨hy9, h⟩ := gd h
       cases h
     ·rw [if_neg hy4] at h
      obtain ⟨y5_, hy5, h⟩ := oB h
      by_cases hy6 : y5_ = true
      ·rw [if_pos hy6] at h
       obtain ⟨hy7, h⟩ := gd h
       obtain ⟨⟨y8_0, y8_1, y8_2, y8_3, y8_4⟩, hy8, h⟩ := oB h
       dsimp only at h
       cases y8_0 with
       | nil =>
        dsimp only at h
        obtain ⟨hy9, h⟩ := gd h
        obtain ⟨y10_, hy10, h⟩ := oB h
        obtain ⟨hy11, h⟩ := gd h
        obtain ⟨hy12, h⟩ := gd h
        cases h
       | cons y8_0a y8_0t =>
        dsimp only at h
        obtain ⟨hy9, h⟩ := gd h
        obtain ⟨y10_, hy10, h⟩ := oB h
        obtain ⟨hy11, h⟩ := gd h
        obtain ⟨hy12, h⟩ := gd h
        cases h
      ·rw [if_neg hy6] at h
       obtain ⟨⟨y7_0, y7_1, y7_2, y7_3, y7_4⟩, hy7, h⟩ := oB h
       dsimp only at h
       cases y7_0 with
       | nil =>
        dsimp only at h
        obtain ⟨hy8, h⟩ := gd h
        obtain ⟨y9_, hy9, h⟩ := oB h
        obtain ⟨hy10, h⟩ := gd h
        obtain ⟨hy11, h⟩ := gd h
        cases h
       | cons y7_0a y7_0t =>
        dsimp only at h
        obtain ⟨hy8, h⟩ := gd h
        obtain ⟨y9_, hy9, h⟩ := oB h
        obtain ⟨hy10, h⟩ := gd h
        obtain ⟨hy11, h⟩ := gd h
        cases h
    ·rw [if_neg hy1] at h
     obtain rfl := Sum.inr.inj (oI h); exact q_mRq1_1_13 n x0 x1 x2 x3a x3t x4a x4t x5 x6 x7 x8 x9 x10 hy1)
  (fun r => by intro hx; cases hx) h
def m_mRq1 (n : Nat) (a0 : Int) : Option (List Int × Nat) :=
 (m_tCq1 n).bind fun c1_ =>
 if c1_ = 0 then
  if 0 ≤ (Args.A.length : Int) then
   if ((Args.A.length : Int)).toNat * 8 ≤ 140737488355328 then
    match m_tLq1 n with
    | none => none
    | some (.inl c5_) =>
     match c5_ with
     | [] =>
      (qib_ n a0 (((Args.A.length : Int)).toNat) 0 ((List.replicate ((Args.A.length : Int)).toNat (0 : Int)), ([] : List Int), ([] : List Int), 0, 0, 0, 0, 0)).bind fun c6_ =>
      some (c6_, (((Args.A.length : Int)).toNat))
     | c5_a :: c5_t =>
      (qib_ n a0 (((Args.A.length : Int)).toNat) ((((c5_a :: c5_t)).length : Nat) : Int) ((List.replicate ((Args.A.length : Int)).toNat (0 : Int)), (c5_a :: c5_t), ([] : List Int), 0, 0, 0, 0, 0)).bind fun c6_ =>
      some (c6_, (((Args.A.length : Int)).toNat))
    | some (.inr _) =>
     (qib_ n a0 (((Args.A.length : Int)).toNat) 0 ((List.replicate ((Args.A.length : Int)).toNat (0 : Int)), ([] : List Int), ([] : List Int), 0, 0, 0, 0, 0)).bind fun c6_ =>
     some (c6_, (((Args.A.length : Int)).toNat))
   else none
  else none
 else
  none
theorem m_mRq1_ok (n : Nat) (a0 : Int) (r : List Int × Nat) (h : m_mRq1 n a0 = some r) : Gv P (.func 13) (A_mRq1 a0) (H_mRq1 a0) (V_mRq1 a0 r) (R_mRq1 a0 r) := by
 unfold m_mRq1 at h
 obtain ⟨c1_, hc1, h⟩ := oB h
 by_cases hc2 : c1_ = 0
 ·rw [if_pos hc2] at h
  obtain ⟨hc3, h⟩ := gd h
  obtain ⟨hc4, h⟩ := gd h
  rcases hc5 : m_tLq1 n with _ | (c5_ | ⟨⟩)
  ·rw [hc5] at h; cases h
  ·rw [hc5] at h
   dsimp only at h
   cases c5_ with
   | nil =>
    dsimp only at h
    obtain ⟨c6_, hc6, h⟩ := oB h
    obtain rfl := oI h; exact (runF2 hm (L := lT [(32, ⟨⟨[1, 2, 5, 6, 7, 8, 9, 10, 23, 24, 25], [(0, 0, false), (1, 1, true)], 4, 0⟩, (qcj_ a0 (((Args.A.length : Int)).toNat) 0 c6_).1, (qcj_ a0 (((Args.A.length : Int)).toNat) 0 c6_).2⟩)]) ⟨[4], [(0, 0, true)], 1, 0⟩ (yy 6 (.call (C_tCq1  c1_ [] [])) <|
ww (qeo_ n  c1_ hc1) <|
zz 7 (xnF hc2) <|
yy 12 (.mk ((Args.A.length : Int)).toNat (iv (List.replicate ((Args.A.length : Int)).toNat (0 : Int)))) <|
ww (p := natOf (i6 (Args.A.length : Int)) = some ((Args.A.length : Int)).toNat) (q5_ hc3) <|
ww (p := natOf (i6 (Args.A.length : Int)) = some ((Args.A.length : Int)).toNat) (q5_ hc3) <|
ww (p := fits ((Args.A.length : Int)).toNat 8 = true) (qfi_ hc4 (by omega)) <|
ww (p := isZ8 [(i6 (0 : Int))] = false) (rfl) <|
ww (p := reps [(i6 (0 : Int))] ((Args.A.length : Int)).toNat = (iv (List.replicate ((Args.A.length : Int)).toNat (0 : Int)))) (reps_iv _) <|
yy 16 (.call (C_tLq1  (.inl ([] : List Int)) [] [])) <|
ww (qnu_ n  (.inl ([] : List Int)) hc5) <|
ww (p := U_mRq1_1 none a0 (((Args.A.length : Int)).toNat) 0 ((List.replicate ((Args.A.length : Int)).toNat (0 : Int)), ([] : List Int), ([] : List Int), 0, 0, 0, 0, 0) c6_) (qic_ n a0 (((Args.A.length : Int)).toNat) 0 ((List.replicate ((Args.A.length : Int)).toNat (0 : Int)), ([] : List Int), ([] : List Int), 0, 0, 0, 0, 0) c6_ hc6) <|
ww (qb_ (List.replicate ((Args.A.length : Int)).toNat (0 : Int)) 3) <|
ww (qb_ c6_ 3) ee) (by kernel_rfl))
   | cons c5_a c5_t =>
    dsimp only at h
    obtain ⟨c6_, hc6, h⟩ := oB h
    obtain rfl := oI h; exact (runF2 hm (L := lT [(32, ⟨⟨[1, 2, 5, 6, 7, 8, 9, 10, 23, 24, 25], [(0, 0, false), (1, 1, true), (2, 3, true)], 4, 0⟩, (qcj_ a0 (((Args.A.length : Int)).toNat) ((((c5_a :: c5_t)).length : Nat) : Int) c6_).1, (qcj_ a0 (((Args.A.length : Int)).toNat) ((((c5_a :: c5_t)).length : Nat) : Int) c6_).2⟩)]) ⟨[4], [(0, 0, true)], 1, 0⟩ (yy 6 (.call (C_tCq1  c1_ [] [])) <|
ww (qeo_ n  c1_ hc1) <|
zz 7 (xnF hc2) <|
yy 12 (.mk ((Args.A.length : Int)).toNat (iv (List.replicate ((Args.A.length : Int)).toNat (0 : Int)))) <|
ww (p := natOf (i6 (Args.A.length : Int)) = some ((Args.A.length : Int)).toNat) (q5_ hc3) <|
ww (p := natOf (i6 (Args.A.length : Int)) = some ((Args.A.length : Int)).toNat) (q5_ hc3) <|
ww (p := fits ((Args.A.length : Int)).toNat 8 = true) (qfi_ hc4 (by omega)) <|
ww (p := isZ8 [(i6 (0 : Int))] = false) (rfl) <|
ww (p := reps [(i6 (0 : Int))] ((Args.A.length : Int)).toNat = (iv (List.replicate ((Args.A.length : Int)).toNat (0 : Int)))) (reps_iv _) <|
yy 16 (.call (C_tLq1  (.inl (c5_a :: c5_t)) [] [(3, 1, true)])) <|
ww (qnu_ n  (.inl (c5_a :: c5_t)) hc5) <|
ww (qb_ (c5_a :: c5_t) 3) <|
ww (p := U_mRq1_1 none a0 (((Args.A.length : Int)).toNat) ((((c5_a :: c5_t)).length : Nat) : Int) ((List.replicate ((Args.A.length : Int)).toNat (0 : Int)), (c5_a :: c5_t), ([] : List Int), 0, 0, 0, 0, 0) c6_) (qic_ n a0 (((Args.A.length : Int)).toNat) ((((c5_a :: c5_t)).length : Nat) : Int) ((List.replicate ((Args.A.length : Int)).toNat (0 : Int)), (c5_a :: c5_t), ([] : List Int), 0, 0, 0, 0, 0) c6_ hc6) <|
ww (qb_ (List.replicate ((Args.A.length : Int)).toNat (0 : Int)) 3) <|
ww (qb_ (c5_a :: c5_t) 3) <|
ww (qb_ c6_ 3) ee) (by kernel_rfl))
  ·rw [hc5] at h
   dsimp only at h
   obtain ⟨c6_, hc6, h⟩ := oB h
   obtain rfl := oI h; exact (runF2 hm (L := lT [(32, ⟨⟨[1, 2, 5, 6, 7, 8, 9, 10, 23, 24, 25], [(0, 0, false), (1, 1, true)], 4, 0⟩, (qcj_ a0 (((Args.A.length : Int)).toNat) 0 c6_).1, (qcj_ a0 (((Args.A.length : Int)).toNat) 0 c6_).2⟩)]) ⟨[4], [(0, 0, true)], 1, 0⟩ (yy 6 (.call (C_tCq1  c1_ [] [])) <|
ww (qeo_ n  c1_ hc1) <|
zz 7 (xnF hc2) <|
yy 12 (.mk ((Args.A.length : Int)).toNat (iv (List.replicate ((Args.A.length : Int)).toNat (0 : Int)))) <|
ww (p := natOf (i6 (Args.A.length : Int)) = some ((Args.A.length : Int)).toNat) (q5_ hc3) <|
ww (p := natOf (i6 (Args.A.length : Int)) = some ((Args.A.length : Int)).toNat) (q5_ hc3) <|
ww (p := fits ((Args.A.length : Int)).toNat 8 = true) (qfi_ hc4 (by omega)) <|
ww (p := isZ8 [(i6 (0 : Int))] = false) (rfl) <|
ww (p := reps [(i6 (0 : Int))] ((Args.A.length : Int)).toNat = (iv (List.replicate ((Args.A.length : Int)).toNat (0 : Int)))) (reps_iv _) <|
yy 16 (.call (C_tLq1  (.inr ()) [] [])) <|
ww (qnu_ n  (.inr ()) hc5) <|
ww (p := U_mRq1_1 none a0 (((Args.A.length : Int)).toNat) 0 ((List.replicate ((Args.A.length : Int)).toNat (0 : Int)), ([] : List Int), ([] : List Int), 0, 0, 0, 0, 0) c6_) (qic_ n a0 (((Args.A.length : Int)).toNat) 0 ((List.replicate ((Args.A.length : Int)).toNat (0 : Int)), ([] : List Int), ([] : List Int), 0, 0, 0, 0, 0) c6_ hc6) <|
ww (qb_ (List.replicate ((Args.A.length : Int)).toNat (0 : Int)) 3) <|
ww (qb_ c6_ 3) ee) (by kernel_rfl))
 ·rw [if_neg hc2] at h
  cases h

def A_bKq1 : List Value := [(sW 0 0 (Args.A).length Args.cA)]
def H_bKq1 : AH := ⟨sB [], 0, 0⟩
def V_bKq1 (r : Unit) : Value := match r with
 | _ => (Value.func (.func 60) #[] #[(pN 0 0)])
def R_bKq1 (r : Unit) : AH := match r with
 | _ => ⟨sB [(0, (some (.cells (layT [(sW 0 0 (Args.A).length Args.cA)]) 22)))], 1, 0⟩
abbrev G_bKq1 (r : Unit) : Prop := Gv P (.func 32) A_bKq1 H_bKq1 (V_bKq1  r) (R_bKq1  r)
abbrev C_bKq1 (r : Unit) (ins outs : BL) : CallA := ⟨0, ins, V_bKq1  r, R_bKq1  r, outs⟩
def m_bKq1 (n : Nat) : Option (Unit) :=
 some ()
theorem m_bKq1_ok (n : Nat) (r : Unit) (h : m_bKq1 n = some r) : Gv P (.func 32) A_bKq1 H_bKq1 (V_bKq1  r) (R_bKq1  r) := by
 unfold m_bKq1 at h
 obtain rfl := oI h; exact (runF2 hm (L := lT []) ⟨[2], [(0, 0, false)], 1, 0⟩ (ee) (by kernel_rfl))

def A_tS1q1 (a0 : Int) (a1 : List (Bool)) (a2 : Nat) (a3 : Nat) : List Value := [(i6 a0), (pN 0 0)]
def H_tS1q1 (a0 : Int) (a1 : List (Bool)) (a2 : Nat) (a3 : Nat) : AH := ⟨sB [(0, (some (.cells (layT [(sN 1 0 a2 a3)]) 47))), (1, (some (.cells (layT (rows rw_b a1)) 4)))], 2, 2⟩
def V_tS1q1 (a0 : Int) (a1 : List (Bool)) (a2 : Nat) (a3 : Nat) (r : Bool) : Value := match r with
 | o0 => (bO o0)
def R_tS1q1 (a0 : Int) (a1 : List (Bool)) (a2 : Nat) (a3 : Nat) (r : Bool) : AH := match r with
 | o0 => ⟨sB [], 2, 2⟩
abbrev G_tS1q1 (a0 : Int) (a1 : List (Bool)) (a2 : Nat) (a3 : Nat) (r : Bool) : Prop := Gv P (.func 34) (A_tS1q1 a0 a1 a2 a3) (H_tS1q1 a0 a1 a2 a3) (V_tS1q1 a0 a1 a2 a3 r) (R_tS1q1 a0 a1 a2 a3 r)
abbrev C_tS1q1 (a0 : Int) (a1 : List (Bool)) (a2 : Nat) (a3 : Nat) (r : Bool) (ins outs : BL) : CallA := ⟨2, ins, V_tS1q1 a0 a1 a2 a3 r, R_tS1q1 a0 a1 a2 a3 r, outs⟩
def qk6_ (n : Nat) (a0 : Int) (a1 : List (Bool)) (a2 : Nat) (a3 : Nat) : Option (Bool) :=
 if 0 ≤ a0 ∧ a0 < ((a2 : Nat) : Int) then
  if (a0).toNat < (a1).length then
   ((some ((a1).getD (a0).toNat (false)))).bind fun c3_ =>
   some c3_
  else none
 else none
theorem m_tS1q1_ok (n : Nat) (a0 : Int) (a1 : List (Bool)) (a2 : Nat) (a3 : Nat) (r : Bool) (h : qk6_ n a0 a1 a2 a3 = some r) : Gv P (.func 34) (A_tS1q1 a0 a1 a2 a3) (H_tS1q1 a0 a1 a2 a3) (V_tS1q1 a0 a1 a2 a3 r) (R_tS1q1 a0 a1 a2 a3 r) := by
 unfold qk6_ at h
 obtain ⟨hc1, h⟩ := gd h
 obtain ⟨hc2, h⟩ := gd h
 obtain ⟨c3_, hc3, h⟩ := oB h
 obtain rfl := oI h; exact (runF2 hm (L := lT []) ⟨[3], [], 2, 2⟩ (zz 5 (xk20 1 a3 hc1) <|
zz 6 (ok21 hc3 (hc2)) ee) (by kernel_rfl))

def A_xFq1 (a0 : NL) (a1 : List (Bool)) (a2 : Nat) (a3 : Nat) : List Value := [(nlV a0), (Value.func (.func 34) #[] #[(pN 0 0)])]
def H_xFq1 (a0 : NL) (a1 : List (Bool)) (a2 : Nat) (a3 : Nat) : AH := ⟨sB [(0, (some (.cells (layT [(sN 1 0 a2 a3)]) 47))), (1, (some (.cells (layT (rows rw_b a1)) 4)))], 2, 2⟩
def V_xFq1 (a0 : NL) (a1 : List (Bool)) (a2 : Nat) (a3 : Nat) (r : Int) : Value := match r with
 | o0 => (i6 o0)
def R_xFq1 (a0 : NL) (a1 : List (Bool)) (a2 : Nat) (a3 : Nat) (r : Int) : AH := match r with
 | o0 => ⟨sB [], 2, 2⟩
abbrev G_xFq1 (a0 : NL) (a1 : List (Bool)) (a2 : Nat) (a3 : Nat) (r : Int) : Prop := Gv P (.func 61) (A_xFq1 a0 a1 a2 a3) (H_xFq1 a0 a1 a2 a3) (V_xFq1 a0 a1 a2 a3 r) (R_xFq1 a0 a1 a2 a3 r)
abbrev C_xFq1 (a0 : NL) (a1 : List (Bool)) (a2 : Nat) (a3 : Nat) (r : Int) (ins outs : BL) : CallA := ⟨2, ins, V_xFq1 a0 a1 a2 a3 r, R_xFq1 a0 a1 a2 a3 r, outs⟩
def qk7_ (x0 : List (Bool)) (x1 : Nat) (x2 : Nat) (x3 : NL) (x4 : Int) (st : Int) : XSt := match st with
 | x5 => (sT 19 [(0, (nlV x3)), (1, (Value.func (.func 34) #[] #[(pN 0 0)])), (7, (i6 x4)), (8, (i6 x5))], [], ⟨sB [(0, (some (.cells (layT [(sN 1 0 x1 x2)]) 47))), (1, (some (.cells (layT (rows rw_b x0)) 4)))], 2, 2⟩)
def qeu_ (x0 : List (Bool)) (x1 : Nat) (x2 : Nat) (x3 : NL) (x4 : Int) (r : (Int) ⊕ (Unit)) : Ex × XSt := match r with
 | .inl z0 => (.ret, (sT 19 [(4, (i6 z0))], [], ⟨sB [(0, (some (.cells (layT [(sN 1 0 x1 x2)]) 47))), (1, (some (.cells (layT (rows rw_b x0)) 4)))], 2, 2⟩))
 | .inr _ => (.exit 0, (sT 19 [], [], ⟨sB [(0, (some (.cells (layT [(sN 1 0 x1 x2)]) 47))), (1, (some (.cells (layT (rows rw_b x0)) 4)))], 2, 2⟩))
abbrev Q_xFq1_1 (rnd : Option Nat) (x0 : List (Bool)) (x1 : Nat) (x2 : Nat) (x3 : NL) (x4 : Int) (st : Int) (c : Ex × XSt) : Prop := CG P rnd (fnN P 61) 2 (qq_ P 61 [false, false, true, false, true]) (qk7_ x0 x1 x2 x3 x4 st) c
abbrev U_xFq1_1 (rd : Option Nat) (x0 : List (Bool)) (x1 : Nat) (x2 : Nat) (x3 : NL) (x4 : Int) (st : Int) (r : (Int) ⊕ (Unit)) : Prop := CG P rd (fnN P 61) 2 (qq_ P 61 [false, true, false, true]) (qk7_ x0 x1 x2 x3 x4 st) (qeu_ x0 x1 x2 x3 x4 r)
def qfv_ (n : Nat) (x0 : List (Bool)) (x1 : Nat) (x2 : Nat) (x3 : NL) (x4 : Int) (st : Int) : Option ((Int) ⊕ ((Int) ⊕ (Unit))) := match st with
 | x5 =>
  if x5 < x4 then
   if 0 ≤ x5 ∧ x5 < (x3.l.length : Int) then
    if (x5).toNat < ((x3).l).length then
     ((some (((x3).l).getD (x5).toNat 0))).bind fun y4_ =>
     (qk6_ n y4_ x0 x1 x2).bind fun y5_ =>
     if y5_ = true then
      some (.inr (.inl x5))
     else
      some (.inl (w64 (x5 + 1)))
    else none
   else none
  else
   some (.inr (.inr ()))
def qnv_ (n : Nat) (x0 : List (Bool)) (x1 : Nat) (x2 : Nat) (x3 : NL) (x4 : Int) (st : Int) : Option ((Int) ⊕ (Unit)) := iterM (qfv_ n x0 x1 x2 x3 x4) n st
theorem q_xFq1_1_0 (n : Nat) {rnd : Option Nat} (x0 : List (Bool)) (x1 x2 : Nat) (x3 : NL) (x4 x5 : Int) (hy1 : x5 < x4) (hy2 : 0 ≤ x5 ∧ x5 < (x3.l.length : Int)) (hy3 : (x5).toNat < ((x3).l).length) (y4_ : Int) (hy4 : (some (((x3).l).getD (x5).toNat 0)) = some y4_) (y5_ : Bool) (hy5 : qk6_ n y4_ x0 x1 x2 = some y5_) (hy6 : y5_ = true) : Q_xFq1_1 rnd x0 x1 x2 x3 x4 x5 (qeu_ x0 x1 x2 x3 x4 (.inl x5)) :=
 runC2 hm (L := lT []) ⟨[4], [(0, 0, false), (1, 1, true)], 2, 2⟩ (zz 1 (xdT hy1) <|
zz 13 (xk9 (Nat.add (x3).num 64) (x3).cap hy2) <|
zz 14 (nk10 hy4 hy3) <|
yy 15 (.call (C_tS1q1 y4_ x0 x1 x2 y5_ [(0, 0, false), (1, 1, true)] [])) <|
ww (m_tS1q1_ok n y4_ x0 x1 x2 y5_ hy5) <|
ww (qd_ rwf_b x0 4) <|
zz 16 (xbT hy6) <|
ww (qd_ rwf_b x0 4) <|
ee) (by kernel_rfl)
theorem q_xFq1_1_1 (n : Nat) {rnd : Option Nat} (x0 : List (Bool)) (x1 x2 : Nat) (x3 : NL) (x4 x5 : Int) (hy1 : x5 < x4) (hy2 : 0 ≤ x5 ∧ x5 < (x3.l.length : Int)) (hy3 : (x5).toNat < ((x3).l).length) (y4_ : Int) (hy4 : (some (((x3).l).getD (x5).toNat 0)) = some y4_) (y5_ : Bool) (hy5 : qk6_ n y4_ x0 x1 x2 = some y5_) (hy6 : ¬ (y5_ = true)) : Q_xFq1_1 rnd x0 x1 x2 x3 x4 x5 (.normal, qk7_ x0 x1 x2 x3 x4 (w64 (x5 + 1))) :=
 runC2 hm (L := lT []) ⟨[0, 1, 7, 8], [(0, 0, false), (1, 1, true)], 2, 2⟩ (zz 1 (xdT hy1) <|
zz 13 (xk9 (Nat.add (x3).num 64) (x3).cap hy2) <|
zz 14 (nk10 hy4 hy3) <|
yy 15 (.call (C_tS1q1 y4_ x0 x1 x2 y5_ [(0, 0, false), (1, 1, true)] [])) <|
ww (m_tS1q1_ok n y4_ x0 x1 x2 y5_ hy5) <|
ww (qd_ rwf_b x0 4) <|
zz 16 (xbF hy6) <|
ww (qd_ rwf_b x0 4) <|
ee) (by kernel_rfl)
theorem q_xFq1_1_2 (n : Nat) {rnd : Option Nat} (x0 : List (Bool)) (x1 x2 : Nat) (x3 : NL) (x4 x5 : Int) (hy1 : ¬ (x5 < x4)) : Q_xFq1_1 rnd x0 x1 x2 x3 x4 x5 (qeu_ x0 x1 x2 x3 x4 (.inr ())) :=
 runC2 hm (L := lT []) ⟨[], [(0, 0, false), (1, 1, true)], 2, 2⟩ (zz 1 (xdF hy1) <|
ww (qd_ rwf_b x0 4) <|
ee) (by kernel_rfl)
theorem ql8_ (n : Nat) {rnd : Option Nat} (x0 : List (Bool)) (x1 : Nat) (x2 : Nat) (x3 : NL) (x4 : Int) (st : Int) (r : (Int) ⊕ (Unit)) (h : qnv_ n x0 x1 x2 x3 x4 st = some r) : CG P rnd (fnN P 61) 2 (qq_ P 61 [false, true, false, true]) (qk7_ x0 x1 x2 x3 x4 st) (qeu_ x0 x1 x2 x3 x4 r) :=
 CG.iter (b := qq_ P 61 [false, false, true, false, true]) (by kernel_rfl) (body := qfv_ n x0 x1 x2 x3 x4) (S := qk7_ x0 x1 x2 x3 x4) (X := qeu_ x0 x1 x2 x3 x4)
  (fun x5 s' h => by
  unfold qfv_ at h
  dsimp only at h
  by_cases hy1 : x5 < x4
  ·rw [if_pos hy1] at h
   obtain ⟨hy2, h⟩ := gd h
   obtain ⟨hy3, h⟩ := gd h
   obtain ⟨y4_, hy4, h⟩ := oB h
   obtain ⟨y5_, hy5, h⟩ := oB h
   by_cases hy6 : y5_ = true
   ·rw [if_pos hy6] at h
    cases h
   ·rw [if_neg hy6] at h
    obtain rfl := Sum.inl.inj (oI h); exact q_xFq1_1_1 n x0 x1 x2 x3 x4 x5 hy1 hy2 hy3 y4_ hy4 y5_ hy5 hy6
  ·rw [if_neg hy1] at h
   cases h)
  (fun x5 r h => by
  unfold qfv_ at h
  dsimp only at h
  by_cases hy1 : x5 < x4
  ·rw [if_pos hy1] at h
   obtain ⟨hy2, h⟩ := gd h
   obtain ⟨hy3, h⟩ := gd h
   obtain ⟨y4_, hy4, h⟩ := oB h
   obtain ⟨y5_, hy5, h⟩ := oB h
   by_cases hy6 : y5_ = true
   ·rw [if_pos hy6] at h
    obtain rfl := Sum.inr.inj (oI h); exact q_xFq1_1_0 n x0 x1 x2 x3 x4 x5 hy1 hy2 hy3 y4_ hy4 y5_ hy5 hy6
   ·rw [if_neg hy6] at h
    cases h
  ·rw [if_neg hy1] at h
   obtain rfl := Sum.inr.inj (oI h); exact q_xFq1_1_2 n x0 x1 x2 x3 x4 x5 hy1)
  (fun r => by intro hx; rcases r with _ | _ <;> cases hx) h
def m_xFq1 (n : Nat) (a0 : NL) (a1 : List (Bool)) (a2 : Nat) (a3 : Nat) : Option (Int) :=
 match qnv_ n a1 a2 a3 a0 (a0.l.length : Int) 0 with
 | none => none
 | some (.inl c1_) =>
  some c1_
 | some (.inr _) =>
  some (-1)
theorem m_xFq1_ok (n : Nat) (a0 : NL) (a1 : List (Bool)) (a2 : Nat) (a3 : Nat) (r : Int) (h : m_xFq1 n a0 a1 a2 a3 = some r) : Gv P (.func 61) (A_xFq1 a0 a1 a2 a3) (H_xFq1 a0 a1 a2 a3) (V_xFq1 a0 a1 a2 a3 r) (R_xFq1 a0 a1 a2 a3 r) := by
 unfold m_xFq1 at h
 rcases hc1 : qnv_ n a1 a2 a3 a0 (a0.l.length : Int) 0 with _ | (c1_ | ⟨⟩)
 ·rw [hc1] at h; cases h
 ·rw [hc1] at h
  dsimp only at h
  obtain rfl := oI h; exact (runF2 hm (L := lT [(8, ⟨⟨[0, 1, 7, 8], [(0, 0, false), (1, 1, true)], 2, 2⟩, (qeu_ a1 a2 a3 a0 (a0.l.length : Int) (.inl c1_)).1, (qeu_ a1 a2 a3 a0 (a0.l.length : Int) (.inl c1_)).2⟩)]) ⟨[4], [], 2, 2⟩ (ww (p := U_xFq1_1 none a1 a2 a3 a0 (a0.l.length : Int) 0 (.inl c1_)) (ql8_ n a1 a2 a3 a0 (a0.l.length : Int) 0 (.inl c1_) hc1) <|
ww (qd_ rwf_b a1 4) ee) (by kernel_rfl))
 ·rw [hc1] at h
  dsimp only at h
  obtain rfl := oI h; exact (runF2 hm (L := lT [(8, ⟨⟨[0, 1, 7, 8], [(0, 0, false), (1, 1, true)], 2, 2⟩, (qeu_ a1 a2 a3 a0 (a0.l.length : Int) (.inr ())).1, (qeu_ a1 a2 a3 a0 (a0.l.length : Int) (.inr ())).2⟩)]) ⟨[4], [], 2, 2⟩ (ww (p := U_xFq1_1 none a1 a2 a3 a0 (a0.l.length : Int) 0 (.inr ())) (ql8_ n a1 a2 a3 a0 (a0.l.length : Int) 0 (.inr ()) hc1) <|
ww (qd_ rwf_b a1 4) ee) (by kernel_rfl))

def A_cFq1 (a0 : NL) (a1 : List (Bool)) (a2 : Nat) (a3 : Nat) : List Value := [(nlV a0), (Value.func (.func 34) #[] #[(pN 0 0)])]
def H_cFq1 (a0 : NL) (a1 : List (Bool)) (a2 : Nat) (a3 : Nat) : AH := ⟨sB [(0, (some (.cells (layT [(sN 1 0 a2 a3)]) 47))), (1, (some (.cells (layT (rows rw_b a1)) 4)))], 2, 2⟩
def V_cFq1 (a0 : NL) (a1 : List (Bool)) (a2 : Nat) (a3 : Nat) (r : Bool) : Value := match r with
 | o0 => (bO o0)
def R_cFq1 (a0 : NL) (a1 : List (Bool)) (a2 : Nat) (a3 : Nat) (r : Bool) : AH := match r with
 | o0 => ⟨sB [], 2, 2⟩
abbrev G_cFq1 (a0 : NL) (a1 : List (Bool)) (a2 : Nat) (a3 : Nat) (r : Bool) : Prop := Gv P (.func 33) (A_cFq1 a0 a1 a2 a3) (H_cFq1 a0 a1 a2 a3) (V_cFq1 a0 a1 a2 a3 r) (R_cFq1 a0 a1 a2 a3 r)
abbrev C_cFq1 (a0 : NL) (a1 : List (Bool)) (a2 : Nat) (a3 : Nat) (r : Bool) (ins outs : BL) : CallA := ⟨2, ins, V_cFq1 a0 a1 a2 a3 r, R_cFq1 a0 a1 a2 a3 r, outs⟩
def m_cFq1 (n : Nat) (a0 : NL) (a1 : List (Bool)) (a2 : Nat) (a3 : Nat) : Option (Bool) :=
 (m_xFq1 n a0 a1 a2 a3).bind fun c1_ =>
 if c1_ ≥ 0 then
  some true
 else
  some false
theorem m_cFq1_ok (n : Nat) (a0 : NL) (a1 : List (Bool)) (a2 : Nat) (a3 : Nat) (r : Bool) (h : m_cFq1 n a0 a1 a2 a3 = some r) : Gv P (.func 33) (A_cFq1 a0 a1 a2 a3) (H_cFq1 a0 a1 a2 a3) (V_cFq1 a0 a1 a2 a3 r) (R_cFq1 a0 a1 a2 a3 r) := by
 unfold m_cFq1 at h
 obtain ⟨c1_, hc1, h⟩ := oB h
 by_cases hc2 : c1_ ≥ 0
 ·rw [if_pos hc2] at h
  obtain rfl := oI h; exact (runF2 hm (L := lT []) ⟨[4], [], 2, 2⟩ (yy 5 (.call (C_xFq1 a0 a1 a2 a3 c1_ [(0, 0, false), (1, 1, true)] [])) <|
ww (m_xFq1_ok n a0 a1 a2 a3 c1_ hc1) <|
ww (qd_ rwf_b a1 4) <|
zz 6 (xdT hc2) ee) (by kernel_rfl))
 ·rw [if_neg hc2] at h
  obtain rfl := oI h; exact (runF2 hm (L := lT []) ⟨[4], [], 2, 2⟩ (yy 5 (.call (C_xFq1 a0 a1 a2 a3 c1_ [(0, 0, false), (1, 1, true)] [])) <|
ww (m_xFq1_ok n a0 a1 a2 a3 c1_ hc1) <|
ww (qd_ rwf_b a1 4) <|
zz 6 (xdF hc2) ee) (by kernel_rfl))


end Go.Proofs.YtmjibnlojmdcgaaGreatDoor.mlt19
