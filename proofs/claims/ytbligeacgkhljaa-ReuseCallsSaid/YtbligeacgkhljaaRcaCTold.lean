/-
  What functions do, told by pure functions. No condition.
-/
import Derived.Test.YtbligeacgkhljaaRcaBTold
set_option linter.unusedSimpArgs false
set_option linter.unusedVariables false
set_option linter.unusedSectionVars false
set_option linter.unnecessarySimpa false
set_option maxRecDepth 100000
noncomputable section
namespace Go.Proofs.Ytbligeacgkhljaa.rca21
open Go Go.Proofs.Ytbligeacgkhljaa Ax
variable [Args]
def qd9_ (a0 : W8) (a1 : Int) : List Value := [(wlV a0), (i6 a1)]
def qea_ (a0 : W8) (a1 : Int) : AH := ⟨sB [], 0, 0⟩
def qc8_ (a0 : W8) (a1 : Int) (r : Int) : Value := match r with
 | o0 => (i6 o0)
def qc9_ (a0 : W8) (a1 : Int) (r : Int) : AH := match r with
 | o0 => ⟨sB [], 0, 0⟩
abbrev qs6_ (a0 : W8) (a1 : Int) (r : Int) : Prop := Gv P (.func 48) (qd9_ a0 a1) (qea_ a0 a1) (qc8_ a0 a1 r) (qc9_ a0 a1 r)
abbrev qfy_ (a0 : W8) (a1 : Int) (r : Int) (ins outs : BL) : CallA := ⟨0, ins, qc8_ a0 a1 r, qc9_ a0 a1 r, outs⟩
def qe4_ (x1_0 : W8) (x1_1 : Int) (st : Int × Int × Int) : XSt := match st with
 | (x1_2, x1_3, x1_4) => (sT 68 [(0, (wlV x1_0)), (1, (i6 x1_1)), (5, (i6 x1_2)), (6, (i6 x1_3)), (7, (i6 x1_4))], [], ⟨sB [], 0, 0⟩)
def qb2_ (x1_0 : W8) (x1_1 : Int) (r : (Unit) ⊕ (Int × Int)) : Ex × XSt := match r with
 | .inl _ => (.ret, (sT 68 [(4, (i6 (-1 : Int)))], [], ⟨sB [], 0, 0⟩))
 | .inr (z1_0, z1_1) => (.exit 0, (sT 68 [(0, (wlV x1_0)), (1, (i6 x1_1)), (5, (i6 z1_0)), (6, (i6 z1_1))], [], ⟨sB [], 0, 0⟩))
abbrev qq7_ (rnd : Option Nat) (x1_0 : W8) (x1_1 : Int) (st : Int × Int × Int) (c : Ex × XSt) : Prop := CG P rnd (fnN P 48) 0 (qw_ P 48 [false, false, true, false, true, true]) (qe4_ x1_0 x1_1 st) c
abbrev qgu_ (rd : Option Nat) (x1_0 : W8) (x1_1 : Int) (st : Int × Int × Int) (r : (Unit) ⊕ (Int × Int)) : Prop := CG P rd (fnN P 48) 0 (qw_ P 48 [false, true, false, true, true]) (qe4_ x1_0 x1_1 st) (qb2_ x1_0 x1_1 r)
def qh_ (rec_viewportref16endq1 : (W8) → (Int) → Option (Int)) (n : Nat) (x1_0 : W8) (x1_1 : Int) (st : Int × Int × Int) : Option ((Int × Int × Int) ⊕ ((Unit) ⊕ (Int × Int))) := match st with
 | (x1_2, x1_3, x1_4) =>
  if 0 ≤ x1_1 ∧ x1_1 < (((x1_0).l.length : Nat) : Int) then
   ((some (((x1_0).l).getD (x1_1).toNat (0, 0, 0, 0, 0, 0, nl0, 0)))).bind fun y1_2_ =>
   if x1_4 < ((((y1_2_.2.2.2.2.2.2.1)).l.length : Nat) : Int) then
    if 0 ≤ x1_4 ∧ x1_4 < ((((y1_2_.2.2.2.2.2.2.1)).l.length : Nat) : Int) then
     if (x1_4).toNat < (((y1_2_.2.2.2.2.2.2.1)).l).length then
      ((some ((((y1_2_.2.2.2.2.2.2.1)).l).getD (x1_4).toNat 0))).bind fun y1_6_ =>
      if y1_6_ = x1_2 then
       if x1_2 ≥ (((x1_0).l.length : Nat) : Int) then
        some (.inr (.inl ()))
       else
        if 0 ≤ x1_2 ∧ x1_2 < (((x1_0).l.length : Nat) : Int) then
         ((some (((x1_0).l).getD (x1_2).toNat (0, 0, 0, 0, 0, 0, nl0, 0)))).bind fun y1_10_ =>
         if (y1_10_.2.2.1) < x1_3 then
          some (.inr (.inl ()))
         else
          (rec_viewportref16endq1 x1_0 x1_2).bind fun y1_12_ =>
          if y1_12_ < (0 : Int) then
           some (.inr (.inl ()))
          else
           some (.inl (y1_12_, (y1_10_.2.2.2.2.1), (w64 (x1_4 + (1 : Int)))))
        else none
      else
       some (.inr (.inl ()))
     else none
    else none
   else
    some (.inr (.inr (x1_2, x1_3)))
  else none
def qci_ (rec_viewportref16endq1 : (W8) → (Int) → Option (Int)) (n : Nat) (x1_0 : W8) (x1_1 : Int) (st : Int × Int × Int) : Option ((Unit) ⊕ (Int × Int)) := iterM (qh_ rec_viewportref16endq1 n x1_0 x1_1) n st
theorem qkg_ (rec_viewportref16endq1 : (W8) → (Int) → Option (Int)) (hrec_viewportref16endq1 : ∀ (a0 : W8) (a1 : Int) (r : Int), rec_viewportref16endq1 a0 a1 = some r → Gv P (.func 48) (qd9_ a0 a1) (qea_ a0 a1) (qc8_ a0 a1 r) (qc9_ a0 a1 r)) (n : Nat) {rnd : Option Nat} (x1_0 : W8) (x1_1 : Int) (st : Int × Int × Int) (o : (Int × Int × Int) ⊕ ((Unit) ⊕ (Int × Int))) (h : qh_ rec_viewportref16endq1 n x1_0 x1_1 st = some o) : qq7_ rnd x1_0 x1_1 st (Sum.elim (fun s => (.normal, qe4_ x1_0 x1_1 s)) (fun r => qb2_ x1_0 x1_1 r) o) := by
 obtain ⟨x1_2, x1_3, x1_4⟩ := st
 unfold qh_ at h
 dsimp only at h
 obtain ⟨hy1_1, h⟩ := gd h
 obtain ⟨y1_2_, hy1_2, h⟩ := oB h
 have k0 := fun {A L l} (k : PL A L l) => zz 5 (xk1 (x1_0).num (x1_0).off (x1_0).cap hy1_1) <|
  zz 6 (fk11 (x1_0).num (Nat.add (x1_0).off ((x1_1).toNat * 8))) <|
  zz 7 (lk12 hy1_2 (qba_ hy1_1)) <|
  k
 by_cases hy1_3 : x1_4 < ((((y1_2_.2.2.2.2.2.2.1)).l.length : Nat) : Int)
 ·rw [if_pos hy1_3] at h
  obtain ⟨hy1_4, h⟩ := gd h
  obtain ⟨hy1_5, h⟩ := gd h
  obtain ⟨y1_6_, hy1_6, h⟩ := oB h
  have k3 := fun {A L l} (k : PL A L l) => zz 9 (xdT hy1_3) <|
   zz 17 (xk1 (x1_0).num (x1_0).off (x1_0).cap hy1_1) <|
   zz 18 (fk11 (x1_0).num (Nat.add (x1_0).off ((x1_1).toNat * 8))) <|
   zz 19 (lk12 hy1_2 (qba_ hy1_1)) <|
   zz 21 (xk8 (Nat.add ((y1_2_.2.2.2.2.2.2.1)).num 64) ((y1_2_.2.2.2.2.2.2.1)).off ((y1_2_.2.2.2.2.2.2.1)).cap hy1_4) <|
   zz 22 (nk9 hy1_6 hy1_5) <|
   k
  by_cases hy1_7 : y1_6_ = x1_2
  ·rw [if_pos hy1_7] at h
   have k9 := fun {A L l} (k : PL A L l) => zz 24 (xnF hy1_7) <|
    k
   by_cases hy1_8 : x1_2 ≥ (((x1_0).l.length : Nat) : Int)
   ·rw [if_pos hy1_8] at h
    obtain rfl := oI h
    exact runC2 hm (kW [4] [] 0 0) (k0 <|
     k3 <|
     k9 <|
     zz 29 (xdT hy1_8) <|
     ee) (by kernel_rfl)
   ·rw [if_neg hy1_8] at h
    obtain ⟨hy1_9, h⟩ := gd h
    obtain ⟨y1_10_, hy1_10, h⟩ := oB h
    have k10 := fun {A L l} (k : PL A L l) => zz 29 (xdF hy1_8) <|
     zz 34 (xk1 (x1_0).num (x1_0).off (x1_0).cap hy1_9) <|
     zz 35 (fk18 (x1_0).num (Nat.add (x1_0).off ((x1_2).toNat * 8))) <|
     zz 36 (lk19 hy1_10 (qba_ hy1_9)) <|
     k
    by_cases hy1_11 : (y1_10_.2.2.1) < x1_3
    ·rw [if_pos hy1_11] at h
     obtain rfl := oI h
     exact runC2 hm (kW [4] [] 0 0) (k0 <|
      k3 <|
      k9 <|
      k10 <|
      zz 38 (xdT hy1_11) <|
      ee) (by kernel_rfl)
    ·rw [if_neg hy1_11] at h
     obtain ⟨y1_12_, hy1_12, h⟩ := oB h
     have k14 := fun {A L l} (k : PL A L l) => zz 38 (xdF hy1_11) <|
      zz 44 (xk1 (x1_0).num (x1_0).off (x1_0).cap hy1_9) <|
      zz 45 (fk20 (x1_0).num (Nat.add (x1_0).off ((x1_2).toNat * 8))) <|
      zz 46 (lk21 hy1_10 (qba_ hy1_9)) <|
      yy 51 (.call (qfy_ x1_0 x1_2 y1_12_ [] [])) <|
      ww (hrec_viewportref16endq1 x1_0 x1_2 y1_12_ hy1_12) <|
      k
     by_cases hy1_13 : y1_12_ < (0 : Int)
     ·rw [if_pos hy1_13] at h
      obtain rfl := oI h
      exact runC2 hm (kW [4] [] 0 0) (k0 <|
       k3 <|
       k9 <|
       k10 <|
       k14 <|
       zz 55 (xdT hy1_13) <|
       ee) (by kernel_rfl)
     ·rw [if_neg hy1_13] at h
      obtain rfl := oI h
      exact runC2 hm (kW [0, 1, 5, 6, 7] [] 0 0) (k0 <|
       k3 <|
       k9 <|
       k10 <|
       k14 <|
       zz 55 (xdF hy1_13) <|
       ee) (by kernel_rfl)
  ·rw [if_neg hy1_7] at h
   obtain rfl := oI h
   exact runC2 hm (kW [4] [] 0 0) (k0 <|
    k3 <|
    zz 24 (xnT hy1_7) <|
    ee) (by kernel_rfl)
 ·rw [if_neg hy1_3] at h
  obtain rfl := oI h
  exact runC2 hm (kW [0, 1, 5, 6] [] 0 0) (k0 <|
   zz 9 (xdF hy1_3) <|
   ee) (by kernel_rfl)
theorem qik_ (rec_viewportref16endq1 : (W8) → (Int) → Option (Int)) (hrec_viewportref16endq1 : ∀ (a0 : W8) (a1 : Int) (r : Int), rec_viewportref16endq1 a0 a1 = some r → Gv P (.func 48) (qd9_ a0 a1) (qea_ a0 a1) (qc8_ a0 a1 r) (qc9_ a0 a1 r)) (n : Nat) {rnd : Option Nat} (x1_0 : W8) (x1_1 : Int) (st : Int × Int × Int) (r : (Unit) ⊕ (Int × Int)) (h : qci_ rec_viewportref16endq1 n x1_0 x1_1 st = some r) : qgu_ rnd x1_0 x1_1 st r :=
 CG.iter (b := qw_ P 48 [false, false, true, false, true, true]) (by kernel_rfl) (body := qh_ rec_viewportref16endq1 n x1_0 x1_1) (S := qe4_ x1_0 x1_1) (X := qb2_ x1_0 x1_1)
  (fun s s' h => qkg_ rec_viewportref16endq1 hrec_viewportref16endq1 n x1_0 x1_1 s (.inl s') h)
  (fun s r h => qkg_ rec_viewportref16endq1 hrec_viewportref16endq1 n x1_0 x1_1 s (.inr r) h)
  (fun r => by intro hx; rcases r with _ | _ <;> cases hx) h
def qbi_ (rec_viewportref16endq1 : (W8) → (Int) → Option (Int)) (n : Nat) (a0 : W8) (a1 : Int) : Option (Int) :=
 if 0 ≤ a1 ∧ a1 < (((a0).l.length : Nat) : Int) then
  ((some (((a0).l).getD (a1).toNat (0, 0, 0, 0, 0, 0, nl0, 0)))).bind fun c2_ =>
  match qci_ rec_viewportref16endq1 n a0 a1 ((w64 (a1 + (1 : Int))), (c2_.2.2.1), 0) with
  | none => none
  | some (.inl _) =>
   some (-1)
  | some (.inr (c3_0, c3_1)) =>
   if c3_1 > (c2_.2.2.2.2.1) then
    some (-1)
   else
    some c3_0
 else none
theorem qqb_ (rec_viewportref16endq1 : (W8) → (Int) → Option (Int)) (hrec_viewportref16endq1 : ∀ (a0 : W8) (a1 : Int) (r : Int), rec_viewportref16endq1 a0 a1 = some r → Gv P (.func 48) (qd9_ a0 a1) (qea_ a0 a1) (qc8_ a0 a1 r) (qc9_ a0 a1 r)) (n : Nat) (a0 : W8) (a1 : Int) (r : Int) (h : qbi_ rec_viewportref16endq1 n a0 a1 = some r) : qs6_ a0 a1 r := by
 unfold qbi_ at h
 obtain ⟨hc1, h⟩ := gd h
 obtain ⟨c2_, hc2, h⟩ := oB h
 have k0 := fun {A L l} (k : PL A L l) => zz 7 (xk1 (a0).num (a0).off (a0).cap hc1) <|
  zz 8 (fk18 (a0).num (Nat.add (a0).off ((a1).toNat * 8))) <|
  zz 9 (lk19 hc2 (qba_ hc1)) <|
  k
 rcases hc3 : qci_ rec_viewportref16endq1 n a0 a1 ((w64 (a1 + (1 : Int))), (c2_.2.2.1), 0) with _ | (⟨⟩ | ⟨c3_0, c3_1⟩)
 ·rw [hc3] at h; cases h
 ·rw [hc3] at h
  dsimp only at h
  obtain rfl := oI h
  exact runF2 hm (kW [4] [] 0 0) (k0 <|
   ww (p := qgu_ none a0 a1 ((w64 (a1 + (1 : Int))), (c2_.2.2.1), 0) (.inl ())) (qik_ rec_viewportref16endq1 hrec_viewportref16endq1 n a0 a1 ((w64 (a1 + (1 : Int))), (c2_.2.2.1), 0) (.inl ()) hc3) <|
   ll 16 ⟨(kW [0, 1, 5, 6, 7] [] 0 0), (qb2_ a0 a1 (.inl ())).1, (qb2_ a0 a1 (.inl ())).2⟩ <|
   ee) (by kernel_rfl)
 ·rw [hc3] at h
  dsimp only at h
  have k3 := fun {A L l} (k : PL A L l) => ww (p := qgu_ none a0 a1 ((w64 (a1 + (1 : Int))), (c2_.2.2.1), 0) (.inr (c3_0, c3_1))) (qik_ rec_viewportref16endq1 hrec_viewportref16endq1 n a0 a1 ((w64 (a1 + (1 : Int))), (c2_.2.2.1), 0) (.inr (c3_0, c3_1)) hc3) <|
   ll 16 ⟨(kW [0, 1, 5, 6, 7] [] 0 0), (qb2_ a0 a1 (.inr (c3_0, c3_1))).1, (qb2_ a0 a1 (.inr (c3_0, c3_1))).2⟩ <|
   zz 22 (xk1 (a0).num (a0).off (a0).cap hc1) <|
   zz 23 (fk20 (a0).num (Nat.add (a0).off ((a1).toNat * 8))) <|
   zz 24 (lk21 hc2 (qba_ hc1)) <|
   k
  by_cases hc4 : c3_1 > (c2_.2.2.2.2.1)
  ·rw [if_pos hc4] at h
   obtain rfl := oI h
   exact runF2 hm (kW [4] [] 0 0) (k0 <|
    k3 <|
    zz 25 (xdT hc4) <|
    ee) (by kernel_rfl)
  ·rw [if_neg hc4] at h
   obtain rfl := oI h
   exact runF2 hm (kW [4] [] 0 0) (k0 <|
    k3 <|
    zz 25 (xdF hc4) <|
    ee) (by kernel_rfl)
def qc_ : Nat → (W8) → (Int) → Option (Int)
 | 0 => fun _ _ => none
 | n + 1 => fun a0 a1 => qbi_ (qc_ n) n a0 a1
theorem qef_ : ∀ (n : Nat) (a0 : W8) (a1 : Int) (r : Int) (h : qc_ n a0 a1 = some r), Gv P (.func 48) (qd9_ a0 a1) (qea_ a0 a1) (qc8_ a0 a1 r) (qc9_ a0 a1 r)
 | 0, _, _, _, h => nomatch h
 | n + 1, a0, a1, r, h => qqb_ (qc_ n) (qef_ n) n a0 a1 r h

def qkh_ (a0 : W8) (r : Int) : Value := match r with
 | o0 => (i6 o0)
def qki_ (a0 : W8) (r : Int) : AH := match r with
 | o0 => ⟨sB [], 0, 0⟩
abbrev qq8_ (a0 : W8) (r : Int) : Prop := Gv P (.func 36) [(wlV a0)] ⟨sB [], 0, 0⟩ (qkh_ a0 r) (qki_ a0 r)
abbrev qe5_ (a0 : W8) (r : Int) (ins outs : BL) : CallA := ⟨0, ins, qkh_ a0 r, qki_ a0 r, outs⟩
def qdq_ (x1_0 : W8) (st : Int) : XSt := match st with
 | x1_1 => (sT 41 [(0, (wlV x1_0)), (3, (i6 x1_1))], [], ⟨sB [], 0, 0⟩)
def qbj_ (x1_0 : W8) (r : (Unit) ⊕ (Unit)) : Ex × XSt := match r with
 | .inl _ => (.ret, (sT 41 [(2, (i6 (2 : Int)))], [], ⟨sB [], 0, 0⟩))
 | .inr _ => (.exit 0, (sT 41 [(0, (wlV x1_0))], [], ⟨sB [], 0, 0⟩))
abbrev qfz_ (rd : Option Nat) (x1_0 : W8) (st : Int) (r : (Unit) ⊕ (Unit)) : Prop := CG P rd (fnN P 36) 0 (qw_ P 36 [false, true, false, true, true]) (qdq_ x1_0 st) (qbj_ x1_0 r)
def qj_ (n : Nat) (x1_0 : W8) (st : Int) : Option ((Int) ⊕ ((Unit) ⊕ (Unit))) := match st with
 | x1_1 =>
  if x1_1 < (((x1_0).l.length : Nat) : Int) then
   if 0 ≤ x1_1 ∧ x1_1 < (((x1_0).l.length : Nat) : Int) then
    ((some (((x1_0).l).getD (x1_1).toNat (0, 0, 0, 0, 0, 0, nl0, 0)))).bind fun y1_3_ =>
    (qv_ n (y1_3_.1) (y1_3_.2.1) (y1_3_.2.2.1) (y1_3_.2.2.2.1) (y1_3_.2.2.2.2.1) (y1_3_.2.2.2.2.2.1) (y1_3_.2.2.2.2.2.2.1) (y1_3_.2.2.2.2.2.2.2)).bind fun y1_4_ =>
    if y1_4_ = true then
     if x1_1 > (0 : Int) then
      if (y1_3_.2.1) = (1 : Int) then
       some (.inr (.inl ()))
      else
       some (.inl (w64 (x1_1 + (1 : Int))))
     else
      some (.inl (w64 (x1_1 + (1 : Int))))
    else
     some (.inr (.inl ()))
   else none
  else
   some (.inr (.inr ()))
def qco_ (n : Nat) (x1_0 : W8) (st : Int) : Option ((Unit) ⊕ (Unit)) := iterM (qj_ n x1_0) n st
theorem qiy_ (n : Nat) {rnd : Option Nat} (x1_0 : W8) (x1_1 : Int) (o : (Int) ⊕ ((Unit) ⊕ (Unit))) (h : qj_ n x1_0 x1_1 = some o) : CG P rnd (fnN P 36) 0 (qw_ P 36 [false, false, true, false, true, true]) (qdq_ x1_0 x1_1) (Sum.elim (fun s => (.normal, qdq_ x1_0 s)) (fun r => qbj_ x1_0 r) o) := by
 unfold qj_ at h
 dsimp only at h
 by_cases hy1_1 : x1_1 < (((x1_0).l.length : Nat) : Int)
 ·rw [if_pos hy1_1] at h
  obtain ⟨hy1_2, h⟩ := gd h
  obtain ⟨y1_3_, hy1_3, h⟩ := oB h
  obtain ⟨y1_4_, hy1_4, h⟩ := oB h
  have k0 := fun {A L l} (k : PL A L l) => zz 5 (xdT hy1_1) <|
   zz 12 (xk1 (x1_0).num (x1_0).off (x1_0).cap hy1_2) <|
   zz 13 (lk2 hy1_3 (qba_ hy1_2)) <|
   yy 14 (.call (qrz_ (y1_3_.1) (y1_3_.2.1) (y1_3_.2.2.1) (y1_3_.2.2.2.1) (y1_3_.2.2.2.2.1) (y1_3_.2.2.2.2.2.1) (y1_3_.2.2.2.2.2.2.1) (y1_3_.2.2.2.2.2.2.2) y1_4_ [] [])) <|
   ww (qpe_ n (y1_3_.1) (y1_3_.2.1) (y1_3_.2.2.1) (y1_3_.2.2.2.1) (y1_3_.2.2.2.2.1) (y1_3_.2.2.2.2.2.1) (y1_3_.2.2.2.2.2.2.1) (y1_3_.2.2.2.2.2.2.2) y1_4_ hy1_4) <|
   k
  by_cases hy1_5 : y1_4_ = true
  ·rw [if_pos hy1_5] at h
   have k5 := fun {A L l} (k : PL A L l) => yy 15 (vf) <|
    ww (p := (Value.bool (!y1_4_)) = (Value.bool false)) (vBn hy1_5) <|
    k
   by_cases hy1_6 : x1_1 > (0 : Int)
   ·rw [if_pos hy1_6] at h
    have k7 := fun {A L l} (k : PL A L l) => zz 18 (xdT hy1_6) <|
     zz 22 (xk1 (x1_0).num (x1_0).off (x1_0).cap hy1_2) <|
     zz 23 (fk15 (x1_0).num (Nat.add (x1_0).off ((x1_1).toNat * 8))) <|
     zz 24 (lk16 hy1_3 (qba_ hy1_2)) <|
     k
    by_cases hy1_7 : (y1_3_.2.1) = (1 : Int)
    ·rw [if_pos hy1_7] at h
     obtain rfl := oI h
     exact runC2 hm (kW [2] [] 0 0) (k0 <|
      k5 <|
      k7 <|
      zz 25 (xeT hy1_7) <|
      ee) (by kernel_rfl)
    ·rw [if_neg hy1_7] at h
     obtain rfl := oI h
     exact runC2 hm (kW [0, 3] [] 0 0) (k0 <|
      k5 <|
      k7 <|
      zz 25 (xeF hy1_7) <|
      ee) (by kernel_rfl)
   ·rw [if_neg hy1_6] at h
    obtain rfl := oI h
    exact runC2 hm (kW [0, 3] [] 0 0) (k0 <|
     k5 <|
     zz 18 (xdF hy1_6) <|
     ee) (by kernel_rfl)
  ·rw [if_neg hy1_5] at h
   obtain rfl := oI h
   exact runC2 hm (kW [2] [] 0 0) (k0 <|
    yy 15 (vt) <|
    ww (p := (Value.bool (!y1_4_)) = (Value.bool true)) (vBn (Bool.eq_false_iff.2 hy1_5)) <|
    ee) (by kernel_rfl)
 ·rw [if_neg hy1_1] at h
  obtain rfl := oI h
  exact runC2 hm (kW [0] [] 0 0) (zz 5 (xdF hy1_1) <|
   ee) (by kernel_rfl)
theorem qg5_ (n : Nat) {rnd : Option Nat} (x1_0 : W8) (st : Int) (r : (Unit) ⊕ (Unit)) (h : qco_ n x1_0 st = some r) : qfz_ rnd x1_0 st r :=
 CG.iter (b := qw_ P 36 [false, false, true, false, true, true]) (by kernel_rfl) (body := qj_ n x1_0) (S := qdq_ x1_0) (X := qbj_ x1_0)
  (fun s s' h => qiy_ n x1_0 s (.inl s') h)
  (fun s r h => qiy_ n x1_0 s (.inr r) h)
  (fun r => by intro hx; rcases r with _ | _ <;> cases hx) h
def qe_ (n : Nat) (a0 : W8) : Option (Int) :=
 if (((a0).l.length : Nat) : Int) > (524288 : Int) then
  some 3
 else
  match qco_ n a0 0 with
  | none => none
  | some (.inl _) =>
   some 2
  | some (.inr _) =>
   if (((a0).l.length : Nat) : Int) = (0 : Int) then
    some 2
   else
    (qc_ n a0 0).bind fun c4_ =>
    if c4_ = (((a0).l.length : Nat) : Int) then
     some 0
    else
     some 2
theorem qdk_ (n : Nat) (a0 : W8) (r : Int) (h : qe_ n a0 = some r) : qq8_ a0 r := by
 unfold qe_ at h
 by_cases hc1 : (((a0).l.length : Nat) : Int) > (524288 : Int)
 ·rw [if_pos hc1] at h
  obtain rfl := oI h
  exact runF2 hm (kW [2] [] 0 0) (zz 6 (xdT hc1) <|
   ee) (by kernel_rfl)
 ·rw [if_neg hc1] at h
  have k0 := fun {A L l} (k : PL A L l) => zz 6 (xdF hc1) <|
   k
  rcases hc2 : qco_ n a0 0 with _ | (⟨⟩ | ⟨⟩)
  ·rw [hc2] at h; cases h
  ·rw [hc2] at h
   dsimp only at h
   obtain rfl := oI h
   exact runF2 hm (kW [2] [] 0 0) (k0 <|
    ww (p := qfz_ none a0 0 (.inl ())) (qg5_ n a0 0 (.inl ()) hc2) <|
    ll 12 ⟨(kW [0, 3] [] 0 0), (qbj_ a0 (.inl ())).1, (qbj_ a0 (.inl ())).2⟩ <|
    ee) (by kernel_rfl)
  ·rw [hc2] at h
   dsimp only at h
   have k1 := fun {A L l} (k : PL A L l) => ww (p := qfz_ none a0 0 (.inr ())) (qg5_ n a0 0 (.inr ()) hc2) <|
    ll 12 ⟨(kW [0, 3] [] 0 0), (qbj_ a0 (.inr ())).1, (qbj_ a0 (.inr ())).2⟩ <|
    k
   by_cases hc3 : (((a0).l.length : Nat) : Int) = (0 : Int)
   ·rw [if_pos hc3] at h
    obtain rfl := oI h
    exact runF2 hm (kW [2] [] 0 0) (k0 <|
     k1 <|
     zz 17 (xeT hc3) <|
     ee) (by kernel_rfl)
   ·rw [if_neg hc3] at h
    obtain ⟨c4_, hc4, h⟩ := oB h
    have k3 := fun {A L l} (k : PL A L l) => zz 17 (xeF hc3) <|
     yy 20 (.call (qfy_ a0 0 c4_ [] [])) <|
     ww (qef_ n a0 0 c4_ hc4) <|
     k
    by_cases hc5 : c4_ = (((a0).l.length : Nat) : Int)
    ·rw [if_pos hc5] at h
     obtain rfl := oI h
     exact runF2 hm (kW [2] [] 0 0) (k0 <|
      k1 <|
      k3 <|
      zz 23 (xnF hc5) <|
      ee) (by kernel_rfl)
    ·rw [if_neg hc5] at h
     obtain rfl := oI h
     exact runF2 hm (kW [2] [] 0 0) (k0 <|
      k1 <|
      k3 <|
      zz 23 (xnT hc5) <|
      ee) (by kernel_rfl)

def qlg_ (a0 : W8) (a1 : Int) (a2 : Int) (r : Int × Bool) : Value := match r with
 | (o0, o1) => (Value.tuple #[(i6 o0), (bO o1)])
def qlh_ (a0 : W8) (a1 : Int) (a2 : Int) (r : Int × Bool) : AH := match r with
 | (o0, o1) => ⟨sB [], 0, 0⟩
abbrev qr0_ (a0 : W8) (a1 : Int) (a2 : Int) (r : Int × Bool) : Prop := Gv P (.func 24) [(wlV a0), (i6 a1), (i6 a2)] ⟨sB [], 0, 0⟩ (qlg_ a0 a1 a2 r) (qlh_ a0 a1 a2 r)
abbrev qr1_ (a0 : W8) (a1 : Int) (a2 : Int) (r : Int × Bool) (ins outs : BL) : CallA := ⟨0, ins, qlg_ a0 a1 a2 r, qlh_ a0 a1 a2 r, outs⟩
def qeg_ (x1_0 : W8) (x1_1 : Int) (x1_2 : Int) (st : Int) : XSt := match st with
 | x1_3 => (sT 46 [(0, (wlV x1_0)), (1, (i6 x1_1)), (2, (i6 x1_2)), (8, (i6 x1_3))], [], ⟨sB [], 0, 0⟩)
def qbs_ (x1_0 : W8) (x1_1 : Int) (x1_2 : Int) (r : (Int) ⊕ (Unit)) : Ex × XSt := match r with
 | .inl z1_0 => (.ret, (sT 46 [(6, (i6 z1_0)), (7, (bO true))], [], ⟨sB [], 0, 0⟩))
 | .inr _ => (.exit 0, (sT 46 [], [], ⟨sB [], 0, 0⟩))
abbrev qgg_ (rd : Option Nat) (x1_0 : W8) (x1_1 : Int) (x1_2 : Int) (st : Int) (r : (Int) ⊕ (Unit)) : Prop := CG P rd (fnN P 24) 0 (qw_ P 24 [false, true, false, true]) (qeg_ x1_0 x1_1 x1_2 st) (qbs_ x1_0 x1_1 x1_2 r)
def qn_ (n : Nat) (x1_0 : W8) (x1_1 : Int) (x1_2 : Int) (st : Int) : Option ((Int) ⊕ ((Int) ⊕ (Unit))) := match st with
 | x1_3 =>
  if x1_3 < (((x1_0).l.length : Nat) : Int) then
   (qe_ n x1_0).bind fun y1_2_ =>
   if y1_2_ = (0 : Int) then
    if 0 ≤ x1_3 ∧ x1_3 < (((x1_0).l.length : Nat) : Int) then
     ((some (((x1_0).l).getD (x1_3).toNat (0, 0, 0, 0, 0, 0, nl0, 0)))).bind fun y1_5_ =>
     (qf_ n (y1_5_.2.1)).bind fun y1_6_ =>
     if y1_6_ = true then
      some (.inl (w64 (x1_3 + (1 : Int))))
     else
      if (y1_5_.1) = x1_1 then
       if (y1_5_.2.2.1) = x1_2 then
        some (.inr (.inl x1_3))
       else
        some (.inl (w64 (x1_3 + (1 : Int))))
      else
       some (.inl (w64 (x1_3 + (1 : Int))))
    else none
   else
    some (.inr (.inr ()))
  else
   some (.inr (.inr ()))
def qc4_ (n : Nat) (x1_0 : W8) (x1_1 : Int) (x1_2 : Int) (st : Int) : Option ((Int) ⊕ (Unit)) := iterM (qn_ n x1_0 x1_1 x1_2) n st
theorem qjg_ (n : Nat) {rnd : Option Nat} (x1_0 : W8) (x1_1 : Int) (x1_2 : Int) (x1_3 : Int) (o : (Int) ⊕ ((Int) ⊕ (Unit))) (h : qn_ n x1_0 x1_1 x1_2 x1_3 = some o) : CG P rnd (fnN P 24) 0 (qw_ P 24 [false, false, true, false, true]) (qeg_ x1_0 x1_1 x1_2 x1_3) (Sum.elim (fun s => (.normal, qeg_ x1_0 x1_1 x1_2 s)) (fun r => qbs_ x1_0 x1_1 x1_2 r) o) := by
 unfold qn_ at h
 dsimp only at h
 by_cases hy1_1 : x1_3 < (((x1_0).l.length : Nat) : Int)
 ·rw [if_pos hy1_1] at h
  obtain ⟨y1_2_, hy1_2, h⟩ := oB h
  have k0 := fun {A L l} (k : PL A L l) => zz 5 (xdT hy1_1) <|
   yy 8 (.call (qe5_ x1_0 y1_2_ [] [])) <|
   ww (qdk_ n x1_0 y1_2_ hy1_2) <|
   k
  by_cases hy1_3 : y1_2_ = (0 : Int)
  ·rw [if_pos hy1_3] at h
   obtain ⟨hy1_4, h⟩ := gd h
   obtain ⟨y1_5_, hy1_5, h⟩ := oB h
   obtain ⟨y1_6_, hy1_6, h⟩ := oB h
   have k3 := fun {A L l} (k : PL A L l) => zz 9 (xeT hy1_3) <|
    zz 17 (xk1 (x1_0).num (x1_0).off (x1_0).cap hy1_4) <|
    zz 18 (fk15 (x1_0).num (Nat.add (x1_0).off ((x1_3).toNat * 8))) <|
    zz 19 (lk16 hy1_5 (qba_ hy1_4)) <|
    yy 20 (.call (q7_ (y1_5_.2.1) y1_6_ [] [])) <|
    ww (qq_ n (y1_5_.2.1) y1_6_ hy1_6) <|
    k
   by_cases hy1_7 : y1_6_ = true
   ·rw [if_pos hy1_7] at h
    obtain rfl := oI h
    exact runC2 hm (kW [0, 1, 2, 8] [] 0 0) (k0 <|
     k3 <|
     yy 21 (vf) <|
     ww (p := (Value.bool (!y1_6_)) = (Value.bool false)) (vBn hy1_7) <|
     ee) (by kernel_rfl)
   ·rw [if_neg hy1_7] at h
    have k9 := fun {A L l} (k : PL A L l) => yy 21 (vt) <|
     ww (p := (Value.bool (!y1_6_)) = (Value.bool true)) (vBn (Bool.eq_false_iff.2 hy1_7)) <|
     zz 25 (xk1 (x1_0).num (x1_0).off (x1_0).cap hy1_4) <|
     zz 26 (fk22 (x1_0).num (Nat.add (x1_0).off ((x1_3).toNat * 8))) <|
     zz 27 (lk23 hy1_5 (qba_ hy1_4)) <|
     k
    by_cases hy1_8 : (y1_5_.1) = x1_1
    ·rw [if_pos hy1_8] at h
     have k14 := fun {A L l} (k : PL A L l) => zz 29 (xeT hy1_8) <|
      zz 34 (xk1 (x1_0).num (x1_0).off (x1_0).cap hy1_4) <|
      zz 35 (fk18 (x1_0).num (Nat.add (x1_0).off ((x1_3).toNat * 8))) <|
      zz 36 (lk19 hy1_5 (qba_ hy1_4)) <|
      k
     by_cases hy1_9 : (y1_5_.2.2.1) = x1_2
     ·rw [if_pos hy1_9] at h
      obtain rfl := oI h
      exact runC2 hm (kW [6, 7] [] 0 0) (k0 <|
       k3 <|
       k9 <|
       k14 <|
       zz 38 (xeT hy1_9) <|
       ee) (by kernel_rfl)
     ·rw [if_neg hy1_9] at h
      obtain rfl := oI h
      exact runC2 hm (kW [0, 1, 2, 8] [] 0 0) (k0 <|
       k3 <|
       k9 <|
       k14 <|
       zz 38 (xeF hy1_9) <|
       ee) (by kernel_rfl)
    ·rw [if_neg hy1_8] at h
     obtain rfl := oI h
     exact runC2 hm (kW [0, 1, 2, 8] [] 0 0) (k0 <|
      k3 <|
      k9 <|
      zz 29 (xeF hy1_8) <|
      ee) (by kernel_rfl)
  ·rw [if_neg hy1_3] at h
   obtain rfl := oI h
   exact runC2 hm (kW [] [] 0 0) (k0 <|
    zz 9 (xeF hy1_3) <|
    ee) (by kernel_rfl)
 ·rw [if_neg hy1_1] at h
  obtain rfl := oI h
  exact runC2 hm (kW [] [] 0 0) (zz 5 (xdF hy1_1) <|
   ee) (by kernel_rfl)
theorem qhn_ (n : Nat) {rnd : Option Nat} (x1_0 : W8) (x1_1 : Int) (x1_2 : Int) (st : Int) (r : (Int) ⊕ (Unit)) (h : qc4_ n x1_0 x1_1 x1_2 st = some r) : qgg_ rnd x1_0 x1_1 x1_2 st r :=
 CG.iter (b := qw_ P 24 [false, false, true, false, true]) (by kernel_rfl) (body := qn_ n x1_0 x1_1 x1_2) (S := qeg_ x1_0 x1_1 x1_2) (X := qbs_ x1_0 x1_1 x1_2)
  (fun s s' h => qjg_ n x1_0 x1_1 x1_2 s (.inl s') h)
  (fun s r h => qjg_ n x1_0 x1_1 x1_2 s (.inr r) h)
  (fun r => by intro hx; rcases r with _ | _ <;> cases hx) h
def qb8_ (n : Nat) (a0 : W8) (a1 : Int) (a2 : Int) : Option (Int × Bool) :=
 match qc4_ n a0 a1 a2 0 with
 | none => none
 | some (.inl c1_) =>
  some (c1_, true)
 | some (.inr _) =>
  some (0, false)
theorem qpf_ (n : Nat) (a0 : W8) (a1 : Int) (a2 : Int) (r : Int × Bool) (h : qb8_ n a0 a1 a2 = some r) : qr0_ a0 a1 a2 r := by
 unfold qb8_ at h
 rcases hc1 : qc4_ n a0 a1 a2 0 with _ | (c1_ | ⟨⟩)
 ·rw [hc1] at h; cases h
 ·rw [hc1] at h
  dsimp only at h
  obtain rfl := oI h
  exact runF2 hm (kW [6, 7] [] 0 0) (ww (p := qgg_ none a0 a1 a2 0 (.inl c1_)) (qhn_ n a0 a1 a2 0 (.inl c1_) hc1) <|
   ll 7 ⟨(kW [0, 1, 2, 8] [] 0 0), (qbs_ a0 a1 a2 (.inl c1_)).1, (qbs_ a0 a1 a2 (.inl c1_)).2⟩ <|
   ee) (by kernel_rfl)
 ·rw [hc1] at h
  dsimp only at h
  obtain rfl := oI h
  exact runF2 hm (kW [6, 7] [] 0 0) (ww (p := qgg_ none a0 a1 a2 0 (.inr ())) (qhn_ n a0 a1 a2 0 (.inr ()) hc1) <|
   ll 7 ⟨(kW [0, 1, 2, 8] [] 0 0), (qbs_ a0 a1 a2 (.inr ())).1, (qbs_ a0 a1 a2 (.inr ())).2⟩ <|
   ee) (by kernel_rfl)

def qkj_ (a0 : W8) : List Value := [(wlV a0)]
def qkk_ (a0 : W8) : AH := ⟨sB [], 0, 0⟩
def qkl_ (a0 : W8) (r : WL rw_b) : Value := match r with
 | o0 => (wlV o0)
def qgv_ (a0 : W8) (r : WL rw_b) : AH := match r with
 | o0 => ⟨sB [], 0, 0⟩
abbrev qq9_ (a0 : W8) (r : WL rw_b) : Prop := Gv P (.func 25) (qkj_ a0) (qkk_ a0) (qkl_ a0 r) (qgv_ a0 r)
abbrev qkm_ (a0 : W8) (r : WL rw_b) (ins outs : BL) : CallA := ⟨0, ins, qkl_ a0 r, qgv_ a0 r, outs⟩
def qdr_ (x2_0 : W8) (x2_2 : Nat) (x2_3 : Int) (st : List (Bool) × Int) : XSt := match st with
 | (x2_1, x2_4) => (sT 59 [(0, (wlV x2_0)), (3, (sN 0 0 x2_2 x2_2)), (4, (i6 x2_3)), (5, (i6 x2_4))], [], ⟨sB [(0, (cB (rows rw_b x2_1) 4))], 1, 0⟩)
def qbk_ (x2_0 : W8) (x2_2 : Nat) (x2_3 : Int) (r : List (Bool)) : Ex × XSt := match r with
 | z2_0 => (.exit 2, (sT 59 [(0, (wlV x2_0)), (3, (sN 0 0 x2_2 x2_2)), (4, (i6 x2_3))], [], ⟨sB [(0, (cB (rows rw_b z2_0) 4))], 1, 0⟩))
abbrev qpg_ (rnd : Option Nat) (x2_0 : W8) (x2_2 : Nat) (x2_3 : Int) (st : List (Bool) × Int) (c : Ex × XSt) : Prop := CG P rnd (fnN P 25) 0 (qw_ P 25 [false, false, true, true, false, false, true, false, false, true, false, true, true, true]) (qdr_ x2_0 x2_2 x2_3 st) c
abbrev qf0_ (rd : Option Nat) (x2_0 : W8) (x2_2 : Nat) (x2_3 : Int) (st : List (Bool) × Int) (r : List (Bool)) : Prop := CG P rd (fnN P 25) 0 (qw_ P 25 [false, true, true, false, false, true, false, false, true, false, true, true, true]) (qdr_ x2_0 x2_2 x2_3 st) (qbk_ x2_0 x2_2 x2_3 r)
def qbl_ (n : Nat) (x2_0 : W8) (x2_2 : Nat) (x2_3 : Int) (st : List (Bool) × Int) : Option ((List (Bool) × Int) ⊕ (List (Bool))) := match st with
 | (x2_1, x2_4) =>
  if 0 ≤ x2_3 ∧ x2_3 < (((x2_0).l.length : Nat) : Int) then
   ((some (((x2_0).l).getD (x2_3).toNat (0, 0, 0, 0, 0, 0, nl0, 0)))).bind fun y2_2_ =>
   if x2_4 < ((((y2_2_.2.2.2.2.2.2.1)).l.length : Nat) : Int) then
    if 0 ≤ x2_3 ∧ x2_3 < ((x2_2 : Nat) : Int) then
     if (x2_3).toNat < (x2_1).length then
      ((some ((x2_1).getD (x2_3).toNat (false)))).bind fun y2_6_ =>
      if y2_6_ = true then
       some (.inl (((x2_1).set (x2_3).toNat true), (w64 (x2_4 + (1 : Int)))))
      else
       if 0 ≤ x2_4 ∧ x2_4 < ((((y2_2_.2.2.2.2.2.2.1)).l.length : Nat) : Int) then
        if (x2_4).toNat < (((y2_2_.2.2.2.2.2.2.1)).l).length then
         ((some ((((y2_2_.2.2.2.2.2.2.1)).l).getD (x2_4).toNat 0))).bind fun y2_10_ =>
         if 0 ≤ y2_10_ ∧ y2_10_ < ((x2_2 : Nat) : Int) then
          if (y2_10_).toNat < (x2_1).length then
           ((some ((x2_1).getD (y2_10_).toNat (false)))).bind fun y2_13_ =>
           some (.inl (((x2_1).set (x2_3).toNat y2_13_), (w64 (x2_4 + (1 : Int)))))
          else none
         else none
        else none
       else none
     else none
    else none
   else
    some (.inr x2_1)
  else none
def qds_ (n : Nat) (x2_0 : W8) (x2_2 : Nat) (x2_3 : Int) (st : List (Bool) × Int) : Option (List (Bool)) := iterM (qbl_ n x2_0 x2_2 x2_3) n st
theorem qiz_ (n : Nat) {rnd : Option Nat} (x2_0 : W8) (x2_2 : Nat) (x2_3 : Int) (st : List (Bool) × Int) (o : (List (Bool) × Int) ⊕ (List (Bool))) (h : qbl_ n x2_0 x2_2 x2_3 st = some o) : qpg_ rnd x2_0 x2_2 x2_3 st (Sum.elim (fun s => (.normal, qdr_ x2_0 x2_2 x2_3 s)) (fun r => qbk_ x2_0 x2_2 x2_3 r) o) := by
 obtain ⟨x2_1, x2_4⟩ := st
 unfold qbl_ at h
 dsimp only at h
 obtain ⟨hy2_1, h⟩ := gd h
 obtain ⟨y2_2_, hy2_2, h⟩ := oB h
 have k0 := fun {A L l} (k : PL A L l) => zz 5 (xk1 (x2_0).num (x2_0).off (x2_0).cap hy2_1) <|
  zz 6 (fk11 (x2_0).num (Nat.add (x2_0).off ((x2_3).toNat * 8))) <|
  zz 7 (lk12 hy2_2 (qba_ hy2_1)) <|
  k
 by_cases hy2_3 : x2_4 < ((((y2_2_.2.2.2.2.2.2.1)).l.length : Nat) : Int)
 ·rw [if_pos hy2_3] at h
  obtain ⟨hy2_4, h⟩ := gd h
  obtain ⟨hy2_5, h⟩ := gd h
  obtain ⟨y2_6_, hy2_6, h⟩ := oB h
  have k3 := fun {A L l} (k : PL A L l) => zz 9 (xdT hy2_3) <|
   zz 17 (xk13 0 x2_2 hy2_4) <|
   zz 18 (ok14 hy2_6 (hy2_5)) <|
   k
  by_cases hy2_7 : y2_6_ = true
  ·rw [if_pos hy2_7] at h
   obtain rfl := oI h
   exact runC2 hm (kW [0, 3, 4, 5] [(0, 0, true)] 1 0) (k0 <|
    k3 <|
    zz 19 (xbT hy2_7) <|
    zz 32 (xk13 0 x2_2 hy2_4) <|
    yy 33 (.sto (layT (rows rw_b ((x2_1).set (x2_3).toNat true)))) <|
    ww (p := ∃ old, rdT (layT (rows rw_b x2_1)) 1 ((x2_3).toNat * 1) = some old) (Exists.elim (qnj_ rwf_b (false) (i := (x2_3).toNat) (j := 0) (l := [(bO true)]) true ((x2_3).toNat * 1) rfl (hy2_5) (Nat.le_of_ble_eq_true rfl) rfl) fun o h => ⟨o, h.1⟩) <|
    ww (p := layL [(bO true)] ((x2_3).toNat * 1) (layT (rows rw_b x2_1)) = layT (rows rw_b ((x2_1).set (x2_3).toNat true))) (Exists.elim (qnj_ rwf_b (false) (i := (x2_3).toNat) (j := 0) (l := [(bO true)]) true ((x2_3).toNat * 1) rfl (hy2_5) (Nat.le_of_ble_eq_true rfl) rfl) fun o h => h.2) <|
    ww (qb_ rwf_b ((x2_1).set (x2_3).toNat true) 4) <|
    ee) (by kernel_rfl)
  ·rw [if_neg hy2_7] at h
   obtain ⟨hy2_8, h⟩ := gd h
   obtain ⟨hy2_9, h⟩ := gd h
   obtain ⟨y2_10_, hy2_10, h⟩ := oB h
   obtain ⟨hy2_11, h⟩ := gd h
   obtain ⟨hy2_12, h⟩ := gd h
   obtain ⟨y2_13_, hy2_13, h⟩ := oB h
   obtain rfl := oI h
   exact runC2 hm (kW [0, 3, 4, 5] [(0, 0, true)] 1 0) (k0 <|
    k3 <|
    zz 19 (xbF hy2_7) <|
    zz 23 (xk1 (x2_0).num (x2_0).off (x2_0).cap hy2_1) <|
    zz 24 (fk11 (x2_0).num (Nat.add (x2_0).off ((x2_3).toNat * 8))) <|
    zz 25 (lk12 hy2_2 (qba_ hy2_1)) <|
    zz 27 (xk8 (Nat.add ((y2_2_.2.2.2.2.2.2.1)).num 64) ((y2_2_.2.2.2.2.2.2.1)).off ((y2_2_.2.2.2.2.2.2.1)).cap hy2_8) <|
    zz 28 (nk9 hy2_10 hy2_9) <|
    zz 29 (xk13 0 x2_2 hy2_11) <|
    zz 30 (ok14 hy2_13 (hy2_12)) <|
    zz 32 (xk13 0 x2_2 hy2_4) <|
    yy 33 (.sto (layT (rows rw_b ((x2_1).set (x2_3).toNat y2_13_)))) <|
    ww (p := ∃ old, rdT (layT (rows rw_b x2_1)) 1 ((x2_3).toNat * 1) = some old) (Exists.elim (qnj_ rwf_b (false) (i := (x2_3).toNat) (j := 0) (l := [(bO y2_13_)]) y2_13_ ((x2_3).toNat * 1) rfl (hy2_5) (Nat.le_of_ble_eq_true rfl) rfl) fun o h => ⟨o, h.1⟩) <|
    ww (p := layL [(bO y2_13_)] ((x2_3).toNat * 1) (layT (rows rw_b x2_1)) = layT (rows rw_b ((x2_1).set (x2_3).toNat y2_13_))) (Exists.elim (qnj_ rwf_b (false) (i := (x2_3).toNat) (j := 0) (l := [(bO y2_13_)]) y2_13_ ((x2_3).toNat * 1) rfl (hy2_5) (Nat.le_of_ble_eq_true rfl) rfl) fun o h => h.2) <|
    ww (qb_ rwf_b ((x2_1).set (x2_3).toNat y2_13_) 4) <|
    ee) (by kernel_rfl)
 ·rw [if_neg hy2_3] at h
  obtain rfl := oI h
  exact runC2 hm (kW [0, 3, 4] [(0, 0, true)] 1 0) (k0 <|
   zz 9 (xdF hy2_3) <|
   ww (qb_ rwf_b x2_1 4) <|
   ee) (by kernel_rfl)
theorem qg6_ (n : Nat) {rnd : Option Nat} (x2_0 : W8) (x2_2 : Nat) (x2_3 : Int) (st : List (Bool) × Int) (r : List (Bool)) (h : qds_ n x2_0 x2_2 x2_3 st = some r) : qf0_ rnd x2_0 x2_2 x2_3 st r :=
 CG.iter (b := qw_ P 25 [false, false, true, true, false, false, true, false, false, true, false, true, true, true]) (by kernel_rfl) (body := qbl_ n x2_0 x2_2 x2_3) (S := qdr_ x2_0 x2_2 x2_3) (X := qbk_ x2_0 x2_2 x2_3)
  (fun s s' h => qiz_ n x2_0 x2_2 x2_3 s (.inl s') h)
  (fun s r h => qiz_ n x2_0 x2_2 x2_3 s (.inr r) h)
  (fun r => by intro hx; cases hx) h
def qdt_ (x1_0 : W8) (x1_2 : Nat) (st : List (Bool) × Int) : XSt := match st with
 | (x1_1, x1_3) => (sT 59 [(0, (wlV x1_0)), (3, (sN 0 0 x1_2 x1_2)), (4, (i6 x1_3))], [], ⟨sB [(0, (cB (rows rw_b x1_1) 4))], 1, 0⟩)
def qcp_ (x1_0 : W8) (x1_2 : Nat) (r : List (Bool)) : Ex × XSt := match r with
 | z1_0 => (.exit 0, (sT 59 [(3, (sN 0 0 x1_2 x1_2))], [], ⟨sB [(0, (cB (rows rw_b z1_0) 4))], 1, 0⟩))
abbrev qph_ (rnd : Option Nat) (x1_0 : W8) (x1_2 : Nat) (st : List (Bool) × Int) (c : Ex × XSt) : Prop := CG P rnd (fnN P 25) 0 (qw_ P 25 [false, false, true, false, true, true, true]) (qdt_ x1_0 x1_2 st) c
abbrev qi0_ (rd : Option Nat) (x1_0 : W8) (x1_2 : Nat) (st : List (Bool) × Int) (r : List (Bool)) : Prop := CG P rd (fnN P 25) 0 (qw_ P 25 [false, true, false, true, true, true]) (qdt_ x1_0 x1_2 st) (qcp_ x1_0 x1_2 r)
def qz_ (n : Nat) (x1_0 : W8) (x1_2 : Nat) (st : List (Bool) × Int) : Option ((List (Bool) × Int) ⊕ (List (Bool))) := match st with
 | (x1_1, x1_3) =>
  if x1_3 ≥ (0 : Int) then
   if 0 ≤ x1_3 ∧ x1_3 < (((x1_0).l.length : Nat) : Int) then
    ((some (((x1_0).l).getD (x1_3).toNat (0, 0, 0, 0, 0, 0, nl0, 0)))).bind fun y1_3_ =>
    if (y1_3_.2.2.2.2.2.2.2) = (0 : Int) then
     if 0 ≤ x1_3 ∧ x1_3 < ((x1_2 : Nat) : Int) then
      if (x1_3).toNat < (x1_1).length then
       (qds_ n x1_0 x1_2 x1_3 (((x1_1).set (x1_3).toNat false), 0)).bind fun y1_7_ =>
       some (.inl (y1_7_, (w64 (x1_3 - (1 : Int)))))
      else none
     else none
    else
     if 0 ≤ x1_3 ∧ x1_3 < ((x1_2 : Nat) : Int) then
      if (x1_3).toNat < (x1_1).length then
       (qds_ n x1_0 x1_2 x1_3 (((x1_1).set (x1_3).toNat true), 0)).bind fun y1_7_ =>
       some (.inl (y1_7_, (w64 (x1_3 - (1 : Int)))))
      else none
     else none
   else none
  else
   some (.inr x1_1)
def qf1_ (n : Nat) (x1_0 : W8) (x1_2 : Nat) (st : List (Bool) × Int) : Option (List (Bool)) := iterM (qz_ n x1_0 x1_2) n st
theorem qi1_ (n : Nat) {rnd : Option Nat} (x1_0 : W8) (x1_2 : Nat) (st : List (Bool) × Int) (o : (List (Bool) × Int) ⊕ (List (Bool))) (h : qz_ n x1_0 x1_2 st = some o) : qph_ rnd x1_0 x1_2 st (Sum.elim (fun s => (.normal, qdt_ x1_0 x1_2 s)) (fun r => qcp_ x1_0 x1_2 r) o) := by
 obtain ⟨x1_1, x1_3⟩ := st
 unfold qz_ at h
 dsimp only at h
 by_cases hy1_1 : x1_3 ≥ (0 : Int)
 ·rw [if_pos hy1_1] at h
  obtain ⟨hy1_2, h⟩ := gd h
  obtain ⟨y1_3_, hy1_3, h⟩ := oB h
  have k0 := fun {A L l} (k : PL A L l) => zz 3 (xdT hy1_1) <|
   zz 12 (xk1 (x1_0).num (x1_0).off (x1_0).cap hy1_2) <|
   zz 13 (fk24 (x1_0).num (Nat.add (x1_0).off ((x1_3).toNat * 8))) <|
   zz 14 (lk25 hy1_3 (qba_ hy1_2)) <|
   k
  by_cases hy1_4 : (y1_3_.2.2.2.2.2.2.2) = (0 : Int)
  ·rw [if_pos hy1_4] at h
   obtain ⟨hy1_5, h⟩ := gd h
   obtain ⟨hy1_6, h⟩ := gd h
   obtain ⟨y1_7_, hy1_7, h⟩ := oB h
   obtain rfl := oI h
   exact runC2 hm (kW [0, 3, 4] [(0, 0, true)] 1 0) (k0 <|
    zz 15 (xnF hy1_4) <|
    zz 16 (xk13 0 x1_2 hy1_5) <|
    yy 17 (.sto (layT (rows rw_b ((x1_1).set (x1_3).toNat false)))) <|
    ww (p := ∃ old, rdT (layT (rows rw_b x1_1)) 1 ((x1_3).toNat * 1) = some old) (Exists.elim (qnj_ rwf_b (false) (i := (x1_3).toNat) (j := 0) (l := [(bO false)]) false ((x1_3).toNat * 1) rfl (hy1_6) (Nat.le_of_ble_eq_true rfl) rfl) fun o h => ⟨o, h.1⟩) <|
    ww (p := layL [(bO false)] ((x1_3).toNat * 1) (layT (rows rw_b x1_1)) = layT (rows rw_b ((x1_1).set (x1_3).toNat false))) (Exists.elim (qnj_ rwf_b (false) (i := (x1_3).toNat) (j := 0) (l := [(bO false)]) false ((x1_3).toNat * 1) rfl (hy1_6) (Nat.le_of_ble_eq_true rfl) rfl) fun o h => h.2) <|
    ww (p := qf0_ rnd x1_0 x1_2 x1_3 (((x1_1).set (x1_3).toNat false), 0) y1_7_) (qg6_ n x1_0 x1_2 x1_3 (((x1_1).set (x1_3).toNat false), 0) y1_7_ hy1_7) <|
    ww (qb_ rwf_b ((x1_1).set (x1_3).toNat false) 4) <|
    ll 21 ⟨(kW [0, 3, 4, 5] [(0, 0, true)] 1 0), (qbk_ x1_0 x1_2 x1_3 y1_7_).1, (qbk_ x1_0 x1_2 x1_3 y1_7_).2⟩ <|
    ww (qb_ rwf_b y1_7_ 4) <|
    ee) (by kernel_rfl)
  ·rw [if_neg hy1_4] at h
   obtain ⟨hy1_5, h⟩ := gd h
   obtain ⟨hy1_6, h⟩ := gd h
   obtain ⟨y1_7_, hy1_7, h⟩ := oB h
   obtain rfl := oI h
   exact runC2 hm (kW [0, 3, 4] [(0, 0, true)] 1 0) (k0 <|
    zz 15 (xnT hy1_4) <|
    zz 16 (xk13 0 x1_2 hy1_5) <|
    yy 17 (.sto (layT (rows rw_b ((x1_1).set (x1_3).toNat true)))) <|
    ww (p := ∃ old, rdT (layT (rows rw_b x1_1)) 1 ((x1_3).toNat * 1) = some old) (Exists.elim (qnj_ rwf_b (false) (i := (x1_3).toNat) (j := 0) (l := [(bO true)]) true ((x1_3).toNat * 1) rfl (hy1_6) (Nat.le_of_ble_eq_true rfl) rfl) fun o h => ⟨o, h.1⟩) <|
    ww (p := layL [(bO true)] ((x1_3).toNat * 1) (layT (rows rw_b x1_1)) = layT (rows rw_b ((x1_1).set (x1_3).toNat true))) (Exists.elim (qnj_ rwf_b (false) (i := (x1_3).toNat) (j := 0) (l := [(bO true)]) true ((x1_3).toNat * 1) rfl (hy1_6) (Nat.le_of_ble_eq_true rfl) rfl) fun o h => h.2) <|
    ww (p := qf0_ rnd x1_0 x1_2 x1_3 (((x1_1).set (x1_3).toNat true), 0) y1_7_) (qg6_ n x1_0 x1_2 x1_3 (((x1_1).set (x1_3).toNat true), 0) y1_7_ hy1_7) <|
    ww (qb_ rwf_b ((x1_1).set (x1_3).toNat true) 4) <|
    ll 21 ⟨(kW [0, 3, 4, 5] [(0, 0, true)] 1 0), (qbk_ x1_0 x1_2 x1_3 y1_7_).1, (qbk_ x1_0 x1_2 x1_3 y1_7_).2⟩ <|
    ww (qb_ rwf_b y1_7_ 4) <|
    ee) (by kernel_rfl)
 ·rw [if_neg hy1_1] at h
  obtain rfl := oI h
  exact runC2 hm (kW [3] [(0, 0, true)] 1 0) (zz 3 (xdF hy1_1) <|
   ww (qb_ rwf_b x1_1 4) <|
   ee) (by kernel_rfl)
theorem qm3_ (n : Nat) {rnd : Option Nat} (x1_0 : W8) (x1_2 : Nat) (st : List (Bool) × Int) (r : List (Bool)) (h : qf1_ n x1_0 x1_2 st = some r) : qi0_ rnd x1_0 x1_2 st r :=
 CG.iter (b := qw_ P 25 [false, false, true, false, true, true, true]) (by kernel_rfl) (body := qz_ n x1_0 x1_2) (S := qdt_ x1_0 x1_2) (X := qcp_ x1_0 x1_2)
  (fun s s' h => qi1_ n x1_0 x1_2 s (.inl s') h)
  (fun s r h => qi1_ n x1_0 x1_2 s (.inr r) h)
  (fun r => by intro hx; cases hx) h
def q0_ (n : Nat) (a0 : W8) : Option (WL rw_b) :=
 (qe_ n a0).bind fun c1_ =>
 if c1_ = (0 : Int) then
  if 0 ≤ (((a0).l.length : Nat) : Int) then
   if ((((a0).l.length : Nat) : Int)).toNat * 1 ≤ 140737488355328 then
    ((some (w64 ((((a0).l.length : Nat) : Int) - (1 : Int))))).bind fun c5_ =>
    (qf1_ n a0 (((((a0).l.length : Nat) : Int)).toNat) ((List.replicate ((((a0).l.length : Nat) : Int)).toNat (false)), c5_)).bind fun c6_ =>
    if (((((a0).l.length : Nat) : Int)).toNat) = c6_.length then
     if hc8 : c6_.length ≤ 9223372036854775807 then
      some (frzR rwo_b c6_ hc8)
     else none
    else none
   else none
  else none
 else
  some (wl0 : WL rw_b)
theorem qil_ (n : Nat) (a0 : W8) (r : WL rw_b) (h : q0_ n a0 = some r) : qq9_ a0 r := by
 unfold q0_ at h
 obtain ⟨c1_, hc1, h⟩ := oB h
 have k0 := fun {A L l} (k : PL A L l) => yy 5 (.call (qe5_ a0 c1_ [] [])) <|
  ww (qdk_ n a0 c1_ hc1) <|
  k
 by_cases hc2 : c1_ = (0 : Int)
 ·rw [if_pos hc2] at h
  obtain ⟨hc3, h⟩ := gd h
  obtain ⟨hc4, h⟩ := gd h
  obtain ⟨c5_, hc5, h⟩ := oB h
  obtain ⟨c6_, hc6, h⟩ := oB h
  obtain ⟨hc7, h⟩ := gd h
  obtain ⟨hc8, h⟩ := gdD h
  obtain rfl := oI h
  have k0_ : Gv P (.func 25) (qkj_ a0) (qkk_ a0) (Value.slice (some ⟨Nat.add (2 * codL (rows rw_b c6_) + 1) 64, 0, some 1⟩) (((((a0).l.length : Nat) : Int)).toNat) (Nat.add big (((((a0).l.length : Nat) : Int)).toNat))) (qgv_ a0 (frzR rwo_b c6_ hc8)) := runF2 hm ⟨[2], [], 0, 0, [(0, Nat.add (2 * codL (rows rw_b c6_) + 1) 64)], true, [], [], []⟩ (k0 <|
  zz 6 (xnF hc2) <|
  yy 11 (.mk ((((a0).l.length : Nat) : Int)).toNat (rows rw_b (List.replicate ((((a0).l.length : Nat) : Int)).toNat (false)))) <|
  ww (p := natOf (i6 (((a0).l.length : Nat) : Int)) = some ((((a0).l.length : Nat) : Int)).toNat) (ql0_ hc3) <|
  ww (p := natOf (i6 (((a0).l.length : Nat) : Int)) = some ((((a0).l.length : Nat) : Int)).toNat) (ql0_ hc3) <|
  ww (p := fits ((((a0).l.length : Nat) : Int)).toNat 1 = true) (qmb_ hc4 (by omega)) <|
  ww (p := isZ8 [(bO false)] = false) (rfl) <|
  ww (p := reps [(bO false)] ((((a0).l.length : Nat) : Int)).toNat = (rows rw_b (List.replicate ((((a0).l.length : Nat) : Int)).toNat (false)))) (q0p_ rw_b (false) _ rfl _) <|
  zz 17 (xnm hc5) <|
  ww (p := qi0_ none a0 (((((a0).l.length : Nat) : Int)).toNat) ((List.replicate ((((a0).l.length : Nat) : Int)).toNat (false)), c5_) c6_) (qm3_ n a0 (((((a0).l.length : Nat) : Int)).toNat) ((List.replicate ((((a0).l.length : Nat) : Int)).toNat (false)), c5_) c6_ hc6) <|
  ww (qb_ rwf_b (List.replicate ((((a0).l.length : Nat) : Int)).toNat (false)) 4) <|
  ll 20 ⟨(kW [0, 3, 4] [(0, 0, true)] 1 0), (qcp_ a0 (((((a0).l.length : Nat) : Int)).toNat) c6_).1, (qcp_ a0 (((((a0).l.length : Nat) : Int)).toNat) c6_).2⟩ <|
  ww (qx3_ qee_ qiv_ rwo_b c6_) <|
  ee) (by kernel_rfl)
  have k1_ := gvLen (fn := fun m_ => (Value.slice (some ⟨Nat.add (2 * codL (rows rw_b c6_) + 1) 64, 0, some 1⟩) m_ (Nat.add big m_))) hc7 k0_
  exact k1_
 ·rw [if_neg hc2] at h
  obtain rfl := oI h
  exact runF2 hm ⟨[2], [], 0, 0, [], true, [], [], [2]⟩ (k0 <|
   zz 6 (xnT hc2) <|
   ee) (by kernel_rfl)

def qnn_ (a0 : W8) (a1 : Int) (r : Bool) : Value := match r with
 | o0 => (bO o0)
def qno_ (a0 : W8) (a1 : Int) (r : Bool) : AH := match r with
 | o0 => ⟨sB [], 0, 0⟩
abbrev qt8_ (a0 : W8) (a1 : Int) (r : Bool) : Prop := Gv P (.func 46) [(wlV a0), (i6 a1)] ⟨sB [], 0, 0⟩ (qnn_ a0 a1 r) (qno_ a0 a1 r)
abbrev qnp_ (a0 : W8) (a1 : Int) (r : Bool) (ins outs : BL) : CallA := ⟨0, ins, qnn_ a0 a1 r, qno_ a0 a1 r, outs⟩
def qdl_ (n : Nat) (a0 : W8) (a1 : Int) : Option (Bool) :=
 (qe_ n a0).bind fun c1_ =>
 if c1_ = (0 : Int) then
  if a1 ≥ (0 : Int) then
   if a1 < (((a0).l.length : Nat) : Int) then
    some true
   else
    some false
  else
   some false
 else
  some false
theorem qkn_ (n : Nat) (a0 : W8) (a1 : Int) (r : Bool) (h : qdl_ n a0 a1 = some r) : qt8_ a0 a1 r := by
 unfold qdl_ at h
 obtain ⟨c1_, hc1, h⟩ := oB h
 have k0 := fun {A L l} (k : PL A L l) => yy 4 (.call (qe5_ a0 c1_ [] [])) <|
  ww (qdk_ n a0 c1_ hc1) <|
  k
 by_cases hc2 : c1_ = (0 : Int)
 ·rw [if_pos hc2] at h
  have k2 := fun {A L l} (k : PL A L l) => zz 5 (xeT hc2) <|
   k
  by_cases hc3 : a1 ≥ (0 : Int)
  ·rw [if_pos hc3] at h
   have k3 := fun {A L l} (k : PL A L l) => zz 8 (xdT hc3) <|
    k
   by_cases hc4 : a1 < (((a0).l.length : Nat) : Int)
   ·rw [if_pos hc4] at h
    obtain rfl := oI h
    exact runF2 hm (kW [4] [] 0 0) (k0 <|
     k2 <|
     k3 <|
     zz 14 (xdT hc4) <|
     ee) (by kernel_rfl)
   ·rw [if_neg hc4] at h
    obtain rfl := oI h
    exact runF2 hm (kW [4] [] 0 0) (k0 <|
     k2 <|
     k3 <|
     zz 14 (xdF hc4) <|
     ee) (by kernel_rfl)
  ·rw [if_neg hc3] at h
   obtain rfl := oI h
   exact runF2 hm (kW [4] [] 0 0) (k0 <|
    k2 <|
    zz 8 (xdF hc3) <|
    ee) (by kernel_rfl)
 ·rw [if_neg hc2] at h
  obtain rfl := oI h
  exact runF2 hm (kW [4] [] 0 0) (k0 <|
   zz 5 (xeF hc2) <|
   ee) (by kernel_rfl)

def qko_ (a0 : W8) (a1 : Int) (r : W8) : Value := match r with
 | o0 => (wlV o0)
def qkp_ (a0 : W8) (a1 : Int) (r : W8) : AH := match r with
 | o0 => ⟨sB [], 0, 0⟩
abbrev qra_ (a0 : W8) (a1 : Int) (r : W8) : Prop := Gv P (.func 47) [(wlV a0), (i6 a1)] ⟨sB [], 0, 0⟩ (qko_ a0 a1 r) (qkp_ a0 a1 r)
abbrev qrb_ (a0 : W8) (a1 : Int) (r : W8) (ins outs : BL) : CallA := ⟨0, ins, qko_ a0 a1 r, qkp_ a0 a1 r, outs⟩
def qdu_ (x2_0 : W8) (x2_1 : Int) (x2_3 : Int) (x2_4 : Int) (x2_5 : Int) (x2_6 : Int) (x2_7 : Int) (x2_8 : Int) (x2_9 : Int) (x2_11 : Int) (st : List R8 × List Int × Int) : XSt := match st with
 | (x2_2, x2_10, x2_12) => (sT 50 [(0, (wlV x2_0)), (1, (i6 x2_1)), (5, (slR x2_2 0 8)), (6, (i6 x2_3)), (7, (pN 1 0)), (8, (i6 x2_12))], [], ⟨sB [(0, (nblkR rw_iiiiiiLu x2_2 37)), (1, (cB [(i6 x2_4), (i6 x2_5), (i6 x2_6), (i6 x2_7), (i6 x2_8), (i6 x2_9), (slN x2_10 2), (Value.int .u64 x2_11)] 37)), (2, (nblk x2_10 3))], 3, 0⟩)
def qk_ (x2_0 : W8) (x2_1 : Int) (x2_3 : Int) (x2_4 : Int) (x2_5 : Int) (x2_6 : Int) (x2_7 : Int) (x2_8 : Int) (x2_9 : Int) (x2_11 : Int) (r : List R8 × NL) : Ex × XSt := match r with
 | (z2_0, z2_1) => (.exit 2, (sT 50 [(0, (wlV x2_0)), (1, (i6 x2_1)), (5, (slR z2_0 0 8)), (6, (i6 x2_3)), (7, (pN 1 0))], [], ⟨sB [(0, (nblkR rw_iiiiiiLu z2_0 37)), (1, (cB [(i6 x2_4), (i6 x2_5), (i6 x2_6), (i6 x2_7), (i6 x2_8), (i6 x2_9), (nlV z2_1), (Value.int .u64 x2_11)] 37))], 2, 0⟩))
abbrev qpi_ (rnd : Option Nat) (x2_0 : W8) (x2_1 : Int) (x2_3 : Int) (x2_4 : Int) (x2_5 : Int) (x2_6 : Int) (x2_7 : Int) (x2_8 : Int) (x2_9 : Int) (x2_11 : Int) (st : List R8 × List Int × Int) (c : Ex × XSt) : Prop := CG P rnd (fnN P 47) 0 (qw_ P 47 [false, false, true, false, true, true, false, false, true, false, false, true, false, true, true]) (qdu_ x2_0 x2_1 x2_3 x2_4 x2_5 x2_6 x2_7 x2_8 x2_9 x2_11 st) c
abbrev qcq_ (rd : Option Nat) (x2_0 : W8) (x2_1 : Int) (x2_3 : Int) (x2_4 : Int) (x2_5 : Int) (x2_6 : Int) (x2_7 : Int) (x2_8 : Int) (x2_9 : Int) (x2_11 : Int) (st : List R8 × List Int × Int) (r : List R8 × NL) : Prop := CG P rd (fnN P 47) 0 (qw_ P 47 [false, true, false, true, true, false, false, true, false, false, true, false, true, true]) (qdu_ x2_0 x2_1 x2_3 x2_4 x2_5 x2_6 x2_7 x2_8 x2_9 x2_11 st) (qk_ x2_0 x2_1 x2_3 x2_4 x2_5 x2_6 x2_7 x2_8 x2_9 x2_11 r)
def qbm_ (n : Nat) (x2_0 : W8) (x2_1 : Int) (x2_3 : Int) (x2_4 : Int) (x2_5 : Int) (x2_6 : Int) (x2_7 : Int) (x2_8 : Int) (x2_9 : Int) (x2_11 : Int) (st : List R8 × List Int × Int) : Option ((List R8 × List Int × Int) ⊕ (List R8 × NL)) := match st with
 | (x2_2, x2_10, x2_12) =>
  match x2_2 with
  | [] =>
   match x2_10 with
   | [] =>
    if 0 ≤ x2_3 ∧ x2_3 < (((x2_0).l.length : Nat) : Int) then
     ((some (((x2_0).l).getD (x2_3).toNat (0, 0, 0, 0, 0, 0, nl0, 0)))).bind fun y2_2_ =>
     if x2_12 < ((((y2_2_.2.2.2.2.2.2.1)).l.length : Nat) : Int) then
      if 0 ≤ x2_12 ∧ x2_12 < ((((y2_2_.2.2.2.2.2.2.1)).l.length : Nat) : Int) then
       if (x2_12).toNat < (((y2_2_.2.2.2.2.2.2.1)).l).length then
        ((some ((((y2_2_.2.2.2.2.2.2.1)).l).getD (x2_12).toNat 0))).bind fun y2_6_ =>
        some (.inl (([] : List R8), [(w64 (y2_6_ + x2_1))], (w64 (x2_12 + (1 : Int)))))
       else none
      else none
     else
      some (.inr (([] : List R8), nl0))
    else none
   | x2_10a :: x2_10t =>
    if 0 ≤ x2_3 ∧ x2_3 < (((x2_0).l.length : Nat) : Int) then
     ((some (((x2_0).l).getD (x2_3).toNat (0, 0, 0, 0, 0, 0, nl0, 0)))).bind fun y2_2_ =>
     if x2_12 < ((((y2_2_.2.2.2.2.2.2.1)).l.length : Nat) : Int) then
      if 0 ≤ x2_12 ∧ x2_12 < ((((y2_2_.2.2.2.2.2.2.1)).l.length : Nat) : Int) then
       if (x2_12).toNat < (((y2_2_.2.2.2.2.2.2.1)).l).length then
        ((some ((((y2_2_.2.2.2.2.2.2.1)).l).getD (x2_12).toNat 0))).bind fun y2_6_ =>
        if (((x2_10a :: x2_10t)).length + 1) * 8 ≤ 140737488355328 then
         some (.inl (([] : List R8), ((x2_10a :: x2_10t) ++ [(w64 (y2_6_ + x2_1))]), (w64 (x2_12 + (1 : Int)))))
        else none
       else none
      else none
     else
      if hy2_4 : (x2_10a :: x2_10t).length ≤ 140737488355328 then
       some (.inr (([] : List R8), (frzL (x2_10a :: x2_10t) hy2_4)))
      else none
    else none
  | x2_2a :: x2_2t =>
   match x2_10 with
   | [] =>
    if 0 ≤ x2_3 ∧ x2_3 < (((x2_0).l.length : Nat) : Int) then
     ((some (((x2_0).l).getD (x2_3).toNat (0, 0, 0, 0, 0, 0, nl0, 0)))).bind fun y2_2_ =>
     if x2_12 < ((((y2_2_.2.2.2.2.2.2.1)).l.length : Nat) : Int) then
      if 0 ≤ x2_12 ∧ x2_12 < ((((y2_2_.2.2.2.2.2.2.1)).l.length : Nat) : Int) then
       if (x2_12).toNat < (((y2_2_.2.2.2.2.2.2.1)).l).length then
        ((some ((((y2_2_.2.2.2.2.2.2.1)).l).getD (x2_12).toNat 0))).bind fun y2_6_ =>
        some (.inl ((x2_2a :: x2_2t), [(w64 (y2_6_ + x2_1))], (w64 (x2_12 + (1 : Int)))))
       else none
      else none
     else
      some (.inr ((x2_2a :: x2_2t), nl0))
    else none
   | x2_10a :: x2_10t =>
    if 0 ≤ x2_3 ∧ x2_3 < (((x2_0).l.length : Nat) : Int) then
     ((some (((x2_0).l).getD (x2_3).toNat (0, 0, 0, 0, 0, 0, nl0, 0)))).bind fun y2_2_ =>
     if x2_12 < ((((y2_2_.2.2.2.2.2.2.1)).l.length : Nat) : Int) then
      if 0 ≤ x2_12 ∧ x2_12 < ((((y2_2_.2.2.2.2.2.2.1)).l.length : Nat) : Int) then
       if (x2_12).toNat < (((y2_2_.2.2.2.2.2.2.1)).l).length then
        ((some ((((y2_2_.2.2.2.2.2.2.1)).l).getD (x2_12).toNat 0))).bind fun y2_6_ =>
        if (((x2_10a :: x2_10t)).length + 1) * 8 ≤ 140737488355328 then
         some (.inl ((x2_2a :: x2_2t), ((x2_10a :: x2_10t) ++ [(w64 (y2_6_ + x2_1))]), (w64 (x2_12 + (1 : Int)))))
        else none
       else none
      else none
     else
      if hy2_4 : (x2_10a :: x2_10t).length ≤ 140737488355328 then
       some (.inr ((x2_2a :: x2_2t), (frzL (x2_10a :: x2_10t) hy2_4)))
      else none
    else none
def qdv_ (n : Nat) (x2_0 : W8) (x2_1 : Int) (x2_3 : Int) (x2_4 : Int) (x2_5 : Int) (x2_6 : Int) (x2_7 : Int) (x2_8 : Int) (x2_9 : Int) (x2_11 : Int) (st : List R8 × List Int × Int) : Option (List R8 × NL) := iterM (qbm_ n x2_0 x2_1 x2_3 x2_4 x2_5 x2_6 x2_7 x2_8 x2_9 x2_11) n st
theorem qi2_ (n : Nat) {rnd : Option Nat} (x2_0 : W8) (x2_1 : Int) (x2_3 : Int) (x2_4 : Int) (x2_5 : Int) (x2_6 : Int) (x2_7 : Int) (x2_8 : Int) (x2_9 : Int) (x2_11 : Int) (st : List R8 × List Int × Int) (o : (List R8 × List Int × Int) ⊕ (List R8 × NL)) (h : qbm_ n x2_0 x2_1 x2_3 x2_4 x2_5 x2_6 x2_7 x2_8 x2_9 x2_11 st = some o) : qpi_ rnd x2_0 x2_1 x2_3 x2_4 x2_5 x2_6 x2_7 x2_8 x2_9 x2_11 st (Sum.elim (fun s => (.normal, qdu_ x2_0 x2_1 x2_3 x2_4 x2_5 x2_6 x2_7 x2_8 x2_9 x2_11 s)) (fun r => qk_ x2_0 x2_1 x2_3 x2_4 x2_5 x2_6 x2_7 x2_8 x2_9 x2_11 r) o) := by
 obtain ⟨x2_2, x2_10, x2_12⟩ := st
 unfold qbm_ at h
 dsimp only at h
 cases x2_2 with
 | nil =>
  dsimp only at h
  cases x2_10 with
  | nil =>
   dsimp only at h
   obtain ⟨hy2_1, h⟩ := gd h
   obtain ⟨y2_2_, hy2_2, h⟩ := oB h
   have k0 := fun {A L l} (k : PL A L l) => zz 5 (xk1 (x2_0).num (x2_0).off (x2_0).cap hy2_1) <|
    zz 6 (fk11 (x2_0).num (Nat.add (x2_0).off ((x2_3).toNat * 8))) <|
    zz 7 (lk12 hy2_2 (qba_ hy2_1)) <|
    k
   by_cases hy2_3 : x2_12 < ((((y2_2_.2.2.2.2.2.2.1)).l.length : Nat) : Int)
   ·rw [if_pos hy2_3] at h
    obtain ⟨hy2_4, h⟩ := gd h
    obtain ⟨hy2_5, h⟩ := gd h
    obtain ⟨y2_6_, hy2_6, h⟩ := oB h
    obtain rfl := oI h
    exact runC2 hm (kW [0, 1, 5, 6, 7, 8] [(1, 1, false), (2, 16, false)] 3 0) (k0 <|
     zz 9 (xdT hy2_3) <|
     zz 17 (xk1 (x2_0).num (x2_0).off (x2_0).cap hy2_1) <|
     zz 18 (fk11 (x2_0).num (Nat.add (x2_0).off ((x2_3).toNat * 8))) <|
     zz 19 (lk12 hy2_2 (qba_ hy2_1)) <|
     zz 21 (xk8 (Nat.add ((y2_2_.2.2.2.2.2.2.1)).num 64) ((y2_2_.2.2.2.2.2.2.1)).off ((y2_2_.2.2.2.2.2.2.1)).cap hy2_4) <|
     zz 22 (nk9 hy2_6 hy2_5) <|
     ee) (by kernel_rfl)
   ·rw [if_neg hy2_3] at h
    obtain rfl := oI h
    exact runC2 hm ⟨[0, 1, 5, 6, 7], [(1, 1, false)], 2, 0, [], true, [37], [], []⟩ (k0 <|
     zz 9 (xdF hy2_3) <|
     ee) (by kernel_rfl)
  | cons x2_10a x2_10t =>
   dsimp only at h
   obtain ⟨hy2_1, h⟩ := gd h
   obtain ⟨y2_2_, hy2_2, h⟩ := oB h
   have k0 := fun {A L l} (k : PL A L l) => zz 5 (xk1 (x2_0).num (x2_0).off (x2_0).cap hy2_1) <|
    zz 6 (fk11 (x2_0).num (Nat.add (x2_0).off ((x2_3).toNat * 8))) <|
    zz 7 (lk12 hy2_2 (qba_ hy2_1)) <|
    k
   by_cases hy2_3 : x2_12 < ((((y2_2_.2.2.2.2.2.2.1)).l.length : Nat) : Int)
   ·rw [if_pos hy2_3] at h
    obtain ⟨hy2_4, h⟩ := gd h
    obtain ⟨hy2_5, h⟩ := gd h
    obtain ⟨y2_6_, hy2_6, h⟩ := oB h
    obtain ⟨hy2_7, h⟩ := gd h
    obtain rfl := oI h
    exact runC2 hm (kW [0, 1, 5, 6, 7, 8] [(1, 1, false), (2, 16, true)] 3 0) (k0 <|
     zz 9 (xdT hy2_3) <|
     zz 17 (xk1 (x2_0).num (x2_0).off (x2_0).cap hy2_1) <|
     zz 18 (fk11 (x2_0).num (Nat.add (x2_0).off ((x2_3).toNat * 8))) <|
     zz 19 (lk12 hy2_2 (qba_ hy2_1)) <|
     zz 21 (xk8 (Nat.add ((y2_2_.2.2.2.2.2.2.1)).num 64) ((y2_2_.2.2.2.2.2.2.1)).off ((y2_2_.2.2.2.2.2.2.1)).cap hy2_4) <|
     zz 22 (nk9 hy2_6 hy2_5) <|
     yy 26 (.app ⟨none, iv (x2_10a :: x2_10t), (iv ((x2_10a :: x2_10t) ++ [(w64 (y2_6_ + x2_1))])), (((x2_10a :: x2_10t) ++ [(w64 (y2_6_ + x2_1))])).length, false⟩) <|
     ww (p := 0 < 1) ((by decide)) <|
     ww (p := rdT (layT (iv (x2_10a :: x2_10t))) (Nat.mul ((x2_10a :: x2_10t)).length 1) 0 = some (iv (x2_10a :: x2_10t))) (iv_rd _) <|
     ww (p := fits (Nat.add ((x2_10a :: x2_10t)).length 1) 8 = true) (qmb_ hy2_7 (by have := hy2_7; show (_ : Nat) + _ ≤ _; omega)) <|
     ww (p := qbc_ [(i6 (w64 (y2_6_ + x2_1)))] = true) (rfl) <|
     ww (p := qbc_ (iv (x2_10a :: x2_10t)) = true) (q0s_ _) <|
     ww (p := iv (x2_10a :: x2_10t) ++ [(i6 (w64 (y2_6_ + x2_1)))] = (iv ((x2_10a :: x2_10t) ++ [(w64 (y2_6_ + x2_1))]))) (by simp [iv]) <|
     ww (p := Nat.add ((x2_10a :: x2_10t)).length 1 = (((x2_10a :: x2_10t) ++ [(w64 (y2_6_ + x2_1))])).length) (by simp) <|
     ww (qdb_ ((x2_10a :: x2_10t) ++ [(w64 (y2_6_ + x2_1))]) 3) <|
     ee) (by kernel_rfl)
   ·rw [if_neg hy2_3] at h
    obtain ⟨hy2_4, h⟩ := gdD h
    obtain rfl := oI h
    exact runC2 hm ⟨[0, 1, 5, 6, 7], [(1, 1, false)], 2, 0, [(2, Nat.add (2 * cod (x2_10a :: x2_10t) + 1) 64)], true, [], [], []⟩ (k0 <|
     zz 9 (xdF hy2_3) <|
     ww (frz_ok qee_ qiv_ (x2_10a :: x2_10t)) <|
     ee) (by kernel_rfl)
 | cons x2_2a x2_2t =>
  dsimp only at h
  cases x2_10 with
  | nil =>
   dsimp only at h
   obtain ⟨hy2_1, h⟩ := gd h
   obtain ⟨y2_2_, hy2_2, h⟩ := oB h
   have k0 := fun {A L l} (k : PL A L l) => zz 5 (xk1 (x2_0).num (x2_0).off (x2_0).cap hy2_1) <|
    zz 6 (fk11 (x2_0).num (Nat.add (x2_0).off ((x2_3).toNat * 8))) <|
    zz 7 (lk12 hy2_2 (qba_ hy2_1)) <|
    k
   by_cases hy2_3 : x2_12 < ((((y2_2_.2.2.2.2.2.2.1)).l.length : Nat) : Int)
   ·rw [if_pos hy2_3] at h
    obtain ⟨hy2_4, h⟩ := gd h
    obtain ⟨hy2_5, h⟩ := gd h
    obtain ⟨y2_6_, hy2_6, h⟩ := oB h
    obtain rfl := oI h
    exact runC2 hm (kW [0, 1, 5, 6, 7, 8] [(0, 0, true), (1, 1, false), (2, 16, false)] 3 0) (k0 <|
     zz 9 (xdT hy2_3) <|
     zz 17 (xk1 (x2_0).num (x2_0).off (x2_0).cap hy2_1) <|
     zz 18 (fk11 (x2_0).num (Nat.add (x2_0).off ((x2_3).toNat * 8))) <|
     zz 19 (lk12 hy2_2 (qba_ hy2_1)) <|
     zz 21 (xk8 (Nat.add ((y2_2_.2.2.2.2.2.2.1)).num 64) ((y2_2_.2.2.2.2.2.2.1)).off ((y2_2_.2.2.2.2.2.2.1)).cap hy2_4) <|
     zz 22 (nk9 hy2_6 hy2_5) <|
     ww (qb_ rwf_iiiiiiLu (x2_2a :: x2_2t) 37) <|
     ee) (by kernel_rfl)
   ·rw [if_neg hy2_3] at h
    obtain rfl := oI h
    exact runC2 hm ⟨[0, 1, 5, 6, 7], [(0, 0, true), (1, 1, false)], 2, 0, [], true, [37], [], []⟩ (k0 <|
     zz 9 (xdF hy2_3) <|
     ww (qb_ rwf_iiiiiiLu (x2_2a :: x2_2t) 37) <|
     ww (qb_ rwf_iiiiiiLu (x2_2a :: x2_2t) 37) <|
     ee) (by kernel_rfl)
  | cons x2_10a x2_10t =>
   dsimp only at h
   obtain ⟨hy2_1, h⟩ := gd h
   obtain ⟨y2_2_, hy2_2, h⟩ := oB h
   have k0 := fun {A L l} (k : PL A L l) => zz 5 (xk1 (x2_0).num (x2_0).off (x2_0).cap hy2_1) <|
    zz 6 (fk11 (x2_0).num (Nat.add (x2_0).off ((x2_3).toNat * 8))) <|
    zz 7 (lk12 hy2_2 (qba_ hy2_1)) <|
    k
   by_cases hy2_3 : x2_12 < ((((y2_2_.2.2.2.2.2.2.1)).l.length : Nat) : Int)
   ·rw [if_pos hy2_3] at h
    obtain ⟨hy2_4, h⟩ := gd h
    obtain ⟨hy2_5, h⟩ := gd h
    obtain ⟨y2_6_, hy2_6, h⟩ := oB h
    obtain ⟨hy2_7, h⟩ := gd h
    obtain rfl := oI h
    exact runC2 hm (kW [0, 1, 5, 6, 7, 8] [(0, 0, true), (1, 1, false), (2, 16, true)] 3 0) (k0 <|
     zz 9 (xdT hy2_3) <|
     zz 17 (xk1 (x2_0).num (x2_0).off (x2_0).cap hy2_1) <|
     zz 18 (fk11 (x2_0).num (Nat.add (x2_0).off ((x2_3).toNat * 8))) <|
     zz 19 (lk12 hy2_2 (qba_ hy2_1)) <|
     zz 21 (xk8 (Nat.add ((y2_2_.2.2.2.2.2.2.1)).num 64) ((y2_2_.2.2.2.2.2.2.1)).off ((y2_2_.2.2.2.2.2.2.1)).cap hy2_4) <|
     zz 22 (nk9 hy2_6 hy2_5) <|
     yy 26 (.app ⟨none, iv (x2_10a :: x2_10t), (iv ((x2_10a :: x2_10t) ++ [(w64 (y2_6_ + x2_1))])), (((x2_10a :: x2_10t) ++ [(w64 (y2_6_ + x2_1))])).length, false⟩) <|
     ww (p := 0 < 1) ((by decide)) <|
     ww (p := rdT (layT (iv (x2_10a :: x2_10t))) (Nat.mul ((x2_10a :: x2_10t)).length 1) 0 = some (iv (x2_10a :: x2_10t))) (iv_rd _) <|
     ww (p := fits (Nat.add ((x2_10a :: x2_10t)).length 1) 8 = true) (qmb_ hy2_7 (by have := hy2_7; show (_ : Nat) + _ ≤ _; omega)) <|
     ww (p := qbc_ [(i6 (w64 (y2_6_ + x2_1)))] = true) (rfl) <|
     ww (p := qbc_ (iv (x2_10a :: x2_10t)) = true) (q0s_ _) <|
     ww (p := iv (x2_10a :: x2_10t) ++ [(i6 (w64 (y2_6_ + x2_1)))] = (iv ((x2_10a :: x2_10t) ++ [(w64 (y2_6_ + x2_1))]))) (by simp [iv]) <|
     ww (p := Nat.add ((x2_10a :: x2_10t)).length 1 = (((x2_10a :: x2_10t) ++ [(w64 (y2_6_ + x2_1))])).length) (by simp) <|
     ww (qb_ rwf_iiiiiiLu (x2_2a :: x2_2t) 37) <|
     ww (qdb_ ((x2_10a :: x2_10t) ++ [(w64 (y2_6_ + x2_1))]) 3) <|
     ee) (by kernel_rfl)
   ·rw [if_neg hy2_3] at h
    obtain ⟨hy2_4, h⟩ := gdD h
    obtain rfl := oI h
    exact runC2 hm ⟨[0, 1, 5, 6, 7], [(0, 0, true), (1, 1, false)], 2, 0, [(2, Nat.add (2 * cod (x2_10a :: x2_10t) + 1) 64)], true, [], [], []⟩ (k0 <|
     zz 9 (xdF hy2_3) <|
     ww (qb_ rwf_iiiiiiLu (x2_2a :: x2_2t) 37) <|
     ww (frz_ok qee_ qiv_ (x2_10a :: x2_10t)) <|
     ww (qb_ rwf_iiiiiiLu (x2_2a :: x2_2t) 37) <|
     ee) (by kernel_rfl)
theorem qc1_ (n : Nat) {rnd : Option Nat} (x2_0 : W8) (x2_1 : Int) (x2_3 : Int) (x2_4 : Int) (x2_5 : Int) (x2_6 : Int) (x2_7 : Int) (x2_8 : Int) (x2_9 : Int) (x2_11 : Int) (st : List R8 × List Int × Int) (r : List R8 × NL) (h : qdv_ n x2_0 x2_1 x2_3 x2_4 x2_5 x2_6 x2_7 x2_8 x2_9 x2_11 st = some r) : qcq_ rnd x2_0 x2_1 x2_3 x2_4 x2_5 x2_6 x2_7 x2_8 x2_9 x2_11 st r :=
 CG.iter (b := qw_ P 47 [false, false, true, false, true, true, false, false, true, false, false, true, false, true, true]) (by kernel_rfl) (body := qbm_ n x2_0 x2_1 x2_3 x2_4 x2_5 x2_6 x2_7 x2_8 x2_9 x2_11) (S := qdu_ x2_0 x2_1 x2_3 x2_4 x2_5 x2_6 x2_7 x2_8 x2_9 x2_11) (X := qk_ x2_0 x2_1 x2_3 x2_4 x2_5 x2_6 x2_7 x2_8 x2_9 x2_11)
  (fun s s' h => qi2_ n x2_0 x2_1 x2_3 x2_4 x2_5 x2_6 x2_7 x2_8 x2_9 x2_11 s (.inl s') h)
  (fun s r h => qi2_ n x2_0 x2_1 x2_3 x2_4 x2_5 x2_6 x2_7 x2_8 x2_9 x2_11 s (.inr r) h)
  (fun r => by intro hx; cases hx) h
def qdw_ (x1_0 : W8) (x1_1 : Int) (st : List R8 × Int) : XSt := match st with
 | (x1_2, x1_3) => (sT 50 [(0, (wlV x1_0)), (1, (i6 x1_1)), (5, (slR x1_2 0 8)), (6, (i6 x1_3))], [], ⟨sB [(0, (nblkR rw_iiiiiiLu x1_2 37))], 1, 0⟩)
def qbn_ (x1_0 : W8) (x1_1 : Int) (r : List R8) : Ex × XSt := match r with
 | z1_0 => (.exit 0, (sT 50 [(5, (slR z1_0 0 8))], [], ⟨sB [(0, (nblkR rw_iiiiiiLu z1_0 37))], 1, 0⟩))
abbrev qpj_ (rnd : Option Nat) (x1_0 : W8) (x1_1 : Int) (st : List R8 × Int) (c : Ex × XSt) : Prop := CG P rnd (fnN P 47) 0 (qw_ P 47 [false, false, true, false, true, true]) (qdw_ x1_0 x1_1 st) c
abbrev qf2_ (rd : Option Nat) (x1_0 : W8) (x1_1 : Int) (st : List R8 × Int) (r : List R8) : Prop := CG P rd (fnN P 47) 0 (qw_ P 47 [false, true, false, true, true]) (qdw_ x1_0 x1_1 st) (qbn_ x1_0 x1_1 r)
def qbo_ (n : Nat) (x1_0 : W8) (x1_1 : Int) (st : List R8 × Int) : Option ((List R8 × Int) ⊕ (List R8)) := match st with
 | (x1_2, x1_3) =>
  match x1_2 with
  | [] =>
   if x1_3 < (((x1_0).l.length : Nat) : Int) then
    if 0 ≤ x1_3 ∧ x1_3 < (((x1_0).l.length : Nat) : Int) then
     ((some (((x1_0).l).getD (x1_3).toNat (0, 0, 0, 0, 0, 0, nl0, 0)))).bind fun y1_3_ =>
     (qdv_ n x1_0 x1_1 x1_3 (y1_3_.1) (y1_3_.2.1) (y1_3_.2.2.1) (y1_3_.2.2.2.1) (y1_3_.2.2.2.2.1) (y1_3_.2.2.2.2.2.1) (y1_3_.2.2.2.2.2.2.2) (([] : List R8), ([] : List Int), 0)).bind fun t => match t with
     | (y1_4_0, y1_4_1) =>
      match y1_4_0 with
      | [] =>
       some (.inl ([((y1_3_.1), (y1_3_.2.1), (y1_3_.2.2.1), (y1_3_.2.2.2.1), (y1_3_.2.2.2.2.1), (y1_3_.2.2.2.2.2.1), y1_4_1, (y1_3_.2.2.2.2.2.2.2))], (w64 (x1_3 + (1 : Int)))))
      | y1_4_0a :: y1_4_0t =>
       if (((y1_4_0a :: y1_4_0t)).length + 1) * 80 ≤ 140737488355328 then
        some (.inl (((y1_4_0a :: y1_4_0t) ++ [((y1_3_.1), (y1_3_.2.1), (y1_3_.2.2.1), (y1_3_.2.2.2.1), (y1_3_.2.2.2.2.1), (y1_3_.2.2.2.2.2.1), y1_4_1, (y1_3_.2.2.2.2.2.2.2))]), (w64 (x1_3 + (1 : Int)))))
       else none
    else none
   else
    some (.inr ([] : List R8))
  | x1_2a :: x1_2t =>
   if x1_3 < (((x1_0).l.length : Nat) : Int) then
    if 0 ≤ x1_3 ∧ x1_3 < (((x1_0).l.length : Nat) : Int) then
     ((some (((x1_0).l).getD (x1_3).toNat (0, 0, 0, 0, 0, 0, nl0, 0)))).bind fun y1_3_ =>
     (qdv_ n x1_0 x1_1 x1_3 (y1_3_.1) (y1_3_.2.1) (y1_3_.2.2.1) (y1_3_.2.2.2.1) (y1_3_.2.2.2.2.1) (y1_3_.2.2.2.2.2.1) (y1_3_.2.2.2.2.2.2.2) ((x1_2a :: x1_2t), ([] : List Int), 0)).bind fun t => match t with
     | (y1_4_0, y1_4_1) =>
      match y1_4_0 with
      | [] =>
       some (.inl ([((y1_3_.1), (y1_3_.2.1), (y1_3_.2.2.1), (y1_3_.2.2.2.1), (y1_3_.2.2.2.2.1), (y1_3_.2.2.2.2.2.1), y1_4_1, (y1_3_.2.2.2.2.2.2.2))], (w64 (x1_3 + (1 : Int)))))
      | y1_4_0a :: y1_4_0t =>
       if (((y1_4_0a :: y1_4_0t)).length + 1) * 80 ≤ 140737488355328 then
        some (.inl (((y1_4_0a :: y1_4_0t) ++ [((y1_3_.1), (y1_3_.2.1), (y1_3_.2.2.1), (y1_3_.2.2.2.1), (y1_3_.2.2.2.2.1), (y1_3_.2.2.2.2.2.1), y1_4_1, (y1_3_.2.2.2.2.2.2.2))]), (w64 (x1_3 + (1 : Int)))))
       else none
    else none
   else
    some (.inr (x1_2a :: x1_2t))
def qf3_ (n : Nat) (x1_0 : W8) (x1_1 : Int) (st : List R8 × Int) : Option (List R8) := iterM (qbo_ n x1_0 x1_1) n st
theorem qi3_ (n : Nat) {rnd : Option Nat} (x1_0 : W8) (x1_1 : Int) (st : List R8 × Int) (o : (List R8 × Int) ⊕ (List R8)) (h : qbo_ n x1_0 x1_1 st = some o) : qpj_ rnd x1_0 x1_1 st (Sum.elim (fun s => (.normal, qdw_ x1_0 x1_1 s)) (fun r => qbn_ x1_0 x1_1 r) o) := by
 obtain ⟨x1_2, x1_3⟩ := st
 unfold qbo_ at h
 dsimp only at h
 cases x1_2 with
 | nil =>
  dsimp only at h
  by_cases hy1_1 : x1_3 < (((x1_0).l.length : Nat) : Int)
  ·rw [if_pos hy1_1] at h
   obtain ⟨hy1_2, h⟩ := gd h
   obtain ⟨y1_3_, hy1_3, h⟩ := oB h
   obtain ⟨⟨y1_4_0, y1_4_1⟩, hy1_4, h⟩ := oB h
   dsimp only at h
   have k0 := fun {A L l} (k : PL A L l) => zz 5 (xdT hy1_1) <|
    zz 12 (xk1 (x1_0).num (x1_0).off (x1_0).cap hy1_2) <|
    zz 13 (lk2 hy1_3 (qba_ hy1_2)) <|
    k
   cases y1_4_0 with
   | nil =>
    dsimp only at h
    obtain rfl := oI h
    exact runC2 hm (kW [0, 1, 5, 6] [(0, 3, false)] 1 0) (k0 <|
     ww (p := qcq_ rnd x1_0 x1_1 x1_3 (y1_3_.1) (y1_3_.2.1) (y1_3_.2.2.1) (y1_3_.2.2.2.1) (y1_3_.2.2.2.2.1) (y1_3_.2.2.2.2.2.1) (y1_3_.2.2.2.2.2.2.2) (([] : List R8), ([] : List Int), 0) (([] : List R8), y1_4_1)) (qc1_ n x1_0 x1_1 x1_3 (y1_3_.1) (y1_3_.2.1) (y1_3_.2.2.1) (y1_3_.2.2.2.1) (y1_3_.2.2.2.2.1) (y1_3_.2.2.2.2.2.1) (y1_3_.2.2.2.2.2.2.2) (([] : List R8), ([] : List Int), 0) (([] : List R8), y1_4_1) hy1_4) <|
     ll 23 ⟨(kW [0, 1, 5, 6, 7, 8] [(1, 1, false)] 3 0), (qk_ x1_0 x1_1 x1_3 (y1_3_.1) (y1_3_.2.1) (y1_3_.2.2.1) (y1_3_.2.2.2.1) (y1_3_.2.2.2.2.1) (y1_3_.2.2.2.2.2.1) (y1_3_.2.2.2.2.2.2.2) (([] : List R8), y1_4_1)).1, (qk_ x1_0 x1_1 x1_3 (y1_3_.1) (y1_3_.2.1) (y1_3_.2.2.1) (y1_3_.2.2.2.1) (y1_3_.2.2.2.2.1) (y1_3_.2.2.2.2.2.1) (y1_3_.2.2.2.2.2.2.2) (([] : List R8), y1_4_1)).2⟩ <|
     ee) (by kernel_rfl)
   | cons y1_4_0a y1_4_0t =>
    dsimp only at h
    obtain ⟨hy1_5, h⟩ := gd h
    obtain rfl := oI h
    exact runC2 hm (kW [0, 1, 5, 6] [(0, 3, true)] 1 0) (k0 <|
     ww (p := qcq_ rnd x1_0 x1_1 x1_3 (y1_3_.1) (y1_3_.2.1) (y1_3_.2.2.1) (y1_3_.2.2.2.1) (y1_3_.2.2.2.2.1) (y1_3_.2.2.2.2.2.1) (y1_3_.2.2.2.2.2.2.2) (([] : List R8), ([] : List Int), 0) ((y1_4_0a :: y1_4_0t), y1_4_1)) (qc1_ n x1_0 x1_1 x1_3 (y1_3_.1) (y1_3_.2.1) (y1_3_.2.2.1) (y1_3_.2.2.2.1) (y1_3_.2.2.2.2.1) (y1_3_.2.2.2.2.2.1) (y1_3_.2.2.2.2.2.2.2) (([] : List R8), ([] : List Int), 0) ((y1_4_0a :: y1_4_0t), y1_4_1) hy1_4) <|
     ll 23 ⟨(kW [0, 1, 5, 6, 7, 8] [(1, 1, false)] 3 0), (qk_ x1_0 x1_1 x1_3 (y1_3_.1) (y1_3_.2.1) (y1_3_.2.2.1) (y1_3_.2.2.2.1) (y1_3_.2.2.2.2.1) (y1_3_.2.2.2.2.2.1) (y1_3_.2.2.2.2.2.2.2) ((y1_4_0a :: y1_4_0t), y1_4_1)).1, (qk_ x1_0 x1_1 x1_3 (y1_3_.1) (y1_3_.2.1) (y1_3_.2.2.1) (y1_3_.2.2.2.1) (y1_3_.2.2.2.2.1) (y1_3_.2.2.2.2.2.1) (y1_3_.2.2.2.2.2.2.2) ((y1_4_0a :: y1_4_0t), y1_4_1)).2⟩ <|
     yy 27 (.app ⟨none, rows rw_iiiiiiLu (y1_4_0a :: y1_4_0t), (rows rw_iiiiiiLu ((y1_4_0a :: y1_4_0t) ++ [((y1_3_.1), (y1_3_.2.1), (y1_3_.2.2.1), (y1_3_.2.2.2.1), (y1_3_.2.2.2.2.1), (y1_3_.2.2.2.2.2.1), y1_4_1, (y1_3_.2.2.2.2.2.2.2))])), (((y1_4_0a :: y1_4_0t) ++ [((y1_3_.1), (y1_3_.2.1), (y1_3_.2.2.1), (y1_3_.2.2.2.1), (y1_3_.2.2.2.2.1), (y1_3_.2.2.2.2.2.1), y1_4_1, (y1_3_.2.2.2.2.2.2.2))])).length, false⟩) <|
     ww (p := 0 < 1) ((by decide)) <|
     ww (p := rdT (layT (rows rw_iiiiiiLu (y1_4_0a :: y1_4_0t))) (Nat.mul ((y1_4_0a :: y1_4_0t)).length 8) 0 = some (rows rw_iiiiiiLu (y1_4_0a :: y1_4_0t))) (rows_rd rwf_iiiiiiLu _ _ rfl) <|
     ww (p := fits (Nat.add ((y1_4_0a :: y1_4_0t)).length 1) 80 = true) (qmb_ hy1_5 (by have := hy1_5; show (_ : Nat) + _ ≤ _; omega)) <|
     ww (p := qbc_ [(i6 (y1_3_.1)), (i6 (y1_3_.2.1)), (i6 (y1_3_.2.2.1)), (i6 (y1_3_.2.2.2.1)), (i6 (y1_3_.2.2.2.2.1)), (i6 (y1_3_.2.2.2.2.2.1)), (nlV y1_4_1), (Value.int .u64 (y1_3_.2.2.2.2.2.2.2))] = true) (rfl) <|
     ww (p := qbc_ (rows rw_iiiiiiLu (y1_4_0a :: y1_4_0t)) = true) (qmc_ rwf_iiiiiiLu _) <|
     ww (p := rows rw_iiiiiiLu (y1_4_0a :: y1_4_0t) ++ [(i6 (y1_3_.1)), (i6 (y1_3_.2.1)), (i6 (y1_3_.2.2.1)), (i6 (y1_3_.2.2.2.1)), (i6 (y1_3_.2.2.2.2.1)), (i6 (y1_3_.2.2.2.2.2.1)), (nlV y1_4_1), (Value.int .u64 (y1_3_.2.2.2.2.2.2.2))] = (rows rw_iiiiiiLu ((y1_4_0a :: y1_4_0t) ++ [((y1_3_.1), (y1_3_.2.1), (y1_3_.2.2.1), (y1_3_.2.2.2.1), (y1_3_.2.2.2.2.1), (y1_3_.2.2.2.2.2.1), y1_4_1, (y1_3_.2.2.2.2.2.2.2))]))) (qs2_ rw_iiiiiiLu (y1_4_0a :: y1_4_0t) [((y1_3_.1), (y1_3_.2.1), (y1_3_.2.2.1), (y1_3_.2.2.2.1), (y1_3_.2.2.2.2.1), (y1_3_.2.2.2.2.2.1), y1_4_1, (y1_3_.2.2.2.2.2.2.2))]) <|
     ww (p := Nat.add ((y1_4_0a :: y1_4_0t)).length 1 = (((y1_4_0a :: y1_4_0t) ++ [((y1_3_.1), (y1_3_.2.1), (y1_3_.2.2.1), (y1_3_.2.2.2.1), (y1_3_.2.2.2.2.1), (y1_3_.2.2.2.2.2.1), y1_4_1, (y1_3_.2.2.2.2.2.2.2))])).length) (by simp) <|
     ww (qb_ rwf_iiiiiiLu ((y1_4_0a :: y1_4_0t) ++ [((y1_3_.1), (y1_3_.2.1), (y1_3_.2.2.1), (y1_3_.2.2.2.1), (y1_3_.2.2.2.2.1), (y1_3_.2.2.2.2.2.1), y1_4_1, (y1_3_.2.2.2.2.2.2.2))]) 37) <|
     ee) (by kernel_rfl)
  ·rw [if_neg hy1_1] at h
   obtain rfl := oI h
   exact runC2 hm (kW [5] [] 1 0) (zz 5 (xdF hy1_1) <|
    ee) (by kernel_rfl)
 | cons x1_2a x1_2t =>
  dsimp only at h
  by_cases hy1_1 : x1_3 < (((x1_0).l.length : Nat) : Int)
  ·rw [if_pos hy1_1] at h
   obtain ⟨hy1_2, h⟩ := gd h
   obtain ⟨y1_3_, hy1_3, h⟩ := oB h
   obtain ⟨⟨y1_4_0, y1_4_1⟩, hy1_4, h⟩ := oB h
   dsimp only at h
   have k0 := fun {A L l} (k : PL A L l) => zz 5 (xdT hy1_1) <|
    zz 12 (xk1 (x1_0).num (x1_0).off (x1_0).cap hy1_2) <|
    zz 13 (lk2 hy1_3 (qba_ hy1_2)) <|
    k
   cases y1_4_0 with
   | nil =>
    dsimp only at h
    obtain rfl := oI h
    exact runC2 hm (kW [0, 1, 5, 6] [(0, 3, false)] 1 0) (k0 <|
     ww (p := qcq_ rnd x1_0 x1_1 x1_3 (y1_3_.1) (y1_3_.2.1) (y1_3_.2.2.1) (y1_3_.2.2.2.1) (y1_3_.2.2.2.2.1) (y1_3_.2.2.2.2.2.1) (y1_3_.2.2.2.2.2.2.2) ((x1_2a :: x1_2t), ([] : List Int), 0) (([] : List R8), y1_4_1)) (qc1_ n x1_0 x1_1 x1_3 (y1_3_.1) (y1_3_.2.1) (y1_3_.2.2.1) (y1_3_.2.2.2.1) (y1_3_.2.2.2.2.1) (y1_3_.2.2.2.2.2.1) (y1_3_.2.2.2.2.2.2.2) ((x1_2a :: x1_2t), ([] : List Int), 0) (([] : List R8), y1_4_1) hy1_4) <|
     ww (qb_ rwf_iiiiiiLu (x1_2a :: x1_2t) 37) <|
     ll 23 ⟨(kW [0, 1, 5, 6, 7, 8] [(0, 0, true), (1, 1, false)] 3 0), (qk_ x1_0 x1_1 x1_3 (y1_3_.1) (y1_3_.2.1) (y1_3_.2.2.1) (y1_3_.2.2.2.1) (y1_3_.2.2.2.2.1) (y1_3_.2.2.2.2.2.1) (y1_3_.2.2.2.2.2.2.2) (([] : List R8), y1_4_1)).1, (qk_ x1_0 x1_1 x1_3 (y1_3_.1) (y1_3_.2.1) (y1_3_.2.2.1) (y1_3_.2.2.2.1) (y1_3_.2.2.2.2.1) (y1_3_.2.2.2.2.2.1) (y1_3_.2.2.2.2.2.2.2) (([] : List R8), y1_4_1)).2⟩ <|
     ee) (by kernel_rfl)
   | cons y1_4_0a y1_4_0t =>
    dsimp only at h
    obtain ⟨hy1_5, h⟩ := gd h
    obtain rfl := oI h
    exact runC2 hm (kW [0, 1, 5, 6] [(0, 3, true)] 1 0) (k0 <|
     ww (p := qcq_ rnd x1_0 x1_1 x1_3 (y1_3_.1) (y1_3_.2.1) (y1_3_.2.2.1) (y1_3_.2.2.2.1) (y1_3_.2.2.2.2.1) (y1_3_.2.2.2.2.2.1) (y1_3_.2.2.2.2.2.2.2) ((x1_2a :: x1_2t), ([] : List Int), 0) ((y1_4_0a :: y1_4_0t), y1_4_1)) (qc1_ n x1_0 x1_1 x1_3 (y1_3_.1) (y1_3_.2.1) (y1_3_.2.2.1) (y1_3_.2.2.2.1) (y1_3_.2.2.2.2.1) (y1_3_.2.2.2.2.2.1) (y1_3_.2.2.2.2.2.2.2) ((x1_2a :: x1_2t), ([] : List Int), 0) ((y1_4_0a :: y1_4_0t), y1_4_1) hy1_4) <|
     ww (qb_ rwf_iiiiiiLu (x1_2a :: x1_2t) 37) <|
     ll 23 ⟨(kW [0, 1, 5, 6, 7, 8] [(0, 0, true), (1, 1, false)] 3 0), (qk_ x1_0 x1_1 x1_3 (y1_3_.1) (y1_3_.2.1) (y1_3_.2.2.1) (y1_3_.2.2.2.1) (y1_3_.2.2.2.2.1) (y1_3_.2.2.2.2.2.1) (y1_3_.2.2.2.2.2.2.2) ((y1_4_0a :: y1_4_0t), y1_4_1)).1, (qk_ x1_0 x1_1 x1_3 (y1_3_.1) (y1_3_.2.1) (y1_3_.2.2.1) (y1_3_.2.2.2.1) (y1_3_.2.2.2.2.1) (y1_3_.2.2.2.2.2.1) (y1_3_.2.2.2.2.2.2.2) ((y1_4_0a :: y1_4_0t), y1_4_1)).2⟩ <|
     yy 27 (.app ⟨none, rows rw_iiiiiiLu (y1_4_0a :: y1_4_0t), (rows rw_iiiiiiLu ((y1_4_0a :: y1_4_0t) ++ [((y1_3_.1), (y1_3_.2.1), (y1_3_.2.2.1), (y1_3_.2.2.2.1), (y1_3_.2.2.2.2.1), (y1_3_.2.2.2.2.2.1), y1_4_1, (y1_3_.2.2.2.2.2.2.2))])), (((y1_4_0a :: y1_4_0t) ++ [((y1_3_.1), (y1_3_.2.1), (y1_3_.2.2.1), (y1_3_.2.2.2.1), (y1_3_.2.2.2.2.1), (y1_3_.2.2.2.2.2.1), y1_4_1, (y1_3_.2.2.2.2.2.2.2))])).length, false⟩) <|
     ww (p := 0 < 1) ((by decide)) <|
     ww (p := rdT (layT (rows rw_iiiiiiLu (y1_4_0a :: y1_4_0t))) (Nat.mul ((y1_4_0a :: y1_4_0t)).length 8) 0 = some (rows rw_iiiiiiLu (y1_4_0a :: y1_4_0t))) (rows_rd rwf_iiiiiiLu _ _ rfl) <|
     ww (p := fits (Nat.add ((y1_4_0a :: y1_4_0t)).length 1) 80 = true) (qmb_ hy1_5 (by have := hy1_5; show (_ : Nat) + _ ≤ _; omega)) <|
     ww (p := qbc_ [(i6 (y1_3_.1)), (i6 (y1_3_.2.1)), (i6 (y1_3_.2.2.1)), (i6 (y1_3_.2.2.2.1)), (i6 (y1_3_.2.2.2.2.1)), (i6 (y1_3_.2.2.2.2.2.1)), (nlV y1_4_1), (Value.int .u64 (y1_3_.2.2.2.2.2.2.2))] = true) (rfl) <|
     ww (p := qbc_ (rows rw_iiiiiiLu (y1_4_0a :: y1_4_0t)) = true) (qmc_ rwf_iiiiiiLu _) <|
     ww (p := rows rw_iiiiiiLu (y1_4_0a :: y1_4_0t) ++ [(i6 (y1_3_.1)), (i6 (y1_3_.2.1)), (i6 (y1_3_.2.2.1)), (i6 (y1_3_.2.2.2.1)), (i6 (y1_3_.2.2.2.2.1)), (i6 (y1_3_.2.2.2.2.2.1)), (nlV y1_4_1), (Value.int .u64 (y1_3_.2.2.2.2.2.2.2))] = (rows rw_iiiiiiLu ((y1_4_0a :: y1_4_0t) ++ [((y1_3_.1), (y1_3_.2.1), (y1_3_.2.2.1), (y1_3_.2.2.2.1), (y1_3_.2.2.2.2.1), (y1_3_.2.2.2.2.2.1), y1_4_1, (y1_3_.2.2.2.2.2.2.2))]))) (qs2_ rw_iiiiiiLu (y1_4_0a :: y1_4_0t) [((y1_3_.1), (y1_3_.2.1), (y1_3_.2.2.1), (y1_3_.2.2.2.1), (y1_3_.2.2.2.2.1), (y1_3_.2.2.2.2.2.1), y1_4_1, (y1_3_.2.2.2.2.2.2.2))]) <|
     ww (p := Nat.add ((y1_4_0a :: y1_4_0t)).length 1 = (((y1_4_0a :: y1_4_0t) ++ [((y1_3_.1), (y1_3_.2.1), (y1_3_.2.2.1), (y1_3_.2.2.2.1), (y1_3_.2.2.2.2.1), (y1_3_.2.2.2.2.2.1), y1_4_1, (y1_3_.2.2.2.2.2.2.2))])).length) (by simp) <|
     ww (qb_ rwf_iiiiiiLu ((y1_4_0a :: y1_4_0t) ++ [((y1_3_.1), (y1_3_.2.1), (y1_3_.2.2.1), (y1_3_.2.2.2.1), (y1_3_.2.2.2.2.1), (y1_3_.2.2.2.2.2.1), y1_4_1, (y1_3_.2.2.2.2.2.2.2))]) 37) <|
     ee) (by kernel_rfl)
  ·rw [if_neg hy1_1] at h
   obtain rfl := oI h
   exact runC2 hm (kW [5] [(0, 0, true)] 1 0) (zz 5 (xdF hy1_1) <|
    ww (qb_ rwf_iiiiiiLu (x1_2a :: x1_2t) 37) <|
    ee) (by kernel_rfl)
theorem qg7_ (n : Nat) {rnd : Option Nat} (x1_0 : W8) (x1_1 : Int) (st : List R8 × Int) (r : List R8) (h : qf3_ n x1_0 x1_1 st = some r) : qf2_ rnd x1_0 x1_1 st r :=
 CG.iter (b := qw_ P 47 [false, false, true, false, true, true]) (by kernel_rfl) (body := qbo_ n x1_0 x1_1) (S := qdw_ x1_0 x1_1) (X := qbn_ x1_0 x1_1)
  (fun s s' h => qi3_ n x1_0 x1_1 s (.inl s') h)
  (fun s r h => qi3_ n x1_0 x1_1 s (.inr r) h)
  (fun r => by intro hx; cases hx) h
def qde_ (n : Nat) (a0 : W8) (a1 : Int) : Option (W8) :=
 (qf3_ n a0 a1 (([] : List R8), 0)).bind fun c1_ =>
 match c1_ with
 | [] =>
  some (wl0 : W8)
 | c1_a :: c1_t =>
  if hc2 : (c1_a :: c1_t).length ≤ 9223372036854775807 then
   some (frzR qc7_ (c1_a :: c1_t) hc2)
  else none
theorem qo0_ (n : Nat) (a0 : W8) (a1 : Int) (r : W8) (h : qde_ n a0 a1 = some r) : qra_ a0 a1 r := by
 unfold qde_ at h
 obtain ⟨c1_, hc1, h⟩ := oB h
 cases c1_ with
 | nil =>
  dsimp only at h
  obtain rfl := oI h
  exact runF2 hm ⟨[4], [], 0, 0, [], true, [], [], [4]⟩ (ww (p := qf2_ none a0 a1 (([] : List R8), 0) ([] : List R8)) (qg7_ n a0 a1 (([] : List R8), 0) ([] : List R8) hc1) <|
   ll 8 ⟨(kW [0, 1, 5, 6] [] 1 0), (qbn_ a0 a1 ([] : List R8)).1, (qbn_ a0 a1 ([] : List R8)).2⟩ <|
   ee) (by kernel_rfl)
 | cons c1_a c1_t =>
  dsimp only at h
  obtain ⟨hc2, h⟩ := gdD h
  obtain rfl := oI h
  exact runF2 hm ⟨[4], [], 0, 0, [(0, Nat.add (2 * codL (rows rw_iiiiiiLu (c1_a :: c1_t)) + 1) 64)], true, [], [], []⟩ (ww (p := qf2_ none a0 a1 (([] : List R8), 0) (c1_a :: c1_t)) (qg7_ n a0 a1 (([] : List R8), 0) (c1_a :: c1_t) hc1) <|
   ll 8 ⟨(kW [0, 1, 5, 6] [] 1 0), (qbn_ a0 a1 (c1_a :: c1_t)).1, (qbn_ a0 a1 (c1_a :: c1_t)).2⟩ <|
   ww (qx3_ qee_ qiv_ qc7_ (c1_a :: c1_t)) <|
   ee) (by kernel_rfl)

def qmq_ (a0 : W8) (a1 : Int) (r : W8) : Value := match r with
 | o0 => (wlV o0)
def qmr_ (a0 : W8) (a1 : Int) (r : W8) : AH := match r with
 | o0 => ⟨sB [], 0, 0⟩
abbrev qs7_ (a0 : W8) (a1 : Int) (r : W8) : Prop := Gv P (.func 26) [(wlV a0), (i6 a1)] ⟨sB [], 0, 0⟩ (qmq_ a0 a1 r) (qmr_ a0 a1 r)
abbrev qs8_ (a0 : W8) (a1 : Int) (r : W8) (ins outs : BL) : CallA := ⟨0, ins, qmq_ a0 a1 r, qmr_ a0 a1 r, outs⟩
def qeb_ (n : Nat) (a0 : W8) (a1 : Int) : Option (W8) :=
 (qdl_ n a0 a1).bind fun c1_ =>
 if c1_ = true then
  (qc_ n a0 a1).bind fun c3_ =>
  if 0 ≤ a1 then
   if 0 ≤ c3_ then
    if hc6 : (a1).toNat ≤ (c3_).toNat ∧ (c3_).toNat ≤ (a0).l.length then
     (qde_ n (wlSub rwf_iiiiiiLu a0 (a1).toNat (c3_).toNat hc6) (w64 ((0 : Int) - a1))).bind fun c7_ =>
     some c7_
    else none
   else none
  else none
 else
  some (wl0 : W8)
theorem qqc_ (n : Nat) (a0 : W8) (a1 : Int) (r : W8) (h : qeb_ n a0 a1 = some r) : qs7_ a0 a1 r := by
 unfold qeb_ at h
 obtain ⟨c1_, hc1, h⟩ := oB h
 have k0 := fun {A L l} (k : PL A L l) => yy 6 (.call (qnp_ a0 a1 c1_ [] [])) <|
  ww (qkn_ n a0 a1 c1_ hc1) <|
  k
 by_cases hc2 : c1_ = true
 ·rw [if_pos hc2] at h
  obtain ⟨c3_, hc3, h⟩ := oB h
  obtain ⟨hc4, h⟩ := gd h
  obtain ⟨hc5, h⟩ := gd h
  obtain ⟨hc6, h⟩ := gdD h
  replace h := oB h
  obtain ⟨c7_, hc7, h⟩ := h
  obtain rfl := oI h
  exact runF2 hm (kW [4] [] 0 0) (k0 <|
   yy 7 (vf) <|
   ww (p := (Value.bool (!c1_)) = (Value.bool false)) (vBn hc2) <|
   yy 14 (.call (qfy_ a0 a1 c3_ [] [])) <|
   ww (qef_ n a0 a1 c3_ hc3) <|
   yy 15 (.pur (wlV (wlSub rwf_iiiiiiLu a0 (a1).toNat (c3_).toNat hc6))) <|
   ww (p := qoa_ P 22 (wlV a0) (some (i6 a1)) (some (i6 c3_)) none Ax.h0 = some ((wlV (wlSub rwf_iiiiiiLu a0 (a1).toNat (c3_).toNat hc6)), Ax.h0)) (slWL (e := 37) rwf_iiiiiiLu a0 (by kernel_rfl) (by kernel_rfl) (bnd_int hc4) (bnd_int hc5) hc6) <|
   yy 18 (.call (qrb_ (wlSub rwf_iiiiiiLu a0 (a1).toNat (c3_).toNat hc6) (w64 ((0 : Int) - a1)) c7_ [] [])) <|
   ww (qo0_ n (wlSub rwf_iiiiiiLu a0 (a1).toNat (c3_).toNat hc6) (w64 ((0 : Int) - a1)) c7_ hc7) <|
   ee) (by kernel_rfl)
 ·rw [if_neg hc2] at h
  obtain rfl := oI h
  exact runF2 hm ⟨[4], [], 0, 0, [], true, [], [], [4]⟩ (k0 <|
   yy 7 (vt) <|
   ww (p := (Value.bool (!c1_)) = (Value.bool true)) (vBn (Bool.eq_false_iff.2 hc2)) <|
   ee) (by kernel_rfl)

def qli_ (a0 : W8) (a1 : Int) (a2 : Int) (r : W8 × Bool) : Value := match r with
 | (o0, o1) => (Value.tuple #[(wlV o0), (bO o1)])
def qlj_ (a0 : W8) (a1 : Int) (a2 : Int) (r : W8 × Bool) : AH := match r with
 | (o0, o1) => ⟨sB [], 0, 0⟩
abbrev qr2_ (a0 : W8) (a1 : Int) (a2 : Int) (r : W8 × Bool) : Prop := Gv P (.func 8) [(wlV a0), (i6 a1), (i6 a2)] ⟨sB [], 0, 0⟩ (qli_ a0 a1 a2 r) (qlj_ a0 a1 a2 r)
abbrev qr3_ (a0 : W8) (a1 : Int) (a2 : Int) (r : W8 × Bool) (ins outs : BL) : CallA := ⟨0, ins, qli_ a0 a1 a2 r, qlj_ a0 a1 a2 r, outs⟩
def qbr_ (n : Nat) (a0 : W8) (a1 : Int) (a2 : Int) : Option (W8 × Bool) :=
 (qb8_ n a0 a1 a2).bind fun t => match t with
 | (c1_0, c1_1) =>
  if c1_1 = true then
   if 0 ≤ c1_0 ∧ c1_0 < (((a0).l.length : Nat) : Int) then
    ((some (((a0).l).getD (c1_0).toNat (0, 0, 0, 0, 0, 0, nl0, 0)))).bind fun c4_ =>
    if (c4_.2.1) = (2 : Int) then
     (q0_ n a0).bind fun c6_ =>
     if 0 ≤ c1_0 ∧ c1_0 < (((c6_).l.length : Nat) : Int) then
      ((some (((c6_).l).getD (c1_0).toNat (false)))).bind fun c8_ =>
      if c8_ = true then
       some ((wl0 : W8), false)
      else
       (qeb_ n a0 c1_0).bind fun c10_ =>
       some (c10_, true)
     else none
    else
     some ((wl0 : W8), false)
   else none
  else
   some ((wl0 : W8), false)
theorem qpk_ (n : Nat) (a0 : W8) (a1 : Int) (a2 : Int) (r : W8 × Bool) (h : qbr_ n a0 a1 a2 = some r) : qr2_ a0 a1 a2 r := by
 unfold qbr_ at h
 obtain ⟨⟨c1_0, c1_1⟩, hc1, h⟩ := oB h
 dsimp only at h
 have k0 := fun {A L l} (k : PL A L l) => yy 7 (.call (qr1_ a0 a1 a2 (c1_0, c1_1) [] [])) <|
  ww (qpf_ n a0 a1 a2 (c1_0, c1_1) hc1) <|
  k
 by_cases hc2 : c1_1 = true
 ·rw [if_pos hc2] at h
  obtain ⟨hc3, h⟩ := gd h
  obtain ⟨c4_, hc4, h⟩ := oB h
  have k2 := fun {A L l} (k : PL A L l) => yy 16 (vf) <|
   ww (p := (Value.bool (!c1_1)) = (Value.bool false)) (vBn hc2) <|
   zz 20 (xk1 (a0).num (a0).off (a0).cap hc3) <|
   zz 21 (fk15 (a0).num (Nat.add (a0).off ((c1_0).toNat * 8))) <|
   zz 22 (lk16 hc4 (qba_ hc3)) <|
   k
  by_cases hc5 : (c4_.2.1) = (2 : Int)
  ·rw [if_pos hc5] at h
   obtain ⟨c6_, hc6, h⟩ := oB h
   obtain ⟨hc7, h⟩ := gd h
   obtain ⟨c8_, hc8, h⟩ := oB h
   have k7 := fun {A L l} (k : PL A L l) => zz 23 (xnF hc5) <|
    yy 27 (.call (qkm_ a0 c6_ [] [])) <|
    ww (qil_ n a0 c6_ hc6) <|
    zz 29 (xk26 (c6_).num (c6_).off (c6_).cap hc7) <|
    zz 30 (lk27 hc8 (qba_ hc7)) <|
    k
   by_cases hc9 : c8_ = true
   ·rw [if_pos hc9] at h
    obtain rfl := oI h
    exact runF2 hm ⟨[6, 7], [], 0, 0, [], true, [], [], [6]⟩ (k0 <|
     k2 <|
     k7 <|
     zz 32 (xbT hc9) <|
     ee) (by kernel_rfl)
   ·rw [if_neg hc9] at h
    obtain ⟨c10_, hc10, h⟩ := oB h
    obtain rfl := oI h
    exact runF2 hm (kW [6, 7] [] 0 0) (k0 <|
     k2 <|
     k7 <|
     zz 32 (xbF hc9) <|
     yy 36 (.call (qs8_ a0 c1_0 c10_ [] [])) <|
     ww (qqc_ n a0 c1_0 c10_ hc10) <|
     ee) (by kernel_rfl)
  ·rw [if_neg hc5] at h
   obtain rfl := oI h
   exact runF2 hm ⟨[6, 7], [], 0, 0, [], true, [], [], [6]⟩ (k0 <|
    k2 <|
    zz 23 (xnT hc5) <|
    ee) (by kernel_rfl)
 ·rw [if_neg hc2] at h
  obtain rfl := oI h
  exact runF2 hm ⟨[6, 7], [], 0, 0, [], true, [], [], [6]⟩ (k0 <|
   yy 16 (vt) <|
   ww (p := (Value.bool (!c1_1)) = (Value.bool true)) (vBn (Bool.eq_false_iff.2 hc2)) <|
   ee) (by kernel_rfl)

def qlk_ (a0 : W8) (a1 : W8) (r : Bool) : Value := match r with
 | o0 => (bO o0)
def qll_ (a0 : W8) (a1 : W8) (r : Bool) : AH := match r with
 | o0 => ⟨sB [], 0, 0⟩
abbrev qr4_ (a0 : W8) (a1 : W8) (r : Bool) : Prop := Gv P (.func 9) [(wlV a0), (wlV a1)] ⟨sB [], 0, 0⟩ (qlk_ a0 a1 r) (qll_ a0 a1 r)
abbrev qr5_ (a0 : W8) (a1 : W8) (r : Bool) (ins outs : BL) : CallA := ⟨0, ins, qlk_ a0 a1 r, qll_ a0 a1 r, outs⟩
def qeh_ (x2_0 : W8) (x2_1 : W8) (x2_2 : Int) (x2_3 : Int) (x2_4 : Int) (x2_5 : Int) (x2_6 : Int) (x2_7 : Int) (x2_8 : Int) (x2_9 : NL) (x2_10 : Int) (x2_11 : Int) (x2_12 : Int) (x2_13 : Int) (x2_14 : Int) (x2_15 : Int) (x2_16 : Int) (x2_17 : NL) (x2_18 : Int) (st : Int) : XSt := match st with
 | x2_19 => (sT 102 [(0, (wlV x2_0)), (1, (wlV x2_1)), (5, (i6 x2_2)), (6, (pN 0 0)), (7, (pN 1 0)), (8, (i6 x2_19))], [], ⟨sB [(0, (cB [(i6 x2_3), (i6 x2_4), (i6 x2_5), (i6 x2_6), (i6 x2_7), (i6 x2_8), (nlV x2_9), (Value.int .u64 x2_10)] 37)), (1, (cB [(i6 x2_11), (i6 x2_12), (i6 x2_13), (i6 x2_14), (i6 x2_15), (i6 x2_16), (nlV x2_17), (Value.int .u64 x2_18)] 37))], 2, 0⟩)
def qbt_ (x2_0 : W8) (x2_1 : W8) (x2_2 : Int) (x2_3 : Int) (x2_4 : Int) (x2_5 : Int) (x2_6 : Int) (x2_7 : Int) (x2_8 : Int) (x2_9 : NL) (x2_10 : Int) (x2_11 : Int) (x2_12 : Int) (x2_13 : Int) (x2_14 : Int) (x2_15 : Int) (x2_16 : Int) (x2_17 : NL) (x2_18 : Int) (r : (Unit) ⊕ (Unit)) : Ex × XSt := match r with
 | .inl _ => (.ret, (sT 102 [(4, (bO false))], [], ⟨sB [], 0, 0⟩))
 | .inr _ => (.exit 2, (sT 102 [(0, (wlV x2_0)), (1, (wlV x2_1)), (5, (i6 x2_2))], [], ⟨sB [], 0, 0⟩))
abbrev qgh_ (rd : Option Nat) (x2_0 : W8) (x2_1 : W8) (x2_2 : Int) (x2_3 : Int) (x2_4 : Int) (x2_5 : Int) (x2_6 : Int) (x2_7 : Int) (x2_8 : Int) (x2_9 : NL) (x2_10 : Int) (x2_11 : Int) (x2_12 : Int) (x2_13 : Int) (x2_14 : Int) (x2_15 : Int) (x2_16 : Int) (x2_17 : NL) (x2_18 : Int) (st : Int) (r : (Unit) ⊕ (Unit)) : Prop := CG P rd (fnN P 9) 0 (qw_ P 9 [false, true, true, true, false, false, true, false, false, true, false, true, true]) (qeh_ x2_0 x2_1 x2_2 x2_3 x2_4 x2_5 x2_6 x2_7 x2_8 x2_9 x2_10 x2_11 x2_12 x2_13 x2_14 x2_15 x2_16 x2_17 x2_18 st) (qbt_ x2_0 x2_1 x2_2 x2_3 x2_4 x2_5 x2_6 x2_7 x2_8 x2_9 x2_10 x2_11 x2_12 x2_13 x2_14 x2_15 x2_16 x2_17 x2_18 r)
def qbu_ (n : Nat) (x2_0 : W8) (x2_1 : W8) (x2_2 : Int) (x2_3 : Int) (x2_4 : Int) (x2_5 : Int) (x2_6 : Int) (x2_7 : Int) (x2_8 : Int) (x2_9 : NL) (x2_10 : Int) (x2_11 : Int) (x2_12 : Int) (x2_13 : Int) (x2_14 : Int) (x2_15 : Int) (x2_16 : Int) (x2_17 : NL) (x2_18 : Int) (st : Int) : Option ((Int) ⊕ ((Unit) ⊕ (Unit))) := match st with
 | x2_19 =>
  if x2_19 < (((x2_9).l.length : Nat) : Int) then
   if 0 ≤ x2_19 ∧ x2_19 < (((x2_9).l.length : Nat) : Int) then
    if (x2_19).toNat < ((x2_9).l).length then
     ((some (((x2_9).l).getD (x2_19).toNat 0))).bind fun y2_4_ =>
     if 0 ≤ x2_19 ∧ x2_19 < (((x2_17).l.length : Nat) : Int) then
      if (x2_19).toNat < ((x2_17).l).length then
       ((some (((x2_17).l).getD (x2_19).toNat 0))).bind fun y2_7_ =>
       if y2_4_ = y2_7_ then
        some (.inl (w64 (x2_19 + (1 : Int))))
       else
        some (.inr (.inl ()))
      else none
     else none
    else none
   else none
  else
   some (.inr (.inr ()))
def qei_ (n : Nat) (x2_0 : W8) (x2_1 : W8) (x2_2 : Int) (x2_3 : Int) (x2_4 : Int) (x2_5 : Int) (x2_6 : Int) (x2_7 : Int) (x2_8 : Int) (x2_9 : NL) (x2_10 : Int) (x2_11 : Int) (x2_12 : Int) (x2_13 : Int) (x2_14 : Int) (x2_15 : Int) (x2_16 : Int) (x2_17 : NL) (x2_18 : Int) (st : Int) : Option ((Unit) ⊕ (Unit)) := iterM (qbu_ n x2_0 x2_1 x2_2 x2_3 x2_4 x2_5 x2_6 x2_7 x2_8 x2_9 x2_10 x2_11 x2_12 x2_13 x2_14 x2_15 x2_16 x2_17 x2_18) n st
theorem qjh_ (n : Nat) {rnd : Option Nat} (x2_0 : W8) (x2_1 : W8) (x2_2 : Int) (x2_3 : Int) (x2_4 : Int) (x2_5 : Int) (x2_6 : Int) (x2_7 : Int) (x2_8 : Int) (x2_9 : NL) (x2_10 : Int) (x2_11 : Int) (x2_12 : Int) (x2_13 : Int) (x2_14 : Int) (x2_15 : Int) (x2_16 : Int) (x2_17 : NL) (x2_18 : Int) (x2_19 : Int) (o : (Int) ⊕ ((Unit) ⊕ (Unit))) (h : qbu_ n x2_0 x2_1 x2_2 x2_3 x2_4 x2_5 x2_6 x2_7 x2_8 x2_9 x2_10 x2_11 x2_12 x2_13 x2_14 x2_15 x2_16 x2_17 x2_18 x2_19 = some o) : CG P rnd (fnN P 9) 0 (qw_ P 9 [false, false, true, true, true, false, false, true, false, false, true, false, true, true]) (qeh_ x2_0 x2_1 x2_2 x2_3 x2_4 x2_5 x2_6 x2_7 x2_8 x2_9 x2_10 x2_11 x2_12 x2_13 x2_14 x2_15 x2_16 x2_17 x2_18 x2_19) (Sum.elim (fun s => (.normal, qeh_ x2_0 x2_1 x2_2 x2_3 x2_4 x2_5 x2_6 x2_7 x2_8 x2_9 x2_10 x2_11 x2_12 x2_13 x2_14 x2_15 x2_16 x2_17 x2_18 s)) (fun r => qbt_ x2_0 x2_1 x2_2 x2_3 x2_4 x2_5 x2_6 x2_7 x2_8 x2_9 x2_10 x2_11 x2_12 x2_13 x2_14 x2_15 x2_16 x2_17 x2_18 r) o) := by
 unfold qbu_ at h
 dsimp only at h
 by_cases hy2_1 : x2_19 < (((x2_9).l.length : Nat) : Int)
 ·rw [if_pos hy2_1] at h
  obtain ⟨hy2_2, h⟩ := gd h
  obtain ⟨hy2_3, h⟩ := gd h
  obtain ⟨y2_4_, hy2_4, h⟩ := oB h
  obtain ⟨hy2_5, h⟩ := gd h
  obtain ⟨hy2_6, h⟩ := gd h
  obtain ⟨y2_7_, hy2_7, h⟩ := oB h
  have k0 := fun {A L l} (k : PL A L l) => zz 6 (xdT hy2_1) <|
   zz 14 (xk8 (Nat.add (x2_9).num 64) (x2_9).off (x2_9).cap hy2_2) <|
   zz 15 (nk9 hy2_4 hy2_3) <|
   zz 19 (xk8 (Nat.add (x2_17).num 64) (x2_17).off (x2_17).cap hy2_5) <|
   zz 20 (nk9 hy2_7 hy2_6) <|
   k
  by_cases hy2_8 : y2_4_ = y2_7_
  ·rw [if_pos hy2_8] at h
   obtain rfl := oI h
   exact runC2 hm (kW [0, 1, 5, 6, 7, 8] (iD 2) 2 0) (k0 <|
    zz 21 (xnF hy2_8) <|
    ee) (by kernel_rfl)
  ·rw [if_neg hy2_8] at h
   obtain rfl := oI h
   exact runC2 hm (kW [4] [] 0 0) (k0 <|
    zz 21 (xnT hy2_8) <|
    ee) (by kernel_rfl)
 ·rw [if_neg hy2_1] at h
  obtain rfl := oI h
  exact runC2 hm (kW [0, 1, 5] [] 0 0) (zz 6 (xdF hy2_1) <|
   ee) (by kernel_rfl)
theorem qho_ (n : Nat) {rnd : Option Nat} (x2_0 : W8) (x2_1 : W8) (x2_2 : Int) (x2_3 : Int) (x2_4 : Int) (x2_5 : Int) (x2_6 : Int) (x2_7 : Int) (x2_8 : Int) (x2_9 : NL) (x2_10 : Int) (x2_11 : Int) (x2_12 : Int) (x2_13 : Int) (x2_14 : Int) (x2_15 : Int) (x2_16 : Int) (x2_17 : NL) (x2_18 : Int) (st : Int) (r : (Unit) ⊕ (Unit)) (h : qei_ n x2_0 x2_1 x2_2 x2_3 x2_4 x2_5 x2_6 x2_7 x2_8 x2_9 x2_10 x2_11 x2_12 x2_13 x2_14 x2_15 x2_16 x2_17 x2_18 st = some r) : qgh_ rnd x2_0 x2_1 x2_2 x2_3 x2_4 x2_5 x2_6 x2_7 x2_8 x2_9 x2_10 x2_11 x2_12 x2_13 x2_14 x2_15 x2_16 x2_17 x2_18 st r :=
 CG.iter (b := qw_ P 9 [false, false, true, true, true, false, false, true, false, false, true, false, true, true]) (by kernel_rfl) (body := qbu_ n x2_0 x2_1 x2_2 x2_3 x2_4 x2_5 x2_6 x2_7 x2_8 x2_9 x2_10 x2_11 x2_12 x2_13 x2_14 x2_15 x2_16 x2_17 x2_18) (S := qeh_ x2_0 x2_1 x2_2 x2_3 x2_4 x2_5 x2_6 x2_7 x2_8 x2_9 x2_10 x2_11 x2_12 x2_13 x2_14 x2_15 x2_16 x2_17 x2_18) (X := qbt_ x2_0 x2_1 x2_2 x2_3 x2_4 x2_5 x2_6 x2_7 x2_8 x2_9 x2_10 x2_11 x2_12 x2_13 x2_14 x2_15 x2_16 x2_17 x2_18)
  (fun s s' h => qjh_ n x2_0 x2_1 x2_2 x2_3 x2_4 x2_5 x2_6 x2_7 x2_8 x2_9 x2_10 x2_11 x2_12 x2_13 x2_14 x2_15 x2_16 x2_17 x2_18 s (.inl s') h)
  (fun s r h => qjh_ n x2_0 x2_1 x2_2 x2_3 x2_4 x2_5 x2_6 x2_7 x2_8 x2_9 x2_10 x2_11 x2_12 x2_13 x2_14 x2_15 x2_16 x2_17 x2_18 s (.inr r) h)
  (fun r => by intro hx; rcases r with _ | _ <;> cases hx) h
def qej_ (x1_0 : W8) (x1_1 : W8) (st : Int) : XSt := match st with
 | x1_2 => (sT 102 [(0, (wlV x1_0)), (1, (wlV x1_1)), (5, (i6 x1_2))], [], ⟨sB [], 0, 0⟩)
def qbv_ (x1_0 : W8) (x1_1 : W8) (r : (Unit) ⊕ (Unit)) : Ex × XSt := match r with
 | .inl _ => (.ret, (sT 102 [(4, (bO false))], [], ⟨sB [], 0, 0⟩))
 | .inr _ => (.exit 0, (sT 102 [], [], ⟨sB [], 0, 0⟩))
abbrev qgi_ (rd : Option Nat) (x1_0 : W8) (x1_1 : W8) (st : Int) (r : (Unit) ⊕ (Unit)) : Prop := CG P rd (fnN P 9) 0 (qw_ P 9 [false, true, false, true, true]) (qej_ x1_0 x1_1 st) (qbv_ x1_0 x1_1 r)
def qbw_ (n : Nat) (x1_0 : W8) (x1_1 : W8) (st : Int) : Option ((Int) ⊕ ((Unit) ⊕ (Unit))) := match st with
 | x1_2 =>
  if x1_2 < (((x1_0).l.length : Nat) : Int) then
   if 0 ≤ x1_2 ∧ x1_2 < (((x1_0).l.length : Nat) : Int) then
    ((some (((x1_0).l).getD (x1_2).toNat (0, 0, 0, 0, 0, 0, nl0, 0)))).bind fun y1_3_ =>
    if 0 ≤ x1_2 ∧ x1_2 < (((x1_1).l.length : Nat) : Int) then
     ((some (((x1_1).l).getD (x1_2).toNat (0, 0, 0, 0, 0, 0, nl0, 0)))).bind fun y1_5_ =>
     if (y1_3_.1) = (y1_5_.1) then
      if (y1_3_.2.1) = (y1_5_.2.1) then
       if (y1_3_.2.2.1) = (y1_5_.2.2.1) then
        if (y1_3_.2.2.2.1) = (y1_5_.2.2.2.1) then
         if (y1_3_.2.2.2.2.1) = (y1_5_.2.2.2.2.1) then
          if (y1_3_.2.2.2.2.2.1) = (y1_5_.2.2.2.2.2.1) then
           if (y1_3_.2.2.2.2.2.2.2) = (y1_5_.2.2.2.2.2.2.2) then
            if ((((y1_3_.2.2.2.2.2.2.1)).l.length : Nat) : Int) = ((((y1_5_.2.2.2.2.2.2.1)).l.length : Nat) : Int) then
             match qei_ n x1_0 x1_1 x1_2 (y1_3_.1) (y1_3_.2.1) (y1_3_.2.2.1) (y1_3_.2.2.2.1) (y1_3_.2.2.2.2.1) (y1_3_.2.2.2.2.2.1) (y1_3_.2.2.2.2.2.2.1) (y1_3_.2.2.2.2.2.2.2) (y1_5_.1) (y1_5_.2.1) (y1_5_.2.2.1) (y1_5_.2.2.2.1) (y1_5_.2.2.2.2.1) (y1_5_.2.2.2.2.2.1) (y1_5_.2.2.2.2.2.2.1) (y1_5_.2.2.2.2.2.2.2) 0 with
             | none => none
             | some (.inl _) =>
              some (.inr (.inl ()))
             | some (.inr _) =>
              some (.inl (w64 (x1_2 + (1 : Int))))
            else
             some (.inr (.inl ()))
           else
            some (.inr (.inl ()))
          else
           some (.inr (.inl ()))
         else
          some (.inr (.inl ()))
        else
         some (.inr (.inl ()))
       else
        some (.inr (.inl ()))
      else
       some (.inr (.inl ()))
     else
      some (.inr (.inl ()))
    else none
   else none
  else
   some (.inr (.inr ()))
def qek_ (n : Nat) (x1_0 : W8) (x1_1 : W8) (st : Int) : Option ((Unit) ⊕ (Unit)) := iterM (qbw_ n x1_0 x1_1) n st
theorem qji_ (n : Nat) {rnd : Option Nat} (x1_0 : W8) (x1_1 : W8) (x1_2 : Int) (o : (Int) ⊕ ((Unit) ⊕ (Unit))) (h : qbw_ n x1_0 x1_1 x1_2 = some o) : CG P rnd (fnN P 9) 0 (qw_ P 9 [false, false, true, false, true, true]) (qej_ x1_0 x1_1 x1_2) (Sum.elim (fun s => (.normal, qej_ x1_0 x1_1 s)) (fun r => qbv_ x1_0 x1_1 r) o) := by
 unfold qbw_ at h
 dsimp only at h
 by_cases hy1_1 : x1_2 < (((x1_0).l.length : Nat) : Int)
 ·rw [if_pos hy1_1] at h
  obtain ⟨hy1_2, h⟩ := gd h
  obtain ⟨y1_3_, hy1_3, h⟩ := oB h
  obtain ⟨hy1_4, h⟩ := gd h
  obtain ⟨y1_5_, hy1_5, h⟩ := oB h
  have k0 := fun {A L l} (k : PL A L l) => zz 5 (xdT hy1_1) <|
   zz 12 (xk1 (x1_0).num (x1_0).off (x1_0).cap hy1_2) <|
   zz 13 (lk2 hy1_3 (qba_ hy1_2)) <|
   zz 16 (xk1 (x1_1).num (x1_1).off (x1_1).cap hy1_4) <|
   zz 17 (lk2 hy1_5 (qba_ hy1_4)) <|
   k
  by_cases hy1_6 : (y1_3_.1) = (y1_5_.1)
  ·rw [if_pos hy1_6] at h
   have k5 := fun {A L l} (k : PL A L l) => zz 28 (xnF hy1_6) <|
    k
   by_cases hy1_7 : (y1_3_.2.1) = (y1_5_.2.1)
   ·rw [if_pos hy1_7] at h
    have k6 := fun {A L l} (k : PL A L l) => zz 34 (xnF hy1_7) <|
     k
    by_cases hy1_8 : (y1_3_.2.2.1) = (y1_5_.2.2.1)
    ·rw [if_pos hy1_8] at h
     have k7 := fun {A L l} (k : PL A L l) => zz 41 (xnF hy1_8) <|
      k
     by_cases hy1_9 : (y1_3_.2.2.2.1) = (y1_5_.2.2.2.1)
     ·rw [if_pos hy1_9] at h
      have k8 := fun {A L l} (k : PL A L l) => zz 48 (xnF hy1_9) <|
       k
      by_cases hy1_10 : (y1_3_.2.2.2.2.1) = (y1_5_.2.2.2.2.1)
      ·rw [if_pos hy1_10] at h
       have k9 := fun {A L l} (k : PL A L l) => zz 55 (xnF hy1_10) <|
        k
       by_cases hy1_11 : (y1_3_.2.2.2.2.2.1) = (y1_5_.2.2.2.2.2.1)
       ·rw [if_pos hy1_11] at h
        have k10 := fun {A L l} (k : PL A L l) => zz 62 (xnF hy1_11) <|
         k
        by_cases hy1_12 : (y1_3_.2.2.2.2.2.2.2) = (y1_5_.2.2.2.2.2.2.2)
        ·rw [if_pos hy1_12] at h
         have k11 := fun {A L l} (k : PL A L l) => zz 69 (xnF hy1_12) <|
          k
         by_cases hy1_13 : ((((y1_3_.2.2.2.2.2.2.1)).l.length : Nat) : Int) = ((((y1_5_.2.2.2.2.2.2.1)).l.length : Nat) : Int)
         ·rw [if_pos hy1_13] at h
          have k12 := fun {A L l} (k : PL A L l) => zz 78 (xnF hy1_13) <|
           k
          rcases hy1_14 : qei_ n x1_0 x1_1 x1_2 (y1_3_.1) (y1_3_.2.1) (y1_3_.2.2.1) (y1_3_.2.2.2.1) (y1_3_.2.2.2.2.1) (y1_3_.2.2.2.2.2.1) (y1_3_.2.2.2.2.2.2.1) (y1_3_.2.2.2.2.2.2.2) (y1_5_.1) (y1_5_.2.1) (y1_5_.2.2.1) (y1_5_.2.2.2.1) (y1_5_.2.2.2.2.1) (y1_5_.2.2.2.2.2.1) (y1_5_.2.2.2.2.2.2.1) (y1_5_.2.2.2.2.2.2.2) 0 with _ | (⟨⟩ | ⟨⟩)
          ·rw [hy1_14] at h; cases h
          ·rw [hy1_14] at h
           dsimp only at h
           obtain rfl := oI h
           exact runC2 hm (kW [4] [] 0 0) (k0 <|
            k5 <|
            k6 <|
            k7 <|
            k8 <|
            k9 <|
            k10 <|
            k11 <|
            k12 <|
            ww (p := qgh_ rnd x1_0 x1_1 x1_2 (y1_3_.1) (y1_3_.2.1) (y1_3_.2.2.1) (y1_3_.2.2.2.1) (y1_3_.2.2.2.2.1) (y1_3_.2.2.2.2.2.1) (y1_3_.2.2.2.2.2.2.1) (y1_3_.2.2.2.2.2.2.2) (y1_5_.1) (y1_5_.2.1) (y1_5_.2.2.1) (y1_5_.2.2.2.1) (y1_5_.2.2.2.2.1) (y1_5_.2.2.2.2.2.1) (y1_5_.2.2.2.2.2.2.1) (y1_5_.2.2.2.2.2.2.2) 0 (.inl ())) (qho_ n x1_0 x1_1 x1_2 (y1_3_.1) (y1_3_.2.1) (y1_3_.2.2.1) (y1_3_.2.2.2.1) (y1_3_.2.2.2.2.1) (y1_3_.2.2.2.2.2.1) (y1_3_.2.2.2.2.2.2.1) (y1_3_.2.2.2.2.2.2.2) (y1_5_.1) (y1_5_.2.1) (y1_5_.2.2.1) (y1_5_.2.2.2.1) (y1_5_.2.2.2.2.1) (y1_5_.2.2.2.2.2.1) (y1_5_.2.2.2.2.2.2.1) (y1_5_.2.2.2.2.2.2.2) 0 (.inl ()) hy1_14) <|
            ll 84 ⟨(kW [0, 1, 5, 6, 7, 8] [(0, 8, false), (1, 9, false)] 2 0), (qbt_ x1_0 x1_1 x1_2 (y1_3_.1) (y1_3_.2.1) (y1_3_.2.2.1) (y1_3_.2.2.2.1) (y1_3_.2.2.2.2.1) (y1_3_.2.2.2.2.2.1) (y1_3_.2.2.2.2.2.2.1) (y1_3_.2.2.2.2.2.2.2) (y1_5_.1) (y1_5_.2.1) (y1_5_.2.2.1) (y1_5_.2.2.2.1) (y1_5_.2.2.2.2.1) (y1_5_.2.2.2.2.2.1) (y1_5_.2.2.2.2.2.2.1) (y1_5_.2.2.2.2.2.2.2) (.inl ())).1, (qbt_ x1_0 x1_1 x1_2 (y1_3_.1) (y1_3_.2.1) (y1_3_.2.2.1) (y1_3_.2.2.2.1) (y1_3_.2.2.2.2.1) (y1_3_.2.2.2.2.2.1) (y1_3_.2.2.2.2.2.2.1) (y1_3_.2.2.2.2.2.2.2) (y1_5_.1) (y1_5_.2.1) (y1_5_.2.2.1) (y1_5_.2.2.2.1) (y1_5_.2.2.2.2.1) (y1_5_.2.2.2.2.2.1) (y1_5_.2.2.2.2.2.2.1) (y1_5_.2.2.2.2.2.2.2) (.inl ())).2⟩ <|
            ee) (by kernel_rfl)
          ·rw [hy1_14] at h
           dsimp only at h
           obtain rfl := oI h
           exact runC2 hm (kW [0, 1, 5] [] 0 0) (k0 <|
            k5 <|
            k6 <|
            k7 <|
            k8 <|
            k9 <|
            k10 <|
            k11 <|
            k12 <|
            ww (p := qgh_ rnd x1_0 x1_1 x1_2 (y1_3_.1) (y1_3_.2.1) (y1_3_.2.2.1) (y1_3_.2.2.2.1) (y1_3_.2.2.2.2.1) (y1_3_.2.2.2.2.2.1) (y1_3_.2.2.2.2.2.2.1) (y1_3_.2.2.2.2.2.2.2) (y1_5_.1) (y1_5_.2.1) (y1_5_.2.2.1) (y1_5_.2.2.2.1) (y1_5_.2.2.2.2.1) (y1_5_.2.2.2.2.2.1) (y1_5_.2.2.2.2.2.2.1) (y1_5_.2.2.2.2.2.2.2) 0 (.inr ())) (qho_ n x1_0 x1_1 x1_2 (y1_3_.1) (y1_3_.2.1) (y1_3_.2.2.1) (y1_3_.2.2.2.1) (y1_3_.2.2.2.2.1) (y1_3_.2.2.2.2.2.1) (y1_3_.2.2.2.2.2.2.1) (y1_3_.2.2.2.2.2.2.2) (y1_5_.1) (y1_5_.2.1) (y1_5_.2.2.1) (y1_5_.2.2.2.1) (y1_5_.2.2.2.2.1) (y1_5_.2.2.2.2.2.1) (y1_5_.2.2.2.2.2.2.1) (y1_5_.2.2.2.2.2.2.2) 0 (.inr ()) hy1_14) <|
            ll 84 ⟨(kW [0, 1, 5, 6, 7, 8] [(0, 8, false), (1, 9, false)] 2 0), (qbt_ x1_0 x1_1 x1_2 (y1_3_.1) (y1_3_.2.1) (y1_3_.2.2.1) (y1_3_.2.2.2.1) (y1_3_.2.2.2.2.1) (y1_3_.2.2.2.2.2.1) (y1_3_.2.2.2.2.2.2.1) (y1_3_.2.2.2.2.2.2.2) (y1_5_.1) (y1_5_.2.1) (y1_5_.2.2.1) (y1_5_.2.2.2.1) (y1_5_.2.2.2.2.1) (y1_5_.2.2.2.2.2.1) (y1_5_.2.2.2.2.2.2.1) (y1_5_.2.2.2.2.2.2.2) (.inr ())).1, (qbt_ x1_0 x1_1 x1_2 (y1_3_.1) (y1_3_.2.1) (y1_3_.2.2.1) (y1_3_.2.2.2.1) (y1_3_.2.2.2.2.1) (y1_3_.2.2.2.2.2.1) (y1_3_.2.2.2.2.2.2.1) (y1_3_.2.2.2.2.2.2.2) (y1_5_.1) (y1_5_.2.1) (y1_5_.2.2.1) (y1_5_.2.2.2.1) (y1_5_.2.2.2.2.1) (y1_5_.2.2.2.2.2.1) (y1_5_.2.2.2.2.2.2.1) (y1_5_.2.2.2.2.2.2.2) (.inr ())).2⟩ <|
            ee) (by kernel_rfl)
         ·rw [if_neg hy1_13] at h
          obtain rfl := oI h
          exact runC2 hm (kW [4] [] 0 0) (k0 <|
           k5 <|
           k6 <|
           k7 <|
           k8 <|
           k9 <|
           k10 <|
           k11 <|
           zz 78 (xnT hy1_13) <|
           ee) (by kernel_rfl)
        ·rw [if_neg hy1_12] at h
         obtain rfl := oI h
         exact runC2 hm (kW [4] [] 0 0) (k0 <|
          k5 <|
          k6 <|
          k7 <|
          k8 <|
          k9 <|
          k10 <|
          zz 69 (xnT hy1_12) <|
          ee) (by kernel_rfl)
       ·rw [if_neg hy1_11] at h
        obtain rfl := oI h
        exact runC2 hm (kW [4] [] 0 0) (k0 <|
         k5 <|
         k6 <|
         k7 <|
         k8 <|
         k9 <|
         zz 62 (xnT hy1_11) <|
         ee) (by kernel_rfl)
      ·rw [if_neg hy1_10] at h
       obtain rfl := oI h
       exact runC2 hm (kW [4] [] 0 0) (k0 <|
        k5 <|
        k6 <|
        k7 <|
        k8 <|
        zz 55 (xnT hy1_10) <|
        ee) (by kernel_rfl)
     ·rw [if_neg hy1_9] at h
      obtain rfl := oI h
      exact runC2 hm (kW [4] [] 0 0) (k0 <|
       k5 <|
       k6 <|
       k7 <|
       zz 48 (xnT hy1_9) <|
       ee) (by kernel_rfl)
    ·rw [if_neg hy1_8] at h
     obtain rfl := oI h
     exact runC2 hm (kW [4] [] 0 0) (k0 <|
      k5 <|
      k6 <|
      zz 41 (xnT hy1_8) <|
      ee) (by kernel_rfl)
   ·rw [if_neg hy1_7] at h
    obtain rfl := oI h
    exact runC2 hm (kW [4] [] 0 0) (k0 <|
     k5 <|
     zz 34 (xnT hy1_7) <|
     ee) (by kernel_rfl)
  ·rw [if_neg hy1_6] at h
   obtain rfl := oI h
   exact runC2 hm (kW [4] [] 0 0) (k0 <|
    zz 28 (xnT hy1_6) <|
    ee) (by kernel_rfl)
 ·rw [if_neg hy1_1] at h
  obtain rfl := oI h
  exact runC2 hm (kW [] [] 0 0) (zz 5 (xdF hy1_1) <|
   ee) (by kernel_rfl)
theorem qhp_ (n : Nat) {rnd : Option Nat} (x1_0 : W8) (x1_1 : W8) (st : Int) (r : (Unit) ⊕ (Unit)) (h : qek_ n x1_0 x1_1 st = some r) : qgi_ rnd x1_0 x1_1 st r :=
 CG.iter (b := qw_ P 9 [false, false, true, false, true, true]) (by kernel_rfl) (body := qbw_ n x1_0 x1_1) (S := qej_ x1_0 x1_1) (X := qbv_ x1_0 x1_1)
  (fun s s' h => qji_ n x1_0 x1_1 s (.inl s') h)
  (fun s r h => qji_ n x1_0 x1_1 s (.inr r) h)
  (fun r => by intro hx; rcases r with _ | _ <;> cases hx) h
def q8_ (n : Nat) (a0 : W8) (a1 : W8) : Option (Bool) :=
 if (((a0).l.length : Nat) : Int) = (((a1).l.length : Nat) : Int) then
  match qek_ n a0 a1 0 with
  | none => none
  | some (.inl _) =>
   some false
  | some (.inr _) =>
   some true
 else
  some false
theorem qpl_ (n : Nat) (a0 : W8) (a1 : W8) (r : Bool) (h : q8_ n a0 a1 = some r) : qr4_ a0 a1 r := by
 unfold q8_ at h
 by_cases hc1 : (((a0).l.length : Nat) : Int) = (((a1).l.length : Nat) : Int)
 ·rw [if_pos hc1] at h
  have k0 := fun {A L l} (k : PL A L l) => zz 8 (xnF hc1) <|
   k
  rcases hc2 : qek_ n a0 a1 0 with _ | (⟨⟩ | ⟨⟩)
  ·rw [hc2] at h; cases h
  ·rw [hc2] at h
   dsimp only at h
   obtain rfl := oI h
   exact runF2 hm (kW [4] [] 0 0) (k0 <|
    ww (p := qgi_ none a0 a1 0 (.inl ())) (qhp_ n a0 a1 0 (.inl ()) hc2) <|
    ll 14 ⟨(kW [0, 1, 5] [] 0 0), (qbv_ a0 a1 (.inl ())).1, (qbv_ a0 a1 (.inl ())).2⟩ <|
    ee) (by kernel_rfl)
  ·rw [hc2] at h
   dsimp only at h
   obtain rfl := oI h
   exact runF2 hm (kW [4] [] 0 0) (k0 <|
    ww (p := qgi_ none a0 a1 0 (.inr ())) (qhp_ n a0 a1 0 (.inr ()) hc2) <|
    ll 14 ⟨(kW [0, 1, 5] [] 0 0), (qbv_ a0 a1 (.inr ())).1, (qbv_ a0 a1 (.inr ())).2⟩ <|
    ee) (by kernel_rfl)
 ·rw [if_neg hc1] at h
  obtain rfl := oI h
  exact runF2 hm (kW [4] [] 0 0) (zz 8 (xnT hc1) <|
   ee) (by kernel_rfl)


end Go.Proofs.Ytbligeacgkhljaa.rca21
